/-
  The walk of UtfBack: for every numbers and every place it returns true, and leaves what lay in memory as it was.
-/
import Derived.Test.YticmgbbenjgpeaaAlive6
import Derived.Test.YticmgbbenjgpeaaAlike
namespace Go.Proofs.Yticmgbbenjgpeaa
open Go.RowKit
/-- What is known of the slice that came in: it is nil, or it leads to a row of cap cells, the numbers zs. -/
def utfBack.IsRow (k : IntKind) (w : World) (a : Option Addr) (len cap : Nat) (zs : List Int) : Prop :=
  (a = none ∧ len = 0 ∧ cap = 0 ∧ zs = []) ∨
  ∃ x, a = some x ∧ len ≤ cap ∧ cap ≤ maxLen ∧ zs.length = cap ∧ (∀ i, i < zs.length → w.cell? (x.add i) = some (.int k (zs.getD i 0))) ∧ ∀ n ∈ zs, (Lit.int k n).wf = true
def OwnI (B : Nat) (w : World) (v : Value) (l : List Int) : Prop := w.ownsRow B 3 1 v l.length (l.map (Value.int .i64 ·))
theorem push_int {ops : Array Oper} {rest : List Oper} {o : Oper} {a : Act} {Q : Exit → Act → World → Prop} (hgd : o.guard = none) (s x : Operand)
    (ho : o.op = .call { callee := .builtin .append, args := #[s, x], argTypes := #[25, 25] }) (B : Nat) (v : Value) (l : List Int) (w : World) (n : Int)
    (hs : a.eval s = v) (hown : OwnI B w v l) (hx : a.eval x = .slice (some ⟨w.heap.size, 0, none⟩) 1 1) (hB : B ≤ w.heap.size) (hlen : l.length ≤ 1000000)
    (h : ∀ v' w', OwnI B w' v' (l ++ [n]) → Below B w w' → wpList Try.prog ops Q rest (a.put o.dst v') w') :
    wpList Try.prog ops Q (o :: rest) a (w.alloc (.cells #[.int .i64 n] 3)) := by
  obtain ⟨i0, hi, hz0, hz1, hz2⟩ := info_parts Try.infoI
  have hlt := hown.lt
  refine wpList_append_own _ hgd s x 25 ho B 3 i0 (.int .i64 0) 1 8 Try.underlying25 hi hz0 hz1 hz2 rfl (by decide) v l.length (l.map (Value.int .i64 ·)) hs (hown.alloc _) ⟨w.heap.size, 0, none⟩ 1 1 [.int .i64 n] hx rfl ?_ ?_ ?_ ?_ ?_ ?_
  · intro j u hj
    match j, hj with
    | 0, hj => simp at hj; subst hj; simp [Addr.add]
  · intro u hu; simp at hu; subst hu; rfl
  · unfold maxLen; omega
  · omega
  · simp; omega
  · intro v' w' hown' hg _
    refine h v' w' ?_ ?_
    · unfold OwnI
      rw [List.map_append, List.length_append]
      exact hown'
    · refine ((Below.refl B w).alloc hB _).grown hg (by simp; omega) ?_
      intro k hk
      exact (hlt k hk).1
theorem own_below {B : Nat} {w w' : World} {v : Value} {l : List Int} (h : OwnI B w v l) (hb : Below w.heap.size w w') : OwnI B w' v l :=
  own_far h (row := none) ⟨hb.os, hb.tape, hb.output, hb.size, fun k hk _ => hb.block k hk⟩ (fun g e => by cases e)
theorem own_len {B : Nat} {w : World} {v : Value} {l : List Int} (h : OwnI B w v l) : ∃ a c, v = .slice a l.length c := by
  rcases h.2 with ⟨rfl, h0⟩ | ⟨g, cap, cur, rfl, _⟩
  · exact ⟨none, 0, by rw [h0]⟩
  · exact ⟨_, _, rfl⟩
theorem run_equalIn_func_nil {P : Program} (d : Nat) (t : TypeId) (f : Fn) (xs ys : Array Value) (a b : Array TypeId) (c : Bool) (h : P.underlying t = some (.func a b c)) (w : World) : (Op.equalIn (d + 1) t (.func f xs ys) .nilFunc).run P w = .ok false w := by
  simp [Op.equalIn, run_underlying h]
def isFunc (x : Option TypeDesc) : Bool := match x with | some (.func ..) => true | _ => false
theorem run_eql_func_nil {P : Program} (t : TypeId) (f : Fn) (xs ys : Array Value) (h : isFunc (P.underlying t) = true) (w : World) : (binOp .eql t (.func f xs ys) .nilFunc).run P w = .ok (.bool false) w := by
  have ⟨a, b, c, h⟩ : ∃ a b c, P.underlying t = some (.func a b c) := by
    unfold isFunc at h
    split at h
    · exact ⟨_, _, _, by assumption⟩
    · cases h
  have e : (Op.equal t (.func f xs ys) .nilFunc).run P w = .ok false w := run_equalIn_func_nil 9999 t f xs ys a b c h w
  simp only [binOp]
  simp [e]
def txts (l : List Int) : ByteArray := ⟨(uPuts (l.map Int.toNat)).toArray⟩
theorem txts_snoc (l : List Int) (r : Int) (h : 0 ≤ r) : txts l ++ txt (uPutI r) = txts (l ++ [r]) := by
  have e : uPutI r = uPut r.toNat := by unfold uPutI; rw [if_neg (by omega)]
  rw [e]
  apply ByteArray.ext
  simp [txts, txt, uPuts_snoc]
theorem uPuts_length (l : List Nat) : (uPuts l).length ≤ 4 * l.length := by
  induction l with
  | nil => simp [uPuts]
  | cons r l ih =>
    have e : uPuts (r :: l) = (uPut r).map UInt8.ofNat ++ uPuts l := by simp [uPuts]
    rw [e, List.length_append, List.length_map, uPut_length, List.length_cons]
    have := uSize_le r
    omega
theorem txts_size (l : List Int) : (txts l).size ≤ 4 * l.length := by
  have := uPuts_length (l.map Int.toNat)
  simpa [txts, ByteArray.size] using this
theorem uPutI_size (r : Int) : (txt (uPutI r)).size ≤ 4 := by
  rw [txt_size]
  unfold uPutI
  split
  · simp
  · rw [uPut_length]; exact uSize_le _
theorem put_good (r : Int) (h : uSizeI r ≠ 0) (w : World) :
    Calls Try.prog 11 #[.int .i64 r] w fun e w' => e = .returned (.tuple #[.string (txt (uPutI r)), .bool true]) ∧ Below w.heap.size w w' := by
  have h1 := put_any r w
  rw [show decide (uSizeI r ≠ 0) = true from by simp [h]] at h1
  exact h1
theorem sizeI_cases (r : Int) : (r < 0 ∧ uSizeI r = 0) ∨ (1114111 < r ∧ uSizeI r = 0) ∨ (55296 ≤ r ∧ r ≤ 57343 ∧ uSizeI r = 0) ∨ (0 ≤ r ∧ r < 55296 ∧ uSizeI r ≠ 0) ∨ (57343 < r ∧ r ≤ 1114111 ∧ uSizeI r ≠ 0) := by
  unfold uSizeI uSize
  by_cases h : r < 0
  · exact .inl ⟨h, by rw [if_pos h]⟩
  · rw [if_neg h]
    by_cases h1 : 1114111 < r
    · exact .inr (.inl ⟨h1, by rw [if_pos (.inl (by omega))]; rfl⟩)
    · by_cases h2 : 55296 ≤ r ∧ r ≤ 57343
      · exact .inr (.inr (.inl ⟨h2.1, h2.2, by rw [if_pos (.inr (by omega))]; rfl⟩))
      · have h3 : ((if 1114111 < r.toNat ∨ 55296 ≤ r.toNat ∧ r.toNat ≤ 57343 then 0 else if r.toNat < 128 then 1 else if r.toNat < 2048 then 2 else if r.toNat < 65536 then 3 else 4 : Nat) : Int) ≠ 0 := by
          rw [if_neg (by omega)]; (repeat' split) <;> omega
        by_cases h4 : r < 55296
        · exact .inr (.inr (.inr (.inl ⟨by omega, h4, h3⟩)))
        · exact .inr (.inr (.inr (.inr ⟨by omega, by omega, h3⟩)))
set_option maxRecDepth 100000 in
set_option maxHeartbeats 2000000 in
theorem utfBack.walk (a0 : Option Addr) (len0 cap0 : Nat) (z0 : List Int) (a1 : Int) (w : World) (w0 : utfBack.IsRow .i64 w a0 len0 cap0 z0) (w1 : (Lit.int .i64 a1).wf = true) :
    Calls Try.prog 4 #[.slice a0 len0 cap0, .int .i64 a1] w fun e w' => e = .returned (.bool true) ∧ Below w.heap.size w w' := by
  by_cases h0 : 200 < len0
  · clear w0
    go_enter Try.func4, Try.ntmps4
    go_wp2_with fail
    refine (alive_any _).mono ?_
    rintro e w1 ⟨rfl, hb⟩
    go_wp2
    go_ret
    exact ⟨rfl, hb⟩
  · go_enter Try.func4, Try.ntmps4
    go_wp2_with fail
    refine (alive_any _).mono ?_
    rintro e w1 ⟨rfl, b1⟩
    go_wp2_with fail
    go_loopw [5, 6, 7] (fun s v n wr => ∃ (j : Nat) (l : List Int), s = .string (txts l) ∧ n = .int .i64 (j : Int) ∧ j ≤ len0 ∧ l.length ≤ j ∧ Hid (∀ r ∈ l, 0 ≤ r ∧ uSizeI r ≠ 0) ∧ Hid (OwnI w.heap.size wr v l) ∧ Below w.heap.size w wr) (fun _ _ n _ => len0 - (intOf n).toNat)
    case atStart => exact ⟨0, [], rfl, rfl, by omega, by simp, Lib.hid (by simp), Lib.hid (World.ownsRow_nil _ _ _ _), b1⟩
    case round =>
      obtain ⟨j, l, rfl, rfl, hj, hlj, hgood, hown, hb⟩ := hrel
      by_cases hjl : j < len0
      · rcases w0 with ⟨_, h0, _⟩ | ⟨x, rfl, hlc, hcm, hzl, hcell, hwf⟩
        · omega
        have hx := hcell j (by omega)
        have hxlt := World.block_lt_of_cell? w _ hx
        have hmem : z0.getD j 0 ∈ z0 := by rw [List.getD_eq_getElem?_getD, List.getElem?_eq_getElem (by omega)]; exact List.getElem_mem _
        have hrg := hwf _ hmem
        obtain ⟨r, hr⟩ : ∃ r, z0.getD j 0 = r := ⟨_, rfl⟩
        rw [hr] at hx hrg
        clear hmem hr hcell hwf
        have hxr := (hb.cell (p := x.add j) hxlt).trans hx
        have i0 : (0 : Int) ≤ (j : Int) := by omega
        have i1 : (j : Int) < (len0 : Int) := by omega
        rcases sizeI_cases r with ⟨c1, hs⟩ | ⟨c1, hs⟩ | ⟨c1, c2, hs⟩ | ⟨c1, c2, hs⟩ | ⟨c1, c2, hs⟩
        · have Hs := Lib.hid hs
          clear hs
          go_wp2_with fail
          refine (put_none r _ Hs.out).mono ?_
          rintro e w2 ⟨rfl, hb2⟩
          have hb3 := hb.trans (hb2.mono hb.size)
          have hxr2 := (hb3.cell (p := x.add j) hxlt).trans hx
          have hown2 := Lib.hid (own_below hown.out hb2)
          go_wp2
          go_roundw
          case rel => exact ⟨j + 1, l, rfl, by go_num, by omega, by omega, hgood, hown2, hb3⟩
          case measure => simp [intOf]; omega
        · have Hs := Lib.hid hs
          clear hs
          go_wp2_with fail
          refine (put_none r _ Hs.out).mono ?_
          rintro e w2 ⟨rfl, hb2⟩
          have hb3 := hb.trans (hb2.mono hb.size)
          have hxr2 := (hb3.cell (p := x.add j) hxlt).trans hx
          have hown2 := Lib.hid (own_below hown.out hb2)
          go_wp2
          go_roundw
          case rel => exact ⟨j + 1, l, rfl, by go_num, by omega, by omega, hgood, hown2, hb3⟩
          case measure => simp [intOf]; omega
        · have Hs := Lib.hid hs
          clear hs
          go_wp2_with fail
          refine (put_none r _ Hs.out).mono ?_
          rintro e w2 ⟨rfl, hb2⟩
          have hb3 := hb.trans (hb2.mono hb.size)
          have hxr2 := (hb3.cell (p := x.add j) hxlt).trans hx
          have hown2 := Lib.hid (own_below hown.out hb2)
          go_wp2
          go_roundw
          case rel => exact ⟨j + 1, l, rfl, by go_num, by omega, by omega, hgood, hown2, hb3⟩
          case measure => simp [intOf]; omega
        · have Hs := Lib.hid hs
          have Ht := Lib.hid (txts_snoc l r (by omega))
          have hgood2 : Hid (∀ q ∈ l ++ [r], 0 ≤ q ∧ uSizeI q ≠ 0) := Lib.hid (fun q hq => by
            rcases List.mem_append.1 hq with h | h
            · exact hgood.out q h
            · rw [List.mem_singleton.1 h]; exact ⟨by omega, hs⟩)
          have hadd : ∀ wx, (Op.stringOp .add (txts l) (txt (uPutI r))).run Try.prog wx = .ok (.string (txts l ++ txt (uPutI r))) wx := fun wx => run_string_add_sum wx _ _ (by have := txts_size l; have := uPutI_size r; omega)
          clear hs
          go_wp2_with fail
          refine (put_good r Hs.out _).mono ?_
          rintro e w2 ⟨rfl, hb2⟩
          have hb3 := hb.trans (hb2.mono hb.size)
          have hxr2 := (hb3.cell (p := x.add j) hxlt).trans hx
          have hown2 := Lib.hid (own_below hown.out hb2)
          go_wp2_with (at_builtin; refine push_int rfl (.tmp 71) (.tmp 76) rfl w.heap.size _ _ _ _ rfl hown2.out rfl ?c1 ?c2 ?_)
          case c1 => exact hb3.size
          case c2 => omega
          intro v' w3 hown' hb4
          have hown3 := Lib.hid hown'
          have hb5 := hb3.trans hb4
          clear hown' hown2 hown hb4 hb3 hb2 hb
          rw [Ht.out]
          go_wp2
          go_roundw
          case rel => exact ⟨j + 1, l ++ [r], rfl, by go_num, by omega, by simp; omega, hgood2, hown3, hb5⟩
          case measure => simp [intOf]; omega
        · have Hs := Lib.hid hs
          have Ht := Lib.hid (txts_snoc l r (by omega))
          have hgood2 : Hid (∀ q ∈ l ++ [r], 0 ≤ q ∧ uSizeI q ≠ 0) := Lib.hid (fun q hq => by
            rcases List.mem_append.1 hq with h | h
            · exact hgood.out q h
            · rw [List.mem_singleton.1 h]; exact ⟨by omega, hs⟩)
          have hadd : ∀ wx, (Op.stringOp .add (txts l) (txt (uPutI r))).run Try.prog wx = .ok (.string (txts l ++ txt (uPutI r))) wx := fun wx => run_string_add_sum wx _ _ (by have := txts_size l; have := uPutI_size r; omega)
          clear hs
          go_wp2_with fail
          refine (put_good r Hs.out _).mono ?_
          rintro e w2 ⟨rfl, hb2⟩
          have hb3 := hb.trans (hb2.mono hb.size)
          have hxr2 := (hb3.cell (p := x.add j) hxlt).trans hx
          have hown2 := Lib.hid (own_below hown.out hb2)
          go_wp2_with (at_builtin; refine push_int rfl (.tmp 71) (.tmp 76) rfl w.heap.size _ _ _ _ rfl hown2.out rfl ?c1 ?c2 ?_)
          case c1 => exact hb3.size
          case c2 => omega
          intro v' w3 hown' hb4
          have hown3 := Lib.hid hown'
          have hb5 := hb3.trans hb4
          clear hown' hown2 hown hb4 hb3 hb2 hb
          rw [Ht.out]
          go_wp2
          go_roundw
          case rel => exact ⟨j + 1, l ++ [r], rfl, by go_num, by omega, by simp; omega, hgood2, hown3, hb5⟩
          case measure => simp [intOf]; omega
      · obtain ⟨T, hT⟩ : ∃ T, txts l = T := ⟨_, rfl⟩
        have hTl : T.data.toList = uPuts (l.map Int.toNat) := by rw [← hT]; rfl
        have hTs : T.size ≤ 800 := by have := txts_size l; rw [hT] at this; omega
        have hall : ∀ q ∈ l.map Int.toNat, uSize q ≠ 0 := fun q hq => by
          obtain ⟨z, hz, rfl⟩ := List.mem_map.1 hq
          obtain ⟨h1, h2⟩ := hgood.out z hz
          unfold uSizeI at h2
          rw [if_neg (by omega)] at h2
          omega
        obtain ⟨hE, hR⟩ := uPuts_read (l.map Int.toNat) 0 hall
        rw [← hTl] at hE hR
        have hE' : uEnd T.data.toList = T.size := hE
        have hN : (uRunes T.data.toList 0).length = l.length := by have := congrArg List.length hR; simpa using this
        have hll : l.length ≤ 200 := by omega
        have hpos : ∀ z ∈ l, 0 ≤ z := fun z hz => (hgood.out z hz).1
        obtain ⟨ua, uc, huv⟩ := own_len hown.out
        subst huv
        rw [hT]
        have HE := Lib.hid hE'; have HN := Lib.hid hN; have HR := Lib.hid hR; have Hpos := Lib.hid hpos
        have HB : Hid (((T.size : Int) == (T.size : Int)) = true) := Lib.hid (by simp)
        clear hE hE' hN hR hpos hall hTl hT hgood w0 hlj
        go_wp2_with fail
        refine (check_any T (by omega) _).mono ?_
        rintro e w2 ⟨rfl, b2⟩
        have c2 := hb.trans (b2.mono hb.size)
        have o2 := Lib.hid (own_below hown.out b2)
        clear hb b2 hown
        rw [HE.out, HB.out]
        go_wp2_with fail
        refine (runes_any T _).mono ?_
        rintro e w3 ⟨rfl, hw3⟩
        have bx : w3.cell? ⟨w2.heap.size, 0, none⟩ = some (.string T) := by rw [← hw3]; exact (Boxed.new w2 9 (.string T)).cell
        have hlt : w2.heap.size < w3.heap.size := by rw [← hw3]; simp
        have b3 : Below w2.heap.size w2 w3 := by rw [← hw3]; exact (Below.refl _ _).alloc (Nat.le_refl _) _
        have c3 := c2.trans (b3.mono c2.size)
        have o3 := Lib.hid (own_below o2.out b3)
        clear hw3 b3 c2 o2
        have hnil : ∀ wx, (binOp .eql 32 (.func (.func 28) #[] #[.pointer (some ⟨w2.heap.size, 0, none⟩)]) .nilFunc).run Try.prog wx = .ok (.bool false) wx := fun wx => run_eql_func_nil _ _ _ _ (by kernel_rfl) wx
        go_wp2_with fail
        refine (callsIn_wide.1 (told_in 3 (by omega) 28 #[.pointer (some ⟨w2.heap.size, 0, none⟩)] 0 w3 (KeepCell w2.heap.size) (fun ys => ys.map (·.1) = uRunes T.data.toList 0) (fun pre => pre.map (·.1) <+: uRunes T.data.toList 0) T.size (by omega)
          (enters_of Try.func28 (by kernel_rfl) rfl) (runes_stops 2 (by omega) w2.heap.size T (by omega) w3 hlt bx) KeepCell.trans (fun W l' o o' _ h hc hw => KeepCell.b (n := 0) W l' o o' (by omega) h hc hw) (fun A B h => KeepCell.below h hlt))).mono ?_
        rintro e w4 ⟨r1, r2, xs, rfl, hres, ho1, ho2, b4⟩
        have hxl : xs.map (fun x : Ru => (x.1.2 : Int)) = l := by
          rcases hres with ⟨h1, _⟩ | ⟨_, h1, _⟩
          · have h2 : xs.map (fun x : Ru => x.1.2) = l.map Int.toNat := by
              rw [← HR.out, ← h1, List.map_map]; rfl
            have h3 : (xs.map (fun x : Ru => x.1.2)).map (fun n : Nat => (n : Int)) = l := by
              rw [h2, List.map_map]
              refine (List.map_congr_left (g := id) fun z hz => ?_).trans (List.map_id l)
              have := Hpos.out z hz
              show ((z.toNat : Nat) : Int) = z
              omega
            rw [List.map_map] at h3
            exact h3
          · omega
        have hol : Holds w4 r2 l := holds_own (zs := l) ho2 (by rw [← hxl, List.map_map]; rfl)
        have hlen : (l.length : Nat) ≤ 1000000 := by omega
        have c4 := c3.trans (b4.mono c3.size)
        have o4 := own_below o3.out b4
        have how : Holds w4 (.slice ua l.length uc) l := holds_own (zs := l) o4 rfl
        have Hol := Lib.hid hol; have How := Lib.hid how
        clear hol how hxl ho1 ho2 hres c3 b4 o4 o3
        go_wp2_with fail
        refine (alike_any _ _ _ l hlen Hol.out How.out).mono ?_
        rintro e w5 ⟨rfl, b5⟩
        have c5 := c4.trans (b5.mono c4.size)
        clear c4 b5 Hol How
        go_wp2_with fail
        refine (count_any T (by omega) _).mono ?_
        rintro e w6 ⟨rfl, b6⟩
        have c6 := c5.trans (b6.mono c5.size)
        clear c5 b6
        rw [HN.out]
        by_cases k0 : a1 < 0
        · go_wp2
          go_ret
          exact ⟨rfl, c6⟩
        · by_cases k1 : (T.size : Int) < a1
          · go_wp2
            go_ret
            exact ⟨rfl, c6⟩
          · obtain ⟨k, rfl⟩ : ∃ k : Nat, a1 = (k : Int) := ⟨a1.toNat, by omega⟩
            have hk : k ≤ T.size := by omega
            have hsz : (T.extract 0 k).size = k := by simp; omega
            have hle := uEnd_le (T.extract 0 k).data.toList
            have hUs : (T.extract 0 k).data.toList.length = (T.extract 0 k).size := rfl
            rw [hUs, hsz] at hle
            obtain ⟨E, hEE⟩ : ∃ E, uEnd (T.extract 0 k).data.toList = E := ⟨_, rfl⟩
            rw [hEE] at hle
            have HEE := Lib.hid hEE; have Hsz := Lib.hid hsz
            clear hEE hsz hUs
            go_wp2_with fail
            refine (check_any _ (by rw [Hsz.out]; omega) _).mono ?_
            rintro e w7 ⟨rfl, b7⟩
            have c7 := c6.trans (b7.mono c6.size)
            clear c6 b7
            rw [HEE.out, Hsz.out]
            have hEk : (E : Int) ≤ (k : Int) := by omega
            by_cases hq : E = k
            · subst hq
              go_wp2
              go_ret
              exact ⟨rfl, c7⟩
            · have hq1 : ((E : Int) == (k : Int)) = false := by simp; omega
              have hq2 : ¬ (E : Int) = (k : Int) := by omega
              rw [hq1]
              go_wp2
              go_ret
              exact ⟨rfl, c7⟩
end Go.Proofs.Yticmgbbenjgpeaa
