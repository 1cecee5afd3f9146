/-
  The document's own fields of bytes.
-/
import Derived.Test.YtkaoacoahlbcoaaRPut
import Derived.Test.YtkaoacoahlbcoaaBackB
namespace Go.Proofs.Ytkaoacoahlbcoaa
open Go.RowKit
set_option linter.unusedVariables false
theorem Try.infoRF : (Try.prog.info? 36).map (fun i => (i.zero, i.size, i.bytes)) = some (some (.agg #[.int .i64 0, .int .i64 0, .int .i64 0, .int .u64 0, .string ⟨#[]⟩]), 5, 48) := by kernel_rfl
/-- What bytes are as a number, the lowest first: read from the last one on. -/
theorem lit_drop (s : ByteArray) (j : Nat) (h : j < s.size) : lit (s.data.toList.drop j) = s[j].toNat + 256 * lit (s.data.toList.drop (j + 1)) := by
  rw [drop_step s j h]; rfl
theorem lit_drop_lt (s : ByteArray) (j m : Nat) (h : s.size - j ≤ m) : lit (s.data.toList.drop j) < 256 ^ m := by
  have h1 := lit_lt (s.data.toList.drop j)
  have h2 : (s.data.toList.drop j).length ≤ m := by rw [List.length_drop]; exact h
  exact Nat.lt_of_lt_of_le h1 (Nat.pow_le_pow_right (by omega) h2)
set_option maxRecDepth 100000 in
set_option maxHeartbeats 400000 in
theorem rlit_any (s : ByteArray) (w : World) (hs : s.size ≤ 8) :
    Calls Try.prog 30 #[.string s] w fun e w' => e = .returned (.int .u64 (lit s.data.toList)) ∧ w = w' := by
  go_enter Try.func30, Try.ntmps30
  go_wp2
  go_loop [3, 4] (fun v i => ∃ (j : Nat) (V : Int), i = .int .i64 ((j : Int) - 1) ∧ j ≤ s.size ∧ v = .int .u64 V ∧ Hid (V = (lit (s.data.toList.drop j) : Nat)) ∧ 0 ≤ V ∧ V < 18446744073709551616) (fun _ i => (intOf i + 1).toNat)
  case atStart => exact ⟨s.size, 0, rfl, by omega, rfl, Lib.hid (by rw [show s.data.toList.drop s.size = [] from List.drop_eq_nil_of_le (Nat.le_refl _)]; rfl), by omega, by omega⟩
  case round =>
    obtain ⟨j, V, rfl, hj, rfl, hV, hV0, hV1⟩ := hrel
    by_cases hj0 : j = 0
    · subst hj0
      have hv : Hid (V = (lit s.data.toList : Nat)) := Lib.hid (by have := hV.out; rw [List.drop_zero] at this; exact this)
      clear hV
      go_wp2
      go_ret
      exact ⟨by rw [hv.out]; rfl, rfl⟩
    · obtain ⟨i, rfl⟩ : ∃ i, j = i + 1 := ⟨j - 1, by omega⟩
      have hlt : i < s.size := by omega
      have hc : s[i].toNat < 256 := UInt8.toNat_lt _
      have hV7 : V < 72057594037927936 := by
        have h1 := lit_drop_lt s (i + 1) 7 (by omega)
        have h2 := hV.out
        have h3 : (256 : Nat) ^ 7 = 72057594037927936 := by decide
        omega
      have hv : Hid (V * 256 + (s[i].toNat : Int) = (lit (s.data.toList.drop i) : Nat)) := Lib.hid (by rw [lit_drop s i hlt]; have := hV.out; omega)
      have e1 : ((i + 1 : Nat) : Int) - 1 = (i : Int) := by omega
      have hi0 : (0 : Int) ≤ (i : Int) := by omega
      rw [e1]
      clear hV hV1 e1 hj0
      go_wp2
      go_round
      case rel => exact ⟨i, V * 256 + (s[i].toNat : Int), rfl, by omega, rfl, hv, by omega, by omega⟩
      case measure => first | (simp [intOf]; done) | (simp [intOf]; omega)
theorem push_rf {ops : Array Oper} {rest : List Oper} {o : Oper} {a : Act} {Q : Exit → Act → World → Prop} (hgd : o.guard = none) (s x : Operand)
    (ho : o.op = .call { callee := .builtin .append, args := #[s, x], argTypes := #[42, 42] }) (B : Nat) (W : World) (v : Value) (l : List (Fd × Nat)) (p : Fd × Nat) (cs : Array Value) (hcs : cs.toList = fdC p)
    (hs : a.eval s = v) (hown : W.ownsRow B 36 5 v l.length (fdsC l)) (hB : B ≤ W.heap.size) (g : Nat) (hgW : W.heap.size = g) (hx : a.eval x = .slice (some ⟨g, 0, none⟩) 1 1) (hlen : l.length ≤ 1000000)
    (h : ∀ v' W', W'.ownsRow B 36 5 v' (l ++ [p]).length (fdsC (l ++ [p])) → Below B W W' → wpList Try.prog ops Q rest (a.put o.dst v') W') :
    wpList Try.prog ops Q (o :: rest) a (W.alloc (.cells cs 36)) := by
  obtain ⟨i0, hi, hz0, hz1, hz2⟩ := info_parts Try.infoRF
  subst hgW
  have hl := hown.lt
  have hc : ∀ j, (W.alloc (.cells cs 36)).cell? ⟨W.heap.size, j, none⟩ = cs[j]? := fun j => (Blk.new W 36 cs).cell j
  have hB' : B ≤ (W.alloc (.cells cs 36)).heap.size := by simp; omega
  refine wpList_append_own _ hgd s x 42 ho B 36 i0 (.agg #[.int .i64 0, .int .i64 0, .int .i64 0, .int .u64 0, .string ⟨#[]⟩]) 5 48 Try.underlying42 hi hz0 hz1 hz2 rfl (by decide) v l.length _ hs (hown.alloc _) ⟨W.heap.size, 0, none⟩ 1 1 (fdC p) hx rfl ?_ ?_ ?_ ?_ hB' ?_
  · intro j u hj
    have e : (⟨W.heap.size, 0, none⟩ : Addr).add j = ⟨W.heap.size, j, none⟩ := by unfold Addr.add; split <;> simp_all
    rw [e, hc, ← hj, ← hcs, Array.getElem?_toList]
  · intro u hu; unfold fdC at hu; simp at hu; rcases hu with rfl | rfl | rfl | rfl | rfl <;> rfl
  · unfold maxLen; omega
  · omega
  · intro v' W' hown' hg _
    refine h v' W' ?_ (((Below.refl B W).alloc hB _).grown hg hB' (fun k hk => (hl k hk).1))
    rw [fdsC_snoc, List.length_append]
    exact hown'
theorem push_pf {ops : Array Oper} {rest : List Oper} {o : Oper} {a : Act} {Q : Exit → Act → World → Prop} (hgd : o.guard = none) (s x : Operand)
    (ho : o.op = .call { callee := .builtin .append, args := #[s, x], argTypes := #[37, 37] }) (B : Nat) (W : World) (v : Value) (l : List (Fd × Nat)) (p : Fd × Nat) (cs : Array Value) (hcs : cs.toList = fdC p)
    (hs : a.eval s = v) (hown : W.ownsRow B 31 5 v l.length (fdsC l)) (hB : B ≤ W.heap.size) (g : Nat) (hgW : W.heap.size = g) (hx : a.eval x = .slice (some ⟨g, 0, none⟩) 1 1) (hlen : l.length ≤ 1000000)
    (h : ∀ v' W', W'.ownsRow B 31 5 v' (l ++ [p]).length (fdsC (l ++ [p])) → Below B W W' → wpList Try.prog ops Q rest (a.put o.dst v') W') :
    wpList Try.prog ops Q (o :: rest) a (W.alloc (.cells cs 31)) := by
  obtain ⟨i0, hi, hz0, hz1, hz2⟩ := info_parts Try.infoF
  subst hgW
  have hl := hown.lt
  have hc : ∀ j, (W.alloc (.cells cs 31)).cell? ⟨W.heap.size, j, none⟩ = cs[j]? := fun j => (Blk.new W 31 cs).cell j
  have hB' : B ≤ (W.alloc (.cells cs 31)).heap.size := by simp; omega
  refine wpList_append_own _ hgd s x 37 ho B 31 i0 (.agg #[.int .i64 0, .int .i64 0, .int .i64 0, .int .u64 0, .string ⟨#[]⟩]) 5 48 Try.underlying37 hi hz0 hz1 hz2 rfl (by decide) v l.length _ hs (hown.alloc _) ⟨W.heap.size, 0, none⟩ 1 1 (fdC p) hx rfl ?_ ?_ ?_ ?_ hB' ?_
  · intro j u hj
    have e : (⟨W.heap.size, 0, none⟩ : Addr).add j = ⟨W.heap.size, j, none⟩ := by unfold Addr.add; split <;> simp_all
    rw [e, hc, ← hj, ← hcs, Array.getElem?_toList]
  · intro u hu; unfold fdC at hu; simp at hu; rcases hu with rfl | rfl | rfl | rfl | rfl <;> rfl
  · unfold maxLen; omega
  · omega
  · intro v' W' hown' hg _
    refine h v' W' ?_ (((Below.refl B W).alloc hB _).grown hg hB' (fun k hk => (hl k hk).1))
    rw [fdsC_snoc, List.length_append]
    exact hown'
/-- What the document's own Fields tells: those in front, and the code and place of the error. -/
def RFieldsIs (s : ByteArray) (w : World) (e : Ending) (w' : World) : Prop :=
  ((∃ (l : List (Fd × Nat)) (v : Value), pall s = l.map Pt.pair ∧ e = .returned (.tuple #[v, .int .i64 0, .int .i64 0]) ∧ w'.ownsRow w.heap.size 36 5 v l.length (fdsC l)) ∨
   (∃ (l : List (Fd × Nat)) (q : Nat) (v : Value), pall s = l.map Pt.pair ++ [.bad 9 q] ∧ e = .returned (.tuple #[v, .int .i64 10, .int .i64 (q : Int)]) ∧ w'.ownsRow w.heap.size 36 5 v l.length (fdsC l))) ∧ Below w.heap.size w w'
/-- What the document's own GetVarint tells of a text, for the walk. -/
def RGvIs (s : ByteArray) (T z : Int) (b : Bool) : Prop := ∀ w, Calls Try.prog 10 #[.string s] w fun e w' => e = .returned (.tuple #[.int .u64 T, .int .i64 z, .bool b]) ∧ w = w'
theorem rgvIs_of (s : ByteArray) (hs : s.size ≤ 1000000) (t z : Nat) (b : Bool) (h : gv s.data.toList = (t, z, b)) : RGvIs s t z b := fun w => by
  have := refgetv_any s w (by unfold maxLen; omega)
  rw [h] at this
  exact this
theorem extr_extr (s : ByteArray) (k z : Nat) (h : k ≤ s.size) : (s.extract k s.size).extract z (s.extract k s.size).size = s.extract (k + z) s.size := by
  apply list_ext
  simp only [extract_l, extract_size, List.drop_take, List.drop_drop]
  rw [List.take_take]
  congr 1
  omega
theorem extr_in2 (s : ByteArray) (A i j : Nat) (hA : A ≤ s.size) (hj : A + j ≤ s.size) : (s.extract A s.size).extract i j = s.extract (A + i) (A + j) := by
  apply list_ext
  simp only [extract_l, List.drop_take, List.drop_drop]
  rw [List.take_take]
  congr 1
  omega
theorem extr_take (s : ByteArray) (A j : Nat) (hj : A + j ≤ s.size) : (s.extract A s.size).data.toList.take j = (s.extract A (A + j)).data.toList := by
  simp only [extract_l]
  rw [List.take_take]
  congr 1
  omega
set_option maxRecDepth 100000 in
set_option maxHeartbeats 8000000 in
theorem rfields_any (s : ByteArray) (w : World) (hs : s.size ≤ 60000) : Calls Try.prog 20 #[.string s] w (RFieldsIs s w) := by
  obtain ⟨B, hB⟩ : ∃ B, w.heap.size = B := ⟨_, rfl⟩
  have HB := Lib.hid hB
  have Hall := Lib.hid (pall_small s hs)
  clear hB
  go_enter Try.func20, Try.ntmps20
  go_wp2
  go_loopw [5, 6] (fun ov i wr => ∃ (k : Nat) (pre : List (Fd × Nat)), i = .int .i64 (k : Int) ∧ k ≤ s.size ∧ pre.length ≤ k ∧ Hid (pre.map Pt.pair ++ pfrom s k = pfrom s 0) ∧ Hid (wr.ownsRow B 36 5 ov pre.length (fdsC pre)) ∧ Hid (Below B w wr) ∧ B ≤ wr.heap.size) (fun _ i _ => s.size - (intOf i).toNat)
  case atStart => exact ⟨0, [], rfl, by omega, by simp, Lib.hid rfl, Lib.hid (World.ownsRow_nil _ _ _ _), Lib.hid (Below.refl _ _), by have := HB.out; omega⟩
  case round =>
    obtain ⟨k, pre, rfl, hk, hpl, hp, ho, hb, hBs⟩ := hrel
    by_cases hlt : k < s.size
    · obtain ⟨r, hr⟩ : ∃ r, s.extract k s.size = r := ⟨_, rfl⟩
      have hrs : r.size = s.size - k := by rw [← hr]; simp
      obtain ⟨t, z, b, hg⟩ : ∃ t z b, gv r.data.toList = (t, z, b) := ⟨_, _, _, rfl⟩
      have ht : t < 18446744073709551616 := by have := gv_lt r.data.toList; rw [hg] at this; exact this
      have hz := gv_le r.data.toList
      rw [hg] at hz
      have hz1 : z ≤ r.size := hz.1
      have HG := Lib.hid (rgvIs_of r (by omega) t z b hg)
      rw [← hr] at HG
      have Hbad : Hid (pget r = none → pall s = pre.map Pt.pair ++ [.bad 9 k]) := Lib.hid (fun h => by rw [Hall.out, ← hp.out, pfrom_bad s k hlt (by rw [hr]; exact h)])
      have Hgood : Hid (∀ f n, pget r = some (f, n) → (pre ++ [(f, k)]).map Pt.pair ++ pfrom s (k + n) = pfrom s 0) := Lib.hid (fun f n h => by rw [← hp.out, pfrom_ok s k hlt (by rw [hr]; exact h)]; simp [Pt.pair])
      have HgoodS : Hid (∀ f n, pget r = some (f, n) → k + n ≤ s.size ∧ 2 ≤ n) := Lib.hid (fun f n h => by have := pget_size _ h; omega)
      obtain ⟨T, hT⟩ : ∃ T : Int, (t : Int) = T := ⟨_, rfl⟩
      obtain ⟨N, hN⟩ : ∃ N : Int, T / 8 = N := ⟨_, rfl⟩
      obtain ⟨K, hK⟩ : ∃ K : Int, T % 8 = K := ⟨_, rfl⟩
      have hT0 : 0 ≤ T := by omega
      have hT1 : T < 18446744073709551616 := by omega
      have hN0 : 0 ≤ N := by omega
      have hN1 : N ≤ 2305843009213693951 := by omega
      rw [hT] at HG
      by_cases hbad : b = false ∨ T / 8 < 1 ∨ 536870911 < T / 8
      · have Hn : Hid (pall s = pre.map Pt.pair ++ [.bad 9 k]) := Lib.hid (Hbad.out (pget_bad r t z b hg (hbad.imp id (fun h => h.imp (fun h => by omega) (fun h => by omega)))))
        rw [hN] at hbad
        clear hg hr hp Hgood Hbad HgoodS hrs hz1 hz ht hT
        rcases hbad with h | h | h
        · subst h
          go_wp2_with fail
          refine (HG.out _).mono ?_
          rintro e w1 ⟨rfl, rfl⟩
          go_wp2
          go_ret3
          obtain rfl := HB.out
          exact ⟨.inr ⟨pre, k, _, Hn.out, rfl, World.ownsRow.alloc ho.out _⟩, Below.alloc hb.out hBs _⟩
        · cases b with
          | false =>
            go_wp2_with fail
            refine (HG.out _).mono ?_
            rintro e w1 ⟨rfl, rfl⟩
            go_wp2
            go_ret3
            obtain rfl := HB.out
            exact ⟨.inr ⟨pre, k, _, Hn.out, rfl, World.ownsRow.alloc ho.out _⟩, Below.alloc hb.out hBs _⟩
          | true =>
            go_wp2_with fail
            refine (HG.out _).mono ?_
            rintro e w1 ⟨rfl, rfl⟩
            go_wp2
            go_ret3
            obtain rfl := HB.out
            exact ⟨.inr ⟨pre, k, _, Hn.out, rfl, World.ownsRow.alloc ho.out _⟩, Below.alloc hb.out hBs _⟩
        · cases b with
          | false =>
            go_wp2_with fail
            refine (HG.out _).mono ?_
            rintro e w1 ⟨rfl, rfl⟩
            go_wp2
            go_ret3
            obtain rfl := HB.out
            exact ⟨.inr ⟨pre, k, _, Hn.out, rfl, World.ownsRow.alloc ho.out _⟩, Below.alloc hb.out hBs _⟩
          | true =>
            go_wp2_with fail
            refine (HG.out _).mono ?_
            rintro e w1 ⟨rfl, rfl⟩
            go_wp2
            go_ret3
            obtain rfl := HB.out
            exact ⟨.inr ⟨pre, k, _, Hn.out, rfl, World.ownsRow.alloc ho.out _⟩, Below.alloc hb.out hBs _⟩
      · obtain rfl : b = true := by cases b with | true => rfl | false => exact absurd (.inl rfl) hbad
        have hNa : 1 ≤ N := by omega
        have hNb : N ≤ 536870911 := by omega
        have htag := pget_tag r t z hg (by omega) (by omega)
        have hrz : r.extract z r.size = s.extract (k + z) s.size := by rw [← hr]; exact extr_extr s k z hk
        rw [hrz] at htag
        obtain ⟨q, hq⟩ : ∃ q, s.extract (k + z) s.size = q := ⟨_, rfl⟩
        have hqs : q.size = s.size - (k + z) := by rw [← hq]; simp
        rw [hq] at htag
        have hzk : k + z ≤ s.size := by omega
        have hnum : ((t / 8 : Nat) : Int) = N := by omega
        have hkind : ((t % 8 : Nat) : Int) = K := by omega
        clear hbad
        rcases (show t % 8 = 0 ∨ t % 8 = 1 ∨ t % 8 = 5 ∨ t % 8 = 2 ∨ (t % 8 = 3 ∨ t % 8 = 4 ∨ t % 8 = 6 ∨ t % 8 = 7) from by omega) with h | h | h | h | h
        · -- a varint
          obtain rfl : K = 0 := by omega
          obtain ⟨V, n, c, hgq⟩ : ∃ V n c, gv q.data.toList = (V, n, c) := ⟨_, _, _, rfl⟩
          have hV : V < 18446744073709551616 := by have := gv_lt q.data.toList; rw [hgq] at this; exact this
          have hn := gv_le q.data.toList
          rw [hgq] at hn
          have hn1 : n ≤ q.size := hn.1
          have HV := Lib.hid (rgvIs_of q (by omega) V n c hgq)
          rw [← hq] at HV
          cases c with
          | false =>
            have Hn : Hid (pall s = pre.map Pt.pair ++ [.bad 9 k]) := Lib.hid (Hbad.out (by rw [htag, h]; unfold pbody; rw [hgq]; rfl))
            clear hg hr hp Hgood Hbad HgoodS hrs hz1 hz ht hT htag hrz hq hqs hgq hn hnum hkind h
            go_wp2_with fail
            refine (HG.out _).mono ?_
            rintro e w1 ⟨rfl, rfl⟩
            go_wp2_with fail
            refine (HV.out _).mono ?_
            rintro e w1 ⟨rfl, rfl⟩
            go_wp2
            go_ret3
            obtain rfl := HB.out
            exact ⟨.inr ⟨pre, k, _, Hn.out, rfl, World.ownsRow.alloc ho.out _⟩, Below.alloc hb.out hBs _⟩
          | true =>
            have hpg : pget r = some (⟨t / 8, 0, V, ⟨#[]⟩⟩, z + n) := by rw [htag, h]; unfold pbody; rw [hgq]; rfl
            have Hg := Lib.hid (Hgood.out _ _ hpg)
            have hsz := HgoodS.out _ _ hpg
            have hcs : Hid ((#[.int .i64 N, .int .i64 0, .int .i64 (k : Int), .int .u64 (V : Int), .string ⟨#[]⟩] : Array Value).toList = fdC ((⟨t / 8, 0, V, ⟨#[]⟩⟩ : Fd), k)) := Lib.hid (by unfold fdC; simp only; rw [hnum]; rfl)
            clear hg hr hp Hgood Hbad HgoodS hrs hz1 hz ht hT htag hrz hq hqs hgq hn hnum hkind h hpg
            go_wp2_with fail
            refine (HG.out _).mono ?_
            rintro e w1 ⟨rfl, rfl⟩
            go_wp2_with fail
            refine (HV.out _).mono ?_
            rintro e w1 ⟨rfl, rfl⟩
            go_wp2_with (at_builtin; refine push_rf rfl (.tmp 147) (.tmp 149) rfl B _ _ pre ((⟨t / 8, 0, V, ⟨#[]⟩⟩ : Fd), k) _ hcs.out rfl (World.ownsRow.alloc ho.out _) (by simp; omega) _ (by simp; try rfl) rfl (by omega) ?_)
            intro v4 w4 own4 b4
            have Ho4 : Hid (w4.ownsRow B 36 5 v4 (pre ++ [((⟨t / 8, 0, V, ⟨#[]⟩⟩ : Fd), k)]).length (fdsC (pre ++ [((⟨t / 8, 0, V, ⟨#[]⟩⟩ : Fd), k)]))) := Lib.hid (by first | exact own4 | (rw [List.length_append]; exact own4))
            have Hb4 : Hid (Below B w w4) := Lib.hid ((Below.alloc hb.out hBs _).trans b4)
            have hB4 : B ≤ w4.heap.size := by have := b4.size; simp at this; omega
            clear own4 b4 ho hb hcs
            go_wp2
            go_roundw
            case rel => exact ⟨k + (z + n), pre ++ [((⟨t / 8, 0, V, ⟨#[]⟩⟩ : Fd), k)], by go_num, hsz.1, by simp; omega, Hg, Ho4, Hb4, hB4⟩
            case measure => simp [intOf]; omega
        · -- eight bytes
          obtain rfl : K = 1 := by omega
          by_cases h8 : k + z + 8 ≤ s.size
          · have hpg : pget r = some (⟨t / 8, 1, lit (q.data.toList.take 8), ⟨#[]⟩⟩, z + 8) := by
              rw [htag, h]; unfold pbody
              simp only [show ¬ (1 = 0) from by omega, show ¬ (1 = 2) from by omega, show ¬ (1 = 5) from by omega, show ¬ (5 = 0) from by omega, show ¬ (5 = 2) from by omega, if_true, if_false]
              rw [if_pos (by omega)]
            obtain ⟨V, hVe⟩ : ∃ V, lit (q.data.toList.take 8) = V := ⟨_, rfl⟩
            have HL : Hid (∀ w, Calls Try.prog 30 #[.string (s.extract (k + z) (k + z + 8))] w fun e w' => e = .returned (.int .u64 (V : Int)) ∧ w = w') := Lib.hid (fun w => by
              have h1 := rlit_any (s.extract (k + z) (k + z + 8)) w (by simp; omega)
              rw [← extr_take s (k + z) 8 h8, hq, hVe] at h1
              exact h1)
            rw [hVe] at hpg
            have Hg := Lib.hid (Hgood.out _ _ hpg)
            have hsz := HgoodS.out _ _ hpg
            have hcs : Hid ((#[.int .i64 N, .int .i64 1, .int .i64 (k : Int), .int .u64 (V : Int), .string ⟨#[]⟩] : Array Value).toList = fdC ((⟨t / 8, 1, V, ⟨#[]⟩⟩ : Fd), k)) := Lib.hid (by unfold fdC; simp only; rw [hnum]; rfl)
            clear hg hr hp Hgood Hbad HgoodS hrs hz1 hz ht hT htag hrz hq hqs hnum hkind h hpg hVe
            go_wp2_with fail
            refine (HG.out _).mono ?_
            rintro e w1 ⟨rfl, rfl⟩
            go_wp2_with fail
            refine (HL.out _).mono ?_
            rintro e w1 ⟨rfl, rfl⟩
            go_wp2_with (at_builtin; refine push_rf rfl (.tmp 147) (.tmp 149) rfl B _ _ pre ((⟨t / 8, 1, V, ⟨#[]⟩⟩ : Fd), k) _ hcs.out rfl (World.ownsRow.alloc ho.out _) (by simp; omega) _ (by simp; try rfl) rfl (by omega) ?_)
            intro v4 w4 own4 b4
            have Ho4 : Hid (w4.ownsRow B 36 5 v4 (pre ++ [((⟨t / 8, 1, V, ⟨#[]⟩⟩ : Fd), k)]).length (fdsC (pre ++ [((⟨t / 8, 1, V, ⟨#[]⟩⟩ : Fd), k)]))) := Lib.hid (by first | exact own4 | (rw [List.length_append]; exact own4))
            have Hb4 : Hid (Below B w w4) := Lib.hid ((Below.alloc hb.out hBs _).trans b4)
            have hB4 : B ≤ w4.heap.size := by have := b4.size; simp at this; omega
            clear own4 b4 ho hb hcs
            go_wp2
            go_roundw
            case rel => exact ⟨k + (z + 8), pre ++ [((⟨t / 8, 1, V, ⟨#[]⟩⟩ : Fd), k)], by go_num, hsz.1, by simp; omega, Hg, Ho4, Hb4, hB4⟩
            case measure => simp [intOf]; omega
          · have Hn : Hid (pall s = pre.map Pt.pair ++ [.bad 9 k]) := Lib.hid (Hbad.out (by
              rw [htag, h]; unfold pbody
              simp only [show ¬ (1 = 0) from by omega, show ¬ (1 = 2) from by omega, show ¬ (1 = 5) from by omega, show ¬ (5 = 0) from by omega, show ¬ (5 = 2) from by omega, if_true, if_false]
              rw [if_neg (by omega)]))
            have h9 : decide (8 ≤ (s.size : Int) - ((k : Int) + (z : Int))) = false := by simp; omega
            clear hg hr hp Hgood Hbad HgoodS hrs hz1 hz ht hT htag hrz hq hqs hnum hkind h
            go_wp2_with fail
            refine (HG.out _).mono ?_
            rintro e w1 ⟨rfl, rfl⟩
            go_wp2
            go_ret3
            obtain rfl := HB.out
            exact ⟨.inr ⟨pre, k, _, Hn.out, rfl, World.ownsRow.alloc ho.out _⟩, Below.alloc hb.out hBs _⟩
        · -- four bytes
          obtain rfl : K = 5 := by omega
          by_cases h8 : k + z + 4 ≤ s.size
          · have hpg : pget r = some (⟨t / 8, 5, lit (q.data.toList.take 4), ⟨#[]⟩⟩, z + 4) := by
              rw [htag, h]; unfold pbody
              simp only [show ¬ (1 = 0) from by omega, show ¬ (1 = 2) from by omega, show ¬ (1 = 5) from by omega, show ¬ (5 = 0) from by omega, show ¬ (5 = 2) from by omega, if_true, if_false]
              rw [if_pos (by omega)]
            obtain ⟨V, hVe⟩ : ∃ V, lit (q.data.toList.take 4) = V := ⟨_, rfl⟩
            have HL : Hid (∀ w, Calls Try.prog 30 #[.string (s.extract (k + z) (k + z + 4))] w fun e w' => e = .returned (.int .u64 (V : Int)) ∧ w = w') := Lib.hid (fun w => by
              have h1 := rlit_any (s.extract (k + z) (k + z + 4)) w (by simp; omega)
              rw [← extr_take s (k + z) 4 h8, hq, hVe] at h1
              exact h1)
            rw [hVe] at hpg
            have Hg := Lib.hid (Hgood.out _ _ hpg)
            have hsz := HgoodS.out _ _ hpg
            have hcs : Hid ((#[.int .i64 N, .int .i64 5, .int .i64 (k : Int), .int .u64 (V : Int), .string ⟨#[]⟩] : Array Value).toList = fdC ((⟨t / 8, 5, V, ⟨#[]⟩⟩ : Fd), k)) := Lib.hid (by unfold fdC; simp only; rw [hnum]; rfl)
            clear hg hr hp Hgood Hbad HgoodS hrs hz1 hz ht hT htag hrz hq hqs hnum hkind h hpg hVe
            go_wp2_with fail
            refine (HG.out _).mono ?_
            rintro e w1 ⟨rfl, rfl⟩
            go_wp2_with fail
            refine (HL.out _).mono ?_
            rintro e w1 ⟨rfl, rfl⟩
            go_wp2_with (at_builtin; refine push_rf rfl (.tmp 147) (.tmp 149) rfl B _ _ pre ((⟨t / 8, 5, V, ⟨#[]⟩⟩ : Fd), k) _ hcs.out rfl (World.ownsRow.alloc ho.out _) (by simp; omega) _ (by simp; try rfl) rfl (by omega) ?_)
            intro v4 w4 own4 b4
            have Ho4 : Hid (w4.ownsRow B 36 5 v4 (pre ++ [((⟨t / 8, 5, V, ⟨#[]⟩⟩ : Fd), k)]).length (fdsC (pre ++ [((⟨t / 8, 5, V, ⟨#[]⟩⟩ : Fd), k)]))) := Lib.hid (by first | exact own4 | (rw [List.length_append]; exact own4))
            have Hb4 : Hid (Below B w w4) := Lib.hid ((Below.alloc hb.out hBs _).trans b4)
            have hB4 : B ≤ w4.heap.size := by have := b4.size; simp at this; omega
            clear own4 b4 ho hb hcs
            go_wp2
            go_roundw
            case rel => exact ⟨k + (z + 4), pre ++ [((⟨t / 8, 5, V, ⟨#[]⟩⟩ : Fd), k)], by go_num, hsz.1, by simp; omega, Hg, Ho4, Hb4, hB4⟩
            case measure => simp [intOf]; omega
          · have Hn : Hid (pall s = pre.map Pt.pair ++ [.bad 9 k]) := Lib.hid (Hbad.out (by
              rw [htag, h]; unfold pbody
              simp only [show ¬ (1 = 0) from by omega, show ¬ (1 = 2) from by omega, show ¬ (1 = 5) from by omega, show ¬ (5 = 0) from by omega, show ¬ (5 = 2) from by omega, if_true, if_false]
              rw [if_neg (by omega)]))
            have h9 : decide (4 ≤ (s.size : Int) - ((k : Int) + (z : Int))) = false := by simp; omega
            clear hg hr hp Hgood Hbad HgoodS hrs hz1 hz ht hT htag hrz hq hqs hnum hkind h
            go_wp2_with fail
            refine (HG.out _).mono ?_
            rintro e w1 ⟨rfl, rfl⟩
            go_wp2
            go_ret3
            obtain rfl := HB.out
            exact ⟨.inr ⟨pre, k, _, Hn.out, rfl, World.ownsRow.alloc ho.out _⟩, Below.alloc hb.out hBs _⟩
        · -- bytes
          obtain rfl : K = 2 := by omega
          obtain ⟨V, n, c, hgq⟩ : ∃ V n c, gv q.data.toList = (V, n, c) := ⟨_, _, _, rfl⟩
          have hV : V < 18446744073709551616 := by have := gv_lt q.data.toList; rw [hgq] at this; exact this
          have hn := gv_le q.data.toList
          rw [hgq] at hn
          have hn1 : n ≤ q.size := hn.1
          have HV := Lib.hid (rgvIs_of q (by omega) V n c hgq)
          rw [← hq] at HV
          cases c with
          | false =>
            have Hn : Hid (pall s = pre.map Pt.pair ++ [.bad 9 k]) := Lib.hid (Hbad.out (by rw [htag, h]; unfold pbody; rw [hgq]; rfl))
            clear hg hr hp Hgood Hbad HgoodS hrs hz1 hz ht hT htag hrz hq hqs hgq hn hnum hkind h hV
            go_wp2_with fail
            refine (HG.out _).mono ?_
            rintro e w1 ⟨rfl, rfl⟩
            go_wp2_with fail
            refine (HV.out _).mono ?_
            rintro e w1 ⟨rfl, rfl⟩
            go_wp2
            go_ret3
            obtain rfl := HB.out
            exact ⟨.inr ⟨pre, k, _, Hn.out, rfl, World.ownsRow.alloc ho.out _⟩, Below.alloc hb.out hBs _⟩
          | true =>
            by_cases hl : k + z + n + V ≤ s.size
            · have hpg : pget r = some (⟨t / 8, 2, 0, s.extract (k + z + n) (k + z + n + V)⟩, z + (n + V)) := by
                rw [htag, h]; unfold pbody; rw [hgq]
                simp only [show ¬ (2 = 0) from by omega, if_true, if_false]
                rw [if_pos ⟨trivial, by show V ≤ q.size - n; omega⟩, ← hq, extr_in2 s (k + z) n (n + V) (by omega) (by omega)]
                simp only [Nat.add_assoc]
              have hV6 : V ≤ 60000 := by omega
              have Hg := Lib.hid (Hgood.out _ _ hpg)
              have hsz := HgoodS.out _ _ hpg
              obtain ⟨d, hd⟩ : ∃ d, s.extract (k + z + n) (k + z + n + V) = d := ⟨_, rfl⟩
              rw [hd] at Hg
              have hcs : Hid ((#[.int .i64 N, .int .i64 2, .int .i64 (k : Int), .int .u64 0, .string d] : Array Value).toList = fdC ((⟨t / 8, 2, 0, d⟩ : Fd), k)) := Lib.hid (by unfold fdC; simp only; rw [hnum]; rfl)
              clear hg hr hp Hgood Hbad HgoodS hrs hz1 hz ht hT htag hrz hq hqs hgq hn hnum hkind h hpg hV
              go_wp2_with fail
              refine (HG.out _).mono ?_
              rintro e w1 ⟨rfl, rfl⟩
              go_wp2_with fail
              refine (HV.out _).mono ?_
              rintro e w1 ⟨rfl, rfl⟩
              go_wp2_with (at_builtin; refine push_rf rfl (.tmp 147) (.tmp 149) rfl B _ _ pre ((⟨t / 8, 2, 0, d⟩ : Fd), k) _ hcs.out rfl (World.ownsRow.alloc ho.out _) (by simp; omega) _ (by simp; try rfl) rfl (by omega) ?_)
              intro v4 w4 own4 b4
              have Ho4 : Hid (w4.ownsRow B 36 5 v4 (pre ++ [((⟨t / 8, 2, 0, d⟩ : Fd), k)]).length (fdsC (pre ++ [((⟨t / 8, 2, 0, d⟩ : Fd), k)]))) := Lib.hid (by first | exact own4 | (rw [List.length_append]; exact own4))
              have Hb4 : Hid (Below B w w4) := Lib.hid ((Below.alloc hb.out hBs _).trans b4)
              have hB4 : B ≤ w4.heap.size := by have := b4.size; simp at this; omega
              clear own4 b4 ho hb hcs
              go_wp2
              go_roundw
              case rel => exact ⟨k + (z + (n + V)), pre ++ [((⟨t / 8, 2, 0, d⟩ : Fd), k)], by go_num, hsz.1, by simp; omega, Hg, Ho4, Hb4, hB4⟩
              case measure => simp [intOf]; omega
            · have Hn : Hid (pall s = pre.map Pt.pair ++ [.bad 9 k]) := Lib.hid (Hbad.out (by
                rw [htag, h]; unfold pbody; rw [hgq]
                simp only [show ¬ (2 = 0) from by omega, if_true, if_false]
                rw [if_neg (by rintro ⟨_, h4⟩; have h5 : V ≤ q.size - n := h4; omega)]))
              obtain ⟨VI, hVI⟩ : ∃ VI : Int, (V : Int) = VI := ⟨_, rfl⟩
              rw [hVI] at HV
              have hVI0 : 0 ≤ VI := by omega
              have hVI1 : VI < 18446744073709551616 := by omega
              have hVI2 : (s.size : Int) - ((k : Int) + (z : Int)) - (n : Int) < VI := by omega
              have hVI3 : 0 ≤ (s.size : Int) - ((k : Int) + (z : Int)) - (n : Int) := by omega
              have hVI4 : decide (VI ≤ (s.size : Int) - ((k : Int) + (z : Int)) - (n : Int)) = false := by simp; omega
              clear hg hr hp Hgood Hbad HgoodS hrs hz1 hz ht hT htag hrz hq hqs hgq hn hnum hkind h hV hVI hl
              go_wp2_with fail
              refine (HG.out _).mono ?_
              rintro e w1 ⟨rfl, rfl⟩
              go_wp2_with fail
              refine (HV.out _).mono ?_
              rintro e w1 ⟨rfl, rfl⟩
              go_wp2
              go_ret3
              obtain rfl := HB.out
              exact ⟨.inr ⟨pre, k, _, Hn.out, rfl, World.ownsRow.alloc ho.out _⟩, Below.alloc hb.out hBs _⟩
        · have Hn : Hid (pall s = pre.map Pt.pair ++ [.bad 9 k]) := Lib.hid (Hbad.out (by
            rw [htag]; unfold pbody
            rw [if_neg (by omega), if_neg (by omega), if_neg (by omega), if_neg (by omega)]))
          have hK4 : K = 3 ∨ K = 4 ∨ K = 6 ∨ K = 7 := by omega
          clear hg hr hp Hgood Hbad HgoodS hrs hz1 hz ht hT htag hrz hq hqs hnum hkind h
          rcases hK4 with rfl | rfl | rfl | rfl
          · go_wp2_with fail
            refine (HG.out _).mono ?_
            rintro e w1 ⟨rfl, rfl⟩
            go_wp2
            go_ret3
            obtain rfl := HB.out
            exact ⟨.inr ⟨pre, k, _, Hn.out, rfl, World.ownsRow.alloc ho.out _⟩, Below.alloc hb.out hBs _⟩
          · go_wp2_with fail
            refine (HG.out _).mono ?_
            rintro e w1 ⟨rfl, rfl⟩
            go_wp2
            go_ret3
            obtain rfl := HB.out
            exact ⟨.inr ⟨pre, k, _, Hn.out, rfl, World.ownsRow.alloc ho.out _⟩, Below.alloc hb.out hBs _⟩
          · go_wp2_with fail
            refine (HG.out _).mono ?_
            rintro e w1 ⟨rfl, rfl⟩
            go_wp2
            go_ret3
            obtain rfl := HB.out
            exact ⟨.inr ⟨pre, k, _, Hn.out, rfl, World.ownsRow.alloc ho.out _⟩, Below.alloc hb.out hBs _⟩
          · go_wp2_with fail
            refine (HG.out _).mono ?_
            rintro e w1 ⟨rfl, rfl⟩
            go_wp2
            go_ret3
            obtain rfl := HB.out
            exact ⟨.inr ⟨pre, k, _, Hn.out, rfl, World.ownsRow.alloc ho.out _⟩, Below.alloc hb.out hBs _⟩
    · have Hn : Hid (pall s = pre.map Pt.pair) := Lib.hid (by rw [Hall.out, ← hp.out, pfrom_end s k (by omega), List.append_nil])
      go_wp2
      go_ret3
      obtain rfl := HB.out
      exact ⟨.inl ⟨pre, _, Hn.out, rfl, ho.out⟩, hb.out⟩
end Go.Proofs.Ytkaoacoahlbcoaa
