/-
  Law 1: a number's digits.
-/
import Derived.Test.YtllmacokhjmdgaaGreatDoorNTextM
import Derived.Laws.AppendOwnNone
import Derived.Lib.SmallJoins
namespace Go.Proofs.YtllmacokhjmdgaaGreatDoor
open Go.RowKit
set_option linter.unusedVariables false
set_option maxRecDepth 100000 in
theorem field_words (a : Option Addr) (n c : Nat) (wx : World) : (Instr.field 26 (.agg #[.slice a n c]) 0).run Tryz.prog wx = .ok (.slice a n c) wx := by
  first
  | kernel_rfl
  | (simp [Instr.field, run_underlying Tryz.underlying26]; done)
  | (simp [Instr.field, run_underlying Tryz.underlying26]; rfl)
theorem Tab.below {w w' : World} {B : Nat} (h : Tab w) (hb : Below B w w') (hB : w.heap.size ≤ B) : Tab w' := by
  have hs : (Tryz.prog.globalNamed "internal/strconv.uint64pow10").isSome = true := by kernel_rfl
  obtain ⟨g, hg⟩ := Option.isSome_iff_exists.1 hs
  exact Go.Joins.tab_stays hg h hb hB
theorem bd_below {B b : Nat} {t : ByteArray} {w w' : World} (h : IsBd B b t w) (hb : Below w.heap.size w w') : IsBd B b t w' := by
  have hg := grown_below hb (Nat.le_refl _)
  have key : ∀ p, BdAt B b p t w → BdAt B b p t w' := fun p ⟨hB, v, hbk, hown, hne⟩ => by
    have hlt : b < w.heap.size := (Array.getElem?_eq_some_iff.1 hbk).1
    refine ⟨hB, v, (hb.block b hlt).trans hbk, hown.kept hg ?_, hne⟩
    cases v.ownBlock with
    | none => exact .inl rfl
    | some g => exact .inr (by simp)
  exact h.elim (fun x => .inl (key _ x)) (fun x => .inr (key _ x))
theorem pv_lt : ∀ (ps : List Nat), Prt ps → pv ps < 10000000000000000000 ^ ps.length := by
  intro ps
  induction ps with
  | nil => intro _; decide
  | cons x r ih =>
    intro h
    have h1 := ih (fun u hu => h u (List.mem_cons_of_mem _ hu))
    have h2 := h x (List.mem_cons_self)
    simp only [pv, List.length_cons, Nat.pow_succ]
    rw [Nat.mul_comm (10000000000000000000 ^ r.length)]
    have h3 : 10000000000000000000 * (pv r + 1) ≤ 10000000000000000000 * 10000000000000000000 ^ r.length := Nat.mul_le_mul_left _ h1
    omega
theorem nDigits_le : ∀ (m u : Nat), u < 10 ^ (m + 1) → Lib.nDigits u ≤ m + 1 := by
  intro m
  induction m with
  | zero => intro u h; rw [Lib.nDigits_small (by simpa using h)]; exact Nat.le_refl _
  | succ m ih =>
    intro u h
    by_cases h10 : u < 10
    · rw [Lib.nDigits_small h10]; omega
    · rw [Lib.nDigits_big h10]
      have := ih (u / 10) (by rw [Nat.pow_succ] at h; omega)
      omega
theorem dec_len (ps : List Nat) (h : Prt ps) : (Lib.decDigits (pv ps)).length ≤ 19 * ps.length + 1 := by
  rw [Lib.decDigits_length]
  have h1 := pv_lt ps h
  have e19 : (10000000000000000000 : Nat) = 10 ^ 19 := by decide
  rw [e19, ← Nat.pow_mul] at h1
  refine nDigits_le (19 * ps.length) _ (Nat.lt_of_lt_of_le h1 (Nat.pow_le_pow_right (by decide) (by omega)))
/-- What is written when the parts from place j on are written. -/
def tx2 (ps : List Nat) (j : Nat) : ByteArray := if ps.length ≤ j then ⟨#[]⟩ else ⟨(Lib.decDigits (pv (ps.drop j))).toArray⟩
theorem repeat_48 (p : Nat) : Lib.repeatL [48] p = List.replicate p 48 := by
  induction p with
  | zero => rfl
  | succ p ih => simp [Lib.repeatL, List.replicate_succ] at *; try exact ih
theorem drop_get (ps : List Nat) (i : Nat) (h : i < ps.length) : ps.drop i = ps.getD i 0 :: ps.drop (i + 1) := by
  rw [List.drop_eq_getElem_cons h]
  congr 1
  rw [List.getD_eq_getElem?_getD, List.getElem?_eq_getElem h]; rfl
theorem tx2_last (ps : List Nat) (i : Nat) (h : i + 1 = ps.length) : tx2 ps i = ⟨(Lib.decDigits (ps.getD i 0)).toArray⟩ := by
  unfold tx2
  rw [if_neg (by omega), drop_get ps i (by omega), List.drop_of_length_le (by omega)]
  simp [pv]
theorem tx2_step (ps : List Nat) (i : Nat) (h : i + 1 < ps.length) (hp : Prt ps) (hl : ∃ r x, ps = r ++ [x] ∧ x ≠ 0) :
    tx2 ps i = tx2 ps (i + 1) ++ ⟨(List.replicate (19 - Lib.nDigits (ps.getD i 0)) 48).toArray⟩ ++ ⟨(Lib.decDigits (ps.getD i 0)).toArray⟩ := by
  have hx : ps.getD i 0 < 10000000000000000000 := by rw [List.getD_eq_getElem?_getD, List.getElem?_eq_getElem (by omega)]; exact hp _ (List.getElem_mem _)
  have hpos : 0 < pv (ps.drop (i + 1)) := by
    refine pv_pos _ ?_
    obtain ⟨r, x, hr, hx0⟩ := hl
    rw [hr] at h ⊢
    simp at h
    exact ⟨r.drop (i + 1), x, by rw [List.drop_append_of_le_length (by omega)], hx0⟩
  unfold tx2
  rw [if_neg (by omega), if_neg (by omega), drop_get ps i (by omega)]
  simp only [pv]
  rw [dec_part _ _ hpos hx]
  refine bytes_ext ?_
  simp
def TextIs (N : Nat) (w : World) (e : Ending) (w' : World) : Prop := e = .returned (.string ⟨(Lib.decDigits N).toArray⟩) ∧ Below w.heap.size w w'
def lenOf : Value → Nat
  | .slice _ n _ => n
  | _ => 0
set_option maxRecDepth 100000 in
set_option maxHeartbeats 1000000 in
theorem text_zero (w : World) : Calls Tryz.prog 14 #[.agg #[.slice none 0 0]] w (TextIs 0 w) := by
  obtain ⟨i0, hi, hz0, hz1, hz2⟩ := info_parts Tryz.infoU
  have hd : Lib.decDigits 0 = [48] := by rw [Lib.decDigits_one (by decide)]; rfl
  obtain ⟨W1, hW1⟩ : ∃ W1, w.alloc (.cells #[.slice none 0 0] 26) = W1 := ⟨_, rfl⟩
  have hk : Blk W1 w.heap.size 26 #[.slice none 0 0] := by rw [← hW1]; exact Blk.new w _ _
  have HB : Hid (Below w.heap.size w W1) := Lib.hid (by rw [← hW1]; exact (Below.refl _ _).alloc (Nat.le_refl _) _)
  have hk0 := hk.cell 0
  simp only [List.getElem?_toArray, List.getElem?_cons_zero] at hk0
  have HR : Hid (TextIs 0 w (.returned (.string ⟨#[48]⟩)) W1) := Lib.hid ⟨by rw [hd], HB.out⟩
  clear hd
  go_enter Tryz.func14, Tryz.ntmps14
  go_wp2_with (at_builtin; refine wpList_append_own_none rfl (.const (.slice none 0 0)) (.tmp 11) 24 rfl w.heap.size 22 i0 1 Tryz.underlying24 hi (.slice none 0 0) 0 [] rfl (World.ownsRow_nil _ _ _ _) rfl ?_)
  clear hi hz0 hz1 hz2
  go_loop [3, 4] (fun l p => l = .slice none 0 0 ∧ p = .slice none 0 0) (fun _ _ => 0)
  case atStart => exact ⟨rfl, rfl⟩
  case round =>
    obtain ⟨rfl, rfl⟩ := hrel
    go_wp2_with fail
    go_ret
    exact HR.out
set_option maxRecDepth 100000 in
set_option maxHeartbeats 4000000 in
theorem text_pos (ad : Addr) (c : Nat) (us0 : List Nat) (w : World) (htab : Tab w) (hu : UR w (some ad) us0) (hw : Wrd us0) (hl : us0.length ≤ 10000) (hne : us0 ≠ []) (hlast : us0.getD (us0.length - 1) 0 ≠ 0) :
    Calls Tryz.prog 14 #[.agg #[.slice (some ad) us0.length c]] w (TextIs (wv us0) w) := by
  obtain ⟨i0, hi, hz0, hz1, hz2⟩ := info_parts Tryz.infoU
  obtain ⟨W1, hW1⟩ : ∃ W1, w.alloc (.cells #[.slice (some ad) us0.length c] 26) = W1 := ⟨_, rfl⟩
  have hk : Blk W1 w.heap.size 26 #[.slice (some ad) us0.length c] := by rw [← hW1]; exact Blk.new w _ _
  have hb1 : Below w.heap.size w W1 := by rw [← hW1]; exact (Below.refl _ _).alloc (Nat.le_refl _) _
  have HTab : Hid (∀ w', Below w.heap.size w w' → Tab w') := Lib.hid (fun w' hb => htab.below hb (Nat.le_refl _))
  have hk0 := hk.cell 0
  simp only [List.getElem?_toArray, List.getElem?_cons_zero] at hk0
  have hnews : ∀ (j : Nat) (x : Value), (us0.map uv)[j]? = some x → W1.cell? (ad.add j) = some x := by
    intro j x hj
    rw [List.getElem?_map, Option.map_eq_some_iff] at hj
    obtain ⟨u, hu', rfl⟩ := hj
    have hjl := (List.getElem?_eq_some_iff.1 hu').1
    obtain ⟨ad', hadx, hlt, hcl⟩ := hu j hjl
    cases hadx
    rw [(hb1.cell (by rw [add_block]; exact hlt)), hcl, List.getD_eq_getElem?_getD, hu']
    rfl
  have Hnews := Lib.hid hnews
  have HB1 := Lib.hid hb1
  have HTx0 : Hid (Tx (wv us0) us0 []) := Lib.hid ⟨by simp [pv], hw, fun p hp => by simp at hp, fun _ => hlast, fun h => absurd h hne⟩
  have HN : Hid (wv us0 < 18446744073709551616 ^ us0.length) := Lib.hid (wv_lt us0 hw)
  have HL := Lib.hid (Lib.hid hl)
  have HNpos : Hid (0 < wv us0) := Lib.hid (wv_pos hne hlast)
  obtain ⟨N, hN⟩ : ∃ N, wv us0 = N := ⟨_, rfl⟩
  rw [hN] at HTx0 HN HNpos ⊢
  have hle1 : w.heap.size ≤ W1.heap.size := hb1.size
  clear hu hw hlast hk hb1 hnews htab hN
  go_enter Tryz.func14, Tryz.ntmps14
  go_wp2_with (at_builtin; refine wpList_append_own_at _ rfl (.const (.slice none 0 0)) (.tmp 11) 24 rfl w.heap.size 22 i0 (.int .u64 0) 1 8 Tryz.underlying24 hi hz0 hz1 hz2 rfl (by decide) (.slice none 0 0) 0 [] rfl (World.ownsRow_nil _ _ _ _) ad us0.length c (us0.map uv) rfl (by simp) Hnews.out (uv_one us0) (by unfold maxLen; omega) (by omega) hle1 ?_)
  intro v1 W2 hown hg _ _
  have HT2 : Hid (Tw w.heap.size w W2 v1 (.slice none 0 0) us0 []) := Lib.hid ⟨by simpa [OU] using hown, World.ownsRow_nil _ _ _ _, fun g _ h => (by cases h), HB1.out.grown hg hle1 (fun k hk => by cases hk), Nat.le_trans hle1 hg.size⟩
  obtain ⟨a1, c1, hv1, _⟩ := ou_form HT2.out.o1
  subst hv1
  clear hown hg hi hz0 hz1 hz2 Hnews hk0 hW1 HB1 hle1
  go_wp2_with fail
  go_loopw [3, 4] (fun l p wr => ∃ (us ps : List Nat), us.length ≤ us0.length ∧ ps.length ≤ 20000 ∧ Hid (Tw w.heap.size w wr l p us ps) ∧ Hid (Tx N us ps)) (fun _ p _ => N - lenOf p)
  case atStart => exact ⟨us0, [], Nat.le_refl _, by simp, HT2, HTx0⟩
  case round =>
    obtain ⟨us, ps, hul, hpl, hT, hX⟩ := hrel
    clear HT2 HTx0
    obtain ⟨a1, c1, rfl, hc1, ha1⟩ := ou_form hT.out.o1
    obtain ⟨a2, c2, rfl, hc2, ha2⟩ := ou_form hT.out.o2
    obtain ⟨n, hn⟩ : ∃ n, us.length = n := ⟨_, rfl⟩
    have Hn := Lib.hid hn
    obtain ⟨k, hk⟩ : ∃ k, ps.length = k := ⟨_, rfl⟩
    have Hk := Lib.hid hk
    by_cases hn0 : 0 < n
    · have hune : us ≠ [] := fun h => by rw [h] at hn; simp at hn; omega
      obtain ⟨g, rfl⟩ : ∃ g, a1 = some ⟨g, 0, none⟩ := by
        rcases ha1 with h | h
        · exact absurd h hune
        · exact h
      have hpN : Hid (ps.length < N) := Lib.hid (tx_lt hX.out hune)
      have hp2L : k < 20000 := by have := tx_len hX.out hune HN.out; have := HL.out.out; omega
      have hni : (0 : Int) < (n : Int) := by omega
      have hn10 : n ≤ 10000 := by have := HL.out.out; omega
      have hT0 : Hid (Tw w.heap.size w wr (.slice (some ⟨g, 0, none⟩) n c1) (.slice a2 k c2) (us.take n ++ []) ps) := Lib.hid (by
        have := hT.out
        rw [List.take_of_length_le (by omega), List.append_nil, ← hn, ← hk]
        exact this)
      have hD0 : Hid (Dv us n [] 0) := Lib.hid ⟨by simp [hn], fun u hu => by simp at hu, by rw [List.drop_of_length_le (by omega)]; rfl, by decide⟩
      have Hune := Lib.hid hune
      rw [hn] at hul hc1 ⊢
      rw [hk] at hpl hc2 ⊢
      clear hune ha1 ha2 hn hk hT
      go_wp2_with fail
      go_loopw [5, 6] (fun rv iv wq => ∃ (j : Nat) (qs : List Nat) (r : Nat) (R : Int), j ≤ n ∧ iv = .int .i64 ((j : Int) - 1) ∧ rv = .int .u64 R ∧ Hid (R = (r : Int)) ∧ Hid (Dv us j qs r) ∧ Hid (Tw w.heap.size w wq (.slice (some ⟨g, 0, none⟩) n c1) (.slice a2 k c2) (us.take j ++ qs) ps)) (fun _ iv _ => (intOf iv + 1).toNat)
      case atStart => exact ⟨n, [], 0, 0, Nat.le_refl _, rfl, rfl, Lib.hid rfl, hD0, hT0⟩
      case round =>
        obtain ⟨j, qs, r, R, hj, rfl, rfl, hR, hD, hTq⟩ := hrel
        clear hD0 hT0
        cases j with
        | zero =>
          have hlq : qs.length = n := by have := hD.out.len; have := Hn.out; omega
          have HTz : Hid (Tw w.heap.size w wr (.slice (some ⟨g, 0, none⟩) n c1) (.slice a2 k c2) qs ps) := Lib.hid (by have := hTq.out; rw [List.take_zero, List.nil_append] at this; exact this)
          have HX' : Hid (Tx N (qs.take (tlen qs n)) (ps ++ [r])) := Lib.hid (by have := tx_step hX.out Hune.out hD.out; rw [hlq] at this; exact this)
          have htl : tlen qs n ≤ n := tlen_le qs n
          have hkps := Hk.out
          have hRe := hR.out
          subst hRe
          clear hTq hD hX hR
          go_wp2_with (at_builtin; refine push_t rfl (.tmp 35) (.tmp 37) rfl w.heap.size w _ _ _ qs ps r rfl HTz.out _ rfl rfl (by omega) ?_)
          intro p' W' hT'
          obtain ⟨a3, c3, hp3, _⟩ := ou_form hT'.o2
          rw [List.length_append, List.length_singleton, hkps] at hp3
          subst hp3
          have htr : Hid (Calls Tryz.prog 53 #[.slice (some ⟨g, 0, none⟩) n c1] W' (TrimIs (some ⟨g, 0, none⟩) c1 qs W')) := Lib.hid (by
            obtain ⟨a9, c9, h9, _, hur⟩ := ou_ur hT'.o1
            have ha9 : a9 = some ⟨g, 0, none⟩ := by injection h9 with e1 e2 e3; exact e1.symm
            rw [ha9] at hur
            have := trim_any (some ⟨g, 0, none⟩) c1 qs W' hur (by omega) (by omega)
            rw [hlq] at this
            exact this)
          have HT' := Lib.hid hT'
          clear hT' HTz
          go_wp2_with fail
          refine htr.out.mono ?_
          rintro e w6 ⟨rfl, hb6⟩
          rw [hlq]
          have HT6 : Hid (Tw w.heap.size w w6 (trimV (some ⟨g, 0, none⟩) c1 (tlen qs n)) (.slice a3 (k + 1) c3) (qs.take (tlen qs n)) (ps ++ [r])) := Lib.hid (by
            have h7 := HT'.out.below hb6
            rw [← hlq] at h7 ⊢
            exact h7.trim (tlen qs qs.length) (by rw [hlq]; exact htl))
          obtain ⟨tv, htv⟩ : ∃ tv, trimV (some ⟨g, 0, none⟩) c1 (tlen qs n) = tv := ⟨_, rfl⟩
          have htvs : ∃ x y z, tv = .slice x y z := by
            rw [← htv]; unfold trimV; split
            · exact ⟨_, _, _, rfl⟩
            · exact ⟨_, _, _, rfl⟩
          obtain ⟨tx, ty, tz, rfl⟩ := htvs
          rw [htv] at HT6 ⊢
          have hkN : k < N := by have := hpN.out; omega
          have hl1 : (qs.take (tlen qs n)).length ≤ us0.length := by rw [List.length_take]; omega
          have hl2 : (ps ++ [r]).length ≤ 20000 := by simp; omega
          have hfld := field_words tx ty tz
          clear hb6 htr HT' htv
          go_wp2_with fail
          go_roundw
          case rel => exact ⟨_, _, hl1, hl2, HT6, HX'⟩
          case measure => simp only [lenOf]; omega
        | succ i =>
          have hin : i < n := by omega
          have hil : i < us.length := by rw [Hn.out]; exact hin
          obtain ⟨x, hx⟩ : ∃ x, us.getD i 0 = x := ⟨_, rfl⟩
          have hxw : x < 18446744073709551616 := by rw [← hx, List.getD_eq_getElem?_getD, List.getElem?_eq_getElem hil]; exact hX.out.wrd _ (List.getElem_mem _)
          have hlen : (us.take (i + 1) ++ qs).length = n := by rw [List.length_append, List.length_take]; have := hD.out.len; have := Hn.out; omega
          have hrow : wr.ownsRow w.heap.size 22 1 (.slice (some ⟨g, 0, none⟩) n c1) n ((us.take (i + 1) ++ qs).map uv) := by
            have := hTq.out.o1
            unfold OU at this
            rw [hlen] at this
            exact this
          have htk : us.take (i + 1) = us.take i ++ [x] := by rw [take_succ_getD us i hil, hx]
          have hli : (us.take i).length = i := by rw [List.length_take]; omega
          have hgx : (us.take (i + 1) ++ qs).getD i 0 = x := by
            rw [htk, List.append_assoc, List.getD_eq_getElem?_getD, List.getElem?_append_right (by omega), hli, Nat.sub_self]; rfl
          have hset : ∀ q, (us.take (i + 1) ++ qs).set i q = us.take i ++ (q :: qs) := fun q => by
            rw [htk, List.append_assoc, List.set_append_right _ _ (by omega), hli, Nat.sub_self]; rfl
          have hcell := ou_cell hrow i (by omega)
          rw [hgx, add_zero_off] at hcell
          obtain ⟨hbg, hgl, hfr⟩ := ou_block hrow
          have hfri := hfr i hin
          have hrl := hD.out.lt
          have hstep := dv_stepd hD.out hil (by rw [hx]; exact hxw)
          rw [hx] at hstep
          have hdv := div64_any r x 10000000000000000000 hxw (by decide) hrl wr
          obtain ⟨q, hq⟩ : ∃ q, (r * 18446744073709551616 + x) / 10000000000000000000 = q := ⟨_, rfl⟩
          obtain ⟨m, hm⟩ : ∃ m, (r * 18446744073709551616 + x) % 10000000000000000000 = m := ⟨_, rfl⟩
          rw [hq, hm] at hstep
          obtain ⟨X, hX'⟩ : ∃ X : Int, (x : Int) = X := ⟨_, rfl⟩
          obtain ⟨Q, hQ⟩ : ∃ Q : Int, (q : Int) = Q := ⟨_, rfl⟩
          obtain ⟨M, hM⟩ : ∃ M : Int, (m : Int) = M := ⟨_, rfl⟩
          have HDv : Hid (Calls Tryz.prog 59 #[.int .u64 R, .int .u64 X, .int .u64 10000000000000000000] wr fun e w' => e = .returned (.tuple #[.int .u64 Q, .int .u64 M]) ∧ Below wr.heap.size wr w') := Lib.hid (by
            rw [hR.out, ← hX']
            refine hdv.mono ?_
            rintro e w' ⟨q', m', hq', hm', he, hb⟩
            rw [hq] at hq'
            rw [hm] at hm'
            subst hq' hm'
            exact ⟨by rw [he, hQ, hM], hb⟩)
          have HSt := Lib.hid hstep
          have HM := Lib.hid hM.symm
          have HTs : Hid (∀ w', Below wr.heap.size wr w' → Tw w.heap.size w (w'.setCell ⟨g, i, none⟩ (.int .u64 Q)) (.slice (some ⟨g, 0, none⟩) n c1) (.slice a2 k c2) (us.take i ++ (q :: qs)) ps) := Lib.hid (fun w' hb => by
            have := (hTq.out.below hb).set hlen i q hin
            rw [hset, hQ] at this
            exact this)
          have hi0 : (0 : Int) ≤ (i : Int) := by omega
          have hi1 : (i : Int) < (n : Int) := by omega
          have hj1 : ((i + 1 : Nat) : Int) - 1 = (i : Int) := by omega
          rw [hX'] at hcell
          rw [hj1]
          clear hdv hstep hQ hM hq hm hX' hgx hset hrow hfr htk hli hrl hD hTq hR hj1 hx hxw hlen
          go_wp2_with fail
          refine HDv.out.mono ?_
          rintro e w5 ⟨rfl, hb5⟩
          have hc5 : w5.cell? ⟨g, i, none⟩ = some (.int .u64 X) := (hb5.cell (p := ⟨g, i, none⟩) hgl).trans hcell
          have hf5 : w5.frozen? ⟨g, i, none⟩ = false := by
            have := hfri
            unfold World.frozen? at this ⊢
            rw [hb5.block g hgl]
            exact this
          have HT5 := Lib.hid (HTs.out w5 hb5)
          clear HDv HTs hb5 hcell hfri
          go_wp2_with fail
          go_roundw
          case rel => exact ⟨i, q :: qs, m, M, by omega, by go_num, rfl, HM, HSt, HT5⟩
          case measure => first | (simp [intOf]; done) | (simp [intOf]; omega)
    · have hun : us = [] := List.eq_nil_of_length_eq_zero (by omega)
      have hNp : Hid (N = pv ps) := Lib.hid (by have := hX.out.val; rw [hun] at this; simpa [wv] using this)
      have hlast : Hid (∃ r x, ps = r ++ [x] ∧ x ≠ 0) := Lib.hid (by
        rcases hX.out.last hun with h | h
        · have h1 := hNp.out; rw [h] at h1; have := HNpos.out; simp [pv] at h1; omega
        · exact h)
      have hprt := Lib.hid hX.out.prt
      have hkp : 0 < k := by
        obtain ⟨r, x, hr, _⟩ := hlast.out
        have := congrArg List.length hr
        rw [hk] at this; simp at this; omega
      have hki : ((k : Int) == 0) = false := by simp; omega
      obtain ⟨g2, rfl⟩ : ∃ g2, a2 = some ⟨g2, 0, none⟩ := by
        rcases ha2 with h | h
        · rw [h] at hk; simp at hk; omega
        · exact h
      have hrow2 := hT.out.o2
      have hcells : Hid (∀ i, i < k → wr.cell? ⟨g2, i, none⟩ = some (.int .u64 ((ps.getD i 0 : Nat) : Int)) ∧ g2 < wr.heap.size) := Lib.hid (fun i hi => by
        have h1 := ou_cell hrow2 i (by omega)
        rw [add_zero_off] at h1
        exact ⟨h1, World.block_lt_of_cell? wr _ h1⟩)
      have hbelT := Lib.hid hT.out.bel
      have hszT := hT.out.size
      have hn00 : n = 0 := by omega
      subst hn00
      have hbd0 : Hid (IsBd wr.heap.size wr.heap.size (tx2 ps k) (wr.alloc (.cells #[.pointer none, .slice none 0 0] 88))) := Lib.hid (by
        have : tx2 ps k = ⟨#[]⟩ := by unfold tx2; rw [if_pos (by omega)]
        rw [this]; exact bd_new wr _ (Nat.le_refl _))
      have hbl0 : Hid (Below wr.heap.size wr (wr.alloc (.cells #[.pointer none, .slice none 0 0] 88))) := Lib.hid ((Below.refl _ _).alloc (Nat.le_refl _) _)
      rw [hk] at hpl hc2 ⊢
      rw [hn] at hul hc1 ⊢
      clear hT hX hrow2 ha1 ha2 hk hn hun
      obtain ⟨W5, hW5⟩ : ∃ W5, wr.alloc (.cells #[.pointer none, .slice none 0 0] 88) = W5 := ⟨_, rfl⟩
      rw [hW5] at hbd0 hbl0
      obtain ⟨W4_, hW4⟩ : ∃ W, wr = W := ⟨_, rfl⟩
      rw [hW4] at hW5 hbd0 hbl0 hcells hszT hbelT ⊢
      clear hW4
      obtain ⟨b, hb⟩ : ∃ b, W4_.heap.size = b := ⟨_, rfl⟩
      rw [hb] at hbd0 hbl0 hcells hszT
      go_wp2_with fail
      clear hW5
      go_loopw [8] (fun iv wq => ∃ j : Nat, j ≤ k ∧ iv = .int .i64 ((j : Int) - 1) ∧ Hid (IsBd b b (tx2 ps j) wq) ∧ Hid (Below b W4_ wq)) (fun iv _ => (intOf iv + 1).toNat)
      case atStart => exact ⟨k, Nat.le_refl _, rfl, hbd0, hbl0⟩
      case round =>
        obtain ⟨j, hj, rfl, hbd, hbl⟩ := hrel
        clear hbd0 hbl0
        cases j with
        | zero =>
          have hstr := Lib.hid (str_any b b _ wr hbd.out (by have := hbl.out.size; omega))
          have htx : Hid (tx2 ps 0 = ⟨(Lib.decDigits N).toArray⟩) := Lib.hid (by unfold tx2; rw [if_neg (by have := Hk.out; omega), List.drop_zero, hNp.out])
          have HBw : Hid (Below w.heap.size w wr) := Lib.hid (hbelT.out.trans (hbl.out.mono hszT))
          have hszw : w.heap.size ≤ wr.heap.size := HBw.out.size
          clear hbd hbl
          go_wp2_with fail
          refine hstr.out.mono ?_
          rintro e w9 ⟨rfl, _, hb9⟩
          have HB9 := Lib.hid (HBw.out.trans (hb9.mono hszT))
          rw [htx.out]
          clear hb9 hstr
          go_wp2_with fail
          go_ret
          exact ⟨rfl, HB9.out⟩
        | succ i =>
          have hik : i < k := by omega
          obtain ⟨hc, hg2⟩ := hcells.out i hik
          have hcw : wr.cell? ⟨g2, i, none⟩ = some (.int .u64 ((ps.getD i 0 : Nat) : Int)) := (hbl.out.cell (p := ⟨g2, i, none⟩) hg2).trans hc
          obtain ⟨x, hx⟩ : ∃ x, ps.getD i 0 = x := ⟨_, rfl⟩
          rw [hx] at hcw
          have hxD : x < 10000000000000000000 := by
            rw [← hx, List.getD_eq_getElem?_getD, List.getElem?_eq_getElem (by have := Hk.out; omega)]; exact hprt.out _ (List.getElem_mem _)
          obtain ⟨X, hX⟩ : ∃ X : ByteArray, ⟨(Lib.decDigits x).toArray⟩ = X := ⟨_, rfl⟩
          have hXs : X.size = Lib.nDigits x := by rw [← hX]; show (Lib.decDigits x).toArray.size = _; rw [List.size_toArray, Lib.decDigits_length]
          have e19 : (10 : Nat) ^ (18 + 1) = 10000000000000000000 := by decide
          have hnd : Lib.nDigits x ≤ 19 := nDigits_le 18 x (by rw [e19]; exact hxD)
          clear e19
          obtain ⟨XI, hXI⟩ : ∃ XI : Int, (x : Int) = XI := ⟨_, rfl⟩
          have HFmt : Hid (Calls Tryz.prog 60 #[.int .u64 XI, .int .i64 10] wr fun e w' => e = .returned (.string X) ∧ Below wr.heap.size wr w') := Lib.hid (by
            have := fmt_any x (by omega) wr (HTab.out wr (hbelT.out.trans (hbl.out.mono hszT)))
            rw [hXI] at this
            refine this.mono ?_
            rintro e w' ⟨he, hb⟩
            exact ⟨by rw [he, hX], hb⟩)
          obtain ⟨T, hT⟩ : ∃ T, tx2 ps (i + 1) = T := ⟨_, rfl⟩
          have hTs : T.size ≤ 400000 := by
            rw [← hT]; unfold tx2
            split
            · show 0 ≤ 400000; omega
            · show (Lib.decDigits (pv (ps.drop (i + 1)))).toArray.size ≤ 400000
              rw [List.size_toArray]
              have h1 := dec_len (ps.drop (i + 1)) (fun p hp => hprt.out p (List.mem_of_mem_drop hp))
              rw [List.length_drop] at h1
              have := Hk.out
              omega
          rw [hT] at hbd
          rw [hXI] at hcw
          have hi0 : (0 : Int) ≤ (i : Int) := by omega
          have hi1 : (i : Int) < (k : Int) := by omega
          have hj1 : ((i + 1 : Nat) : Int) - 1 = (i : Int) := by omega
          rw [hj1]
          have hbw : b ≤ wr.heap.size := by have := hbl.out.size; omega
          by_cases hl : i + 1 = k
          · have hT0 : T = ⟨#[]⟩ := by rw [← hT]; unfold tx2; rw [if_pos (by have := Hk.out; omega)]
            subst hT0
            have hfin : Hid (tx2 ps i = ⟨#[]⟩ ++ X) := Lib.hid (by
              rw [tx2_last ps i (by have := Hk.out; omega), hx, hX]
              exact bytes_ext (by simp))
            clear hX hx hT hc
            go_wp2_with fail
            refine HFmt.out.mono ?_
            rintro e w6 ⟨rfl, hb6⟩
            have HBd6 := Lib.hid (bd_below hbd.out hb6)
            have HBl6 := Lib.hid (hbl.out.trans (hb6.mono hbw))
            have hbw6 : b ≤ w6.heap.size := by have := HBl6.out.size; omega
            clear hb6 hbd hbl HFmt hcw
            go_wp2_with fail
            refine (len_any b b ⟨#[]⟩ w6 HBd6.out).mono ?_
            rintro e w7 ⟨rfl, rfl⟩
            have e0 : (⟨#[]⟩ : ByteArray).size = 0 := rfl
            rw [e0]
            go_wp2_with fail
            refine (ws_any b b ⟨#[]⟩ X _ HBd6.out (by rw [e0]; omega) hbw6).mono ?_
            rintro e w8 ⟨rfl, hbd8, hb8⟩
            have HBd8 : Hid (IsBd b b (tx2 ps i) w8) := Lib.hid (by rw [hfin.out]; exact hbd8)
            have HBl8 := Lib.hid (HBl6.out.trans hb8)
            clear hbd8 hb8 HBd6 HBl6
            go_wp2_with fail
            go_roundw
            case rel => first | exact ⟨i, by omega, by go_num, HBd8, HBl8⟩ | ((repeat apply Exists.intro); exact ⟨⟨i, by omega, by go_num, HBd8, HBl8⟩, rfl⟩)
            case measure => first | (simp [intOf]; done) | (simp [intOf]; omega)
          · have hTp : 0 < T.size := by
              rw [← hT]; unfold tx2
              rw [if_neg (by have := Hk.out; omega)]
              show 0 < (Lib.decDigits (pv (ps.drop (i + 1)))).toArray.size
              rw [List.size_toArray, Lib.decDigits_length]
              exact Lib.nDigits_pos _
            obtain ⟨p, hp⟩ : ∃ p, 19 - Lib.nDigits x = p := ⟨_, rfl⟩
            obtain ⟨P, hP⟩ : ∃ P : ByteArray, ⟨(Lib.repeatL [48] p).toArray⟩ = P := ⟨_, rfl⟩
            have hPs : P.size = p := by rw [← hP]; show (Lib.repeatL [48] p).toArray.size = p; rw [repeat_48]; simp
            have hfin : Hid (tx2 ps i = T ++ P ++ X) := Lib.hid (by
              rw [tx2_step ps i (by have := Hk.out; omega) hprt.out hlast.out, hT, hx, hX, hp, ← hP, repeat_48])
            have eP : (19 : Int) - (X.size : Int) = (p : Int) := by omega
            have hTpi : (0 : Int) < (T.size : Int) := by omega
            have HRep : Hid (∀ wx, Calls Tryz.prog 63 #[.string ⟨#[48]⟩, .int .i64 (p : Int)] wx fun e w' => e = .returned (.string P) ∧ Below wx.heap.size wx w') := Lib.hid (fun wx => by
              have h1 : (⟨#[48]⟩ : ByteArray).size = 1 := rfl
              have := Tryz.strings_Repeat ⟨#[48]⟩ p wx (by omega) (by rw [h1]; omega)
              refine this.mono ?_
              rintro e w' ⟨he, hb⟩
              exact ⟨by rw [he, ← hP], hb⟩)
            have hXs20 : X.size ≤ 19 := by omega
            have hPs20 : P.size ≤ 19 := by omega
            clear hX hx hT hc hP hp hPs hXs
            go_wp2_with fail
            refine HFmt.out.mono ?_
            rintro e w6 ⟨rfl, hb6⟩
            have HBd6 := Lib.hid (bd_below hbd.out hb6)
            have HBl6 := Lib.hid (hbl.out.trans (hb6.mono hbw))
            have hbw6 : b ≤ w6.heap.size := by have := HBl6.out.size; omega
            clear hb6 hbd hbl HFmt hcw
            go_wp2_with fail
            refine (len_any b b T w6 HBd6.out).mono ?_
            rintro e w7 ⟨rfl, rfl⟩
            go_wp2_with fail
            refine (HRep.out _).mono ?_
            rintro e w8 ⟨rfl, hb8⟩
            have HBd8 := Lib.hid (bd_below HBd6.out hb8)
            have HBl8 := Lib.hid (HBl6.out.trans (hb8.mono hbw6))
            have hbw8 : b ≤ w8.heap.size := by have := HBl8.out.size; omega
            clear hb8 HBd6 HBl6 HRep
            go_wp2_with fail
            refine (ws_any b b T P w8 HBd8.out (by omega) hbw8).mono ?_
            rintro e w9 ⟨rfl, hbd9, hb9⟩
            have HBd9 := Lib.hid hbd9
            have HBl9 := Lib.hid (HBl8.out.trans hb9)
            have hbw9 : b ≤ w9.heap.size := by have := HBl9.out.size; omega
            have hTP : (T ++ P).size = T.size + P.size := by simp
            clear hbd9 hb9 HBd8 HBl8
            go_wp2_with fail
            refine (ws_any b b (T ++ P) X w9 HBd9.out (by rw [hTP]; omega) hbw9).mono ?_
            rintro e w10 ⟨rfl, hbd10, hb10⟩
            have HBd10 : Hid (IsBd b b (tx2 ps i) w10) := Lib.hid (by rw [hfin.out]; exact hbd10)
            have HBl10 := Lib.hid (HBl9.out.trans hb10)
            clear hbd10 hb10 HBd9 HBl9
            go_wp2_with fail
            go_roundw
            case rel => first | exact ⟨i, by omega, by go_num, HBd10, HBl10⟩ | ((repeat apply Exists.intro); exact ⟨⟨i, by omega, by go_num, HBd10, HBl10⟩, rfl⟩)
            case measure => first | (simp [intOf]; done) | (simp [intOf]; omega)
theorem text_any (N : Nat) (v : Value) (w : World) (h : IsN w v N) (htab : Tab w) : Calls Tryz.prog 14 #[v] w (TextIs N w) := by
  obtain ⟨a, c, us, rfl, hc, hu, hw, hN, hl, hlast, hnil⟩ := h
  by_cases hne : us = []
  · obtain ⟨rfl, rfl⟩ := hnil hne
    subst hne
    rw [← hN]
    exact text_zero w
  · obtain ⟨ad, rfl⟩ : ∃ ad, a = some ad := by
      obtain ⟨ad, ha, _⟩ := hu 0 (List.length_pos_iff.2 hne)
      exact ⟨ad, ha⟩
    rw [← hN]
    exact text_pos ad c us w htab hu hw hl hne (hlast hne)
end Go.Proofs.YtllmacokhjmdgaaGreatDoor
