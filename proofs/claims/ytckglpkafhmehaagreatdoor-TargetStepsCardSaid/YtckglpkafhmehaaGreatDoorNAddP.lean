/-
  Law 1: the sum of two numbers.
  Law 1: a sum, the shorter number first.
  Law 1: words times a word, added to a part of a row.
-/
import Derived.Test.YtckglpkafhmehaaGreatDoorNSmall
import Derived.Deep.RegionHeld3
import Derived.Deep.RegionLaw
import Derived.StillTailTactics
namespace Go.Proofs.YtckglpkafhmehaaGreatDoor
open Go.RowKit
set_option linter.unusedVariables false
/-- What the loops keep: ps are the words that are done, c the carry. -/
structure Ad (us vs : List Nat) (k : Nat) (ps : List Nat) (c : Nat) : Prop where
  len : ps.length = k
  wrd : Wrd ps
  cle : c ≤ 1
  eq : wv ps + 18446744073709551616 ^ k * c = wv (us.take k) + wv (vs.take k)
theorem wv_take (vs : List Nat) (k : Nat) : wv (vs.take (k + 1)) = wv (vs.take k) + 18446744073709551616 ^ k * vs.getD k 0 := by
  by_cases h : k < vs.length
  · rw [take_succ_getD vs k h, wv_append, List.length_take, Nat.min_eq_left (by omega)]
    simp [wv]
  · rw [List.take_of_length_le (by omega), List.take_of_length_le (by omega), List.getD_eq_getElem?_getD, List.getElem?_eq_none (by omega)]
    simp
theorem ad_step {us vs ps : List Nat} {k c : Nat} (h : Ad us vs k ps c) (hx : us.getD k 0 < 18446744073709551616) (hy : vs.getD k 0 < 18446744073709551616) :
    Ad us vs (k + 1) (ps ++ [(us.getD k 0 + vs.getD k 0 + c) % 18446744073709551616]) ((us.getD k 0 + vs.getD k 0 + c) / 18446744073709551616) := by
  have hc := h.cle
  have he := h.eq
  have e1 := wv_take us k
  have e2 := wv_take vs k
  generalize us.getD k 0 = x at *
  generalize vs.getD k 0 = y at *
  refine ⟨by rw [List.length_append, h.len]; rfl, ?_, by omega, ?_⟩
  · intro u hu
    rcases List.mem_append.1 hu with hu | hu
    · exact h.wrd u hu
    · simp at hu; omega
  · rw [wv_append, h.len, e1, e2]
    have hd := Nat.div_add_mod (x + y + c) 18446744073709551616
    simp only [wv, Nat.mul_zero, Nat.add_zero]
    generalize (x + y + c) % 18446744073709551616 = lo at *
    generalize (x + y + c) / 18446744073709551616 = hi at *
    generalize hp : 18446744073709551616 ^ k = p at *
    have e3 : 18446744073709551616 ^ (k + 1) * hi = p * (18446744073709551616 * hi) := by rw [Nat.pow_succ, hp, Nat.mul_assoc]
    have e4 : p * (18446744073709551616 * hi) + p * lo = p * x + p * y + p * c := by rw [← Nat.mul_add, hd, Nat.mul_add, Nat.mul_add]
    rw [e3]
    omega
theorem ad_done {us vs ps : List Nat} {k : Nat} (h : Ad us vs k ps 0) (hk : k ≤ us.length) (hm : vs.length ≤ k) : wv (ps ++ us.drop k) = wv us + wv vs := by
  have he := h.eq
  rw [List.take_of_length_le hm, Nat.mul_zero, Nat.add_zero] at he
  have e : wv us = wv (us.take k ++ us.drop k) := by rw [List.take_append_drop]
  rw [wv_append, h.len, he, e, wv_append, List.length_take, Nat.min_eq_left hk]
  omega
theorem ad_over {us vs ps : List Nat} {k c : Nat} (h : Ad us vs k ps c) (hk : us.length ≤ k) (hm : vs.length ≤ k) : wv (ps ++ [c]) = wv us + wv vs := by
  have he := h.eq
  rw [List.take_of_length_le hm, List.take_of_length_le hk] at he
  rw [wv_append, h.len, ← he]
  simp [wv]
theorem step_app {ops : Array Oper} {o : Oper} {a : Act} {K : Act → World → Prop} {Q : Exit → Act → World → Prop} {E : Prop} (hgd : o.guard = none) (s x : Operand)
    (ho : o.op = .call { callee := .builtin .append, args := #[s, x], argTypes := #[29, 29] }) (B : Nat) (W : World) (v : Value) (us : List Nat) (ad : Addr) (c : Nat)
    (hs : a.eval s = v) (hown : OU B W v []) (hB : B ≤ W.heap.size) (hx : a.eval x = .slice (some ad) us.length c) (hnews : ∀ j u, (us.map uv)[j]? = some u → W.cell? (ad.add j) = some u) (hlen : us.length ≤ 10000)
    (h : ∀ v' W', OU B W' v' us → W.grownBy W' v.ownBlock → K (a.put o.dst v') W') :
    if Region.wanted o (yielded ops a.tmps) = true then Oper.wp Tryz.prog o a W K Q else E := by
  have hw : Region.wanted o (yielded ops a.tmps) = true := by simp [Region.wanted, hgd]
  rw [if_pos hw]
  obtain ⟨i0, hi, hz0, hz1, hz2⟩ := info_parts Tryz.infoU
  refine wp_append_own W s x 29 ho B 60 i0 (.int .u64 0) 1 8 Tryz.underlying29 hi hz0 hz1 hz2 rfl (by decide) v 0 [] hs hown ad us.length c (us.map uv) hx (by simp) hnews (uv_one us) (by unfold maxLen; omega) (by omega) hB ?_
  intro v' W' h1 h2 _
  exact h v' W' (by unfold OU; simpa using h1) h2
theorem trim_res (Bd b : Nat) (w0 W : World) (v : Value) (us : List Nat) (S : Nat) (ho : OU Bd W v us) (hb : Below w0.heap.size w0 W) (hbd : b < Bd) (hwb : w0.heap.size ≤ b) (hk : Blk W b 31 #[.slice none 0 0]) (hw : Wrd us) (hv : wv us = S) (hl : us.length ≤ 10000) :
    Calls Tryz.prog 51 #[v] W fun e w' => ∃ x y z, e = .returned (.agg #[.slice x y z]) ∧ Hid (Blk w' b 31 #[.slice none 0 0]) ∧ Hid (IsN (w'.setCell ⟨b, 0, none⟩ (.slice x y z)) (.agg #[.slice x y z]) S) ∧ Hid (Below w0.heap.size w0 (w'.setCell ⟨b, 0, none⟩ (.slice x y z))) ∧ Hid (Below W.heap.size W w') := by
  obtain ⟨a, cap, rfl, hcap, ha⟩ := ou_form ho
  have hur : UR W a us := by
    obtain ⟨a', c', he, _, h⟩ := ou_ur ho
    cases he
    exact h
  have hf : us = [] ∨ ∃ g, a = some ⟨g, 0, none⟩ ∧ Bd ≤ g := by
    rcases ha with h | ⟨g, h⟩
    · exact .inl h
    · subst h
      exact .inr ⟨g, rfl, (ou_block ho).1⟩
  refine (trim_any a cap us W hur (by omega) hcap).mono ?_
  rintro e w' ⟨rfl, hb'⟩
  obtain ⟨m, hm⟩ : ∃ m, tlen us us.length = m := ⟨_, rfl⟩
  have h1 := fun x => isN_trim ((hur.below hb' (Nat.le_refl _)).far (i := 0) hbd hf x) hw hcap hl
  rw [hv, hm] at h1
  rw [hm]
  have htvs : ∃ x y z, trimV a cap m = .slice x y z := by
    unfold trimV; split
    · exact ⟨_, _, _, rfl⟩
    · exact ⟨_, _, _, rfl⟩
  obtain ⟨x, y, z, hx⟩ := htvs
  rw [hx] at h1 ⊢
  have hlt := hk.lt
  have h0 : w0.heap.size ≤ W.heap.size := hb.size
  exact ⟨x, y, z, rfl, Lib.hid (hk.below hb' hlt), Lib.hid (h1 _), Lib.hid ((hb.trans (hb'.mono h0)).setCell (p := ⟨b, 0, none⟩) hwb _), Lib.hid hb'⟩
/-- The three boxes of a sum. -/
structure Bx (w W : World) (va vb vr : Value) : Prop where
  b1 : Blk W w.heap.size 31 #[va]
  b2 : Blk W (w.heap.size + 1) 31 #[vb]
  b3 : Blk W (w.heap.size + 1 + 1) 31 #[vr]
  bel : Below w.heap.size w W
theorem Bx.below {w W W' : World} {va vb vr : Value} {B : Nat} (h : Bx w W va vb vr) (hb : Below B W W') (hB : w.heap.size + 3 ≤ B) : Bx w W' va vb vr :=
  ⟨h.b1.below hb (by omega), h.b2.below hb (by omega), h.b3.below hb (by omega), h.bel.trans (hb.mono (by omega))⟩
def AddIs (S : Nat) (w : World) (e : Ending) (w' : World) : Prop := ∃ v, e = .returned v ∧ IsN w' v S ∧ Below w.heap.size w w'
set_option maxRecDepth 100000 in
set_option maxHeartbeats 4000000 in
theorem add_long (ad1 : Addr) (a2 : Option Addr) (c1 c2 : Nat) (us vs : List Nat) (w : World) (hu : UR w (some ad1) us) (hv : UR w a2 vs) (hwu : Wrd us) (hwv : Wrd vs) (hl : us.length ≤ 9000) (hne : us ≠ []) (hlen : vs.length ≤ us.length) :
    Calls Tryz.prog 36 #[.agg #[.slice (some ad1) us.length c1], .agg #[.slice a2 vs.length c2]] w (AddIs (wv us + wv vs) w) := by
  obtain ⟨i0, hi, hz0, hz1, hz2⟩ := info_parts Tryz.infoU
  obtain ⟨n, hn⟩ : ∃ n, us.length = n := ⟨_, rfl⟩
  obtain ⟨m, hm⟩ : ∃ m, vs.length = m := ⟨_, rfl⟩
  have Hn := Lib.hid hn; have Hm := Lib.hid hm
  have hn0 : 0 < n := by rw [← hn]; exact List.length_pos_iff.2 hne
  obtain ⟨W3, hW3⟩ : ∃ W3, ((w.alloc (.cells #[.slice (some ad1) us.length c1] 31)).alloc (.cells #[.slice a2 vs.length c2] 31)).alloc (.cells #[.slice none 0 0] 31) = W3 := ⟨_, rfl⟩
  have hbx : Bx w W3 (.slice (some ad1) us.length c1) (.slice a2 vs.length c2) (.slice none 0 0) := by
    rw [← hW3]
    have k1 := ((Blk.new w 31 #[.slice (some ad1) us.length c1]).alloc (.cells #[.slice a2 vs.length c2] 31)).alloc (.cells #[.slice none 0 0] 31)
    have k2 := (Blk.new (w.alloc (.cells #[.slice (some ad1) us.length c1] 31)) 31 #[.slice a2 vs.length c2]).alloc (.cells #[.slice none 0 0] 31)
    have k3 := Blk.new ((w.alloc (.cells #[.slice (some ad1) us.length c1] 31)).alloc (.cells #[.slice a2 vs.length c2] 31)) 31 #[.slice none 0 0]
    simp only [World.size_alloc] at k2 k3
    exact ⟨k1, k2, k3, (((Below.refl _ w).alloc (Nat.le_refl _) _).alloc (by simp) _).alloc (by simp; omega) _⟩
  have hsz3 : W3.heap.size = w.heap.size + 3 := by rw [← hW3]; simp
  rw [hn, hm] at hbx hW3 ⊢
  have hnm : m ≤ n := by omega
  have hn9 : n ≤ 9000 := by omega
  have HWu := Lib.hid hwu
  have HWv := Lib.hid hwv
  have hlt : ¬ (n : Int) < (m : Int) := by omega
  have Hbx := Lib.hid hbx
  have hwsz : w.heap.size ≤ W3.heap.size := by omega
  have Hu3 : Hid (UR W3 (some ad1) us) := Lib.hid (hu.below hbx.bel (Nat.le_refl _))
  have Hv3 : Hid (UR W3 a2 vs) := Lib.hid (hv.below hbx.bel (Nat.le_refl _))
  have q1 : W3.drew.cell? ⟨w.heap.size, 0, none⟩ = some (.slice (some ad1) n c1) := hbx.b1.cell 0
  have r1 : W3.cell? ⟨w.heap.size, 0, none⟩ = some (.slice (some ad1) n c1) := hbx.b1.cell 0
  have r2 : W3.cell? ⟨w.heap.size + 1, 0, none⟩ = some (.slice a2 m c2) := hbx.b2.cell 0
  obtain ⟨W4, hmk, hom, hgm⟩ := run_make_own (P := Tryz.prog) W3.drew (w.heap.size + 3) 29 60 i0 (.int .u64 0) 1 Tryz.underlying29 hi hz0 hz1 .i64 .i64 (n + 1) (by rw [hz2]; omega) (by unfold maxLen; omega) (by show w.heap.size + 3 ≤ W3.heap.size; omega)
  have ecap : ((n + 1 : Nat) : Int) = (n : Int) + 1 := by omega
  have edr : W3.drew.heap.size = w.heap.size + 3 := hsz3
  have ewr : IntKind.i64.wrap ((n : Int) + 1) = (n : Int) + 1 := IntWalk.i64_in _ ⟨by omega, by omega⟩
  rw [ecap, edr, ← ewr] at hmk
  clear ewr
  rw [edr] at hom
  have hb4 : Below (w.heap.size + 3) W3 W4 := ((Below.refl _ W3).drew).grown hgm (by show w.heap.size + 3 ≤ W3.heap.size; omega) (fun k hk => by cases hk)
  have hbx4 := hbx.below hb4 (Nat.le_refl _)
  have q2 : W4.cell? ⟨w.heap.size, 0, none⟩ = some (.slice (some ad1) n c1) := hbx4.b1.cell 0
  have hu4 : UR W4 (some ad1) us := Hu3.out.below hb4 (by omega)
  have Hnews : Hid (∀ (j : Nat) (x : Value), (us.map uv)[j]? = some x → W4.cell? (ad1.add j) = some x) := Lib.hid (fun j x hj => by
    rw [List.getElem?_map, Option.map_eq_some_iff] at hj
    obtain ⟨u, hu', rfl⟩ := hj
    obtain ⟨ad', hadx, hlt', hcl⟩ := hu4 j (List.getElem?_eq_some_iff.1 hu').1
    cases hadx
    rw [hcl, List.getD_eq_getElem?_getD, hu']
    rfl)
  have HO4 : Hid (OU (w.heap.size + 3) W4 (.slice (some ⟨w.heap.size + 3, 0, none⟩) 0 (n + 1)) []) := Lib.hid hom
  have Hb4 := Lib.hid hb4
  have hsz4 : w.heap.size + 3 ≤ W4.heap.size := by have := hb4.size; omega
  have HF : Hid (∀ W5 v', OU (w.heap.size + 3) W5 v' us → W4.grownBy W5 (Value.slice (some ⟨w.heap.size + 3, 0, none⟩) 0 (n + 1)).ownBlock → W5.cell? ⟨w.heap.size, 0, none⟩ = some (.slice (some ad1) n c1) ∧ Below (w.heap.size + 3) W3 W5) := Lib.hid (fun W5 v' h1 h2 => by
    have h3 : Below (w.heap.size + 3) W3 W5 := Hb4.out.grown h2 hsz4 (fun k hk => by
      have : w.heap.size + 3 = k := by simpa [Value.ownBlock] using hk
      omega)
    exact ⟨(Hbx.out.below h3 (Nat.le_refl _)).b1.cell 0, h3⟩)
  clear hbx hu hv hwu hwv hne hi hz0 hz1 hz2 hn hm hlen hgm hom hb4 hbx4 hu4
  go_enter Tryz.func36, Tryz.ntmps36
  go_wp2_with fail
  go_step3
  go_wp2_with fail
  go_region_held3 (fun w' => w'.cell? ⟨w.heap.size, 0, none⟩ = some (.slice (some ad1) n c1))
    (first | exact q1 | exact q2 | exact (HF.out _ _ ‹_› ‹_›).1 | go_keep)
    (first
      | (refine step_app (by rfl) (.tmp 23) (.tmp 25) (by rfl) (w.heap.size + 3) W4 _ us ad1 c1 (by rfl) HO4.out hsz4 (by rw [Hn.out]; rfl) Hnews.out (by rw [Hn.out]; omega) ?_; intro v5 W5 ho5 hg5))
  obtain ⟨hq5, hb5⟩ := HF.out W5 v5 ho5 hg5
  obtain ⟨g, hg, cap, hcap, hv5⟩ : ∃ g, v5.ownBlock = some g ∧ ∃ cap, n ≤ cap ∧ v5 = .slice (some ⟨g, 0, none⟩) n cap := by
    obtain ⟨a9, c9, h9, h10, h11⟩ := ou_form ho5
    rcases h11 with h | ⟨g, hg⟩
    · rw [h] at Hn; have := Hn.out; simp at this; omega
    · subst hg
      exact ⟨g, by rw [h9]; rfl, c9, by rw [← Hn.out]; exact h10, by rw [h9, Hn.out]⟩
  subst hv5
  have hrow0 : Hid (W5.ownsRow (w.heap.size + 3) 60 1 (.slice (some ⟨g, 0, none⟩) n cap) n (([] ++ us.drop 0).map uv)) := Lib.hid (by
    have := ho5
    unfold OU at this
    rw [Hn.out] at this
    simpa using this)
  have HAd0 : Hid (Ad us vs 0 [] 0) := Lib.hid ⟨rfl, fun u hu => by simp at hu, by omega, by simp [wv]⟩
  have HB5 : Hid (Below (w.heap.size + 3) W3 W5) := Lib.hid hb5
  have r25 : W5.cell? ⟨w.heap.size + 1, 0, none⟩ = some (.slice a2 m c2) := (Hbx.out.below hb5 (Nat.le_refl _)).b2.cell 0
  clear ho5 hg5 hg hb5 hmk HO4 Hnews Hb4 HF q1 q2 r1 r2 edr ecap
  go_wp2_with fail
  go_loopw [6, 30] (fun cv i wr => ∃ (k c : Nat) (ps : List Nat) (C : Int), k ≤ m ∧ i = .int .i64 (k : Int) ∧ cv = .int .u64 C ∧ Hid (C = (c : Int)) ∧ Hid (Ad us vs k ps c) ∧ Hid (wr.ownsRow (w.heap.size + 3) 60 1 (.slice (some ⟨g, 0, none⟩) n cap) n ((ps ++ us.drop k).map uv)) ∧ Hid (Below (w.heap.size + 3) W3 wr)) (fun _ i _ => m - (intOf i).toNat)
  case atStart => exact ⟨0, 0, [], 0, by omega, rfl, rfl, Lib.hid rfl, HAd0, hrow0, HB5⟩
  case round =>
    obtain ⟨k, c, ps, C, hk, rfl, rfl, hC, hA, hrow, hbel⟩ := hrel
    clear HAd0 hrow0 HB5
    by_cases hlt1 : k < m
    · have hkn : k < n := by omega
      have hku : k < us.length := by rw [Hn.out]; exact hkn
      have hkv : k < vs.length := by rw [Hm.out]; exact hlt1
      obtain ⟨ad2, rfl, hadl, hcv⟩ := Hv3.out k hkv
      have hcv' : wr.cell? (ad2.add k) = some (.int .u64 ((vs.getD k 0 : Nat) : Int)) := (hbel.out.cell (by rw [add_block]; omega)).trans hcv
      obtain ⟨x, hx⟩ : ∃ x, us.getD k 0 = x := ⟨_, rfl⟩
      obtain ⟨y, hy⟩ : ∃ y, vs.getD k 0 = y := ⟨_, rfl⟩
      have hxw : x < 18446744073709551616 := by rw [← hx, List.getD_eq_getElem?_getD, List.getElem?_eq_getElem hku]; exact HWu.out _ (List.getElem_mem _)
      have hyw : y < 18446744073709551616 := by rw [← hy, List.getD_eq_getElem?_getD, List.getElem?_eq_getElem hkv]; exact HWv.out _ (List.getElem_mem _)
      have hstep := ad_step hA.out (by rw [hx]; exact hxw) (by rw [hy]; exact hyw)
      rw [hx, hy] at hstep
      have hdrop := drop_get us k hku
      rw [hx] at hdrop
      have hlen : (ps ++ us.drop k).length = n := by rw [List.length_append, List.length_drop, hA.out.len, Hn.out]; omega
      have hcell := ou_cell hrow.out k (by omega)
      have hgx : (ps ++ us.drop k).getD k 0 = x := by
        rw [List.getD_eq_getElem?_getD, List.getElem?_append_right (by rw [hA.out.len]; omega), hA.out.len, hdrop]; simp
      rw [hgx, add_zero_off] at hcell
      obtain ⟨hbg, hgl, hfr⟩ := ou_block hrow.out
      have hfrk := hfr k hkn
      have hcle := hA.out.cle
      obtain ⟨X, hX⟩ : ∃ X : Int, (x : Int) = X := ⟨_, rfl⟩
      obtain ⟨Y, hY⟩ : ∃ Y : Int, (y : Int) = Y := ⟨_, rfl⟩
      obtain ⟨SM, hSM⟩ : ∃ SM : Int, (((x + y + c) % 18446744073709551616 : Nat) : Int) = SM := ⟨_, rfl⟩
      obtain ⟨C1, hC1⟩ : ∃ C1 : Int, (((x + y + c) / 18446744073709551616 : Nat) : Int) = C1 := ⟨_, rfl⟩
      have hadd : ∀ wx, (callFunc 66 #[.int .u64 X, .int .u64 Y, .int .u64 C]).run Tryz.prog wx = .ok (.value (.tuple #[.int .u64 SM, .int .u64 C1])) wx := fun wx => by
        have := run_add64c x y c hcle wx
        rw [hX, hY, hSM, hC1, ← hC.out] at this
        exact this
      have hrow2 : Hid ((wr.setCell ⟨g, k, none⟩ (.int .u64 SM)).ownsRow (w.heap.size + 3) 60 1 (.slice (some ⟨g, 0, none⟩) n cap) n (((ps ++ [(x + y + c) % 18446744073709551616]) ++ us.drop (k + 1)).map uv)) := Lib.hid (by
        have := ou_set hrow.out k ((x + y + c) % 18446744073709551616) hkn
        rw [hSM] at this
        have e : (ps ++ us.drop k).set k ((x + y + c) % 18446744073709551616) = (ps ++ [(x + y + c) % 18446744073709551616]) ++ us.drop (k + 1) := by
          rw [List.set_append_right _ _ (by rw [hA.out.len]; omega), hA.out.len, hdrop, Nat.sub_self]; simp
        rw [e] at this
        exact this)
      have hbel2 : Hid (Below (w.heap.size + 3) W3 (wr.setCell ⟨g, k, none⟩ (.int .u64 SM))) := Lib.hid (hbel.out.setCell (p := ⟨g, k, none⟩) hbg _)
      have HSt := Lib.hid hstep
      have HC1 := Lib.hid hC1.symm
      have hi0 : (0 : Int) ≤ (k : Int) := by omega
      have hi1 : (k : Int) < (m : Int) := by omega
      have hi2 : (k : Int) < (n : Int) := by omega
      rw [hX] at hcell
      rw [hy, hY] at hcv'
      clear hstep hdrop hlen hgx hfr hX hY hSM hC1 hx hy hxw hyw hrow hbel hA hC hcv
      go_wp2_with fail
      go_roundw
      case rel => exact ⟨k + 1, _, _, C1, by omega, by go_num, rfl, HC1, HSt, hrow2, hbel2⟩
      case measure => simp [intOf]; omega
    · obtain rfl : k = m := by omega
      have r26 : wr.cell? ⟨w.heap.size + 1, 0, none⟩ = some (.slice a2 k c2) := (Hbx.out.below hbel.out (Nat.le_refl _)).b2.cell 0
      clear r25 hlt hlt1 hq5
      go_wp2_with fail
      refine wp_label ?_
      go_wp2_with fail
      clear r26
      go_loopw [5, 6, 9] (fun ov cv iv wq => ∃ (k2 c2' : Nat) (ps2 : List Nat) (C2 : Int), k ≤ k2 ∧ k2 ≤ n ∧ ov = .slice (some ⟨g, 0, none⟩) n cap ∧ iv = .int .i64 (k2 : Int) ∧ cv = .int .u64 C2 ∧ Hid (C2 = (c2' : Int)) ∧ Hid (Ad us vs k2 ps2 c2') ∧ Hid (wq.ownsRow (w.heap.size + 3) 60 1 (.slice (some ⟨g, 0, none⟩) n cap) n ((ps2 ++ us.drop k2).map uv)) ∧ Hid (Below (w.heap.size + 3) W3 wq)) (fun _ _ iv _ => n - (intOf iv).toNat)
      case atStart => exact ⟨k, c, ps, C, Nat.le_refl _, hnm, rfl, rfl, rfl, hC, hA, hrow, hbel⟩
      case round =>
        clear hC hA hrow hbel
        obtain ⟨q, c, ps, C, hkq, hqn, rfl, rfl, rfl, hC, hA, hrow, hbel⟩ := hrel
        have hbx5 : Bx w wr (.slice (some ad1) n c1) (.slice a2 k c2) (.slice none 0 0) := Hbx.out.below hbel.out (Nat.le_refl _)
        have hlen : (ps ++ us.drop q).length = n := by rw [List.length_append, List.length_drop, hA.out.len, Hn.out]; omega
        have hou : OU (w.heap.size + 3) wr (.slice (some ⟨g, 0, none⟩) n cap) (ps ++ us.drop q) := by unfold OU; rw [hlen]; exact hrow.out
        by_cases hc0 : c = 0
        · have hCz : C = 0 := by rw [hC.out]; omega
          subst hCz
          have hval := ad_done (by have := hA.out; rw [hc0] at this; exact this) (by rw [Hn.out]; exact hqn) (by rw [Hm.out]; exact hkq)
          have hwr2 : Wrd (ps ++ us.drop q) := fun u hu => by
            rcases List.mem_append.1 hu with hu | hu
            · exact hA.out.wrd u hu
            · exact HWu.out u (List.mem_of_mem_drop hu)
          have HT := Lib.hid (trim_res (w.heap.size + 3) (w.heap.size + 1 + 1) w wr _ _ _ hou hbx5.bel (by omega) (by omega) hbx5.b3 hwr2 hval (by omega))
          clear hval hwr2 hou hlen hbx5 hbel hrow hA hC hc0
          go_wp2_with fail
          refine HT.out.mono ?_
          rintro e w5 ⟨x, y, z, rfl, hk5, hN5, hB5, _⟩
          have hk50 := hk5.out.cell 0; have hk5f := hk5.out.frozen 0
          simp only [List.getElem?_toArray, List.getElem?_cons_zero] at hk50
          clear HT
          go_wp2_with fail
          refine Exit.noGoto_ret .. |>.symm ▸ ?_
          refine bodyPost_ret (res_nat rfl _ _ (w.heap.size + 1 + 1) (.slice x y z) rfl (hk5.out.set_ 0 _)) rfl ?_
          exact ⟨_, rfl, hN5.out, hB5.out⟩
        · have hCz : (C == 0) = false := by simp; have := hC.out; omega
          have hcle := hA.out.cle
          by_cases hq : q < n
          · have hqu : q < us.length := by rw [Hn.out]; exact hq
            obtain ⟨x, hx⟩ : ∃ x, us.getD q 0 = x := ⟨_, rfl⟩
            have hy : vs.getD q 0 = 0 := by rw [List.getD_eq_getElem?_getD, List.getElem?_eq_none (by rw [Hm.out]; exact hkq)]; rfl
            have hxw : x < 18446744073709551616 := by rw [← hx, List.getD_eq_getElem?_getD, List.getElem?_eq_getElem hqu]; exact HWu.out _ (List.getElem_mem _)
            have hstep := ad_step hA.out (by rw [hx]; exact hxw) (by rw [hy]; omega)
            rw [hx, hy] at hstep
            have hdrop := drop_get us q hqu
            rw [hx] at hdrop
            have hcell := ou_cell hrow.out q (by omega)
            have hgx : (ps ++ us.drop q).getD q 0 = x := by
              rw [List.getD_eq_getElem?_getD, List.getElem?_append_right (by rw [hA.out.len]; omega), hA.out.len, hdrop]; simp
            rw [hgx, add_zero_off] at hcell
            obtain ⟨hbg, hgl, hfr⟩ := ou_block hrow.out
            have hfrk := hfr q hq
            obtain ⟨X, hX⟩ : ∃ X : Int, (x : Int) = X := ⟨_, rfl⟩
            obtain ⟨SM, hSM⟩ : ∃ SM : Int, (((x + 0 + c) % 18446744073709551616 : Nat) : Int) = SM := ⟨_, rfl⟩
            obtain ⟨C1, hC1⟩ : ∃ C1 : Int, (((x + 0 + c) / 18446744073709551616 : Nat) : Int) = C1 := ⟨_, rfl⟩
            have hadd : ∀ wx, (callFunc 66 #[.int .u64 X, .int .u64 0, .int .u64 C]).run Tryz.prog wx = .ok (.value (.tuple #[.int .u64 SM, .int .u64 C1])) wx := fun wx => by
              have := run_add64c x 0 c hcle wx
              rw [hX, hSM, hC1, ← hC.out] at this
              exact this
            have hrow2 : Hid ((wr.setCell ⟨g, q, none⟩ (.int .u64 SM)).ownsRow (w.heap.size + 3) 60 1 (.slice (some ⟨g, 0, none⟩) n cap) n (((ps ++ [(x + 0 + c) % 18446744073709551616]) ++ us.drop (q + 1)).map uv)) := Lib.hid (by
              have := ou_set hrow.out q ((x + 0 + c) % 18446744073709551616) hq
              rw [hSM] at this
              have e : (ps ++ us.drop q).set q ((x + 0 + c) % 18446744073709551616) = (ps ++ [(x + 0 + c) % 18446744073709551616]) ++ us.drop (q + 1) := by
                rw [List.set_append_right _ _ (by rw [hA.out.len]; omega), hA.out.len, hdrop, Nat.sub_self]; simp
              rw [e] at this
              exact this)
            have hbel2 : Hid (Below (w.heap.size + 3) W3 (wr.setCell ⟨g, q, none⟩ (.int .u64 SM))) := Lib.hid (hbel.out.setCell (p := ⟨g, q, none⟩) hbg _)
            have HSt := Lib.hid hstep
            have HC1 := Lib.hid hC1.symm
            have hi0 : (0 : Int) ≤ (q : Int) := by omega
            have hi2 : (q : Int) < (n : Int) := by omega
            have hi3 : ((q : Int) == (n : Int)) = false := by simp; omega
            rw [hX] at hcell
            clear hstep hdrop hlen hgx hfr hX hSM hC1 hx hy hxw hrow hbel hA hC hbx5 hou hc0 hcle
            go_wp2_with fail
            go_roundw
            case rel => exact ⟨q + 1, _, _, C1, by omega, by omega, rfl, by go_num, rfl, HC1, HSt, hrow2, hbel2⟩
            case measure => simp [intOf]; omega
          · obtain rfl : q = n := by omega
            have hdr : us.drop q = [] := List.drop_of_length_le (by rw [Hn.out]; exact Nat.le_refl _)
            have hval := ad_over hA.out (by rw [Hn.out]; exact Nat.le_refl _) (by rw [Hm.out]; exact hkq)
            have hwrd : Wrd (ps ++ [c]) := fun u hu => by
              rcases List.mem_append.1 hu with hu | hu
              · exact hA.out.wrd u hu
              · simp at hu; omega
            rw [hdr, List.append_nil] at hou
            have hpl := hA.out.len
            have hwB : w.heap.size + 3 ≤ wr.heap.size := by have := hbel.out.size; omega
            have HT : Hid (∀ v' W', OU (w.heap.size + 3) W' v' (ps ++ [c]) → Below (w.heap.size + 3) wr W' → Calls Tryz.prog 51 #[v'] W' fun e w' => ∃ x y z, e = .returned (.agg #[.slice x y z]) ∧ Hid (Blk w' (w.heap.size + 1 + 1) 31 #[.slice none 0 0]) ∧ Hid (IsN (w'.setCell ⟨w.heap.size + 1 + 1, 0, none⟩ (.slice x y z)) (.agg #[.slice x y z]) (wv us + wv vs)) ∧ Hid (Below w.heap.size w (w'.setCell ⟨w.heap.size + 1 + 1, 0, none⟩ (.slice x y z))) ∧ Hid (Below W'.heap.size W' w')) := Lib.hid (fun v' W' h1 h2 => by
              have hbx6 := hbx5.below h2 (Nat.le_refl _)
              exact trim_res (w.heap.size + 3) (w.heap.size + 1 + 1) w W' _ _ _ h1 hbx6.bel (by omega) (by omega) hbx6.b3 hwrd hval (by rw [List.length_append, hpl]; simp; omega))
            have hCe := hC.out
            have hi3 : ((q : Int) == (q : Int)) = true := by simp
            have Hps : Hid (ps.length ≤ 1000000) := Lib.hid (by omega)
            subst hCe
            clear hval hwrd hdr hlen hbx5 hbel hrow hA hC hc0 hcle hpl
            go_wp2_with (at_builtin; refine push_u rfl (.tmp 62) (.tmp 64) rfl (w.heap.size + 3) _ _ ps c rfl hou hwB _ rfl rfl Hps.out ?_)
            intro v' W' ho' _ hb'
            have HT2 := Lib.hid (HT.out v' W' ho' hb')
            obtain ⟨a2', c2', hv2, _⟩ := ou_form ho'
            obtain ⟨L, hL⟩ : ∃ L, (ps ++ [c]).length = L := ⟨_, rfl⟩
            rw [hL] at hv2
            subst hv2
            clear hL
            clear ho' hb' HT hou
            go_wp2_with fail
            refine HT2.out.mono ?_
            rintro e w5 ⟨x, y, z, rfl, hk5, hN5, hB5, _⟩
            have hk50 := hk5.out.cell 0; have hk5f := hk5.out.frozen 0
            simp only [List.getElem?_toArray, List.getElem?_cons_zero] at hk50
            clear HT2
            go_wp2_with fail
            refine Exit.noGoto_ret .. |>.symm ▸ ?_
            refine bodyPost_ret (res_nat rfl _ _ (w.heap.size + 1 + 1) (.slice x y z) rfl (hk5.out.set_ 0 _)) rfl ?_
            exact ⟨_, rfl, hN5.out, hB5.out⟩
end Go.Proofs.YtckglpkafhmehaaGreatDoor
namespace Go.Proofs.YtckglpkafhmehaaGreatDoor
open Go.RowKit
set_option linter.unusedVariables false
set_option maxRecDepth 100000 in
set_option maxHeartbeats 4000000 in
theorem add_swap (ad1 : Addr) (a2 : Option Addr) (c1 c2 : Nat) (us vs : List Nat) (w : World) (hu : UR w (some ad1) us) (hv : UR w a2 vs) (hwu : Wrd us) (hwv : Wrd vs) (hl : us.length ≤ 9000) (hne : us ≠ []) (hlen : vs.length < us.length) :
    Calls Tryz.prog 36 #[.agg #[.slice a2 vs.length c2], .agg #[.slice (some ad1) us.length c1]] w (AddIs (wv us + wv vs) w) := by
  obtain ⟨i0, hi, hz0, hz1, hz2⟩ := info_parts Tryz.infoU
  obtain ⟨n, hn⟩ : ∃ n, us.length = n := ⟨_, rfl⟩
  obtain ⟨m, hm⟩ : ∃ m, vs.length = m := ⟨_, rfl⟩
  have Hn := Lib.hid hn; have Hm := Lib.hid hm
  have hn0 : 0 < n := by rw [← hn]; exact List.length_pos_iff.2 hne
  obtain ⟨W0, hW0⟩ : ∃ W0, ((w.alloc (.cells #[.slice a2 vs.length c2] 31)).alloc (.cells #[.slice (some ad1) us.length c1] 31)).alloc (.cells #[.slice none 0 0] 31) = W0 := ⟨_, rfl⟩
  have hbx0 : Bx w W0 (.slice a2 vs.length c2) (.slice (some ad1) us.length c1) (.slice none 0 0) := by
    rw [← hW0]
    have k1 := ((Blk.new w 31 #[.slice a2 vs.length c2]).alloc (.cells #[.slice (some ad1) us.length c1] 31)).alloc (.cells #[.slice none 0 0] 31)
    have k2 := (Blk.new (w.alloc (.cells #[.slice a2 vs.length c2] 31)) 31 #[.slice (some ad1) us.length c1]).alloc (.cells #[.slice none 0 0] 31)
    have k3 := Blk.new ((w.alloc (.cells #[.slice a2 vs.length c2] 31)).alloc (.cells #[.slice (some ad1) us.length c1] 31)) 31 #[.slice none 0 0]
    simp only [World.size_alloc] at k2 k3
    exact ⟨k1, k2, k3, (((Below.refl _ w).alloc (Nat.le_refl _) _).alloc (by simp) _).alloc (by simp; omega) _⟩
  have hsz0 : W0.heap.size = w.heap.size + 3 := by rw [← hW0]; simp
  obtain ⟨W3, hW3⟩ : ∃ W3, (W0.setCell ⟨w.heap.size, 0, none⟩ (.slice (some ad1) us.length c1)).setCell ⟨w.heap.size + 1, 0, none⟩ (.slice a2 vs.length c2) = W3 := ⟨_, rfl⟩
  have hbx : Bx w W3 (.slice (some ad1) us.length c1) (.slice a2 vs.length c2) (.slice none 0 0) := by
    rw [← hW3]
    exact ⟨(hbx0.b1.set_ 0 _).far (p := ⟨w.heap.size + 1, 0, none⟩) (by show w.heap.size ≠ w.heap.size + 1; omega) _,
      (hbx0.b2.far (p := ⟨w.heap.size, 0, none⟩) (by show w.heap.size + 1 ≠ w.heap.size; omega) _).set_ 0 _,
      (hbx0.b3.far (p := ⟨w.heap.size, 0, none⟩) (by show w.heap.size + 1 + 1 ≠ w.heap.size; omega) _).far (p := ⟨w.heap.size + 1, 0, none⟩) (by show w.heap.size + 1 + 1 ≠ w.heap.size + 1; omega) _,
      (hbx0.bel.setCell (p := ⟨w.heap.size, 0, none⟩) (Nat.le_refl w.heap.size) _).setCell (p := ⟨w.heap.size + 1, 0, none⟩) (by show w.heap.size ≤ w.heap.size + 1; omega) _⟩
  have hsz3 : W3.heap.size = w.heap.size + 3 := by rw [← hW3, World.size_setCell, World.size_setCell]; exact hsz0
  rw [hn, hm] at hbx hbx0 hW3 hW0 ⊢
  have p1 : W0.cell? ⟨w.heap.size, 0, none⟩ = some (.slice a2 m c2) := hbx0.b1.cell 0
  have p2 : W0.cell? ⟨w.heap.size + 1, 0, none⟩ = some (.slice (some ad1) n c1) := hbx0.b2.cell 0
  have p3 : W0.frozen? ⟨w.heap.size, 0, none⟩ = false := hbx0.b1.frozen 0
  have p4 : W0.frozen? ⟨w.heap.size + 1, 0, none⟩ = false := hbx0.b2.frozen 0
  clear hbx0 hsz0
  have hnm : m ≤ n := by omega
  have hn9 : n ≤ 9000 := by omega
  have HWu := Lib.hid hwu
  have HWv := Lib.hid hwv
  have hlt : (m : Int) < (n : Int) := by omega
  have Hbx := Lib.hid hbx
  have hwsz : w.heap.size ≤ W3.heap.size := by omega
  have Hu3 : Hid (UR W3 (some ad1) us) := Lib.hid (hu.below hbx.bel (Nat.le_refl _))
  have Hv3 : Hid (UR W3 a2 vs) := Lib.hid (hv.below hbx.bel (Nat.le_refl _))
  have q1 : W3.drew.cell? ⟨w.heap.size, 0, none⟩ = some (.slice (some ad1) n c1) := hbx.b1.cell 0
  have r1 : W3.cell? ⟨w.heap.size, 0, none⟩ = some (.slice (some ad1) n c1) := hbx.b1.cell 0
  have r2 : W3.cell? ⟨w.heap.size + 1, 0, none⟩ = some (.slice a2 m c2) := hbx.b2.cell 0
  obtain ⟨W4, hmk, hom, hgm⟩ := run_make_own (P := Tryz.prog) W3.drew (w.heap.size + 3) 29 60 i0 (.int .u64 0) 1 Tryz.underlying29 hi hz0 hz1 .i64 .i64 (n + 1) (by rw [hz2]; omega) (by unfold maxLen; omega) (by show w.heap.size + 3 ≤ W3.heap.size; omega)
  have ecap : ((n + 1 : Nat) : Int) = (n : Int) + 1 := by omega
  have edr : W3.drew.heap.size = w.heap.size + 3 := hsz3
  have ewr : IntKind.i64.wrap ((n : Int) + 1) = (n : Int) + 1 := IntWalk.i64_in _ ⟨by omega, by omega⟩
  rw [ecap, edr, ← ewr] at hmk
  clear ewr
  rw [edr] at hom
  have hb4 : Below (w.heap.size + 3) W3 W4 := ((Below.refl _ W3).drew).grown hgm (by show w.heap.size + 3 ≤ W3.heap.size; omega) (fun k hk => by cases hk)
  have hbx4 := hbx.below hb4 (Nat.le_refl _)
  have q2 : W4.cell? ⟨w.heap.size, 0, none⟩ = some (.slice (some ad1) n c1) := hbx4.b1.cell 0
  have hu4 : UR W4 (some ad1) us := Hu3.out.below hb4 (by omega)
  have Hnews : Hid (∀ (j : Nat) (x : Value), (us.map uv)[j]? = some x → W4.cell? (ad1.add j) = some x) := Lib.hid (fun j x hj => by
    rw [List.getElem?_map, Option.map_eq_some_iff] at hj
    obtain ⟨u, hu', rfl⟩ := hj
    obtain ⟨ad', hadx, hlt', hcl⟩ := hu4 j (List.getElem?_eq_some_iff.1 hu').1
    cases hadx
    rw [hcl, List.getD_eq_getElem?_getD, hu']
    rfl)
  have HO4 : Hid (OU (w.heap.size + 3) W4 (.slice (some ⟨w.heap.size + 3, 0, none⟩) 0 (n + 1)) []) := Lib.hid hom
  have Hb4 := Lib.hid hb4
  have hsz4 : w.heap.size + 3 ≤ W4.heap.size := by have := hb4.size; omega
  have HF : Hid (∀ W5 v', OU (w.heap.size + 3) W5 v' us → W4.grownBy W5 (Value.slice (some ⟨w.heap.size + 3, 0, none⟩) 0 (n + 1)).ownBlock → W5.cell? ⟨w.heap.size, 0, none⟩ = some (.slice (some ad1) n c1) ∧ Below (w.heap.size + 3) W3 W5) := Lib.hid (fun W5 v' h1 h2 => by
    have h3 : Below (w.heap.size + 3) W3 W5 := Hb4.out.grown h2 hsz4 (fun k hk => by
      have : w.heap.size + 3 = k := by simpa [Value.ownBlock] using hk
      omega)
    exact ⟨(Hbx.out.below h3 (Nat.le_refl _)).b1.cell 0, h3⟩)
  clear hbx hu hv hwu hwv hne hi hz0 hz1 hz2 hn hm hlen hgm hom hb4 hbx4 hu4
  go_enter Tryz.func36, Tryz.ntmps36
  go_wp2_with fail
  go_step3
  go_wp2_with fail
  go_region_held3 (fun w' => w'.cell? ⟨w.heap.size, 0, none⟩ = some (.slice (some ad1) n c1))
    (first | exact q1 | exact q2 | exact (HF.out _ _ ‹_› ‹_›).1 | go_keep)
    (first
      | (refine step_app (by rfl) (.tmp 23) (.tmp 25) (by rfl) (w.heap.size + 3) W4 _ us ad1 c1 (by rfl) HO4.out hsz4 (by rw [Hn.out]; rfl) Hnews.out (by rw [Hn.out]; omega) ?_; intro v5 W5 ho5 hg5))
  obtain ⟨hq5, hb5⟩ := HF.out W5 v5 ho5 hg5
  obtain ⟨g, hg, cap, hcap, hv5⟩ : ∃ g, v5.ownBlock = some g ∧ ∃ cap, n ≤ cap ∧ v5 = .slice (some ⟨g, 0, none⟩) n cap := by
    obtain ⟨a9, c9, h9, h10, h11⟩ := ou_form ho5
    rcases h11 with h | ⟨g, hg⟩
    · rw [h] at Hn; have := Hn.out; simp at this; omega
    · subst hg
      exact ⟨g, by rw [h9]; rfl, c9, by rw [← Hn.out]; exact h10, by rw [h9, Hn.out]⟩
  subst hv5
  have hrow0 : Hid (W5.ownsRow (w.heap.size + 3) 60 1 (.slice (some ⟨g, 0, none⟩) n cap) n (([] ++ us.drop 0).map uv)) := Lib.hid (by
    have := ho5
    unfold OU at this
    rw [Hn.out] at this
    simpa using this)
  have HAd0 : Hid (Ad us vs 0 [] 0) := Lib.hid ⟨rfl, fun u hu => by simp at hu, by omega, by simp [wv]⟩
  have HB5 : Hid (Below (w.heap.size + 3) W3 W5) := Lib.hid hb5
  have r25 : W5.cell? ⟨w.heap.size + 1, 0, none⟩ = some (.slice a2 m c2) := (Hbx.out.below hb5 (Nat.le_refl _)).b2.cell 0
  clear ho5 hg5 hg hb5 hmk HO4 Hnews Hb4 HF q1 q2 r1 r2 edr ecap
  go_wp2_with fail
  go_loopw [6, 30] (fun cv i wr => ∃ (k c : Nat) (ps : List Nat) (C : Int), k ≤ m ∧ i = .int .i64 (k : Int) ∧ cv = .int .u64 C ∧ Hid (C = (c : Int)) ∧ Hid (Ad us vs k ps c) ∧ Hid (wr.ownsRow (w.heap.size + 3) 60 1 (.slice (some ⟨g, 0, none⟩) n cap) n ((ps ++ us.drop k).map uv)) ∧ Hid (Below (w.heap.size + 3) W3 wr)) (fun _ i _ => m - (intOf i).toNat)
  case atStart => exact ⟨0, 0, [], 0, by omega, rfl, rfl, Lib.hid rfl, HAd0, hrow0, HB5⟩
  case round =>
    obtain ⟨k, c, ps, C, hk, rfl, rfl, hC, hA, hrow, hbel⟩ := hrel
    clear HAd0 hrow0 HB5
    by_cases hlt1 : k < m
    · have hkn : k < n := by omega
      have hku : k < us.length := by rw [Hn.out]; exact hkn
      have hkv : k < vs.length := by rw [Hm.out]; exact hlt1
      obtain ⟨ad2, rfl, hadl, hcv⟩ := Hv3.out k hkv
      have hcv' : wr.cell? (ad2.add k) = some (.int .u64 ((vs.getD k 0 : Nat) : Int)) := (hbel.out.cell (by rw [add_block]; omega)).trans hcv
      obtain ⟨x, hx⟩ : ∃ x, us.getD k 0 = x := ⟨_, rfl⟩
      obtain ⟨y, hy⟩ : ∃ y, vs.getD k 0 = y := ⟨_, rfl⟩
      have hxw : x < 18446744073709551616 := by rw [← hx, List.getD_eq_getElem?_getD, List.getElem?_eq_getElem hku]; exact HWu.out _ (List.getElem_mem _)
      have hyw : y < 18446744073709551616 := by rw [← hy, List.getD_eq_getElem?_getD, List.getElem?_eq_getElem hkv]; exact HWv.out _ (List.getElem_mem _)
      have hstep := ad_step hA.out (by rw [hx]; exact hxw) (by rw [hy]; exact hyw)
      rw [hx, hy] at hstep
      have hdrop := drop_get us k hku
      rw [hx] at hdrop
      have hlen : (ps ++ us.drop k).length = n := by rw [List.length_append, List.length_drop, hA.out.len, Hn.out]; omega
      have hcell := ou_cell hrow.out k (by omega)
      have hgx : (ps ++ us.drop k).getD k 0 = x := by
        rw [List.getD_eq_getElem?_getD, List.getElem?_append_right (by rw [hA.out.len]; omega), hA.out.len, hdrop]; simp
      rw [hgx, add_zero_off] at hcell
      obtain ⟨hbg, hgl, hfr⟩ := ou_block hrow.out
      have hfrk := hfr k hkn
      have hcle := hA.out.cle
      obtain ⟨X, hX⟩ : ∃ X : Int, (x : Int) = X := ⟨_, rfl⟩
      obtain ⟨Y, hY⟩ : ∃ Y : Int, (y : Int) = Y := ⟨_, rfl⟩
      obtain ⟨SM, hSM⟩ : ∃ SM : Int, (((x + y + c) % 18446744073709551616 : Nat) : Int) = SM := ⟨_, rfl⟩
      obtain ⟨C1, hC1⟩ : ∃ C1 : Int, (((x + y + c) / 18446744073709551616 : Nat) : Int) = C1 := ⟨_, rfl⟩
      have hadd : ∀ wx, (callFunc 66 #[.int .u64 X, .int .u64 Y, .int .u64 C]).run Tryz.prog wx = .ok (.value (.tuple #[.int .u64 SM, .int .u64 C1])) wx := fun wx => by
        have := run_add64c x y c hcle wx
        rw [hX, hY, hSM, hC1, ← hC.out] at this
        exact this
      have hrow2 : Hid ((wr.setCell ⟨g, k, none⟩ (.int .u64 SM)).ownsRow (w.heap.size + 3) 60 1 (.slice (some ⟨g, 0, none⟩) n cap) n (((ps ++ [(x + y + c) % 18446744073709551616]) ++ us.drop (k + 1)).map uv)) := Lib.hid (by
        have := ou_set hrow.out k ((x + y + c) % 18446744073709551616) hkn
        rw [hSM] at this
        have e : (ps ++ us.drop k).set k ((x + y + c) % 18446744073709551616) = (ps ++ [(x + y + c) % 18446744073709551616]) ++ us.drop (k + 1) := by
          rw [List.set_append_right _ _ (by rw [hA.out.len]; omega), hA.out.len, hdrop, Nat.sub_self]; simp
        rw [e] at this
        exact this)
      have hbel2 : Hid (Below (w.heap.size + 3) W3 (wr.setCell ⟨g, k, none⟩ (.int .u64 SM))) := Lib.hid (hbel.out.setCell (p := ⟨g, k, none⟩) hbg _)
      have HSt := Lib.hid hstep
      have HC1 := Lib.hid hC1.symm
      have hi0 : (0 : Int) ≤ (k : Int) := by omega
      have hi1 : (k : Int) < (m : Int) := by omega
      have hi2 : (k : Int) < (n : Int) := by omega
      rw [hX] at hcell
      rw [hy, hY] at hcv'
      clear hstep hdrop hlen hgx hfr hX hY hSM hC1 hx hy hxw hyw hrow hbel hA hC hcv
      go_wp2_with fail
      go_roundw
      case rel => exact ⟨k + 1, _, _, C1, by omega, by go_num, rfl, HC1, HSt, hrow2, hbel2⟩
      case measure => simp [intOf]; omega
    · obtain rfl : k = m := by omega
      have r26 : wr.cell? ⟨w.heap.size + 1, 0, none⟩ = some (.slice a2 k c2) := (Hbx.out.below hbel.out (Nat.le_refl _)).b2.cell 0
      clear r25 hlt hlt1 hq5
      go_wp2_with fail
      refine wp_label ?_
      go_wp2_with fail
      clear r26
      go_loopw [5, 6, 9] (fun ov cv iv wq => ∃ (k2 c2' : Nat) (ps2 : List Nat) (C2 : Int), k ≤ k2 ∧ k2 ≤ n ∧ ov = .slice (some ⟨g, 0, none⟩) n cap ∧ iv = .int .i64 (k2 : Int) ∧ cv = .int .u64 C2 ∧ Hid (C2 = (c2' : Int)) ∧ Hid (Ad us vs k2 ps2 c2') ∧ Hid (wq.ownsRow (w.heap.size + 3) 60 1 (.slice (some ⟨g, 0, none⟩) n cap) n ((ps2 ++ us.drop k2).map uv)) ∧ Hid (Below (w.heap.size + 3) W3 wq)) (fun _ _ iv _ => n - (intOf iv).toNat)
      case atStart => exact ⟨k, c, ps, C, Nat.le_refl _, hnm, rfl, rfl, rfl, hC, hA, hrow, hbel⟩
      case round =>
        clear hC hA hrow hbel
        obtain ⟨q, c, ps, C, hkq, hqn, rfl, rfl, rfl, hC, hA, hrow, hbel⟩ := hrel
        have hbx5 : Bx w wr (.slice (some ad1) n c1) (.slice a2 k c2) (.slice none 0 0) := Hbx.out.below hbel.out (Nat.le_refl _)
        have hlen : (ps ++ us.drop q).length = n := by rw [List.length_append, List.length_drop, hA.out.len, Hn.out]; omega
        have hou : OU (w.heap.size + 3) wr (.slice (some ⟨g, 0, none⟩) n cap) (ps ++ us.drop q) := by unfold OU; rw [hlen]; exact hrow.out
        by_cases hc0 : c = 0
        · have hCz : C = 0 := by rw [hC.out]; omega
          subst hCz
          have hval := ad_done (by have := hA.out; rw [hc0] at this; exact this) (by rw [Hn.out]; exact hqn) (by rw [Hm.out]; exact hkq)
          have hwr2 : Wrd (ps ++ us.drop q) := fun u hu => by
            rcases List.mem_append.1 hu with hu | hu
            · exact hA.out.wrd u hu
            · exact HWu.out u (List.mem_of_mem_drop hu)
          have HT := Lib.hid (trim_res (w.heap.size + 3) (w.heap.size + 1 + 1) w wr _ _ _ hou hbx5.bel (by omega) (by omega) hbx5.b3 hwr2 hval (by omega))
          clear hval hwr2 hou hlen hbx5 hbel hrow hA hC hc0
          go_wp2_with fail
          refine HT.out.mono ?_
          rintro e w5 ⟨x, y, z, rfl, hk5, hN5, hB5, _⟩
          have hk50 := hk5.out.cell 0; have hk5f := hk5.out.frozen 0
          simp only [List.getElem?_toArray, List.getElem?_cons_zero] at hk50
          clear HT
          go_wp2_with fail
          refine Exit.noGoto_ret .. |>.symm ▸ ?_
          refine bodyPost_ret (res_nat rfl _ _ (w.heap.size + 1 + 1) (.slice x y z) rfl (hk5.out.set_ 0 _)) rfl ?_
          exact ⟨_, rfl, hN5.out, hB5.out⟩
        · have hCz : (C == 0) = false := by simp; have := hC.out; omega
          have hcle := hA.out.cle
          by_cases hq : q < n
          · have hqu : q < us.length := by rw [Hn.out]; exact hq
            obtain ⟨x, hx⟩ : ∃ x, us.getD q 0 = x := ⟨_, rfl⟩
            have hy : vs.getD q 0 = 0 := by rw [List.getD_eq_getElem?_getD, List.getElem?_eq_none (by rw [Hm.out]; exact hkq)]; rfl
            have hxw : x < 18446744073709551616 := by rw [← hx, List.getD_eq_getElem?_getD, List.getElem?_eq_getElem hqu]; exact HWu.out _ (List.getElem_mem _)
            have hstep := ad_step hA.out (by rw [hx]; exact hxw) (by rw [hy]; omega)
            rw [hx, hy] at hstep
            have hdrop := drop_get us q hqu
            rw [hx] at hdrop
            have hcell := ou_cell hrow.out q (by omega)
            have hgx : (ps ++ us.drop q).getD q 0 = x := by
              rw [List.getD_eq_getElem?_getD, List.getElem?_append_right (by rw [hA.out.len]; omega), hA.out.len, hdrop]; simp
            rw [hgx, add_zero_off] at hcell
            obtain ⟨hbg, hgl, hfr⟩ := ou_block hrow.out
            have hfrk := hfr q hq
            obtain ⟨X, hX⟩ : ∃ X : Int, (x : Int) = X := ⟨_, rfl⟩
            obtain ⟨SM, hSM⟩ : ∃ SM : Int, (((x + 0 + c) % 18446744073709551616 : Nat) : Int) = SM := ⟨_, rfl⟩
            obtain ⟨C1, hC1⟩ : ∃ C1 : Int, (((x + 0 + c) / 18446744073709551616 : Nat) : Int) = C1 := ⟨_, rfl⟩
            have hadd : ∀ wx, (callFunc 66 #[.int .u64 X, .int .u64 0, .int .u64 C]).run Tryz.prog wx = .ok (.value (.tuple #[.int .u64 SM, .int .u64 C1])) wx := fun wx => by
              have := run_add64c x 0 c hcle wx
              rw [hX, hSM, hC1, ← hC.out] at this
              exact this
            have hrow2 : Hid ((wr.setCell ⟨g, q, none⟩ (.int .u64 SM)).ownsRow (w.heap.size + 3) 60 1 (.slice (some ⟨g, 0, none⟩) n cap) n (((ps ++ [(x + 0 + c) % 18446744073709551616]) ++ us.drop (q + 1)).map uv)) := Lib.hid (by
              have := ou_set hrow.out q ((x + 0 + c) % 18446744073709551616) hq
              rw [hSM] at this
              have e : (ps ++ us.drop q).set q ((x + 0 + c) % 18446744073709551616) = (ps ++ [(x + 0 + c) % 18446744073709551616]) ++ us.drop (q + 1) := by
                rw [List.set_append_right _ _ (by rw [hA.out.len]; omega), hA.out.len, hdrop, Nat.sub_self]; simp
              rw [e] at this
              exact this)
            have hbel2 : Hid (Below (w.heap.size + 3) W3 (wr.setCell ⟨g, q, none⟩ (.int .u64 SM))) := Lib.hid (hbel.out.setCell (p := ⟨g, q, none⟩) hbg _)
            have HSt := Lib.hid hstep
            have HC1 := Lib.hid hC1.symm
            have hi0 : (0 : Int) ≤ (q : Int) := by omega
            have hi2 : (q : Int) < (n : Int) := by omega
            have hi3 : ((q : Int) == (n : Int)) = false := by simp; omega
            rw [hX] at hcell
            clear hstep hdrop hlen hgx hfr hX hSM hC1 hx hy hxw hrow hbel hA hC hbx5 hou hc0 hcle
            go_wp2_with fail
            go_roundw
            case rel => exact ⟨q + 1, _, _, C1, by omega, by omega, rfl, by go_num, rfl, HC1, HSt, hrow2, hbel2⟩
            case measure => simp [intOf]; omega
          · obtain rfl : q = n := by omega
            have hdr : us.drop q = [] := List.drop_of_length_le (by rw [Hn.out]; exact Nat.le_refl _)
            have hval := ad_over hA.out (by rw [Hn.out]; exact Nat.le_refl _) (by rw [Hm.out]; exact hkq)
            have hwrd : Wrd (ps ++ [c]) := fun u hu => by
              rcases List.mem_append.1 hu with hu | hu
              · exact hA.out.wrd u hu
              · simp at hu; omega
            rw [hdr, List.append_nil] at hou
            have hpl := hA.out.len
            have hwB : w.heap.size + 3 ≤ wr.heap.size := by have := hbel.out.size; omega
            have HT : Hid (∀ v' W', OU (w.heap.size + 3) W' v' (ps ++ [c]) → Below (w.heap.size + 3) wr W' → Calls Tryz.prog 51 #[v'] W' fun e w' => ∃ x y z, e = .returned (.agg #[.slice x y z]) ∧ Hid (Blk w' (w.heap.size + 1 + 1) 31 #[.slice none 0 0]) ∧ Hid (IsN (w'.setCell ⟨w.heap.size + 1 + 1, 0, none⟩ (.slice x y z)) (.agg #[.slice x y z]) (wv us + wv vs)) ∧ Hid (Below w.heap.size w (w'.setCell ⟨w.heap.size + 1 + 1, 0, none⟩ (.slice x y z))) ∧ Hid (Below W'.heap.size W' w')) := Lib.hid (fun v' W' h1 h2 => by
              have hbx6 := hbx5.below h2 (Nat.le_refl _)
              exact trim_res (w.heap.size + 3) (w.heap.size + 1 + 1) w W' _ _ _ h1 hbx6.bel (by omega) (by omega) hbx6.b3 hwrd hval (by rw [List.length_append, hpl]; simp; omega))
            have hCe := hC.out
            have hi3 : ((q : Int) == (q : Int)) = true := by simp
            have Hps : Hid (ps.length ≤ 1000000) := Lib.hid (by omega)
            subst hCe
            clear hval hwrd hdr hlen hbx5 hbel hrow hA hC hc0 hcle hpl
            go_wp2_with (at_builtin; refine push_u rfl (.tmp 62) (.tmp 64) rfl (w.heap.size + 3) _ _ ps c rfl hou hwB _ rfl rfl Hps.out ?_)
            intro v' W' ho' _ hb'
            have HT2 := Lib.hid (HT.out v' W' ho' hb')
            obtain ⟨a2', c2', hv2, _⟩ := ou_form ho'
            obtain ⟨L, hL⟩ : ∃ L, (ps ++ [c]).length = L := ⟨_, rfl⟩
            rw [hL] at hv2
            subst hv2
            clear hL
            clear ho' hb' HT hou
            go_wp2_with fail
            refine HT2.out.mono ?_
            rintro e w5 ⟨x, y, z, rfl, hk5, hN5, hB5, _⟩
            have hk50 := hk5.out.cell 0; have hk5f := hk5.out.frozen 0
            simp only [List.getElem?_toArray, List.getElem?_cons_zero] at hk50
            clear HT2
            go_wp2_with fail
            refine Exit.noGoto_ret .. |>.symm ▸ ?_
            refine bodyPost_ret (res_nat rfl _ _ (w.heap.size + 1 + 1) (.slice x y z) rfl (hk5.out.set_ 0 _)) rfl ?_
            exact ⟨_, rfl, hN5.out, hB5.out⟩
end Go.Proofs.YtckglpkafhmehaaGreatDoor
namespace Go.Proofs.YtckglpkafhmehaaGreatDoor
open Go.RowKit
set_option linter.unusedVariables false
/-- What the loop keeps: ps are the words that are done, c the carry. -/
structure Ap (zs vs : List Nat) (b k : Nat) (ps : List Nat) (c : Nat) : Prop where
  len : ps.length = k
  wrd : Wrd ps
  clt : c < 18446744073709551616
  eq : wv ps + 18446744073709551616 ^ k * c = wv (zs.take k) + wv (vs.take k) * b
theorem mul_top {y b c x : Nat} (hy : y < 18446744073709551616) (hb : b < 18446744073709551616) (hc : c < 18446744073709551616) (hx : x < 18446744073709551616) : y * b + c + x ≤ 340282366920938463463374607431768211455 := by
  have h1 : y * b ≤ 18446744073709551615 * 18446744073709551615 := Nat.mul_le_mul (by omega) (by omega)
  omega
theorem ap_step {zs vs ps : List Nat} {b k c : Nat} (h : Ap zs vs b k ps c) (hb : b < 18446744073709551616) (hx : zs.getD k 0 < 18446744073709551616) (hy : vs.getD k 0 < 18446744073709551616) :
    Ap zs vs b (k + 1) (ps ++ [(vs.getD k 0 * b + c + zs.getD k 0) % 18446744073709551616]) ((vs.getD k 0 * b + c + zs.getD k 0) / 18446744073709551616) := by
  have hc := h.clt
  have he := h.eq
  have e1 := wv_take zs k
  have e2 := wv_take vs k
  generalize zs.getD k 0 = x at *
  generalize vs.getD k 0 = y at *
  have hm := mul_top hy hb hc hx
  refine ⟨by rw [List.length_append, h.len]; rfl, ?_, by omega, ?_⟩
  · intro u hu
    rcases List.mem_append.1 hu with hu | hu
    · exact h.wrd u hu
    · simp at hu; omega
  · rw [wv_append, h.len, e1, e2]
    have hd := Nat.div_add_mod (y * b + c + x) 18446744073709551616
    simp only [wv, Nat.mul_zero, Nat.add_zero]
    generalize (y * b + c + x) % 18446744073709551616 = lo at *
    generalize (y * b + c + x) / 18446744073709551616 = hi at *
    generalize hp : 18446744073709551616 ^ k = p at *
    have e3 : 18446744073709551616 ^ (k + 1) * hi = p * (18446744073709551616 * hi) := by rw [Nat.pow_succ, hp, Nat.mul_assoc]
    have e4 : p * (18446744073709551616 * hi) + p * lo = p * (y * b) + p * c + p * x := by rw [← Nat.mul_add, hd, Nat.mul_add, Nat.mul_add]
    have e5 : (wv (vs.take k) + p * y) * b = wv (vs.take k) * b + p * (y * b) := by rw [Nat.add_mul, Nat.mul_assoc]
    rw [e3, e5]
    omega
theorem mid_get {A ps xs : List Nat} {i k : Nat} (hA : A.length = i) (hp : ps.length = k) : (A ++ ps ++ xs.drop (i + k)).getD (i + k) 0 = xs.getD (i + k) 0 := by
  have hl : (A ++ ps).length = i + k := by rw [List.length_append]; omega
  rw [List.getD_eq_getElem?_getD, List.getElem?_append_right (by omega), hl, Nat.sub_self, List.getElem?_drop, List.getD_eq_getElem?_getD]
  rfl
theorem mid_set {A ps xs : List Nat} {i k : Nat} (hA : A.length = i) (hp : ps.length = k) (hk : i + k < xs.length) (v : Nat) : (A ++ ps ++ xs.drop (i + k)).set (i + k) v = A ++ (ps ++ [v]) ++ xs.drop (i + (k + 1)) := by
  have hl : (A ++ ps).length = i + k := by rw [List.length_append]; omega
  rw [List.set_append_right _ _ (by omega), hl, Nat.sub_self, List.drop_eq_getElem_cons hk]
  simp only [List.set_cons_zero, List.append_assoc, List.cons_append, List.nil_append, Nat.add_assoc]
theorem add_off (g i k : Nat) : (⟨g, i, none⟩ : Addr).add k = ⟨g, i + k, none⟩ := by
  cases k with
  | zero => rfl
  | succ k => simp [Addr.add]
def AddPIs (B : Nat) (g n cap : Nat) (xs vs : List Nat) (i b : Nat) (w : World) (e : Ending) (w' : World) : Prop :=
  ∃ (c : Nat) (ys : List Nat), e = .returned (.int .u64 (c : Int)) ∧ Ap (xs.drop i) vs b vs.length ys c ∧ w'.ownsRow B 60 1 (.slice (some ⟨g, 0, none⟩) n cap) n ((xs.take i ++ ys ++ xs.drop (i + vs.length)).map uv) ∧ Below B w w'
set_option maxRecDepth 100000 in
set_option maxHeartbeats 2000000 in
theorem addp_any (B g n cap cc : Nat) (xs vs : List Nat) (a2 : Option Addr) (c2 i b : Nat) (w : World) (hr : w.ownsRow B 60 1 (.slice (some ⟨g, 0, none⟩) n cap) n (xs.map uv)) (hwx : Wrd xs) (hwv : Wrd vs) (hb : b < 18446744073709551616)
    (hv : ∀ k, k < vs.length → ∃ ad, a2 = some ad ∧ ad.block < B ∧ w.cell? (ad.add k) = some (.int .u64 ((vs.getD k 0 : Nat) : Int))) (hi : i + vs.length ≤ n) (hl : vs.length ≤ 10000) :
    Calls Tryz.prog 67 #[.slice (some ⟨g, i, none⟩) vs.length cc, .slice a2 vs.length c2, .int .u64 (b : Int)] w (AddPIs B g n cap xs vs i b w) := by
  obtain ⟨m, hm⟩ : ∃ m, vs.length = m := ⟨_, rfl⟩
  have hxl : xs.length = n := by have := hr.1; rw [List.length_map] at this; omega
  have Hm := Lib.hid hm; have HWx := Lib.hid hwx; have HWv := Lib.hid hwv; have Hb := Lib.hid hb; have Hxl := Lib.hid hxl
  have Hv := Lib.hid hv
  have HF : Hid (∀ w' c ys, Ap (xs.drop i) vs b vs.length ys c → w'.ownsRow B 60 1 (.slice (some ⟨g, 0, none⟩) n cap) n ((xs.take i ++ ys ++ xs.drop (i + vs.length)).map uv) → Below B w w' → AddPIs B g n cap xs vs i b w (.returned (.int .u64 (c : Int))) w') := Lib.hid (fun w' c ys h1 h2 h3 => ⟨c, ys, rfl, h1, h2, h3⟩)
  have HAt : Hid ((xs.take i).length = i) := Lib.hid (by rw [List.length_take]; omega)
  have H0 : Hid (Ap (xs.drop i) vs b 0 [] 0) := Lib.hid ⟨rfl, fun u hu => by simp at hu, by omega, by simp [wv]⟩
  have Hr : Hid (w.ownsRow B 60 1 (.slice (some ⟨g, 0, none⟩) n cap) n ((xs.take i ++ [] ++ xs.drop (i + 0)).map uv)) := Lib.hid (by rw [List.append_nil, Nat.add_zero, List.take_append_drop]; exact hr)
  have HB0 : Hid (Below B w w) := Lib.hid (Below.refl _ _)
  obtain ⟨ad, had⟩ : ∃ ad : Addr, (⟨g, i, none⟩ : Addr) = ad := ⟨_, rfl⟩
  have Had := Lib.hid had
  obtain ⟨BY, hBY⟩ : ∃ BY : Int, (b : Int) = BY := ⟨_, rfl⟩
  have HBY := Lib.hid hBY
  rw [hm] at hl hi ⊢
  rw [had, hBY]
  clear hr hwx hwv hb hv hm had hBY hxl
  go_enter Tryz.func67, Tryz.ntmps67
  go_wp2_with fail
  go_loopw [7, 15] (fun cv iv wr => ∃ (k c : Nat) (ps : List Nat) (C : Int), k ≤ m ∧ iv = .int .i64 (k : Int) ∧ cv = .int .u64 C ∧ Hid (C = (c : Int)) ∧ Hid (Ap (xs.drop i) vs b k ps c) ∧ Hid (wr.ownsRow B 60 1 (.slice (some ⟨g, 0, none⟩) n cap) n ((xs.take i ++ ps ++ xs.drop (i + k)).map uv)) ∧ Hid (Below B w wr)) (fun _ iv _ => m - (intOf iv).toNat)
  case atStart => exact ⟨0, 0, [], 0, by omega, rfl, rfl, Lib.hid rfl, H0, Hr, HB0⟩
  case round =>
    obtain ⟨k, c, ps, C, hk, rfl, rfl, hC, hA, hrow, hbel⟩ := hrel
    clear H0 Hr HB0
    by_cases hlt : k < m
    · have hkn : i + k < n := by omega
      have hkx : i + k < xs.length := by rw [Hxl.out]; exact hkn
      have hkv : k < vs.length := by rw [Hm.out]; exact hlt
      obtain ⟨ad2, rfl, hadl, hcv⟩ := Hv.out k hkv
      have hcv' : wr.cell? (ad2.add k) = some (.int .u64 ((vs.getD k 0 : Nat) : Int)) := (hbel.out.cell (by rw [add_block]; exact hadl)).trans hcv
      obtain ⟨x, hx⟩ : ∃ x, (xs.drop i).getD k 0 = x := ⟨_, rfl⟩
      obtain ⟨y, hy⟩ : ∃ y, vs.getD k 0 = y := ⟨_, rfl⟩
      have hx' : xs.getD (i + k) 0 = x := by rw [← hx, List.getD_eq_getElem?_getD, List.getD_eq_getElem?_getD, List.getElem?_drop]
      have hxw : x < 18446744073709551616 := by rw [← hx', List.getD_eq_getElem?_getD, List.getElem?_eq_getElem hkx]; exact HWx.out _ (List.getElem_mem _)
      have hyw : y < 18446744073709551616 := by rw [← hy, List.getD_eq_getElem?_getD, List.getElem?_eq_getElem hkv]; exact HWv.out _ (List.getElem_mem _)
      have hstep := ap_step hA.out Hb.out (by rw [hx]; exact hxw) (by rw [hy]; exact hyw)
      rw [hx, hy] at hstep
      have hcell := ou_cell hrow.out (i + k) (by rw [List.length_append, List.length_append, HAt.out, hA.out.len, List.length_drop]; omega)
      rw [mid_get HAt.out hA.out.len, hx', add_zero_off] at hcell
      have hsp : (⟨g, i + k, none⟩ : Addr) = ad.add k := by rw [← Had.out, add_off]
      obtain ⟨hbg, hgl, hfr⟩ := ou_block hrow.out
      have hfrk := hfr (i + k) hkn
      have hset := ou_set hrow.out (i + k) ((y * b + c + x) % 18446744073709551616) hkn
      rw [mid_set HAt.out hA.out.len hkx] at hset
      have hbel2 := hbel.out.setCell (p := ⟨g, i + k, none⟩) hbg (.int .u64 (((y * b + c + x) % 18446744073709551616 : Nat) : Int))
      rw [hsp] at hcell hfrk hset hbel2
      have hclt := hA.out.clt
      have htop := mul_top hyw Hb.out hclt hxw
      have hdiv := Nat.div_add_mod (y * b) 18446744073709551616
      obtain ⟨X, hX⟩ : ∃ X : Int, (x : Int) = X := ⟨_, rfl⟩
      obtain ⟨Y, hY⟩ : ∃ Y : Int, (y : Int) = Y := ⟨_, rfl⟩
      obtain ⟨HI, hHI⟩ : ∃ HI : Int, ((y * b / 18446744073709551616 : Nat) : Int) = HI := ⟨_, rfl⟩
      obtain ⟨LO, hLO⟩ : ∃ LO : Int, ((y * b % 18446744073709551616 : Nat) : Int) = LO := ⟨_, rfl⟩
      obtain ⟨L2, hL2⟩ : ∃ L2 : Int, (((y * b + c) % 18446744073709551616 : Nat) : Int) = L2 := ⟨_, rfl⟩
      obtain ⟨O1, hO1⟩ : ∃ O1 : Int, (((y * b % 18446744073709551616 + c) / 18446744073709551616 : Nat) : Int) = O1 := ⟨_, rfl⟩
      obtain ⟨SM, hSM⟩ : ∃ SM : Int, (((y * b + c + x) % 18446744073709551616 : Nat) : Int) = SM := ⟨_, rfl⟩
      obtain ⟨O2, hO2⟩ : ∃ O2 : Int, (((x + (y * b + c) % 18446744073709551616) / 18446744073709551616 : Nat) : Int) = O2 := ⟨_, rfl⟩
      obtain ⟨H2, hH2⟩ : ∃ H2 : Int, (((y * b + c) / 18446744073709551616 : Nat) : Int) = H2 := ⟨_, rfl⟩
      obtain ⟨C1, hC1⟩ : ∃ C1 : Int, (((y * b + c + x) / 18446744073709551616 : Nat) : Int) = C1 := ⟨_, rfl⟩
      have hMul : Hid (Calls Tryz.prog 85 #[.int .u64 Y, .int .u64 BY] wr fun e w' => e = .returned (.tuple #[.int .u64 HI, .int .u64 LO]) ∧ w' = wr) := Lib.hid (by
        have := Tryz.bits_Mul64 y b hyw Hb.out wr
        rw [hHI, hLO, hY, HBY.out] at this
        exact this)
      have hadd1 : ∀ wx, (callFunc 66 #[.int .u64 LO, .int .u64 C, .int .u64 0]).run Tryz.prog wx = .ok (.value (.tuple #[.int .u64 L2, .int .u64 O1])) wx := fun wx => by
        have := run_add64c (y * b % 18446744073709551616) c 0 (by omega) wx
        rw [Nat.add_zero, hO1, hLO, ← hC.out] at this
        have e : (y * b % 18446744073709551616 + c) % 18446744073709551616 = (y * b + c) % 18446744073709551616 := by rw [Nat.mod_add_mod]
        rw [e, hL2] at this
        exact this
      have hadd2 : ∀ wx, (callFunc 66 #[.int .u64 X, .int .u64 L2, .int .u64 0]).run Tryz.prog wx = .ok (.value (.tuple #[.int .u64 SM, .int .u64 O2])) wx := fun wx => by
        have := run_add64c x ((y * b + c) % 18446744073709551616) 0 (by omega) wx
        rw [Nat.add_zero, hO2, hL2, hX] at this
        have e : (x + (y * b + c) % 18446744073709551616) % 18446744073709551616 = (y * b + c + x) % 18446744073709551616 := by rw [Nat.add_mod_mod, Nat.add_comm x]
        rw [e, hSM] at this
        exact this
      have eH2 : IntKind.u64.wrap (HI + O1) = H2 := by
        have e : y * b / 18446744073709551616 + (y * b % 18446744073709551616 + c) / 18446744073709551616 = (y * b + c) / 18446744073709551616 := by omega
        rw [← hHI, ← hO1, ← hH2, ← Int.natCast_add, e, wrapu64 _ (by omega)]
      have eC1 : IntKind.u64.wrap (H2 + O2) = C1 := by
        have e : (y * b + c) / 18446744073709551616 + (x + (y * b + c) % 18446744073709551616) / 18446744073709551616 = (y * b + c + x) / 18446744073709551616 := by omega
        rw [← hH2, ← hO2, ← hC1, ← Int.natCast_add, e, wrapu64 _ (by omega)]
      rw [hSM] at hset hbel2
      have Hset := Lib.hid hset
      have Hbel2 := Lib.hid hbel2
      have HSt := Lib.hid hstep
      have HC1 := Lib.hid hC1.symm
      have hi0 : (0 : Int) ≤ (k : Int) := by omega
      have hi1 : (k : Int) < (m : Int) := by omega
      rw [hX] at hcell
      rw [hy, hY] at hcv'
      clear hstep hset hbel2 htop hdiv hclt hbg hgl hfr hsp hX hY hHI hLO hL2 hO1 hSM hO2 hH2 hC1 hx hx' hy hxw hyw hrow hbel hA hC hcv hadl
      go_wp2_with fail
      refine hMul.out.mono ?_
      rintro e w1 ⟨rfl, rfl⟩
      clear hMul
      go_wp2_with fail
      go_roundw
      case rel => exact ⟨k + 1, _, _, C1, by omega, by go_num, rfl, HC1, HSt, Hset, Hbel2⟩
      case measure => simp [intOf]; omega
    · obtain rfl : k = m := by omega
      have HR := Lib.hid (HF.out wr c ps (by rw [Hm.out]; exact hA.out) (by rw [Hm.out]; exact hrow.out) hbel.out)
      rw [← hC.out] at HR
      clear HF hA hrow hbel hC
      go_wp2_with fail
      go_ret
      exact HR.out
end Go.Proofs.YtckglpkafhmehaaGreatDoor
