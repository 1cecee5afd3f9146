/-
  Law 1: a sum of nothing and nothing; and of any two.
-/
import Derived.Test.YtllmacokhjmdgaaGreatDoorNAddN
import Derived.Laws.OwnMore
import Derived.Test.YtllmacokhjmdgaaGreatDoorNCmp
import Derived.StillTailTactics
namespace Go.Proofs.YtllmacokhjmdgaaGreatDoor
open Go.RowKit
set_option linter.unusedVariables false
theorem step_app0 {ops : Array Oper} {o : Oper} {a : Act} {K : Act → World → Prop} {Q : Exit → Act → World → Prop} {E : Prop} (hgd : o.guard = none) (s x : Operand)
    (ho : o.op = .call { callee := .builtin .append, args := #[s, x], argTypes := #[24, 24] }) (B : Nat) (W : World) (v : Value)
    (hs : a.eval s = v) (hown : OU B W v []) (hx : a.eval x = .slice none 0 0)
    (h : K (a.put o.dst v) W) :
    if Region.wanted o (yielded ops a.tmps) = true then Oper.wp Tryz.prog o a W K Q else E := by
  have hw : Region.wanted o (yielded ops a.tmps) = true := by simp [Region.wanted, hgd]
  rw [if_pos hw]
  obtain ⟨i0, hi, hz0, hz1, hz2⟩ := info_parts Tryz.infoU
  have ho' : W.ownsRow B 22 1 v 0 [] := by unfold OU at hown; simpa using hown
  have hr := run_append_owned_none (P := Tryz.prog) (w := W) B 24 o.type 22 i0 1 Tryz.underlying24 hi v 0 [] ho'
  unfold Oper.wp execOp
  simp only [ho, resolve, invoke, builtin, Sem.run_bind, Sem.run_pure, Result.andThen_ok, List.map_toArray, List.map_cons, List.map_nil, hs, hx, hr]
  exact h
/-- Nothing has no words. -/
theorem isN_zero_form {w : World} {v : Value} (h : IsN w v 0) : v = .agg #[.slice none 0 0] := by
  obtain ⟨a, c, us, rfl, _, _, _, hv, _, hlast, hnil⟩ := h
  have hne : us = [] := by
    apply Classical.byContradiction
    intro hne
    have h2 := wv_ge hne (hlast hne)
    rw [hv] at h2
    have h3 : 0 < 18446744073709551616 ^ (us.length - 1) := Nat.pow_pos (by decide)
    omega
  obtain ⟨rfl, rfl⟩ := hnil hne
  rw [hne]
  rfl
set_option maxRecDepth 100000 in
set_option maxHeartbeats 4000000 in
theorem add_zero (w : World) : Calls Tryz.prog 71 #[.agg #[.slice none 0 0], .agg #[.slice none 0 0]] w (AddIs 0 w) := by
  obtain ⟨i0, hi, hz0, hz1, hz2⟩ := info_parts Tryz.infoU
  obtain ⟨W3, hW3⟩ : ∃ W3, ((w.alloc (.cells #[.slice none 0 0] 26)).alloc (.cells #[.slice none 0 0] 26)).alloc (.cells #[.slice none 0 0] 26) = W3 := ⟨_, rfl⟩
  have hbx : Bx w W3 (.slice none 0 0) (.slice none 0 0) (.slice none 0 0) := by
    rw [← hW3]
    have k1 := ((Blk.new w 26 #[.slice none 0 0]).alloc (.cells #[.slice none 0 0] 26)).alloc (.cells #[.slice none 0 0] 26)
    have k2 := (Blk.new (w.alloc (.cells #[.slice none 0 0] 26)) 26 #[.slice none 0 0]).alloc (.cells #[.slice none 0 0] 26)
    have k3 := Blk.new ((w.alloc (.cells #[.slice none 0 0] 26)).alloc (.cells #[.slice none 0 0] 26)) 26 #[.slice none 0 0]
    simp only [World.size_alloc] at k2 k3
    exact ⟨k1, k2, k3, (((Below.refl _ w).alloc (Nat.le_refl _) _).alloc (by simp) _).alloc (by simp; omega) _⟩
  have hsz3 : W3.heap.size = w.heap.size + 3 := by rw [← hW3]; simp
  have q1 : W3.drew.cell? ⟨w.heap.size, 0, none⟩ = some (.slice none 0 0) := hbx.b1.cell 0
  have r1 : W3.cell? ⟨w.heap.size, 0, none⟩ = some (.slice none 0 0) := hbx.b1.cell 0
  have r2 : W3.cell? ⟨w.heap.size + 1, 0, none⟩ = some (.slice none 0 0) := hbx.b2.cell 0
  obtain ⟨W4, hmk, hom, hgm⟩ := run_make_own (P := Tryz.prog) W3.drew (w.heap.size + 3) 24 22 i0 (.int .u64 0) 1 Tryz.underlying24 hi hz0 hz1 .i64 .i64 1 (by rw [hz2]; omega) (by unfold maxLen; omega) (by show w.heap.size + 3 ≤ W3.heap.size; omega)
  have edr : W3.drew.heap.size = w.heap.size + 3 := hsz3
  have e1 : ((1 : Nat) : Int) = IntKind.i64.wrap 1 := by decide
  rw [e1, edr] at hmk
  rw [edr] at hom
  clear e1
  have hmk1 := hmk
  rw [show IntKind.i64.wrap 1 = 1 by decide] at hmk1
  have hb4 : Below (w.heap.size + 3) W3 W4 := ((Below.refl _ W3).drew).grown hgm (by show w.heap.size + 3 ≤ W3.heap.size; omega) (fun k hk => by cases hk)
  have hbx4 := hbx.below hb4 (Nat.le_refl _)
  have q2 : W4.cell? ⟨w.heap.size, 0, none⟩ = some (.slice none 0 0) := hbx4.b1.cell 0
  have q3 : W4.cell? ⟨w.heap.size + 1, 0, none⟩ = some (.slice none 0 0) := hbx4.b2.cell 0
  have HO4 : Hid (OU (w.heap.size + 3) W4 (.slice (some ⟨w.heap.size + 3, 0, none⟩) 0 1) []) := Lib.hid hom
  have HX4 := Lib.hid hbx4
  have hsz4 : w.heap.size + 3 ≤ W4.heap.size := by have := hb4.size; omega
  have HT := Lib.hid (trim_res (w.heap.size + 3) (w.heap.size + 1 + 1) w W4 _ [] 0 HO4.out hbx4.bel (by omega) (by omega) hbx4.b3 (fun u hu => by cases hu) rfl (by simp))
  clear hbx hi hz0 hz1 hz2 hgm hom hb4 hbx4
  go_enter Tryz.func71, Tryz.ntmps71
  go_wp2_with fail
  go_step3
  go_wp2_with fail
  go_region_held3 (fun w' => w'.cell? ⟨w.heap.size, 0, none⟩ = some (.slice none 0 0))
    (first | exact q1 | exact q2 | go_keep)
    (first
      | (refine step_app0 (by rfl) (.tmp 23) (.tmp 25) (by rfl) (w.heap.size + 3) W4 _ (by rfl) HO4.out (by rfl) ?_))
  go_wp2_with fail
  go_loopw [6, 30] (fun cv iv wr => cv = .int .u64 0 ∧ iv = .int .i64 0 ∧ wr = W4) (fun _ _ _ => 0)
  case atStart => exact ⟨rfl, rfl, rfl⟩
  case round =>
    obtain ⟨rfl, rfl, rfl⟩ := hrel
    go_wp2_with fail
    refine wp_label ?_
    go_wp2_with fail
    go_loopw [5, 6, 9] (fun ov cv iv wq => ov = .slice (some ⟨w.heap.size + 3, 0, none⟩) 0 1 ∧ cv = .int .u64 0 ∧ iv = .int .i64 0 ∧ wq = wr) (fun _ _ _ _ => 0)
    case atStart => exact ⟨rfl, rfl, rfl, rfl⟩
    case round =>
      obtain ⟨rfl, rfl, rfl, rfl⟩ := hrel
      go_wp2_with fail
      refine HT.out.mono ?_
      rintro e w5 ⟨x, y, z, rfl, hk5, hN5, hB5, _⟩
      have hk50 := hk5.out.cell 0; have hk5f := hk5.out.frozen 0
      simp only [List.getElem?_toArray, List.getElem?_cons_zero] at hk50
      clear HT
      go_wp2_with fail
      refine Exit.noGoto_ret .. |>.symm ▸ ?_
      refine bodyPost_ret (res_nat rfl _ _ (w.heap.size + 1 + 1) (.slice x y z) rfl (hk5.out.set_ 0 _)) rfl ?_
      exact ⟨_, rfl, hN5.out, hB5.out⟩
/-- A sum of any two. -/
theorem add_any (M N : Nat) (va vb : Value) (w : World) (ha : IsN w va M) (hb : IsN w vb N) (hM : M < 18446744073709551616 ^ 9000) (hN : N < 18446744073709551616 ^ 9000) :
    Calls Tryz.prog 71 #[va, vb] w (GaveV (M + N) w) := by
  by_cases h : M ≠ 0 ∨ N ≠ 0
  · exact add_some M N va vb w ha hb hM hN h
  · obtain ⟨h1, h2⟩ : M = 0 ∧ N = 0 := by omega
    subst h1 h2
    obtain rfl := isN_zero_form ha
    obtain rfl := isN_zero_form hb
    exact (add_zero w).mono fun _ _ h => gaveV h
end Go.Proofs.YtllmacokhjmdgaaGreatDoor
