/-
  Law 1: nothing taken from nothing; and a difference of any two, the second no greater.
-/
import Derived.Test.YtglcgkgceadbkaaDoorNSub
namespace Go.Proofs.YtglcgkgceadbkaaDoor
open Go.RowKit
set_option linter.unusedVariables false
theorem push_none {ops : Array Oper} {rest : List Oper} {o : Oper} {a : Act} {Q : Exit → Act → World → Prop} (hgd : o.guard = none) (s x : Operand)
    (ho : o.op = .call { callee := .builtin .append, args := #[s, x], argTypes := #[23, 23] }) (W : World)
    (hs : a.eval s = .slice none 0 0) (hx : a.eval x = .slice none 0 0) (h : wpList Tryd.prog ops Q rest (a.put o.dst (.slice none 0 0)) W) :
    wpList Tryd.prog ops Q (o :: rest) a W := by
  obtain ⟨i0, hi, hz0, hz1, hz2⟩ := info_parts Tryd.infoU
  have ho' : W.ownsRow W.heap.size 41 1 (.slice none 0 0) 0 [] := ⟨by simp, .inl ⟨rfl, rfl⟩⟩
  have hr := run_append_owned_none (P := Tryd.prog) (w := W) W.heap.size 23 o.type 41 i0 1 Tryd.underlying23 hi (.slice none 0 0) 0 [] ho'
  refine wpList_plain hgd fun _ hK => ?_
  unfold Oper.wp execOp
  simp only [ho, resolve, invoke, builtin, Sem.run_bind, Sem.run_pure, Result.andThen_ok, List.map_toArray, List.map_cons, List.map_nil, hs, hx, hr]
  exact hK _ _ h
set_option maxRecDepth 100000 in
set_option maxHeartbeats 4000000 in
theorem sub_zero (w : World) : Calls Tryd.prog 10 #[.agg #[.slice none 0 0], .agg #[.slice none 0 0]] w (SubIs 0 w) := by
  obtain ⟨W3, hW3⟩ : ∃ W3, ((w.alloc (.cells #[.slice none 0 0] 25)).alloc (.cells #[.slice none 0 0] 25)).alloc (.cells #[.slice none 0 0] 25) = W3 := ⟨_, rfl⟩
  have hbx : Bx w W3 (.slice none 0 0) (.slice none 0 0) (.slice none 0 0) := by
    rw [← hW3]
    have k1 := ((Blk.new w 25 #[.slice none 0 0]).alloc (.cells #[.slice none 0 0] 25)).alloc (.cells #[.slice none 0 0] 25)
    have k2 := (Blk.new (w.alloc (.cells #[.slice none 0 0] 25)) 25 #[.slice none 0 0]).alloc (.cells #[.slice none 0 0] 25)
    have k3 := Blk.new ((w.alloc (.cells #[.slice none 0 0] 25)).alloc (.cells #[.slice none 0 0] 25)) 25 #[.slice none 0 0]
    simp only [World.size_alloc] at k2 k3
    exact ⟨k1, k2, k3, (((Below.refl _ w).alloc (Nat.le_refl _) _).alloc (by simp) _).alloc (by simp; omega) _⟩
  have HCm := Lib.hid (cmp_any 0 0 _ _ W3 (isN_zero W3) (isN_zero W3))
  have hsz3 : w.heap.size + 3 ≤ W3.heap.size := by have := hbx.b3.lt; omega
  have Hbx := Lib.hid hbx
  have r1 : W3.cell? ⟨w.heap.size, 0, none⟩ = some (.slice none 0 0) := hbx.b1.cell 0
  have r2 : W3.cell? ⟨w.heap.size + 1, 0, none⟩ = some (.slice none 0 0) := hbx.b2.cell 0
  clear hbx
  go_enter Tryd.func10, Tryd.ntmps10
  go_wp2_with fail
  go_step3
  go_wp2_with fail
  refine HCm.out.mono ?_
  rintro e w4 ⟨rfl, hb4⟩
  rw [cmpI_eq]
  have hbx4 := Hbx.out.below hb4 hsz3
  have q1 : w4.cell? ⟨w.heap.size, 0, none⟩ = some (.slice none 0 0) := hbx4.b1.cell 0
  have q2 : w4.cell? ⟨w.heap.size + 1, 0, none⟩ = some (.slice none 0 0) := hbx4.b2.cell 0
  have HT := Lib.hid (trim_res (w.heap.size + 3) (w.heap.size + 1 + 1) w w4 (.slice none 0 0) [] 0 ⟨by simp, .inl ⟨rfl, rfl⟩⟩ hbx4.bel (by omega) (by omega) hbx4.b3 (fun u hu => by cases hu) rfl (by simp))
  clear hb4 hbx4 HCm r1 r2
  go_wp2_with (at_builtin; refine push_none rfl (.const (.slice none 0 0)) (.tmp 17) rfl w4 rfl rfl ?_)
  go_wp2_with fail
  go_loopw [7, 22] (fun cv iv wr => cv = .int .u64 0 ∧ iv = .int .i64 0 ∧ wr = w4) (fun _ _ _ => 0)
  case atStart => exact ⟨rfl, rfl, rfl⟩
  case round =>
    obtain ⟨rfl, rfl, rfl⟩ := hrel
    go_wp2_with fail
    refine wp_label ?_
    go_wp2_with fail
    go_loopw [7, 10] (fun cv iv wq => cv = .int .u64 0 ∧ iv = .int .i64 0 ∧ wq = wr) (fun _ _ _ => 0)
    case atStart => exact ⟨rfl, rfl, rfl⟩
    case round =>
      obtain ⟨rfl, rfl, rfl⟩ := hrel
      go_wp2_with fail
      refine HT.out.mono ?_
      rintro e w5 ⟨x, y, z, rfl, hk5, hN5, hB5, _⟩
      have hk50 := hk5.out.cell 0; have hk5f := hk5.out.frozen 0
      simp only [List.getElem?_toArray, List.getElem?_cons_zero] at hk50
      clear HT
      go_wp2_with fail
      refine Exit.noGoto_ret .. |>.symm ▸ ?_
      refine bodyPost_ret (res_nat2 rfl _ _ (w.heap.size + 1 + 1) (.slice x y z) (.bool true) rfl rfl (hk5.out.set_ 0 _)) rfl ?_
      exact ⟨x, y, z, rfl, hN5.out, hB5.out⟩
theorem sub_any (M N : Nat) (va vb : Value) (w : World) (ha : IsN w va M) (hb : IsN w vb N) (hM : M < 18446744073709551616 ^ 9000) (hle : N ≤ M) :
    Calls Tryd.prog 10 #[va, vb] w (SubIs (M - N) w) := by
  by_cases h : M ≠ 0
  · exact sub_some M N va vb w ha hb hM h hle
  · obtain ⟨h1, h2⟩ : M = 0 ∧ N = 0 := by omega
    subst h1 h2
    obtain rfl := isN_zero_form ha
    obtain rfl := isN_zero_form hb
    exact sub_zero w
end Go.Proofs.YtglcgkgceadbkaaDoor
