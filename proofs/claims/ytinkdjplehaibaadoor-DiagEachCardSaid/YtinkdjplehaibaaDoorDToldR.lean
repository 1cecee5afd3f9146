/-
  told of law 5: what a round that appends a place and a reason to two boxed slices leaves behind.
-/
import Derived.Test.YtinkdjplehaibaaDoorDTwo
import Derived.Deep.QuietTactic
import Derived.BigQuiet
namespace Go.Proofs.YtinkdjplehaibaaDoor
open Go.RowKit Go.Shelf
attribute [local go_sem] Oper.semAt_some
def toldOps : Array Oper := #[{ dst := some 13, op := Op.load 52 (Operand.tmp 6), type := 52, pos := "law.go:79", after := #[], guard := none }, 
  { dst := some 14, op := Op.move (Operand.tmp 8), type := 3, pos := "law.go:79", after := #[], guard := none }, 
  { dst := some 15, op := Op.buildSlice 52 1 #[(0, Operand.tmp 14)], type := 52, pos := "law.go:79", after := #[{ on := 1, ground := Ground.data }], guard := none }, 
  { dst := some 16, op := Op.call { callee := Callee.builtin Builtin.append, args := #[Operand.tmp 13, Operand.tmp 15], argTypes := #[52, 52] }, type := 52, pos := "law.go:79", after := #[{ on := 0, ground := Ground.data }, { on := 2, ground := Ground.data }], guard := none }, 
  { dst := some 17, op := Op.load 22 (Operand.tmp 7), type := 22, pos := "law.go:79", after := #[], guard := none }, 
  { dst := some 18, op := Op.load 40 (Operand.tmp 9), type := 40, pos := "law.go:79", after := #[], guard := none }, 
  { dst := some 19, op := Op.buildSlice 22 1 #[(0, Operand.tmp 18)], type := 22, pos := "law.go:79", after := #[{ on := 5, ground := Ground.data }], guard := none }, 
  { dst := some 20, op := Op.call { callee := Callee.builtin Builtin.append, args := #[Operand.tmp 17, Operand.tmp 19], argTypes := #[22, 22] }, type := 22, pos := "law.go:79", after := #[{ on := 4, ground := Ground.data }, { on := 6, ground := Ground.data }, { on := 3, ground := Ground.chain }], guard := none }, 
  { dst := none, op := Op.store 52 (Operand.tmp 6) (Operand.tmp 16), type := 0, pos := "law.go:79", after := #[{ on := 3, ground := Ground.data }, { on := 7, ground := Ground.chain }, { on := 0, ground := Ground.phase }, { on := 1, ground := Ground.phase }, { on := 2, ground := Ground.phase }, { on := 3, ground := Ground.phase }, { on := 4, ground := Ground.textOnly Departure.inlinedCapture }, { on := 5, ground := Ground.textOnly Departure.lateStores }, { on := 6, ground := Ground.textOnly Departure.inlinedCapture }, { on := 7, ground := Ground.textOnly Departure.lateStoresUnsure }], guard := none }, 
  { dst := none, op := Op.store 22 (Operand.tmp 7) (Operand.tmp 20), type := 0, pos := "law.go:79", after := #[{ on := 7, ground := Ground.data }, { on := 8, ground := Ground.chain }, { on := 0, ground := Ground.phase }, { on := 1, ground := Ground.phase }, { on := 2, ground := Ground.phase }, { on := 3, ground := Ground.phase }, { on := 4, ground := Ground.phase }, { on := 5, ground := Ground.phase }, { on := 6, ground := Ground.phase }, { on := 7, ground := Ground.phase }, { on := 8, ground := Ground.phase }], guard := none }]
theorem told_still : ∀ (i : Nat) (o : Oper), toldOps[i]? = some o → Still Tryd.prog o := by
  intro i o h
  match i, h with
  | 0, h => exact still_at _ rfl h (still_load rfl)
  | 1, h => exact still_at _ rfl h (still_move rfl)
  | 2, h => exact still_at _ rfl h (still_row rfl)
  | 3, h => exact still_at _ rfl h (still_append rfl)
  | 4, h => exact still_at _ rfl h (still_load rfl)
  | 5, h => exact still_at _ rfl h (still_load rfl)
  | 6, h => exact still_at _ rfl h (still_row rfl)
  | 7, h => exact still_at _ rfl h (still_append rfl)
  | 8, h => exact still_at _ rfl h (still_store rfl)
  | 9, h => exact still_at _ rfl h (still_store rfl)
  | n + 10, h => exact absurd h (by simp [toldOps])
set_option maxRecDepth 100000 in
set_option maxHeartbeats 8000000 in
theorem round_two (Fe : Fence) (F : Nat → Prop) (m : Nat) (Q : Exit → Act → World → Prop) (n0 : Nat) (W0 W : World) (B1 B2 G9 : Nat) (v1 v2 : Value) (k : Nat) (xs ys : List Value) (N0 M0 M1 : Int) (M2 : ByteArray)
    (t0 t1 t2 t3 t4 t5 t10 t11 t12 t21 t22 t23 t24 t25 t26 : Value)
    (h : Two F n0 W0 W B1 B2 52 22 3 40 1 3 v1 v2 v1 v2 k k xs ys) (hk : k ≤ 1000000) (hG9 : Blk W G9 40 #[.int .i64 M0, .int .i64 M1, .string M2])
    (n19 : v1.ownBlock ≠ some G9) (n29 : v2.ownBlock ≠ some G9)
    (hQ : ∀ x15 x19 g1 c1 g2 c2 W', Two F n0 W0 W' B1 B2 52 22 3 40 1 3 (.slice (some ⟨g1, 0, none⟩) (k + 1) c1) (.slice (some ⟨g2, 0, none⟩) (k + 1) c2) (.slice (some ⟨g1, 0, none⟩) (k + 1) c1) (.slice (some ⟨g2, 0, none⟩) (k + 1) c2) (k + 1) (k + 1) (xs ++ [.int .i64 N0]) (ys ++ [.int .i64 M0, .int .i64 M1, .string M2]) →
      Q .normal { tmps := #[t0, t1, t2, t3, t4, t5, .pointer (some ⟨B1, 0, none⟩), .pointer (some ⟨B2, 0, none⟩), .int .i64 N0, .pointer (some ⟨G9, 0, none⟩), t10, t11, t12, v1, .int .i64 N0, x15, .slice (some ⟨g1, 0, none⟩) (k + 1) c1, v2, .agg #[.int .i64 M0, .int .i64 M1, .string M2], x19, .slice (some ⟨g2, 0, none⟩) (k + 1) c2, t21, t22, t23, t24, t25, t26], defers := [] } W') :
    (Code.region 6 toldOps true).wpIn Fe m Tryd.prog Q { tmps := #[t0, t1, t2, t3, t4, t5, .pointer (some ⟨B1, 0, none⟩), .pointer (some ⟨B2, 0, none⟩), .int .i64 N0, .pointer (some ⟨G9, 0, none⟩), t10, t11, t12, undef, undef, undef, undef, undef, undef, undef, undef, t21, t22, t23, t24, t25, t26], defers := [] } W := by
  obtain ⟨i0, hi, hz0, hz1, hz2⟩ := info_parts Tryd.infoI
  obtain ⟨j0, hj, hy0, hy1, hy2⟩ := info_parts Tryd.infoD
  refine wpIn_still 8 (fun w' => w'.cell? ⟨B1, 0, none⟩ = some v1 ∧ w'.cell? ⟨B2, 0, none⟩ = some v2 ∧ Blk w' G9 40 #[.int .i64 M0, .int .i64 M1, .string M2]) (by kernel_rfl) told_still ?_
  have hd : Two F n0 W0 W.drew B1 B2 52 22 3 40 1 3 v1 v2 v1 v2 k k xs ys := h.drew
  have hG9d : Blk W.drew G9 40 #[.int .i64 M0, .int .i64 M1, .string M2] := hG9
  change AnyG _ _ _ _ _ _ 10 (Array.replicate 10 false) _ W.drew
  revert hd hG9d
  generalize W.drew = W
  clear h hG9
  intro h hG9
  have hS0 : W.cell? ⟨B1, 0, none⟩ = some v1 ∧ W.cell? ⟨B2, 0, none⟩ = some v2 ∧ Blk W G9 40 #[.int .i64 M0, .int .i64 M1, .string M2] := ⟨h.b1.cell, h.b2.cell, hG9⟩
  have hsh : Shutd .any toldOps (Array.replicate 10 false) := shutd_start _
  refine anyG_take (i := 0) (oi := { dst := some 13, op := Op.load 52 (Operand.tmp 6), type := 52, pos := "law.go:79", after := #[], guard := none }) (v := v1) rfl (by kernel_rfl) (by decide) (fun l hl h0 => hl.no 8 0 (by kernel_rfl) h0) (by kernel_rfl) (by kernel_rfl) (fun c a w h => by cases h.1) (by assumption) (.inl ⟨by rfl, fun w' hS => ?_⟩) hS0 ?_
  · have := hS.1; go_simp
  replace hsh := hsh.step' (j := 0) (by kernel_rfl)
  simp only [Act.put, List.setIfInBounds_toArray, List.set_cons_zero, List.set_cons_succ]
  refine anyG_take (i := 1) (oi := { dst := some 14, op := Op.move (Operand.tmp 8), type := 3, pos := "law.go:79", after := #[], guard := none }) (v := .int .i64 N0) rfl (by kernel_rfl) (by decide) (fun l hl h0 => hl.no 8 1 (by kernel_rfl) h0) (by kernel_rfl) (by kernel_rfl) (fun c a w h => by cases h.1) (by assumption) (.inl ⟨by rfl, fun w' hS => ?_⟩) hS0 ?_
  · go_simp
  replace hsh := hsh.step' (j := 1) (by kernel_rfl)
  simp only [Act.put, List.setIfInBounds_toArray, List.set_cons_zero, List.set_cons_succ]
  refine anyG_take (i := 4) (oi := { dst := some 17, op := Op.load 22 (Operand.tmp 7), type := 22, pos := "law.go:79", after := #[], guard := none }) (v := v2) rfl (by kernel_rfl) (by decide) (fun l hl h0 => hl.no' 8 7 4 (by kernel_rfl) (by kernel_rfl) h0) (by kernel_rfl) (by kernel_rfl) (fun c a w h => by cases h.1) (by assumption) (.inl ⟨by rfl, fun w' hS => ?_⟩) hS0 ?_
  · have := hS.2.1; go_simp
  replace hsh := hsh.step' (j := 4) (by kernel_rfl)
  simp only [Act.put, List.setIfInBounds_toArray, List.set_cons_zero, List.set_cons_succ]
  refine anyG_take (i := 5) (oi := { dst := some 18, op := Op.load 40 (Operand.tmp 9), type := 40, pos := "law.go:79", after := #[], guard := none }) (v := .agg #[.int .i64 M0, .int .i64 M1, .string M2]) rfl (by kernel_rfl) (by decide) (fun l hl h0 => hl.no'' 8 7 6 5 (by kernel_rfl) (by kernel_rfl) (by kernel_rfl) h0) (by kernel_rfl) (by kernel_rfl) (fun c a w h => by cases h.1) (by assumption) (.inl ⟨by rfl, fun w' hS => ?_⟩) hS0 ?_
  · obtain ⟨d0, d1, d2⟩ := dcells hS.2.2; go_simp
  replace hsh := hsh.step' (j := 5) (by kernel_rfl)
  simp only [Act.put, List.setIfInBounds_toArray, List.set_cons_zero, List.set_cons_succ]
  clear hsh
  have fin : ∀ (l : Array Bool) (x15 x19 : Value) (g1 c1 g2 c2 : Nat) (w : World), Region.ready .any toldOps l = [8] → Region.ready .any toldOps (l.setIfInBounds 8 true) = [9] → Region.ready .any toldOps ((l.setIfInBounds 8 true).setIfInBounds 9 true) = [] → (l.setIfInBounds 8 true).getD 8 false = true → ((l.setIfInBounds 8 true).setIfInBounds 9 true).getD 8 false = true →
      Two F n0 W0 w B1 B2 52 22 3 40 1 3 v1 v2 (.slice (some ⟨g1, 0, none⟩) (k + 1) c1) (.slice (some ⟨g2, 0, none⟩) (k + 1) c2) (k + 1) (k + 1) (xs ++ [.int .i64 N0]) (ys ++ [.int .i64 M0, .int .i64 M1, .string M2]) →
      AnyG Tryd.prog .any toldOps (fun e a w => e = Exit.normal ∧ Q Exit.normal a w) 8 (fun w' => w'.cell? ⟨B1, 0, none⟩ = some v1 ∧ w'.cell? ⟨B2, 0, none⟩ = some v2 ∧ Blk w' G9 40 #[.int .i64 M0, .int .i64 M1, .string M2]) 2 l { tmps := #[t0, t1, t2, t3, t4, t5, .pointer (some ⟨B1, 0, none⟩), .pointer (some ⟨B2, 0, none⟩), .int .i64 N0, .pointer (some ⟨G9, 0, none⟩), t10, t11, t12, v1, .int .i64 N0, x15, .slice (some ⟨g1, 0, none⟩) (k + 1) c1, v2, .agg #[.int .i64 M0, .int .i64 M1, .string M2], x19, .slice (some ⟨g2, 0, none⟩) (k + 1) c2, t21, t22, t23, t24, t25, t26], defers := [] } w := by
    intro l x15 x19 g1 c1 g2 c2 w r8 r9 r0 d8 d9 hw
    refine anyG_one (i := 8) (o := { dst := none, op := Op.store 52 (Operand.tmp 6) (Operand.tmp 16), type := 0, pos := "law.go:79", after := #[{ on := 3, ground := Ground.data }, { on := 7, ground := Ground.chain }, { on := 0, ground := Ground.phase }, { on := 1, ground := Ground.phase }, { on := 2, ground := Ground.phase }, { on := 3, ground := Ground.phase }, { on := 4, ground := Ground.textOnly Departure.inlinedCapture }, { on := 5, ground := Ground.textOnly Departure.lateStores }, { on := 6, ground := Ground.textOnly Departure.inlinedCapture }, { on := 7, ground := Ground.textOnly Departure.lateStoresUnsure }], guard := none }) r8 rfl rfl fun K hK => ?_
    have b1c := hw.b1.cell
    have b1f := hw.b1.frozen
    go_simp
    refine hK _ _ (fun e => by rw [d8] at e; cases e) ?_
    have hw1 := hw.set1 (by decide) (by decide) (.slice (some ⟨g1, 0, none⟩) (k + 1) c1)
    refine anyG_one (i := 9) (o := { dst := none, op := Op.store 22 (Operand.tmp 7) (Operand.tmp 20), type := 0, pos := "law.go:79", after := #[{ on := 7, ground := Ground.data }, { on := 8, ground := Ground.chain }, { on := 0, ground := Ground.phase }, { on := 1, ground := Ground.phase }, { on := 2, ground := Ground.phase }, { on := 3, ground := Ground.phase }, { on := 4, ground := Ground.phase }, { on := 5, ground := Ground.phase }, { on := 6, ground := Ground.phase }, { on := 7, ground := Ground.phase }, { on := 8, ground := Ground.phase }], guard := none }) r9 rfl rfl fun K hK => ?_
    have b2c := hw1.b2.cell
    have b2f := hw1.b2.frozen
    go_simp
    refine hK _ _ (fun e => by rw [d9] at e; cases e) ?_
    refine anyG_done r0 ⟨rfl, ?_⟩ _
    exact hQ _ _ _ _ _ _ _ (hw1.set2 (by decide) (by decide) _)
  have h1F : ∀ u ∈ ([.int .i64 N0] : List Value), u.oneCell' = true := fun u hu => by simp at hu; subst hu; rfl
  have h1D : ∀ u ∈ ([.int .i64 M0, .int .i64 M1, .string M2] : List Value), u.oneCell' = true := fun u hu => by simp at hu; rcases hu with rfl | rfl | rfl <;> rfl
  have hm : k + 1 ≤ maxLen := by unfold maxLen; omega
  have hu := Tryd.underlying52
  have hv := Tryd.underlying22
  refine anyG_two (i := 2) (j := 6) (o := { dst := some 15, op := Op.buildSlice 52 1 #[(0, Operand.tmp 14)], type := 52, pos := "law.go:79", after := #[{ on := 1, ground := Ground.data }], guard := none }) (u := { dst := some 19, op := Op.buildSlice 22 1 #[(0, Operand.tmp 18)], type := 22, pos := "law.go:79", after := #[{ on := 5, ground := Ground.data }], guard := none }) (by kernel_rfl) rfl rfl rfl rfl (fun K hK => ?_) (fun K hK => ?_)
  · have ha := h.alloc (.cells #[.int .i64 N0] 3)
    have c1 : Cellz (W.alloc (.cells #[.int .i64 N0] 3)) W.heap.size ([.int .i64 N0] : List Value) 3 := World.alloc_heap_new W _
    go_simp
    refine hK _ _ (fun _ => ⟨ha.b1.cell, ha.b2.cell, (hG9.alloc _)⟩) ?_
    try simp only [Act.put, List.setIfInBounds_toArray, List.set_cons_zero, List.set_cons_succ]
    refine anyG_two (i := 3) (j := 6) (o := { dst := some 16, op := Op.call { callee := Callee.builtin Builtin.append, args := #[Operand.tmp 13, Operand.tmp 15], argTypes := #[52, 52] }, type := 52, pos := "law.go:79", after := #[{ on := 0, ground := Ground.data }, { on := 2, ground := Ground.data }], guard := none }) (u := { dst := some 19, op := Op.buildSlice 22 1 #[(0, Operand.tmp 18)], type := 22, pos := "law.go:79", after := #[{ on := 5, ground := Ground.data }], guard := none }) (by kernel_rfl) rfl rfl rfl rfl (fun K hK => ?_) (fun K hK => ?_)
    · -- the first append ahead of the second row
      refine wp_app1 (.tmp 13) (.tmp 15) rfl i0 (.int .i64 0) 8 hu hi hz0 hz1 hz2 rfl (by decide) ha (by decide) (by decide) (by rfl) _ ([.int .i64 N0] : List Value) (by rfl) rfl c1 h1F hm (by omega) ?_
      intro g1 k1 w1 hw1 hg1
      refine hK _ _ (fun _ => ⟨hw1.b1.cell, hw1.b2.cell, ((hG9.alloc _).kept hg1 (fun e => n19 e.symm))⟩) ?_
      try simp only [Act.put, List.setIfInBounds_toArray, List.set_cons_zero, List.set_cons_succ]

      have hb := hw1.alloc (.cells #[.int .i64 M0, .int .i64 M1, .string M2] 40)
      have c2 : Cellz (w1.alloc (.cells #[.int .i64 M0, .int .i64 M1, .string M2] 40)) w1.heap.size ([.int .i64 M0, .int .i64 M1, .string M2] : List Value) 40 := World.alloc_heap_new w1 _
      refine anyG_one (i := 6) (o := { dst := some 19, op := Op.buildSlice 22 1 #[(0, Operand.tmp 18)], type := 22, pos := "law.go:79", after := #[{ on := 5, ground := Ground.data }], guard := none }) (by kernel_rfl) rfl rfl fun K hK => ?_
      go_simp
      refine hK _ _ (fun _ => ⟨hb.b1.cell, hb.b2.cell, ((hG9.alloc _).kept hg1 (fun e => n19 e.symm)).alloc _⟩) ?_
      try simp only [Act.put, List.setIfInBounds_toArray, List.set_cons_zero, List.set_cons_succ]
      refine anyG_one (i := 7) (o := { dst := some 20, op := Op.call { callee := Callee.builtin Builtin.append, args := #[Operand.tmp 17, Operand.tmp 19], argTypes := #[22, 22] }, type := 22, pos := "law.go:79", after := #[{ on := 4, ground := Ground.data }, { on := 6, ground := Ground.data }, { on := 3, ground := Ground.chain }], guard := none }) (by kernel_rfl) rfl rfl fun K hK => ?_
      refine wp_app2 (.tmp 17) (.tmp 19) rfl j0 (.agg #[.int .i64 0, .int .i64 0, .string ⟨#[]⟩]) 32 hv hj hy0 hy1 hy2 rfl (by decide) hb (by decide) (by decide) (by rfl) _ ([.int .i64 M0, .int .i64 M1, .string M2] : List Value) (by rfl) rfl c2 h1D hm (by omega) ?_
      intro g2 k2 w2 hw2 hg2
      refine hK _ _ (fun _ => ⟨hw2.b1.cell, hw2.b2.cell, ((((hG9.alloc _).kept hg1 (fun e => n19 e.symm)).alloc _).kept hg2 (fun e => n29 e.symm))⟩) ?_
      try simp only [Act.put, List.setIfInBounds_toArray, List.set_cons_zero, List.set_cons_succ]
      exact fin _ _ _ _ _ _ _ _ (by kernel_rfl) (by kernel_rfl) (by kernel_rfl) (by kernel_rfl) (by kernel_rfl) hw2
    · -- both rows ahead of the appends
      have hb := ha.alloc (.cells #[.int .i64 M0, .int .i64 M1, .string M2] 40)
      have c2 : Cellz ((W.alloc (.cells #[.int .i64 N0] 3)).alloc (.cells #[.int .i64 M0, .int .i64 M1, .string M2] 40)) (W.heap.size + 1) ([.int .i64 M0, .int .i64 M1, .string M2] : List Value) 40 := by have := World.alloc_heap_new (W.alloc (.cells #[.int .i64 N0] 3)) (.cells #[.int .i64 M0, .int .i64 M1, .string M2] 40); rwa [World.size_alloc] at this
      have c1' := c1.kept (World.grownBy_alloc (W.alloc (.cells #[.int .i64 N0] 3)) (.cells #[.int .i64 M0, .int .i64 M1, .string M2] 40) none) (fun j e => by cases e)
      go_simp
      refine hK _ _ (fun _ => ⟨hb.b1.cell, hb.b2.cell, ((hG9.alloc _).alloc _)⟩) ?_
      try simp only [Act.put, List.setIfInBounds_toArray, List.set_cons_zero, List.set_cons_succ]
      refine anyG_one (i := 3) (o := { dst := some 16, op := Op.call { callee := Callee.builtin Builtin.append, args := #[Operand.tmp 13, Operand.tmp 15], argTypes := #[52, 52] }, type := 52, pos := "law.go:79", after := #[{ on := 0, ground := Ground.data }, { on := 2, ground := Ground.data }], guard := none }) (by kernel_rfl) rfl rfl fun K hK => ?_
      refine wp_app1 (.tmp 13) (.tmp 15) rfl i0 (.int .i64 0) 8 hu hi hz0 hz1 hz2 rfl (by decide) hb (by decide) (by decide) (by rfl) _ ([.int .i64 N0] : List Value) (by rfl) rfl c1' h1F hm (by omega) ?_
      intro g1 k1 w1 hw1 hg1
      refine hK _ _ (fun _ => ⟨hw1.b1.cell, hw1.b2.cell, (((hG9.alloc _).alloc _).kept hg1 (fun e => n19 e.symm))⟩) ?_
      try simp only [Act.put, List.setIfInBounds_toArray, List.set_cons_zero, List.set_cons_succ]

      have c2' := c2.kept hg1 (fun j e => by have := (own_lt h.o1 j e).2; omega)
      refine anyG_one (i := 7) (o := { dst := some 20, op := Op.call { callee := Callee.builtin Builtin.append, args := #[Operand.tmp 17, Operand.tmp 19], argTypes := #[22, 22] }, type := 22, pos := "law.go:79", after := #[{ on := 4, ground := Ground.data }, { on := 6, ground := Ground.data }, { on := 3, ground := Ground.chain }], guard := none }) (by kernel_rfl) rfl rfl fun K hK => ?_
      refine wp_app2 (.tmp 17) (.tmp 19) rfl j0 (.agg #[.int .i64 0, .int .i64 0, .string ⟨#[]⟩]) 32 hv hj hy0 hy1 hy2 rfl (by decide) hw1 (by decide) (by decide) (by rfl) _ ([.int .i64 M0, .int .i64 M1, .string M2] : List Value) (by rfl) rfl c2' h1D hm (by omega) ?_
      intro g2 k2 w2 hw2 hg2
      refine hK _ _ (fun _ => ⟨hw2.b1.cell, hw2.b2.cell, ((((hG9.alloc _).alloc _).kept hg1 (fun e => n19 e.symm)).kept hg2 (fun e => n29 e.symm))⟩) ?_
      try simp only [Act.put, List.setIfInBounds_toArray, List.set_cons_zero, List.set_cons_succ]
      exact fin _ _ _ _ _ _ _ _ (by kernel_rfl) (by kernel_rfl) (by kernel_rfl) (by kernel_rfl) (by kernel_rfl) hw2
  · -- the second row ahead of the first
    have ha := h.alloc (.cells #[.int .i64 M0, .int .i64 M1, .string M2] 40)
    have c2 : Cellz (W.alloc (.cells #[.int .i64 M0, .int .i64 M1, .string M2] 40)) W.heap.size ([.int .i64 M0, .int .i64 M1, .string M2] : List Value) 40 := World.alloc_heap_new W _
    go_simp
    refine hK _ _ (fun _ => ⟨ha.b1.cell, ha.b2.cell, (hG9.alloc _)⟩) ?_
    try simp only [Act.put, List.setIfInBounds_toArray, List.set_cons_zero, List.set_cons_succ]
    have hb := ha.alloc (.cells #[.int .i64 N0] 3)
    have c1 : Cellz ((W.alloc (.cells #[.int .i64 M0, .int .i64 M1, .string M2] 40)).alloc (.cells #[.int .i64 N0] 3)) (W.heap.size + 1) ([.int .i64 N0] : List Value) 3 := by have := World.alloc_heap_new (W.alloc (.cells #[.int .i64 M0, .int .i64 M1, .string M2] 40)) (.cells #[.int .i64 N0] 3); rwa [World.size_alloc] at this
    have c2' := c2.kept (World.grownBy_alloc (W.alloc (.cells #[.int .i64 M0, .int .i64 M1, .string M2] 40)) (.cells #[.int .i64 N0] 3) none) (fun j e => by cases e)
    refine anyG_one (i := 2) (o := { dst := some 15, op := Op.buildSlice 52 1 #[(0, Operand.tmp 14)], type := 52, pos := "law.go:79", after := #[{ on := 1, ground := Ground.data }], guard := none }) (by kernel_rfl) rfl rfl fun K hK => ?_
    go_simp
    refine hK _ _ (fun _ => ⟨hb.b1.cell, hb.b2.cell, ((hG9.alloc _).alloc _)⟩) ?_
    try simp only [Act.put, List.setIfInBounds_toArray, List.set_cons_zero, List.set_cons_succ]
    refine anyG_one (i := 3) (o := { dst := some 16, op := Op.call { callee := Callee.builtin Builtin.append, args := #[Operand.tmp 13, Operand.tmp 15], argTypes := #[52, 52] }, type := 52, pos := "law.go:79", after := #[{ on := 0, ground := Ground.data }, { on := 2, ground := Ground.data }], guard := none }) (by kernel_rfl) rfl rfl fun K hK => ?_
    refine wp_app1 (.tmp 13) (.tmp 15) rfl i0 (.int .i64 0) 8 hu hi hz0 hz1 hz2 rfl (by decide) hb (by decide) (by decide) (by rfl) _ ([.int .i64 N0] : List Value) (by rfl) rfl c1 h1F hm (by omega) ?_
    intro g1 k1 w1 hw1 hg1
    refine hK _ _ (fun _ => ⟨hw1.b1.cell, hw1.b2.cell, (((hG9.alloc _).alloc _).kept hg1 (fun e => n19 e.symm))⟩) ?_
    try simp only [Act.put, List.setIfInBounds_toArray, List.set_cons_zero, List.set_cons_succ]

    have c2'' := c2'.kept hg1 (fun j e => by have := (own_lt h.o1 j e).2; omega)
    refine anyG_one (i := 7) (o := { dst := some 20, op := Op.call { callee := Callee.builtin Builtin.append, args := #[Operand.tmp 17, Operand.tmp 19], argTypes := #[22, 22] }, type := 22, pos := "law.go:79", after := #[{ on := 4, ground := Ground.data }, { on := 6, ground := Ground.data }, { on := 3, ground := Ground.chain }], guard := none }) (by kernel_rfl) rfl rfl fun K hK => ?_
    refine wp_app2 (.tmp 17) (.tmp 19) rfl j0 (.agg #[.int .i64 0, .int .i64 0, .string ⟨#[]⟩]) 32 hv hj hy0 hy1 hy2 rfl (by decide) hw1 (by decide) (by decide) (by rfl) _ ([.int .i64 M0, .int .i64 M1, .string M2] : List Value) (by rfl) rfl c2'' h1D hm (by omega) ?_
    intro g2 k2 w2 hw2 hg2
    refine hK _ _ (fun _ => ⟨hw2.b1.cell, hw2.b2.cell, ((((hG9.alloc _).alloc _).kept hg1 (fun e => n19 e.symm)).kept hg2 (fun e => n29 e.symm))⟩) ?_
    try simp only [Act.put, List.setIfInBounds_toArray, List.set_cons_zero, List.set_cons_succ]
    exact fin _ _ _ _ _ _ _ _ (by kernel_rfl) (by kernel_rfl) (by kernel_rfl) (by kernel_rfl) (by kernel_rfl) hw2
end Go.Proofs.YtinkdjplehaibaaDoor
