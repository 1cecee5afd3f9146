/-
  told: what an iterator tells, in two slices of the call's own.
-/
import Derived.Test.YtkebjllehegjlaaGreatDoorUtCalls
import Derived.Test.YtkebjllehegjlaaGreatDoorTwo
namespace Go.Proofs.YtkebjllehegjlaaGreatDoor
open Go.RowKit Go.Shelf
attribute [local go_sem] Oper.semAt_some

def toldOps : Array Oper := #[{ dst := some 13, op := Op.load 38 (Operand.tmp 6), type := 38, pos := "law.go:21", after := #[], guard := none },
  { dst := some 14, op := Op.move (Operand.tmp 8), type := 3, pos := "law.go:21", after := #[], guard := none },
  { dst := some 15, op := Op.buildSlice 38 1 #[(0, Operand.tmp 14)], type := 38, pos := "law.go:21", after := #[{ on := 1, ground := Ground.data }], guard := none },
  { dst := some 16, op := Op.call { callee := Callee.builtin Builtin.append, args := #[Operand.tmp 13, Operand.tmp 15], argTypes := #[38, 38] }, type := 38, pos := "law.go:21", after := #[{ on := 0, ground := Ground.data }, { on := 2, ground := Ground.data }], guard := none },
  { dst := some 17, op := Op.load 38 (Operand.tmp 7), type := 38, pos := "law.go:21", after := #[], guard := none },
  { dst := some 18, op := Op.move (Operand.tmp 9), type := 3, pos := "law.go:21", after := #[], guard := none },
  { dst := some 19, op := Op.buildSlice 38 1 #[(0, Operand.tmp 18)], type := 38, pos := "law.go:21", after := #[{ on := 5, ground := Ground.data }], guard := none },
  { dst := some 20, op := Op.call { callee := Callee.builtin Builtin.append, args := #[Operand.tmp 17, Operand.tmp 19], argTypes := #[38, 38] }, type := 38, pos := "law.go:21", after := #[{ on := 4, ground := Ground.data }, { on := 6, ground := Ground.data }, { on := 3, ground := Ground.chain }], guard := none },
  { dst := none, op := Op.store 38 (Operand.tmp 6) (Operand.tmp 16), type := 0, pos := "law.go:21", after := #[{ on := 3, ground := Ground.data }, { on := 7, ground := Ground.chain }, { on := 0, ground := Ground.phase }, { on := 1, ground := Ground.phase }, { on := 2, ground := Ground.phase }, { on := 3, ground := Ground.phase }, { on := 4, ground := Ground.textOnly Departure.inlinedCapture }, { on := 5, ground := Ground.textOnly Departure.lateStores }, { on := 6, ground := Ground.textOnly Departure.inlinedCapture }, { on := 7, ground := Ground.textOnly Departure.lateStoresUnsure }], guard := none },
  { dst := none, op := Op.store 38 (Operand.tmp 7) (Operand.tmp 20), type := 0, pos := "law.go:21", after := #[{ on := 7, ground := Ground.data }, { on := 8, ground := Ground.chain }, { on := 0, ground := Ground.phase }, { on := 1, ground := Ground.phase }, { on := 2, ground := Ground.phase }, { on := 3, ground := Ground.phase }, { on := 4, ground := Ground.phase }, { on := 5, ground := Ground.phase }, { on := 6, ground := Ground.phase }, { on := 7, ground := Ground.phase }, { on := 8, ground := Ground.phase }], guard := none }]

theorem told_still : ∀ (i : Nat) (o : Oper), toldOps[i]? = some o → Still Tryz.prog o := by
  intro i o h
  match i, h with
  | 0, h => exact still_at _ rfl h (still_load rfl)
  | 1, h => exact still_at _ rfl h (still_move rfl)
  | 2, h => exact still_at _ rfl h (still_row rfl)
  | 3, h => exact still_at _ rfl h (still_append rfl)
  | 4, h => exact still_at _ rfl h (still_load rfl)
  | 5, h => exact still_at _ rfl h (still_move rfl)
  | 6, h => exact still_at _ rfl h (still_row rfl)
  | 7, h => exact still_at _ rfl h (still_append rfl)
  | 8, h => exact still_at _ rfl h (still_store rfl)
  | 9, h => exact still_at _ rfl h (still_store rfl)
  | n + 10, h => exact absurd h (by simp [toldOps])
theorem Tryz.infoI : (Tryz.prog.info? 3).map (fun i => (i.zero, i.size, i.bytes)) = some (some (.int .i64 0), 1, 8) := by kernel_rfl



set_option maxRecDepth 100000 in
set_option maxHeartbeats 4000000 in
theorem round_two (F : Fence) (m : Nat) (Q : Exit → Act → World → Prop) (n0 : Nat) (W0 W : World) (B1 B2 : Nat) (v1 v2 : Value) (k : Nat) (xs ys : List Value) (i c : Int)
    (t0 t1 t2 t3 t4 t5 t10 t11 t12 t21 t22 t23 t24 t25 t26 : Value)
    (h : Two n0 W0 W B1 B2 38 38 3 3 1 1 v1 v2 v1 v2 k k xs ys) (hk : k ≤ 1000000)
    (hQ : ∀ x15 x19 g1 c1 g2 c2 W', Two n0 W0 W' B1 B2 38 38 3 3 1 1 (.slice (some ⟨g1, 0, none⟩) (k + 1) c1) (.slice (some ⟨g2, 0, none⟩) (k + 1) c2) (.slice (some ⟨g1, 0, none⟩) (k + 1) c1) (.slice (some ⟨g2, 0, none⟩) (k + 1) c2) (k + 1) (k + 1) (xs ++ [.int .i64 i]) (ys ++ [.int .i64 c]) →
      Q .normal { tmps := #[t0, t1, t2, t3, t4, t5, .pointer (some ⟨B1, 0, none⟩), .pointer (some ⟨B2, 0, none⟩), .int .i64 i, .int .i64 c, t10, t11, t12, v1, .int .i64 i, x15, .slice (some ⟨g1, 0, none⟩) (k + 1) c1, v2, .int .i64 c, x19, .slice (some ⟨g2, 0, none⟩) (k + 1) c2, t21, t22, t23, t24, t25, t26], defers := [] } W') :
    (Code.region 5 toldOps true).wpIn F m Tryz.prog Q { tmps := #[t0, t1, t2, t3, t4, t5, .pointer (some ⟨B1, 0, none⟩), .pointer (some ⟨B2, 0, none⟩), .int .i64 i, .int .i64 c, t10, t11, t12, undef, undef, undef, undef, undef, undef, undef, undef, t21, t22, t23, t24, t25, t26], defers := [] } W := by
  obtain ⟨i0, hi, hz0, hz1, hz2⟩ := info_parts Tryz.infoI
  refine wpIn_still 8 (fun w' => w'.cell? ⟨B1, 0, none⟩ = some v1 ∧ w'.cell? ⟨B2, 0, none⟩ = some v2) (by kernel_rfl) told_still ?_
  have hd : Two n0 W0 W.drew B1 B2 38 38 3 3 1 1 v1 v2 v1 v2 k k xs ys := h.drew
  change AnyG _ _ _ _ _ _ 10 (Array.replicate 10 false) _ W.drew
  revert hd
  generalize W.drew = W
  clear h
  intro h
  have hS0 : W.cell? ⟨B1, 0, none⟩ = some v1 ∧ W.cell? ⟨B2, 0, none⟩ = some v2 := ⟨h.b1.cell, h.b2.cell⟩
  have hsh : Shutd .any toldOps (Array.replicate 10 false) := shutd_start _
  refine anyG_take (i := 0) (oi := { dst := some 13, op := Op.load 38 (Operand.tmp 6), type := 38, pos := "law.go:21", after := #[], guard := none }) (v := v1) rfl (by kernel_rfl) (by decide) (fun l hl h0 => hl.no 8 0 (by kernel_rfl) h0) (by kernel_rfl) (by kernel_rfl) (fun c a w h => by cases h.1) (by assumption) (.inl ⟨by rfl, fun w' hS => ?_⟩) hS0 ?_
  · have := hS.1; go_simp
  replace hsh := hsh.step' (j := 0) (by kernel_rfl)
  simp only [Act.put, List.setIfInBounds_toArray, List.set_cons_zero, List.set_cons_succ]
  refine anyG_take (i := 1) (oi := { dst := some 14, op := Op.move (Operand.tmp 8), type := 3, pos := "law.go:21", after := #[], guard := none }) (v := .int .i64 i) rfl (by kernel_rfl) (by decide) (fun l hl h0 => hl.no 8 1 (by kernel_rfl) h0) (by kernel_rfl) (by kernel_rfl) (fun c a w h => by cases h.1) (by assumption) (.inl ⟨by rfl, fun w' hS => ?_⟩) hS0 ?_
  · go_simp
  replace hsh := hsh.step' (j := 1) (by kernel_rfl)
  simp only [Act.put, List.setIfInBounds_toArray, List.set_cons_zero, List.set_cons_succ]
  refine anyG_take (i := 4) (oi := { dst := some 17, op := Op.load 38 (Operand.tmp 7), type := 38, pos := "law.go:21", after := #[], guard := none }) (v := v2) rfl (by kernel_rfl) (by decide) (fun l hl h0 => hl.no' 8 7 4 (by kernel_rfl) (by kernel_rfl) h0) (by kernel_rfl) (by kernel_rfl) (fun c a w h => by cases h.1) (by assumption) (.inl ⟨by rfl, fun w' hS => ?_⟩) hS0 ?_
  · have := hS.2; go_simp
  replace hsh := hsh.step' (j := 4) (by kernel_rfl)
  simp only [Act.put, List.setIfInBounds_toArray, List.set_cons_zero, List.set_cons_succ]
  refine anyG_take (i := 5) (oi := { dst := some 18, op := Op.move (Operand.tmp 9), type := 3, pos := "law.go:21", after := #[], guard := none }) (v := .int .i64 c) rfl (by kernel_rfl) (by decide) (fun l hl h0 => hl.no'' 8 7 6 5 (by kernel_rfl) (by kernel_rfl) (by kernel_rfl) h0) (by kernel_rfl) (by kernel_rfl) (fun c a w h => by cases h.1) (by assumption) (.inl ⟨by rfl, fun w' hS => ?_⟩) hS0 ?_
  · go_simp
  replace hsh := hsh.step' (j := 5) (by kernel_rfl)
  simp only [Act.put, List.setIfInBounds_toArray, List.set_cons_zero, List.set_cons_succ]
  clear hsh
  -- THE END: the two stores
  have fin : ∀ (l : Array Bool) (x15 x19 : Value) (g1 c1 g2 c2 : Nat) (w : World), Region.ready .any toldOps l = [8] → Region.ready .any toldOps (l.setIfInBounds 8 true) = [9] → Region.ready .any toldOps ((l.setIfInBounds 8 true).setIfInBounds 9 true) = [] → (l.setIfInBounds 8 true).getD 8 false = true → ((l.setIfInBounds 8 true).setIfInBounds 9 true).getD 8 false = true →
      Two n0 W0 w B1 B2 38 38 3 3 1 1 v1 v2 (.slice (some ⟨g1, 0, none⟩) (k + 1) c1) (.slice (some ⟨g2, 0, none⟩) (k + 1) c2) (k + 1) (k + 1) (xs ++ [.int .i64 i]) (ys ++ [.int .i64 c]) →
      AnyG Tryz.prog .any toldOps (fun e a w => e = Exit.normal ∧ Q Exit.normal a w) 8 (fun w' => w'.cell? ⟨B1, 0, none⟩ = some v1 ∧ w'.cell? ⟨B2, 0, none⟩ = some v2) 2 l { tmps := #[t0, t1, t2, t3, t4, t5, .pointer (some ⟨B1, 0, none⟩), .pointer (some ⟨B2, 0, none⟩), .int .i64 i, .int .i64 c, t10, t11, t12, v1, .int .i64 i, x15, .slice (some ⟨g1, 0, none⟩) (k + 1) c1, v2, .int .i64 c, x19, .slice (some ⟨g2, 0, none⟩) (k + 1) c2, t21, t22, t23, t24, t25, t26], defers := [] } w := by
    intro l x15 x19 g1 c1 g2 c2 w r8 r9 r0 d8 d9 hw
    refine anyG_one (i := 8) (o := { dst := none, op := Op.store 38 (Operand.tmp 6) (Operand.tmp 16), type := 0, pos := "law.go:21", after := #[{ on := 3, ground := Ground.data }, { on := 7, ground := Ground.chain }, { on := 0, ground := Ground.phase }, { on := 1, ground := Ground.phase }, { on := 2, ground := Ground.phase }, { on := 3, ground := Ground.phase }, { on := 4, ground := Ground.textOnly Departure.inlinedCapture }, { on := 5, ground := Ground.textOnly Departure.lateStores }, { on := 6, ground := Ground.textOnly Departure.inlinedCapture }, { on := 7, ground := Ground.textOnly Departure.lateStoresUnsure }], guard := none }) r8 rfl rfl fun K hK => ?_
    have b1c := hw.b1.cell
    have b1f := hw.b1.frozen
    go_simp
    refine hK _ _ (fun e => by rw [d8] at e; cases e) ?_
    have hw1 := hw.set1 (by decide) (by decide) (.slice (some ⟨g1, 0, none⟩) (k + 1) c1)
    refine anyG_one (i := 9) (o := { dst := none, op := Op.store 38 (Operand.tmp 7) (Operand.tmp 20), type := 0, pos := "law.go:21", after := #[{ on := 7, ground := Ground.data }, { on := 8, ground := Ground.chain }, { on := 0, ground := Ground.phase }, { on := 1, ground := Ground.phase }, { on := 2, ground := Ground.phase }, { on := 3, ground := Ground.phase }, { on := 4, ground := Ground.phase }, { on := 5, ground := Ground.phase }, { on := 6, ground := Ground.phase }, { on := 7, ground := Ground.phase }, { on := 8, ground := Ground.phase }], guard := none }) r9 rfl rfl fun K hK => ?_
    have b2c := hw1.b2.cell
    have b2f := hw1.b2.frozen
    go_simp
    refine hK _ _ (fun e => by rw [d9] at e; cases e) ?_
    refine anyG_done r0 ⟨rfl, ?_⟩ _
    exact hQ _ _ _ _ _ _ _ (hw1.set2 (by decide) (by decide) _)
  have h1 : ∀ (u : Value) (x : Int), u ∈ [Value.int .i64 x] → u.oneCell' = true := fun u x hu => by simp at hu; subst hu; rfl
  have hm : k + 1 ≤ maxLen := by unfold maxLen; omega
  have hu := Tryz.underlying38
  refine anyG_two (i := 2) (j := 6) (o := { dst := some 15, op := Op.buildSlice 38 1 #[(0, Operand.tmp 14)], type := 38, pos := "law.go:21", after := #[{ on := 1, ground := Ground.data }], guard := none }) (u := { dst := some 19, op := Op.buildSlice 38 1 #[(0, Operand.tmp 18)], type := 38, pos := "law.go:21", after := #[{ on := 5, ground := Ground.data }], guard := none }) (by kernel_rfl) rfl rfl rfl rfl (fun K hK => ?_) (fun K hK => ?_)
  · have ha := h.alloc (.cells #[.int .i64 i] 3)
    have c1 : Cellz (W.alloc (.cells #[.int .i64 i] 3)) W.heap.size [.int .i64 i] 3 := World.alloc_heap_new W _
    go_simp
    refine hK _ _ (fun _ => ⟨ha.b1.cell, ha.b2.cell⟩) ?_
    try simp only [Act.put, List.setIfInBounds_toArray, List.set_cons_zero, List.set_cons_succ]
    refine anyG_two (i := 3) (j := 6) (o := { dst := some 16, op := Op.call { callee := Callee.builtin Builtin.append, args := #[Operand.tmp 13, Operand.tmp 15], argTypes := #[38, 38] }, type := 38, pos := "law.go:21", after := #[{ on := 0, ground := Ground.data }, { on := 2, ground := Ground.data }], guard := none }) (u := { dst := some 19, op := Op.buildSlice 38 1 #[(0, Operand.tmp 18)], type := 38, pos := "law.go:21", after := #[{ on := 5, ground := Ground.data }], guard := none }) (by kernel_rfl) rfl rfl rfl rfl (fun K hK => ?_) (fun K hK => ?_)
    · -- the first append ahead of the second row
      refine wp_app1 (.tmp 13) (.tmp 15) rfl i0 (.int .i64 0) 8 hu hi hz0 hz1 hz2 rfl (by decide) ha (by decide) (by decide) (by rfl) _ [.int .i64 i] (by rfl) rfl c1 (fun u hu => h1 u _ hu) hm (by omega) ?_
      intro g1 k1 w1 hw1 hg1
      refine hK _ _ (fun _ => ⟨hw1.b1.cell, hw1.b2.cell⟩) ?_
      try simp only [Act.put, List.setIfInBounds_toArray, List.set_cons_zero, List.set_cons_succ]

      have hb := hw1.alloc (.cells #[.int .i64 c] 3)
      have c2 : Cellz (w1.alloc (.cells #[.int .i64 c] 3)) w1.heap.size [.int .i64 c] 3 := World.alloc_heap_new w1 _
      refine anyG_one (i := 6) (o := { dst := some 19, op := Op.buildSlice 38 1 #[(0, Operand.tmp 18)], type := 38, pos := "law.go:21", after := #[{ on := 5, ground := Ground.data }], guard := none }) (by kernel_rfl) rfl rfl fun K hK => ?_
      go_simp
      refine hK _ _ (fun _ => ⟨hb.b1.cell, hb.b2.cell⟩) ?_
      try simp only [Act.put, List.setIfInBounds_toArray, List.set_cons_zero, List.set_cons_succ]
      refine anyG_one (i := 7) (o := { dst := some 20, op := Op.call { callee := Callee.builtin Builtin.append, args := #[Operand.tmp 17, Operand.tmp 19], argTypes := #[38, 38] }, type := 38, pos := "law.go:21", after := #[{ on := 4, ground := Ground.data }, { on := 6, ground := Ground.data }, { on := 3, ground := Ground.chain }], guard := none }) (by kernel_rfl) rfl rfl fun K hK => ?_
      refine wp_app2 (.tmp 17) (.tmp 19) rfl i0 (.int .i64 0) 8 hu hi hz0 hz1 hz2 rfl (by decide) hb (by decide) (by decide) (by rfl) _ [.int .i64 c] (by rfl) rfl c2 (fun u hu => h1 u _ hu) hm (by omega) ?_
      intro g2 k2 w2 hw2 hg2
      refine hK _ _ (fun _ => ⟨hw2.b1.cell, hw2.b2.cell⟩) ?_
      try simp only [Act.put, List.setIfInBounds_toArray, List.set_cons_zero, List.set_cons_succ]
      exact fin _ _ _ _ _ _ _ _ (by kernel_rfl) (by kernel_rfl) (by kernel_rfl) (by kernel_rfl) (by kernel_rfl) hw2
    · -- both rows ahead of the appends
      have hb := ha.alloc (.cells #[.int .i64 c] 3)
      have c2 : Cellz ((W.alloc (.cells #[.int .i64 i] 3)).alloc (.cells #[.int .i64 c] 3)) (W.heap.size + 1) [.int .i64 c] 3 := by have := World.alloc_heap_new (W.alloc (.cells #[.int .i64 i] 3)) (.cells #[.int .i64 c] 3); rwa [World.size_alloc] at this
      have c1' := c1.kept (World.grownBy_alloc (W.alloc (.cells #[.int .i64 i] 3)) (.cells #[.int .i64 c] 3) none) (fun j e => by cases e)
      go_simp
      refine hK _ _ (fun _ => ⟨hb.b1.cell, hb.b2.cell⟩) ?_
      try simp only [Act.put, List.setIfInBounds_toArray, List.set_cons_zero, List.set_cons_succ]
      refine anyG_one (i := 3) (o := { dst := some 16, op := Op.call { callee := Callee.builtin Builtin.append, args := #[Operand.tmp 13, Operand.tmp 15], argTypes := #[38, 38] }, type := 38, pos := "law.go:21", after := #[{ on := 0, ground := Ground.data }, { on := 2, ground := Ground.data }], guard := none }) (by kernel_rfl) rfl rfl fun K hK => ?_
      refine wp_app1 (.tmp 13) (.tmp 15) rfl i0 (.int .i64 0) 8 hu hi hz0 hz1 hz2 rfl (by decide) hb (by decide) (by decide) (by rfl) _ [.int .i64 i] (by rfl) rfl c1' (fun u hu => h1 u _ hu) hm (by omega) ?_
      intro g1 k1 w1 hw1 hg1
      refine hK _ _ (fun _ => ⟨hw1.b1.cell, hw1.b2.cell⟩) ?_
      try simp only [Act.put, List.setIfInBounds_toArray, List.set_cons_zero, List.set_cons_succ]

      have c2' := c2.kept hg1 (fun j e => by have := (own_lt h.o1 j e).2; omega)
      refine anyG_one (i := 7) (o := { dst := some 20, op := Op.call { callee := Callee.builtin Builtin.append, args := #[Operand.tmp 17, Operand.tmp 19], argTypes := #[38, 38] }, type := 38, pos := "law.go:21", after := #[{ on := 4, ground := Ground.data }, { on := 6, ground := Ground.data }, { on := 3, ground := Ground.chain }], guard := none }) (by kernel_rfl) rfl rfl fun K hK => ?_
      refine wp_app2 (.tmp 17) (.tmp 19) rfl i0 (.int .i64 0) 8 hu hi hz0 hz1 hz2 rfl (by decide) hw1 (by decide) (by decide) (by rfl) _ [.int .i64 c] (by rfl) rfl c2' (fun u hu => h1 u _ hu) hm (by omega) ?_
      intro g2 k2 w2 hw2 hg2
      refine hK _ _ (fun _ => ⟨hw2.b1.cell, hw2.b2.cell⟩) ?_
      try simp only [Act.put, List.setIfInBounds_toArray, List.set_cons_zero, List.set_cons_succ]
      exact fin _ _ _ _ _ _ _ _ (by kernel_rfl) (by kernel_rfl) (by kernel_rfl) (by kernel_rfl) (by kernel_rfl) hw2
  · -- the second row ahead of the first
    have ha := h.alloc (.cells #[.int .i64 c] 3)
    have c2 : Cellz (W.alloc (.cells #[.int .i64 c] 3)) W.heap.size [.int .i64 c] 3 := World.alloc_heap_new W _
    go_simp
    refine hK _ _ (fun _ => ⟨ha.b1.cell, ha.b2.cell⟩) ?_
    try simp only [Act.put, List.setIfInBounds_toArray, List.set_cons_zero, List.set_cons_succ]
    have hb := ha.alloc (.cells #[.int .i64 i] 3)
    have c1 : Cellz ((W.alloc (.cells #[.int .i64 c] 3)).alloc (.cells #[.int .i64 i] 3)) (W.heap.size + 1) [.int .i64 i] 3 := by have := World.alloc_heap_new (W.alloc (.cells #[.int .i64 c] 3)) (.cells #[.int .i64 i] 3); rwa [World.size_alloc] at this
    have c2' := c2.kept (World.grownBy_alloc (W.alloc (.cells #[.int .i64 c] 3)) (.cells #[.int .i64 i] 3) none) (fun j e => by cases e)
    refine anyG_one (i := 2) (o := { dst := some 15, op := Op.buildSlice 38 1 #[(0, Operand.tmp 14)], type := 38, pos := "law.go:21", after := #[{ on := 1, ground := Ground.data }], guard := none }) (by kernel_rfl) rfl rfl fun K hK => ?_
    go_simp
    refine hK _ _ (fun _ => ⟨hb.b1.cell, hb.b2.cell⟩) ?_
    try simp only [Act.put, List.setIfInBounds_toArray, List.set_cons_zero, List.set_cons_succ]
    refine anyG_one (i := 3) (o := { dst := some 16, op := Op.call { callee := Callee.builtin Builtin.append, args := #[Operand.tmp 13, Operand.tmp 15], argTypes := #[38, 38] }, type := 38, pos := "law.go:21", after := #[{ on := 0, ground := Ground.data }, { on := 2, ground := Ground.data }], guard := none }) (by kernel_rfl) rfl rfl fun K hK => ?_
    refine wp_app1 (.tmp 13) (.tmp 15) rfl i0 (.int .i64 0) 8 hu hi hz0 hz1 hz2 rfl (by decide) hb (by decide) (by decide) (by rfl) _ [.int .i64 i] (by rfl) rfl c1 (fun u hu => h1 u _ hu) hm (by omega) ?_
    intro g1 k1 w1 hw1 hg1
    refine hK _ _ (fun _ => ⟨hw1.b1.cell, hw1.b2.cell⟩) ?_
    try simp only [Act.put, List.setIfInBounds_toArray, List.set_cons_zero, List.set_cons_succ]

    have c2'' := c2'.kept hg1 (fun j e => by have := (own_lt h.o1 j e).2; omega)
    refine anyG_one (i := 7) (o := { dst := some 20, op := Op.call { callee := Callee.builtin Builtin.append, args := #[Operand.tmp 17, Operand.tmp 19], argTypes := #[38, 38] }, type := 38, pos := "law.go:21", after := #[{ on := 4, ground := Ground.data }, { on := 6, ground := Ground.data }, { on := 3, ground := Ground.chain }], guard := none }) (by kernel_rfl) rfl rfl fun K hK => ?_
    refine wp_app2 (.tmp 17) (.tmp 19) rfl i0 (.int .i64 0) 8 hu hi hz0 hz1 hz2 rfl (by decide) hw1 (by decide) (by decide) (by rfl) _ [.int .i64 c] (by rfl) rfl c2'' (fun u hu => h1 u _ hu) hm (by omega) ?_
    intro g2 k2 w2 hw2 hg2
    refine hK _ _ (fun _ => ⟨hw2.b1.cell, hw2.b2.cell⟩) ?_
    try simp only [Act.put, List.setIfInBounds_toArray, List.set_cons_zero, List.set_cons_succ]
    exact fin _ _ _ _ _ _ _ _ (by kernel_rfl) (by kernel_rfl) (by kernel_rfl) (by kernel_rfl) (by kernel_rfl) hw2
end Go.Proofs.YtkebjllehegjlaaGreatDoor
