/-
  Parse: the place behind the last field.
-/
import Derived.Test.YtbkcklefkhlciaaMround
namespace Go.Proofs.Ytbkcklefkhlciaa
open Go.RowKit
set_option linter.unusedVariables false
theorem still_len {P : Program} {o : Oper} {xs : Array Operand} {ts : Array TypeId} (h : o.op = .call { callee := .builtin .len, args := xs, argTypes := ts }) : Still P o := by
  refine ⟨by simp [h], ?_, fun ρ w nx w' hr => .inl ?_⟩
  · intro w ρ
    simp [Oper.about, h, resolve, Sem.run_pure, Target.leads]
  · unfold execOp at hr; simp only [h] at hr
    simp only [resolve, Sem.run_bind, Sem.run_pure, Result.andThen_ok, invoke] at hr
    obtain ⟨v, w1, _, h2⟩ := bind_run hr
    cases h2; exact ⟨_, rfl⟩
def lastOps : Array Oper := #[{ dst := some 46, op := Op.load 31 (Operand.tmp 4), type := 31, pos := "pmsg.go:35", after := #[], guard := none },
  { dst := some 47, op := Op.load 31 (Operand.tmp 4), type := 31, pos := "pmsg.go:35", after := #[], guard := none },
  { dst := some 48, op := Op.nilCheck (Operand.tmp 47), type := 0, pos := "pmsg.go:35", after := #[{ on := 1, ground := Ground.data }], guard := none },
  { dst := some 49, op := Op.fieldAddr 75 (Operand.tmp 48) 2, type := 0, pos := "pmsg.go:35", after := #[{ on := 2, ground := Ground.data }], guard := none },
  { dst := some 50, op := Op.load 27 (Operand.tmp 49), type := 27, pos := "pmsg.go:35", after := #[{ on := 3, ground := Ground.data }], guard := none },
  { dst := some 51, op := Op.move (Operand.tmp 0), type := 9, pos := "pmsg.go:35", after := #[], guard := none },
  { dst := some 52, op := Op.call { callee := Callee.builtin Builtin.len, args := #[Operand.tmp 51], argTypes := #[9] }, type := 3, pos := "pmsg.go:35", after := #[{ on := 5, ground := Ground.data }], guard := none },
  { dst := some 53, op := Op.buildSlice 27 1 #[(0, Operand.tmp 52)], type := 27, pos := "pmsg.go:35", after := #[{ on := 6, ground := Ground.data }], guard := none },
  { dst := some 54, op := Op.call { callee := Callee.builtin Builtin.append, args := #[Operand.tmp 50, Operand.tmp 53], argTypes := #[27, 27] }, type := 27, pos := "pmsg.go:35", after := #[{ on := 4, ground := Ground.data }, { on := 7, ground := Ground.data }], guard := none },
  { dst := some 55, op := Op.nilCheck (Operand.tmp 46), type := 0, pos := "pmsg.go:35", after := #[{ on := 0, ground := Ground.data }, { on := 0, ground := Ground.phase }, { on := 1, ground := Ground.phase }, { on := 2, ground := Ground.phase }, { on := 3, ground := Ground.phase }, { on := 4, ground := Ground.phase }, { on := 5, ground := Ground.phase }, { on := 6, ground := Ground.phase }, { on := 7, ground := Ground.phase }, { on := 8, ground := Ground.phase }], guard := none },
  { dst := some 56, op := Op.fieldAddr 75 (Operand.tmp 55) 2, type := 0, pos := "pmsg.go:35", after := #[{ on := 9, ground := Ground.data }, { on := 0, ground := Ground.phase }, { on := 1, ground := Ground.phase }, { on := 2, ground := Ground.phase }, { on := 3, ground := Ground.phase }, { on := 4, ground := Ground.phase }, { on := 5, ground := Ground.phase }, { on := 6, ground := Ground.phase }, { on := 7, ground := Ground.phase }, { on := 8, ground := Ground.phase }], guard := none },
  { dst := none, op := Op.store 27 (Operand.tmp 56) (Operand.tmp 54), type := 0, pos := "pmsg.go:35", after := #[{ on := 10, ground := Ground.data }, { on := 8, ground := Ground.data }, { on := 8, ground := Ground.chain }, { on := 0, ground := Ground.phase }, { on := 1, ground := Ground.phase }, { on := 2, ground := Ground.phase }, { on := 3, ground := Ground.phase }, { on := 4, ground := Ground.phase }, { on := 5, ground := Ground.phase }, { on := 6, ground := Ground.phase }, { on := 7, ground := Ground.phase }, { on := 8, ground := Ground.phase }], guard := none }]
theorem last_still : ∀ (i : Nat) (o : Oper), lastOps[i]? = some o → Still Try.prog o := by
  intro i o h
  match i, h with
  | 0, h => exact still_at _ rfl h (still_load rfl)
  | 1, h => exact still_at _ rfl h (still_load rfl)
  | 2, h => exact still_at _ rfl h (still_nil rfl)
  | 3, h => exact still_at _ rfl h (still_field rfl)
  | 4, h => exact still_at _ rfl h (still_load rfl)
  | 5, h => exact still_at _ rfl h (still_move rfl)
  | 6, h => exact still_at _ rfl h (still_len rfl)
  | 7, h => exact still_at _ rfl h (still_row rfl)
  | 8, h => exact still_at _ rfl h (still_append rfl)
  | 9, h => exact still_at _ rfl h (still_nil rfl)
  | 10, h => exact still_at _ rfl h (still_field rfl)
  | 11, h => exact still_at _ rfl h (still_store rfl)
  | n + 12, h => exact absurd h (by simp [lastOps])
set_option maxRecDepth 100000 in
set_option maxHeartbeats 4000000 in
theorem round_last (F : Fence) (nn : Nat) (D : List Deferred) (Q : Exit → Act → World → Prop) (B : Nat) (W : World) (O M : Nat) (s : ByteArray) (fv ev : Value) (c : Int) (es : List Nat) (at_ : Int) (hat : ((s.size : Nat) : Int) = at_) (hsz0 : s.size ≤ 1000000)
    (t1 t2 t3 t5 t6 t7 t8 t9 t10 t11 t12 t13 t14 t15 t16 t17 t18 t19 t20 t21 t22 t23 t24 t25 t26 t27 t28 t29 t30 t31 t32 t33 t34 t35 t36 t37 t38 t39 t40 t41 t42 t43 t44 t45 t57 t58 : Value)
    (h1 : Blk W O 31 #[.pointer (some ⟨M, 0, none⟩)]) (h2 : Blk W M 75 #[.bool true, fv, ev, .int .i64 c]) (hown : W.ownsRow B 3 1 ev es.length (es.map iv)) (hB : B ≤ W.heap.size) (hlen : es.length ≤ 1000000) (hO : ev.ownBlock ≠ some O) (hM : ev.ownBlock ≠ some M)
    (hQ : ∀ va vn vc W', W'.ownsRow B 3 1 (.slice va vn vc) (es ++ [s.size]).length ((es ++ [s.size]).map iv) → (W.drew.alloc (.cells #[.int .i64 at_] 3)).grownBy W' ev.ownBlock → Q .normal { tmps := #[.string s, t1, t2, t3, .pointer (some ⟨O, 0, none⟩), t5, t6, t7, t8, t9, t10, t11, t12, t13, t14, t15, t16, t17, t18, t19, t20, t21, t22, t23, t24, t25, t26, t27, t28, t29, t30, t31, t32, t33, t34, t35, t36, t37, t38, t39, t40, t41, t42, t43, t44, t45, .pointer (some ⟨M, 0, none⟩), .pointer (some ⟨M, 0, none⟩), .pointer (some ⟨M, 0, none⟩), .pointer (some ⟨M, 2, none⟩), ev, .string s, .int .i64 at_, .slice (some ⟨W.heap.size, 0, none⟩) 1 1, .slice va vn vc, .pointer (some ⟨M, 0, none⟩), .pointer (some ⟨M, 2, none⟩), t57, t58], defers := D } (W'.setCell ⟨M, 2, none⟩ (.slice va vn vc))) :
    (Code.region 11 lastOps true).wpIn F nn Try.prog Q { tmps := #[.string s, t1, t2, t3, .pointer (some ⟨O, 0, none⟩), t5, t6, t7, t8, t9, t10, t11, t12, t13, t14, t15, t16, t17, t18, t19, t20, t21, t22, t23, t24, t25, t26, t27, t28, t29, t30, t31, t32, t33, t34, t35, t36, t37, t38, t39, t40, t41, t42, t43, t44, t45, undef, undef, undef, undef, undef, undef, undef, undef, undef, undef, undef, t57, t58], defers := D } W := by
  have Hx := Lib.hid hat
  refine wpIn_still 11 (fun w' => Blk w' O 31 #[.pointer (some ⟨M, 0, none⟩)] ∧ Blk w' M 75 #[.bool true, fv, ev, .int .i64 c]) (by kernel_rfl) last_still ?_
  have hown := World.ownsRow.drew hown
  have h1 : Blk W.drew O _ _ := h1
  have h2 : Blk W.drew M _ _ := h2
  have hB : B ≤ W.drew.heap.size := hB
  have hsz : W.drew.heap.size = W.heap.size := rfl
  change AnyG _ _ _ _ _ _ 12 (Array.replicate 12 false) _ W.drew
  rw [← hsz] at hQ
  clear hsz
  obtain ⟨W1, hW1⟩ : ∃ W1, W.drew = W1 := ⟨_, rfl⟩
  rw [hW1] at hown h1 h2 hB hQ ⊢
  clear hW1
  have hS0 : (fun w' => Blk w' O 31 #[.pointer (some ⟨M, 0, none⟩)] ∧ Blk w' M 75 #[.bool true, fv, ev, .int .i64 c]) W1 := ⟨h1, h2⟩
  have hsh : Shutd .any lastOps (Array.replicate 12 false) := shutd_start _
  refine anyG_take (i := 0) (oi := { dst := some 46, op := Op.load 31 (Operand.tmp 4), type := 31, pos := "pmsg.go:35", after := #[], guard := none }) (v := .pointer (some ⟨M, 0, none⟩)) rfl (by kernel_rfl) (by decide) (fun l hl h0 => hl.no 11 0 (by kernel_rfl) h0) (by kernel_rfl) (by kernel_rfl) (fun c a w h => by cases h.1) (by assumption) (.inl ⟨by rfl, fun w' hS => ?_⟩) hS0 ?_
  · have e0 := hS.1.cell 0
    simp only [List.getElem?_toArray, List.getElem?_cons_zero, List.getElem?_cons_succ] at e0
    go_simp
  replace hsh := hsh.step' (j := 0) (by kernel_rfl)
  simp only [Act.put, List.setIfInBounds_toArray, List.set_cons_zero, List.set_cons_succ]
  refine anyG_take (i := 1) (oi := { dst := some 47, op := Op.load 31 (Operand.tmp 4), type := 31, pos := "pmsg.go:35", after := #[], guard := none }) (v := .pointer (some ⟨M, 0, none⟩)) rfl (by kernel_rfl) (by decide) (fun l hl h0 => hl.no 11 1 (by kernel_rfl) h0) (by kernel_rfl) (by kernel_rfl) (fun c a w h => by cases h.1) (by assumption) (.inl ⟨by rfl, fun w' hS => ?_⟩) hS0 ?_
  · have e0 := hS.1.cell 0
    simp only [List.getElem?_toArray, List.getElem?_cons_zero, List.getElem?_cons_succ] at e0
    go_simp
  replace hsh := hsh.step' (j := 1) (by kernel_rfl)
  simp only [Act.put, List.setIfInBounds_toArray, List.set_cons_zero, List.set_cons_succ]
  refine anyG_take (i := 2) (oi := { dst := some 48, op := Op.nilCheck (Operand.tmp 47), type := 0, pos := "pmsg.go:35", after := #[{ on := 1, ground := Ground.data }], guard := none }) (v := .pointer (some ⟨M, 0, none⟩)) rfl (by kernel_rfl) (by decide) (fun l hl h0 => hl.no 11 2 (by kernel_rfl) h0) (by kernel_rfl) (by kernel_rfl) (fun c a w h => by cases h.1) (by assumption) (.inl ⟨by rfl, fun w' hS => ?_⟩) hS0 ?_
  · go_simp
  replace hsh := hsh.step' (j := 2) (by kernel_rfl)
  simp only [Act.put, List.setIfInBounds_toArray, List.set_cons_zero, List.set_cons_succ]
  refine anyG_take (i := 3) (oi := { dst := some 49, op := Op.fieldAddr 75 (Operand.tmp 48) 2, type := 0, pos := "pmsg.go:35", after := #[{ on := 2, ground := Ground.data }], guard := none }) (v := .pointer (some ⟨M, 2, none⟩)) rfl (by kernel_rfl) (by decide) (fun l hl h0 => hl.no 11 3 (by kernel_rfl) h0) (by kernel_rfl) (by kernel_rfl) (fun c a w h => by cases h.1) (by assumption) (.inl ⟨by rfl, fun w' hS => ?_⟩) hS0 ?_
  · go_simp
  replace hsh := hsh.step' (j := 3) (by kernel_rfl)
  simp only [Act.put, List.setIfInBounds_toArray, List.set_cons_zero, List.set_cons_succ]
  refine anyG_take (i := 4) (oi := { dst := some 50, op := Op.load 27 (Operand.tmp 49), type := 27, pos := "pmsg.go:35", after := #[{ on := 3, ground := Ground.data }], guard := none }) (v := ev) rfl (by kernel_rfl) (by decide) (fun l hl h0 => hl.no 11 4 (by kernel_rfl) h0) (by kernel_rfl) (by kernel_rfl) (fun c a w h => by cases h.1) (by assumption) (.inl ⟨by rfl, fun w' hS => ?_⟩) hS0 ?_
  · have e0 := hS.2.cell 2
    simp only [List.getElem?_toArray, List.getElem?_cons_zero, List.getElem?_cons_succ] at e0
    go_simp
  replace hsh := hsh.step' (j := 4) (by kernel_rfl)
  simp only [Act.put, List.setIfInBounds_toArray, List.set_cons_zero, List.set_cons_succ]
  refine anyG_take (i := 5) (oi := { dst := some 51, op := Op.move (Operand.tmp 0), type := 9, pos := "pmsg.go:35", after := #[], guard := none }) (v := .string s) rfl (by kernel_rfl) (by decide) (fun l hl h0 => hl.no 11 5 (by kernel_rfl) h0) (by kernel_rfl) (by kernel_rfl) (fun c a w h => by cases h.1) (by assumption) (.inl ⟨by rfl, fun w' hS => ?_⟩) hS0 ?_
  · go_simp
  replace hsh := hsh.step' (j := 5) (by kernel_rfl)
  simp only [Act.put, List.setIfInBounds_toArray, List.set_cons_zero, List.set_cons_succ]
  refine anyG_take (i := 6) (oi := { dst := some 52, op := Op.call { callee := Callee.builtin Builtin.len, args := #[Operand.tmp 51], argTypes := #[9] }, type := 3, pos := "pmsg.go:35", after := #[{ on := 5, ground := Ground.data }], guard := none }) (v := .int .i64 at_) rfl (by kernel_rfl) (by decide) (fun l hl h0 => hl.no 11 6 (by kernel_rfl) h0) (by kernel_rfl) (by kernel_rfl) (fun c a w h => by cases h.1) (by assumption) (.inl ⟨by rfl, fun w' hS => ?_⟩) hS0 ?_
  · go_simp
    try (rw [hat])
  replace hsh := hsh.step' (j := 6) (by kernel_rfl)
  simp only [Act.put, List.setIfInBounds_toArray, List.set_cons_zero, List.set_cons_succ]
  clear hsh hat
  refine anyG_one (i := 7) (o := { dst := some 53, op := Op.buildSlice 27 1 #[(0, Operand.tmp 52)], type := 27, pos := "pmsg.go:35", after := #[{ on := 6, ground := Ground.data }], guard := none }) (by kernel_rfl) rfl rfl fun K hK => ?_
  go_simp
  refine hK _ _ (fun _ => ⟨h1.alloc _, h2.alloc _⟩) ?_
  try simp only [Act.put, List.setIfInBounds_toArray, List.set_cons_zero, List.set_cons_succ]
  refine anyG_one (i := 8) (o := { dst := some 54, op := Op.call { callee := Callee.builtin Builtin.append, args := #[Operand.tmp 50, Operand.tmp 53], argTypes := #[27, 27] }, type := 27, pos := "pmsg.go:35", after := #[{ on := 4, ground := Ground.data }, { on := 7, ground := Ground.data }], guard := none }) (by kernel_rfl) rfl rfl fun K hK => ?_
  refine wp_app_iv (.tmp 50) (.tmp 53) (by rfl) B _ ev es s.size at_ Hx.out.symm (by rfl) hown hB (by rfl) hlen ?_
  intro va vn vc W' own' gr'
  have h1' := (h1.alloc (.cells #[.int .i64 at_] 3)).kept gr' (fun e => hO e.symm)
  have h2' := (h2.alloc (.cells #[.int .i64 at_] 3)).kept gr' (fun e => hM e.symm)
  refine hK _ _ (fun _ => ⟨h1', h2'⟩) ?_
  try simp only [Act.put, List.setIfInBounds_toArray, List.set_cons_zero, List.set_cons_succ]
  refine anyG_one (i := 9) (o := { dst := some 55, op := Op.nilCheck (Operand.tmp 46), type := 0, pos := "pmsg.go:35", after := #[{ on := 0, ground := Ground.data }, { on := 0, ground := Ground.phase }, { on := 1, ground := Ground.phase }, { on := 2, ground := Ground.phase }, { on := 3, ground := Ground.phase }, { on := 4, ground := Ground.phase }, { on := 5, ground := Ground.phase }, { on := 6, ground := Ground.phase }, { on := 7, ground := Ground.phase }, { on := 8, ground := Ground.phase }], guard := none }) (by kernel_rfl) rfl rfl fun K hK => ?_
  go_simp
  refine hK _ _ (fun _ => ⟨h1', h2'⟩) ?_
  try simp only [Act.put, List.setIfInBounds_toArray, List.set_cons_zero, List.set_cons_succ]
  refine anyG_one (i := 10) (o := { dst := some 56, op := Op.fieldAddr 75 (Operand.tmp 55) 2, type := 0, pos := "pmsg.go:35", after := #[{ on := 9, ground := Ground.data }, { on := 0, ground := Ground.phase }, { on := 1, ground := Ground.phase }, { on := 2, ground := Ground.phase }, { on := 3, ground := Ground.phase }, { on := 4, ground := Ground.phase }, { on := 5, ground := Ground.phase }, { on := 6, ground := Ground.phase }, { on := 7, ground := Ground.phase }, { on := 8, ground := Ground.phase }], guard := none }) (by kernel_rfl) rfl rfl fun K hK => ?_
  go_simp
  refine hK _ _ (fun _ => ⟨h1', h2'⟩) ?_
  try simp only [Act.put, List.setIfInBounds_toArray, List.set_cons_zero, List.set_cons_succ]
  refine anyG_one (i := 11) (o := { dst := none, op := Op.store 27 (Operand.tmp 56) (Operand.tmp 54), type := 0, pos := "pmsg.go:35", after := #[{ on := 10, ground := Ground.data }, { on := 8, ground := Ground.data }, { on := 8, ground := Ground.chain }, { on := 0, ground := Ground.phase }, { on := 1, ground := Ground.phase }, { on := 2, ground := Ground.phase }, { on := 3, ground := Ground.phase }, { on := 4, ground := Ground.phase }, { on := 5, ground := Ground.phase }, { on := 6, ground := Ground.phase }, { on := 7, ground := Ground.phase }, { on := 8, ground := Ground.phase }], guard := none }) (by kernel_rfl) rfl rfl fun K hK => ?_
  have f1 := h2'.cell 2
  have f2 := h2'.frozen 2
  simp only [List.getElem?_toArray, List.getElem?_cons_zero, List.getElem?_cons_succ] at f1
  go_simp
  refine hK _ _ (fun e => by simp at e) ?_
  refine anyG_done (by kernel_rfl) ⟨rfl, ?_⟩ _
  exact hQ _ _ _ _ own' gr'
end Go.Proofs.Ytbkcklefkhlciaa
