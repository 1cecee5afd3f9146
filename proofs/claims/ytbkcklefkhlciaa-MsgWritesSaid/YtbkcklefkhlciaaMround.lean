/-
  Parse's rounds: what a field does to the message that is being made.
-/
import Derived.Test.YtbkcklefkhlciaaMbytes
import Derived.Test.YtbkcklefkhlciaaStill
namespace Go.Proofs.Ytbkcklefkhlciaa
open Go.RowKit
set_option linter.unusedVariables false
theorem bind_run {P : Program} {α β : Type} {s : Sem α} {f : α → Sem β} {w w' : World} {y : β} (h : (s >>= f).run P w = .ok y w') : ∃ x w1, s.run P w = .ok x w1 ∧ (f x).run P w1 = .ok y w' := by
  rw [Sem.run_bind] at h
  cases hs : s.run P w with
  | ok v w1 => rw [hs] at h; exact ⟨v, w1, rfl, h⟩
  | halt x w1 => rw [hs] at h; cases h
theorem still_nil {P : Program} {o : Oper} {x : Operand} (h : o.op = .nilCheck x) : Still P o := by
  refine ⟨by simp [h], by simp [Oper.about, h], fun ρ w nx w' hr => .inl ?_⟩
  unfold execOp at hr; simp only [h] at hr
  split at hr
  · cases hr
  · cases hr
  · cases hr
  · split at hr
    · cases hr
    · obtain ⟨_, _, _, h2⟩ := bind_run hr
      obtain ⟨_, _, _, h3⟩ := bind_run h2
      split at h3
      · obtain ⟨_, _, _, h4⟩ := bind_run h3
        cases h4; exact ⟨_, rfl⟩
      · cases h3; exact ⟨_, rfl⟩
    · cases hr; exact ⟨_, rfl⟩
  · cases hr; exact ⟨_, rfl⟩
theorem still_field {P : Program} {o : Oper} {t : TypeId} {x : Operand} {n : Nat} (h : o.op = .fieldAddr t x n) : Still P o := by
  refine ⟨by simp [h], by simp [Oper.about, h], fun ρ w nx w' hr => .inl ?_⟩
  unfold execOp at hr; simp only [h] at hr
  exact val_run hr
/-- One int more, by 'append', of a row of the call's own. -/
theorem wp_app_iv {o : Oper} {a : Act} {K : Act → World → Prop} {Q : Exit → Act → World → Prop} (s x : Operand)
    (ho : o.op = .call { callee := .builtin .append, args := #[s, x], argTypes := #[27, 27] }) (B : Nat) (W : World) (v : Value) (l : List Nat) (p : Nat) (z : Int) (hz : z = (p : Int))
    (hs : a.eval s = v) (hown : W.ownsRow B 3 1 v l.length (l.map iv)) (hB : B ≤ W.heap.size) (hx : a.eval x = .slice (some ⟨W.heap.size, 0, none⟩) 1 1) (hlen : l.length ≤ 1000000)
    (h : ∀ va vn vc W', W'.ownsRow B 3 1 (.slice va vn vc) (l ++ [p]).length ((l ++ [p]).map iv) → (W.alloc (.cells #[.int .i64 z] 3)).grownBy W' v.ownBlock → K (a.put o.dst (.slice va vn vc)) W') :
    Oper.wp Try.prog o a (W.alloc (.cells #[.int .i64 z] 3)) K Q := by
  obtain ⟨i0, hi, hz0, hz1, hz2⟩ := info_parts Try.infoI
  have hc : ∀ j, (W.alloc (.cells #[.int .i64 z] 3)).cell? ⟨W.heap.size, j, none⟩ = (#[.int .i64 z] : Array Value)[j]? := fun j => (Blk.new W 3 _).cell j
  have hB' : B ≤ (W.alloc (.cells #[.int .i64 z] 3)).heap.size := by simp; omega
  refine wp_append_own _ s x 27 ho B 3 i0 (.int .i64 0) 1 8 Try.underlying27 hi hz0 hz1 hz2 rfl (by decide) v l.length _ hs (hown.alloc _) ⟨W.heap.size, 0, none⟩ 1 1 [.int .i64 z] hx rfl ?_ ?_ ?_ ?_ hB' ?_
  · intro j u hj
    have e : (⟨W.heap.size, 0, none⟩ : Addr).add j = ⟨W.heap.size, j, none⟩ := by unfold Addr.add; split <;> simp_all
    rw [e, hc, ← hj, ← Array.getElem?_toList]
  · intro u hu; simp at hu; subst hu; rfl
  · unfold maxLen; omega
  · omega
  · intro v' W' hown' hg _
    obtain ⟨va, vn, vc, rfl⟩ := slice_of hown'
    refine h va vn vc W' ?_ hg
    have e : (l ++ [p]).map iv = l.map iv ++ [.int .i64 z] := by simp [iv, hz]
    rw [e, List.length_append]
    exact hown'
/-- One field more. -/
theorem wp_app_fd {o : Oper} {a : Act} {K : Act → World → Prop} {Q : Exit → Act → World → Prop} (s x : Operand)
    (ho : o.op = .call { callee := .builtin .append, args := #[s, x], argTypes := #[73, 73] }) (B : Nat) (W : World) (v : Value) (l : List (Fd × Nat)) (p : Fd × Nat) (cs : Array Value) (hcs : cs.toList = fdC p)
    (hs : a.eval s = v) (hown : W.ownsRow B 77 5 v l.length (fdsC l)) (hB : B ≤ W.heap.size) (hx : a.eval x = .slice (some ⟨W.heap.size, 0, none⟩) 1 1) (hlen : l.length ≤ 1000000)
    (h : ∀ va vn vc W', W'.ownsRow B 77 5 (.slice va vn vc) (l ++ [p]).length (fdsC (l ++ [p])) → (W.alloc (.cells cs 77)).grownBy W' v.ownBlock → K (a.put o.dst (.slice va vn vc)) W') :
    Oper.wp Try.prog o a (W.alloc (.cells cs 77)) K Q := by
  obtain ⟨i0, hi, hz0, hz1, hz2⟩ := info_parts Try.infoF
  have hc : ∀ j, (W.alloc (.cells cs 77)).cell? ⟨W.heap.size, j, none⟩ = cs[j]? := fun j => (Blk.new W 77 cs).cell j
  have hB' : B ≤ (W.alloc (.cells cs 77)).heap.size := by simp; omega
  refine wp_append_own _ s x 73 ho B 77 i0 (.agg #[.int .i64 0, .int .i64 0, .int .i64 0, .int .u64 0, .string ⟨#[]⟩]) 5 48 Try.underlying73 hi hz0 hz1 hz2 rfl (by decide) v l.length _ hs (hown.alloc _) ⟨W.heap.size, 0, none⟩ 1 1 (fdC p) hx rfl ?_ ?_ ?_ ?_ hB' ?_
  · intro j u hj
    have e : (⟨W.heap.size, 0, none⟩ : Addr).add j = ⟨W.heap.size, j, none⟩ := by unfold Addr.add; split <;> simp_all
    rw [e, hc, ← hj, ← hcs, Array.getElem?_toList]
  · intro u hu; unfold fdC at hu; simp at hu; rcases hu with rfl | rfl | rfl | rfl | rfl <;> rfl
  · unfold maxLen; omega
  · omega
  · intro v' W' hown' hg _
    obtain ⟨va, vn, vc, rfl⟩ := slice_of hown'
    refine h va vn vc W' ?_ hg
    rw [fdsC_snoc, List.length_append]
    exact hown'
def endsOps : Array Oper := #[{ dst := some 19, op := Op.load 31 (Operand.tmp 4), type := 31, pos := "pmsg.go:30", after := #[], guard := none },
  { dst := some 20, op := Op.load 31 (Operand.tmp 4), type := 31, pos := "pmsg.go:30", after := #[], guard := none },
  { dst := some 21, op := Op.nilCheck (Operand.tmp 20), type := 0, pos := "pmsg.go:30", after := #[{ on := 1, ground := Ground.data }], guard := none },
  { dst := some 22, op := Op.fieldAddr 75 (Operand.tmp 21) 2, type := 0, pos := "pmsg.go:30", after := #[{ on := 2, ground := Ground.data }], guard := none },
  { dst := some 23, op := Op.load 27 (Operand.tmp 22), type := 27, pos := "pmsg.go:30", after := #[{ on := 3, ground := Ground.data }], guard := none },
  { dst := some 24, op := Op.fieldAddr 77 (Operand.tmp 5) 2, type := 0, pos := "pmsg.go:30", after := #[], guard := none },
  { dst := some 25, op := Op.load 3 (Operand.tmp 24), type := 3, pos := "pmsg.go:30", after := #[{ on := 5, ground := Ground.data }], guard := none },
  { dst := some 26, op := Op.buildSlice 27 1 #[(0, Operand.tmp 25)], type := 27, pos := "pmsg.go:30", after := #[{ on := 6, ground := Ground.data }], guard := none },
  { dst := some 27, op := Op.call { callee := Callee.builtin Builtin.append, args := #[Operand.tmp 23, Operand.tmp 26], argTypes := #[27, 27] }, type := 27, pos := "pmsg.go:30", after := #[{ on := 4, ground := Ground.data }, { on := 7, ground := Ground.data }], guard := none },
  { dst := some 28, op := Op.nilCheck (Operand.tmp 19), type := 0, pos := "pmsg.go:30", after := #[{ on := 0, ground := Ground.data }, { on := 0, ground := Ground.phase }, { on := 1, ground := Ground.phase }, { on := 2, ground := Ground.phase }, { on := 3, ground := Ground.phase }, { on := 4, ground := Ground.phase }, { on := 5, ground := Ground.phase }, { on := 6, ground := Ground.phase }, { on := 7, ground := Ground.phase }, { on := 8, ground := Ground.phase }], guard := none },
  { dst := some 29, op := Op.fieldAddr 75 (Operand.tmp 28) 2, type := 0, pos := "pmsg.go:30", after := #[{ on := 9, ground := Ground.data }, { on := 0, ground := Ground.phase }, { on := 1, ground := Ground.phase }, { on := 2, ground := Ground.phase }, { on := 3, ground := Ground.phase }, { on := 4, ground := Ground.phase }, { on := 5, ground := Ground.phase }, { on := 6, ground := Ground.phase }, { on := 7, ground := Ground.phase }, { on := 8, ground := Ground.phase }], guard := none },
  { dst := none, op := Op.store 27 (Operand.tmp 29) (Operand.tmp 27), type := 0, pos := "pmsg.go:30", after := #[{ on := 10, ground := Ground.data }, { on := 8, ground := Ground.data }, { on := 8, ground := Ground.chain }, { on := 0, ground := Ground.phase }, { on := 1, ground := Ground.phase }, { on := 2, ground := Ground.phase }, { on := 3, ground := Ground.phase }, { on := 4, ground := Ground.phase }, { on := 5, ground := Ground.phase }, { on := 6, ground := Ground.phase }, { on := 7, ground := Ground.phase }, { on := 8, ground := Ground.phase }], guard := none }]
theorem ends_still : ∀ (i : Nat) (o : Oper), endsOps[i]? = some o → Still Try.prog o := by
  intro i o h
  match i, h with
  | 0, h => exact still_at _ rfl h (still_load rfl)
  | 1, h => exact still_at _ rfl h (still_load rfl)
  | 2, h => exact still_at _ rfl h (still_nil rfl)
  | 3, h => exact still_at _ rfl h (still_field rfl)
  | 4, h => exact still_at _ rfl h (still_load rfl)
  | 5, h => exact still_at _ rfl h (still_field rfl)
  | 6, h => exact still_at _ rfl h (still_load rfl)
  | 7, h => exact still_at _ rfl h (still_row rfl)
  | 8, h => exact still_at _ rfl h (still_append rfl)
  | 9, h => exact still_at _ rfl h (still_nil rfl)
  | 10, h => exact still_at _ rfl h (still_field rfl)
  | 11, h => exact still_at _ rfl h (still_store rfl)
  | n + 12, h => exact absurd h (by simp [endsOps])
set_option maxRecDepth 100000 in
set_option maxHeartbeats 4000000 in
theorem round_ends (F : Fence) (nn : Nat) (Q : Exit → Act → World → Prop) (B : Nat) (W : World) (O M Bf : Nat) (fv ev : Value) (c : Int) (x0 x1 x2 x3 x4 : Value) (hx0 : x0.oneCell' = true) (hx1 : x1.oneCell' = true) (es : List Nat) (p : Nat) (at_ : Int) (hat : at_ = (p : Int))
    (t0 t1 t2 t3 t6 t7 t8 t9 t10 t11 t12 t13 t14 t15 t16 t17 t18 t30 t31 t32 t33 t34 t35 t36 t37 t38 t39 t40 t41 t42 t43 t44 t45 t46 t47 t48 t49 t50 t51 t52 t53 t54 t55 t56 t57 t58 : Value)
    (h1 : Blk W O 31 #[.pointer (some ⟨M, 0, none⟩)]) (h2 : Blk W M 75 #[.bool true, fv, ev, .int .i64 c]) (h3 : Blk W Bf 77 #[x0, x1, .int .i64 at_, x3, x4]) (hown : W.ownsRow B 3 1 ev es.length (es.map iv)) (hB : B ≤ W.heap.size) (hlen : es.length ≤ 1000000) (hO : ev.ownBlock ≠ some O) (hM : ev.ownBlock ≠ some M) (hF : ev.ownBlock ≠ some Bf)
    (hQ : ∀ va vn vc W', W'.ownsRow B 3 1 (.slice va vn vc) (es ++ [p]).length ((es ++ [p]).map iv) → (W.drew.alloc (.cells #[.int .i64 at_] 3)).grownBy W' ev.ownBlock → Q .normal { tmps := #[t0, t1, t2, t3, .pointer (some ⟨O, 0, none⟩), .pointer (some ⟨Bf, 0, none⟩), t6, t7, t8, t9, t10, t11, t12, t13, t14, t15, t16, t17, t18, .pointer (some ⟨M, 0, none⟩), .pointer (some ⟨M, 0, none⟩), .pointer (some ⟨M, 0, none⟩), .pointer (some ⟨M, 2, none⟩), ev, .pointer (some ⟨Bf, 2, none⟩), .int .i64 at_, .slice (some ⟨W.heap.size, 0, none⟩) 1 1, .slice va vn vc, .pointer (some ⟨M, 0, none⟩), .pointer (some ⟨M, 2, none⟩), t30, t31, t32, t33, t34, t35, t36, t37, t38, t39, t40, t41, t42, t43, t44, t45, t46, t47, t48, t49, t50, t51, t52, t53, t54, t55, t56, t57, t58], defers := [] } (W'.setCell ⟨M, 2, none⟩ (.slice va vn vc))) :
    (Code.region 8 endsOps true).wpIn F nn Try.prog Q { tmps := #[t0, t1, t2, t3, .pointer (some ⟨O, 0, none⟩), .pointer (some ⟨Bf, 0, none⟩), t6, t7, t8, t9, t10, t11, t12, t13, t14, t15, t16, t17, t18, undef, undef, undef, undef, undef, undef, undef, undef, undef, undef, undef, t30, t31, t32, t33, t34, t35, t36, t37, t38, t39, t40, t41, t42, t43, t44, t45, t46, t47, t48, t49, t50, t51, t52, t53, t54, t55, t56, t57, t58], defers := [] } W := by
  have Hx := Lib.hid hat
  clear hat
  refine wpIn_still 11 (fun w' => Blk w' O 31 #[.pointer (some ⟨M, 0, none⟩)] ∧ Blk w' M 75 #[.bool true, fv, ev, .int .i64 c] ∧ Blk w' Bf 77 #[x0, x1, .int .i64 at_, x3, x4]) (by kernel_rfl) ends_still ?_
  have hown := World.ownsRow.drew hown
  have h1 : Blk W.drew O _ _ := h1
  have h2 : Blk W.drew M _ _ := h2
  have h3 : Blk W.drew Bf _ _ := h3
  have hB : B ≤ W.drew.heap.size := hB
  have hsz : W.drew.heap.size = W.heap.size := rfl
  change AnyG _ _ _ _ _ _ 12 (Array.replicate 12 false) _ W.drew
  rw [← hsz] at hQ
  clear hsz
  obtain ⟨W1, hW1⟩ : ∃ W1, W.drew = W1 := ⟨_, rfl⟩
  rw [hW1] at hown h1 h2 h3 hB hQ ⊢
  clear hW1
  have hS0 : (fun w' => Blk w' O 31 #[.pointer (some ⟨M, 0, none⟩)] ∧ Blk w' M 75 #[.bool true, fv, ev, .int .i64 c] ∧ Blk w' Bf 77 #[x0, x1, .int .i64 at_, x3, x4]) W1 := ⟨h1, h2, h3⟩
  have hsh : Shutd .any endsOps (Array.replicate 12 false) := shutd_start _
  refine anyG_take (i := 0) (oi := { dst := some 19, op := Op.load 31 (Operand.tmp 4), type := 31, pos := "pmsg.go:30", after := #[], guard := none }) (v := .pointer (some ⟨M, 0, none⟩)) rfl (by kernel_rfl) (by decide) (fun l hl h0 => hl.no 11 0 (by kernel_rfl) h0) (by kernel_rfl) (by kernel_rfl) (fun c a w h => by cases h.1) (by assumption) (.inl ⟨by rfl, fun w' hS => ?_⟩) hS0 ?_
  · have e0 := hS.1.cell 0
    simp only [List.getElem?_toArray, List.getElem?_cons_zero, List.getElem?_cons_succ] at e0
    go_simp
  replace hsh := hsh.step' (j := 0) (by kernel_rfl)
  simp only [Act.put, List.setIfInBounds_toArray, List.set_cons_zero, List.set_cons_succ]
  refine anyG_take (i := 1) (oi := { dst := some 20, op := Op.load 31 (Operand.tmp 4), type := 31, pos := "pmsg.go:30", after := #[], guard := none }) (v := .pointer (some ⟨M, 0, none⟩)) rfl (by kernel_rfl) (by decide) (fun l hl h0 => hl.no 11 1 (by kernel_rfl) h0) (by kernel_rfl) (by kernel_rfl) (fun c a w h => by cases h.1) (by assumption) (.inl ⟨by rfl, fun w' hS => ?_⟩) hS0 ?_
  · have e0 := hS.1.cell 0
    simp only [List.getElem?_toArray, List.getElem?_cons_zero, List.getElem?_cons_succ] at e0
    go_simp
  replace hsh := hsh.step' (j := 1) (by kernel_rfl)
  simp only [Act.put, List.setIfInBounds_toArray, List.set_cons_zero, List.set_cons_succ]
  refine anyG_take (i := 2) (oi := { dst := some 21, op := Op.nilCheck (Operand.tmp 20), type := 0, pos := "pmsg.go:30", after := #[{ on := 1, ground := Ground.data }], guard := none }) (v := .pointer (some ⟨M, 0, none⟩)) rfl (by kernel_rfl) (by decide) (fun l hl h0 => hl.no 11 2 (by kernel_rfl) h0) (by kernel_rfl) (by kernel_rfl) (fun c a w h => by cases h.1) (by assumption) (.inl ⟨by rfl, fun w' hS => ?_⟩) hS0 ?_
  · go_simp
  replace hsh := hsh.step' (j := 2) (by kernel_rfl)
  simp only [Act.put, List.setIfInBounds_toArray, List.set_cons_zero, List.set_cons_succ]
  refine anyG_take (i := 3) (oi := { dst := some 22, op := Op.fieldAddr 75 (Operand.tmp 21) 2, type := 0, pos := "pmsg.go:30", after := #[{ on := 2, ground := Ground.data }], guard := none }) (v := .pointer (some ⟨M, 2, none⟩)) rfl (by kernel_rfl) (by decide) (fun l hl h0 => hl.no 11 3 (by kernel_rfl) h0) (by kernel_rfl) (by kernel_rfl) (fun c a w h => by cases h.1) (by assumption) (.inl ⟨by rfl, fun w' hS => ?_⟩) hS0 ?_
  · go_simp
  replace hsh := hsh.step' (j := 3) (by kernel_rfl)
  simp only [Act.put, List.setIfInBounds_toArray, List.set_cons_zero, List.set_cons_succ]
  refine anyG_take (i := 4) (oi := { dst := some 23, op := Op.load 27 (Operand.tmp 22), type := 27, pos := "pmsg.go:30", after := #[{ on := 3, ground := Ground.data }], guard := none }) (v := ev) rfl (by kernel_rfl) (by decide) (fun l hl h0 => hl.no 11 4 (by kernel_rfl) h0) (by kernel_rfl) (by kernel_rfl) (fun c a w h => by cases h.1) (by assumption) (.inl ⟨by rfl, fun w' hS => ?_⟩) hS0 ?_
  · have e0 := hS.2.1.cell 2
    simp only [List.getElem?_toArray, List.getElem?_cons_zero, List.getElem?_cons_succ] at e0
    go_simp
  replace hsh := hsh.step' (j := 4) (by kernel_rfl)
  simp only [Act.put, List.setIfInBounds_toArray, List.set_cons_zero, List.set_cons_succ]
  refine anyG_take (i := 5) (oi := { dst := some 24, op := Op.fieldAddr 77 (Operand.tmp 5) 2, type := 0, pos := "pmsg.go:30", after := #[], guard := none }) (v := .pointer (some ⟨Bf, 2, none⟩)) rfl (by kernel_rfl) (by decide) (fun l hl h0 => hl.no 11 5 (by kernel_rfl) h0) (by kernel_rfl) (by kernel_rfl) (fun c a w h => by cases h.1) (by assumption) (.inl ⟨by rfl, fun w' hS => ?_⟩) hS0 ?_
  · go_simp
  replace hsh := hsh.step' (j := 5) (by kernel_rfl)
  simp only [Act.put, List.setIfInBounds_toArray, List.set_cons_zero, List.set_cons_succ]
  refine anyG_take (i := 6) (oi := { dst := some 25, op := Op.load 3 (Operand.tmp 24), type := 3, pos := "pmsg.go:30", after := #[{ on := 5, ground := Ground.data }], guard := none }) (v := .int .i64 at_) rfl (by kernel_rfl) (by decide) (fun l hl h0 => hl.no 11 6 (by kernel_rfl) h0) (by kernel_rfl) (by kernel_rfl) (fun c a w h => by cases h.1) (by assumption) (.inl ⟨by rfl, fun w' hS => ?_⟩) hS0 ?_
  · have e0 := hS.2.2.cell 2
    simp only [List.getElem?_toArray, List.getElem?_cons_zero, List.getElem?_cons_succ] at e0
    go_simp
  replace hsh := hsh.step' (j := 6) (by kernel_rfl)
  simp only [Act.put, List.setIfInBounds_toArray, List.set_cons_zero, List.set_cons_succ]
  clear hsh
  refine anyG_one (i := 7) (o := { dst := some 26, op := Op.buildSlice 27 1 #[(0, Operand.tmp 25)], type := 27, pos := "pmsg.go:30", after := #[{ on := 6, ground := Ground.data }], guard := none }) (by kernel_rfl) rfl rfl fun K hK => ?_
  go_simp
  refine hK _ _ (fun _ => ⟨h1.alloc _, h2.alloc _, h3.alloc _⟩) ?_
  try simp only [Act.put, List.setIfInBounds_toArray, List.set_cons_zero, List.set_cons_succ]
  refine anyG_one (i := 8) (o := { dst := some 27, op := Op.call { callee := Callee.builtin Builtin.append, args := #[Operand.tmp 23, Operand.tmp 26], argTypes := #[27, 27] }, type := 27, pos := "pmsg.go:30", after := #[{ on := 4, ground := Ground.data }, { on := 7, ground := Ground.data }], guard := none }) (by kernel_rfl) rfl rfl fun K hK => ?_
  refine wp_app_iv (.tmp 23) (.tmp 26) (by rfl) B _ ev es p at_ Hx.out (by rfl) hown hB (by rfl) hlen ?_
  intro va vn vc W' own' gr'
  have h1' := (h1.alloc (.cells #[.int .i64 at_] 3)).kept gr' (fun e => hO e.symm)
  have h2' := (h2.alloc (.cells #[.int .i64 at_] 3)).kept gr' (fun e => hM e.symm)
  have h3' := (h3.alloc (.cells #[.int .i64 at_] 3)).kept gr' (fun e => hF e.symm)
  refine hK _ _ (fun _ => ⟨h1', h2', h3'⟩) ?_
  try simp only [Act.put, List.setIfInBounds_toArray, List.set_cons_zero, List.set_cons_succ]
  refine anyG_one (i := 9) (o := { dst := some 28, op := Op.nilCheck (Operand.tmp 19), type := 0, pos := "pmsg.go:30", after := #[{ on := 0, ground := Ground.data }, { on := 0, ground := Ground.phase }, { on := 1, ground := Ground.phase }, { on := 2, ground := Ground.phase }, { on := 3, ground := Ground.phase }, { on := 4, ground := Ground.phase }, { on := 5, ground := Ground.phase }, { on := 6, ground := Ground.phase }, { on := 7, ground := Ground.phase }, { on := 8, ground := Ground.phase }], guard := none }) (by kernel_rfl) rfl rfl fun K hK => ?_
  go_simp
  refine hK _ _ (fun _ => ⟨h1', h2', h3'⟩) ?_
  try simp only [Act.put, List.setIfInBounds_toArray, List.set_cons_zero, List.set_cons_succ]
  refine anyG_one (i := 10) (o := { dst := some 29, op := Op.fieldAddr 75 (Operand.tmp 28) 2, type := 0, pos := "pmsg.go:30", after := #[{ on := 9, ground := Ground.data }, { on := 0, ground := Ground.phase }, { on := 1, ground := Ground.phase }, { on := 2, ground := Ground.phase }, { on := 3, ground := Ground.phase }, { on := 4, ground := Ground.phase }, { on := 5, ground := Ground.phase }, { on := 6, ground := Ground.phase }, { on := 7, ground := Ground.phase }, { on := 8, ground := Ground.phase }], guard := none }) (by kernel_rfl) rfl rfl fun K hK => ?_
  go_simp
  refine hK _ _ (fun _ => ⟨h1', h2', h3'⟩) ?_
  try simp only [Act.put, List.setIfInBounds_toArray, List.set_cons_zero, List.set_cons_succ]
  refine anyG_one (i := 11) (o := { dst := none, op := Op.store 27 (Operand.tmp 29) (Operand.tmp 27), type := 0, pos := "pmsg.go:30", after := #[{ on := 10, ground := Ground.data }, { on := 8, ground := Ground.data }, { on := 8, ground := Ground.chain }, { on := 0, ground := Ground.phase }, { on := 1, ground := Ground.phase }, { on := 2, ground := Ground.phase }, { on := 3, ground := Ground.phase }, { on := 4, ground := Ground.phase }, { on := 5, ground := Ground.phase }, { on := 6, ground := Ground.phase }, { on := 7, ground := Ground.phase }, { on := 8, ground := Ground.phase }], guard := none }) (by kernel_rfl) rfl rfl fun K hK => ?_
  have f1 := h2'.cell 2
  have f2 := h2'.frozen 2
  simp only [List.getElem?_toArray, List.getElem?_cons_zero, List.getElem?_cons_succ] at f1
  go_simp
  refine hK _ _ (fun e => by simp at e) ?_
  refine anyG_done (by kernel_rfl) ⟨rfl, ?_⟩ _
  exact hQ _ _ _ _ own' gr'
def fldsOps : Array Oper := #[{ dst := some 30, op := Op.load 31 (Operand.tmp 4), type := 31, pos := "pmsg.go:32", after := #[], guard := none },
  { dst := some 31, op := Op.load 31 (Operand.tmp 4), type := 31, pos := "pmsg.go:32", after := #[], guard := none },
  { dst := some 32, op := Op.nilCheck (Operand.tmp 31), type := 0, pos := "pmsg.go:32", after := #[{ on := 1, ground := Ground.data }], guard := none },
  { dst := some 33, op := Op.fieldAddr 75 (Operand.tmp 32) 1, type := 0, pos := "pmsg.go:32", after := #[{ on := 2, ground := Ground.data }], guard := none },
  { dst := some 34, op := Op.load 73 (Operand.tmp 33), type := 73, pos := "pmsg.go:32", after := #[{ on := 3, ground := Ground.data }], guard := none },
  { dst := some 35, op := Op.load 77 (Operand.tmp 5), type := 77, pos := "pmsg.go:32", after := #[], guard := none },
  { dst := some 36, op := Op.buildSlice 73 1 #[(0, Operand.tmp 35)], type := 73, pos := "pmsg.go:32", after := #[{ on := 5, ground := Ground.data }], guard := none },
  { dst := some 37, op := Op.call { callee := Callee.builtin Builtin.append, args := #[Operand.tmp 34, Operand.tmp 36], argTypes := #[73, 73] }, type := 73, pos := "pmsg.go:32", after := #[{ on := 4, ground := Ground.data }, { on := 6, ground := Ground.data }], guard := none },
  { dst := some 38, op := Op.nilCheck (Operand.tmp 30), type := 0, pos := "pmsg.go:32", after := #[{ on := 0, ground := Ground.data }, { on := 0, ground := Ground.phase }, { on := 1, ground := Ground.phase }, { on := 2, ground := Ground.phase }, { on := 3, ground := Ground.phase }, { on := 4, ground := Ground.phase }, { on := 5, ground := Ground.phase }, { on := 6, ground := Ground.phase }, { on := 7, ground := Ground.phase }], guard := none },
  { dst := some 39, op := Op.fieldAddr 75 (Operand.tmp 38) 1, type := 0, pos := "pmsg.go:32", after := #[{ on := 8, ground := Ground.data }, { on := 0, ground := Ground.phase }, { on := 1, ground := Ground.phase }, { on := 2, ground := Ground.phase }, { on := 3, ground := Ground.phase }, { on := 4, ground := Ground.phase }, { on := 5, ground := Ground.phase }, { on := 6, ground := Ground.phase }, { on := 7, ground := Ground.phase }], guard := none },
  { dst := none, op := Op.store 73 (Operand.tmp 39) (Operand.tmp 37), type := 0, pos := "pmsg.go:32", after := #[{ on := 9, ground := Ground.data }, { on := 7, ground := Ground.data }, { on := 7, ground := Ground.chain }, { on := 0, ground := Ground.phase }, { on := 1, ground := Ground.phase }, { on := 2, ground := Ground.phase }, { on := 3, ground := Ground.phase }, { on := 4, ground := Ground.phase }, { on := 5, ground := Ground.phase }, { on := 6, ground := Ground.phase }, { on := 7, ground := Ground.phase }], guard := none }]
theorem flds_still : ∀ (i : Nat) (o : Oper), fldsOps[i]? = some o → Still Try.prog o := by
  intro i o h
  match i, h with
  | 0, h => exact still_at _ rfl h (still_load rfl)
  | 1, h => exact still_at _ rfl h (still_load rfl)
  | 2, h => exact still_at _ rfl h (still_nil rfl)
  | 3, h => exact still_at _ rfl h (still_field rfl)
  | 4, h => exact still_at _ rfl h (still_load rfl)
  | 5, h => exact still_at _ rfl h (still_load rfl)
  | 6, h => exact still_at _ rfl h (still_row rfl)
  | 7, h => exact still_at _ rfl h (still_append rfl)
  | 8, h => exact still_at _ rfl h (still_nil rfl)
  | 9, h => exact still_at _ rfl h (still_field rfl)
  | 10, h => exact still_at _ rfl h (still_store rfl)
  | n + 11, h => exact absurd h (by simp [fldsOps])
set_option maxRecDepth 100000 in
set_option maxHeartbeats 4000000 in
theorem round_flds (F : Fence) (nn : Nat) (Q : Exit → Act → World → Prop) (B : Nat) (W : World) (O M Bf : Nat) (fv ev : Value) (c : Int) (x0 x1 x2 x3 x4 : Value) (hx0 : x0.oneCell' = true) (hx1 : x1.oneCell' = true) (l : List (Fd × Nat)) (p : Fd × Nat) (hcs : (#[x0, x1, x2, x3, x4] : Array Value).toList = fdC p)
    (t0 t1 t2 t3 t6 t7 t8 t9 t10 t11 t12 t13 t14 t15 t16 t17 t18 t19 t20 t21 t22 t23 t24 t25 t26 t27 t28 t29 t40 t41 t42 t43 t44 t45 t46 t47 t48 t49 t50 t51 t52 t53 t54 t55 t56 t57 t58 : Value)
    (h1 : Blk W O 31 #[.pointer (some ⟨M, 0, none⟩)]) (h2 : Blk W M 75 #[.bool true, fv, ev, .int .i64 c]) (h3 : Blk W Bf 77 #[x0, x1, x2, x3, x4]) (hown : W.ownsRow B 77 5 fv l.length (fdsC l)) (hB : B ≤ W.heap.size) (hlen : l.length ≤ 1000000) (hO : fv.ownBlock ≠ some O) (hM : fv.ownBlock ≠ some M) (hF : fv.ownBlock ≠ some Bf)
    (hQ : ∀ va vn vc W', W'.ownsRow B 77 5 (.slice va vn vc) (l ++ [p]).length (fdsC (l ++ [p])) → (W.drew.alloc (.cells #[x0, x1, x2, x3, x4] 77)).grownBy W' fv.ownBlock → Q .normal { tmps := #[t0, t1, t2, t3, .pointer (some ⟨O, 0, none⟩), .pointer (some ⟨Bf, 0, none⟩), t6, t7, t8, t9, t10, t11, t12, t13, t14, t15, t16, t17, t18, t19, t20, t21, t22, t23, t24, t25, t26, t27, t28, t29, .pointer (some ⟨M, 0, none⟩), .pointer (some ⟨M, 0, none⟩), .pointer (some ⟨M, 0, none⟩), .pointer (some ⟨M, 1, none⟩), fv, .agg #[x0, x1, x2, x3, x4], .slice (some ⟨W.heap.size, 0, none⟩) 1 1, .slice va vn vc, .pointer (some ⟨M, 0, none⟩), .pointer (some ⟨M, 1, none⟩), t40, t41, t42, t43, t44, t45, t46, t47, t48, t49, t50, t51, t52, t53, t54, t55, t56, t57, t58], defers := [] } (W'.setCell ⟨M, 1, none⟩ (.slice va vn vc))) :
    (Code.region 9 fldsOps true).wpIn F nn Try.prog Q { tmps := #[t0, t1, t2, t3, .pointer (some ⟨O, 0, none⟩), .pointer (some ⟨Bf, 0, none⟩), t6, t7, t8, t9, t10, t11, t12, t13, t14, t15, t16, t17, t18, t19, t20, t21, t22, t23, t24, t25, t26, t27, t28, t29, undef, undef, undef, undef, undef, undef, undef, undef, undef, undef, t40, t41, t42, t43, t44, t45, t46, t47, t48, t49, t50, t51, t52, t53, t54, t55, t56, t57, t58], defers := [] } W := by
  have Hx := Lib.hid hcs
  clear hcs
  refine wpIn_still 10 (fun w' => Blk w' O 31 #[.pointer (some ⟨M, 0, none⟩)] ∧ Blk w' M 75 #[.bool true, fv, ev, .int .i64 c] ∧ Blk w' Bf 77 #[x0, x1, x2, x3, x4]) (by kernel_rfl) flds_still ?_
  have hown := World.ownsRow.drew hown
  have h1 : Blk W.drew O _ _ := h1
  have h2 : Blk W.drew M _ _ := h2
  have h3 : Blk W.drew Bf _ _ := h3
  have hB : B ≤ W.drew.heap.size := hB
  have hsz : W.drew.heap.size = W.heap.size := rfl
  change AnyG _ _ _ _ _ _ 11 (Array.replicate 11 false) _ W.drew
  rw [← hsz] at hQ
  clear hsz
  obtain ⟨W1, hW1⟩ : ∃ W1, W.drew = W1 := ⟨_, rfl⟩
  rw [hW1] at hown h1 h2 h3 hB hQ ⊢
  clear hW1
  have hS0 : (fun w' => Blk w' O 31 #[.pointer (some ⟨M, 0, none⟩)] ∧ Blk w' M 75 #[.bool true, fv, ev, .int .i64 c] ∧ Blk w' Bf 77 #[x0, x1, x2, x3, x4]) W1 := ⟨h1, h2, h3⟩
  have hsh : Shutd .any fldsOps (Array.replicate 11 false) := shutd_start _
  refine anyG_take (i := 0) (oi := { dst := some 30, op := Op.load 31 (Operand.tmp 4), type := 31, pos := "pmsg.go:32", after := #[], guard := none }) (v := .pointer (some ⟨M, 0, none⟩)) rfl (by kernel_rfl) (by decide) (fun l hl h0 => hl.no 10 0 (by kernel_rfl) h0) (by kernel_rfl) (by kernel_rfl) (fun c a w h => by cases h.1) (by assumption) (.inl ⟨by rfl, fun w' hS => ?_⟩) hS0 ?_
  · have e0 := hS.1.cell 0
    simp only [List.getElem?_toArray, List.getElem?_cons_zero, List.getElem?_cons_succ] at e0
    go_simp
  replace hsh := hsh.step' (j := 0) (by kernel_rfl)
  simp only [Act.put, List.setIfInBounds_toArray, List.set_cons_zero, List.set_cons_succ]
  refine anyG_take (i := 1) (oi := { dst := some 31, op := Op.load 31 (Operand.tmp 4), type := 31, pos := "pmsg.go:32", after := #[], guard := none }) (v := .pointer (some ⟨M, 0, none⟩)) rfl (by kernel_rfl) (by decide) (fun l hl h0 => hl.no 10 1 (by kernel_rfl) h0) (by kernel_rfl) (by kernel_rfl) (fun c a w h => by cases h.1) (by assumption) (.inl ⟨by rfl, fun w' hS => ?_⟩) hS0 ?_
  · have e0 := hS.1.cell 0
    simp only [List.getElem?_toArray, List.getElem?_cons_zero, List.getElem?_cons_succ] at e0
    go_simp
  replace hsh := hsh.step' (j := 1) (by kernel_rfl)
  simp only [Act.put, List.setIfInBounds_toArray, List.set_cons_zero, List.set_cons_succ]
  refine anyG_take (i := 2) (oi := { dst := some 32, op := Op.nilCheck (Operand.tmp 31), type := 0, pos := "pmsg.go:32", after := #[{ on := 1, ground := Ground.data }], guard := none }) (v := .pointer (some ⟨M, 0, none⟩)) rfl (by kernel_rfl) (by decide) (fun l hl h0 => hl.no 10 2 (by kernel_rfl) h0) (by kernel_rfl) (by kernel_rfl) (fun c a w h => by cases h.1) (by assumption) (.inl ⟨by rfl, fun w' hS => ?_⟩) hS0 ?_
  · go_simp
  replace hsh := hsh.step' (j := 2) (by kernel_rfl)
  simp only [Act.put, List.setIfInBounds_toArray, List.set_cons_zero, List.set_cons_succ]
  refine anyG_take (i := 3) (oi := { dst := some 33, op := Op.fieldAddr 75 (Operand.tmp 32) 1, type := 0, pos := "pmsg.go:32", after := #[{ on := 2, ground := Ground.data }], guard := none }) (v := .pointer (some ⟨M, 1, none⟩)) rfl (by kernel_rfl) (by decide) (fun l hl h0 => hl.no 10 3 (by kernel_rfl) h0) (by kernel_rfl) (by kernel_rfl) (fun c a w h => by cases h.1) (by assumption) (.inl ⟨by rfl, fun w' hS => ?_⟩) hS0 ?_
  · go_simp
  replace hsh := hsh.step' (j := 3) (by kernel_rfl)
  simp only [Act.put, List.setIfInBounds_toArray, List.set_cons_zero, List.set_cons_succ]
  refine anyG_take (i := 4) (oi := { dst := some 34, op := Op.load 73 (Operand.tmp 33), type := 73, pos := "pmsg.go:32", after := #[{ on := 3, ground := Ground.data }], guard := none }) (v := fv) rfl (by kernel_rfl) (by decide) (fun l hl h0 => hl.no 10 4 (by kernel_rfl) h0) (by kernel_rfl) (by kernel_rfl) (fun c a w h => by cases h.1) (by assumption) (.inl ⟨by rfl, fun w' hS => ?_⟩) hS0 ?_
  · have e0 := hS.2.1.cell 1
    simp only [List.getElem?_toArray, List.getElem?_cons_zero, List.getElem?_cons_succ] at e0
    go_simp
  replace hsh := hsh.step' (j := 4) (by kernel_rfl)
  simp only [Act.put, List.setIfInBounds_toArray, List.set_cons_zero, List.set_cons_succ]
  refine anyG_take (i := 5) (oi := { dst := some 35, op := Op.load 77 (Operand.tmp 5), type := 77, pos := "pmsg.go:32", after := #[], guard := none }) (v := .agg #[x0, x1, x2, x3, x4]) rfl (by kernel_rfl) (by decide) (fun l hl h0 => hl.no 10 5 (by kernel_rfl) h0) (by kernel_rfl) (by kernel_rfl) (fun c a w h => by cases h.1) (by assumption) (.inl ⟨by rfl, fun w' hS => ?_⟩) hS0 ?_
  · have e0 := hS.2.2.cell 0; have e1 := hS.2.2.cell 1; have e2 := hS.2.2.cell 2; have e3 := hS.2.2.cell 3; have e4 := hS.2.2.cell 4
    simp only [List.getElem?_toArray, List.getElem?_cons_zero, List.getElem?_cons_succ] at e0 e1 e2 e3 e4
    go_simp
  replace hsh := hsh.step' (j := 5) (by kernel_rfl)
  simp only [Act.put, List.setIfInBounds_toArray, List.set_cons_zero, List.set_cons_succ]
  clear hsh
  refine anyG_one (i := 6) (o := { dst := some 36, op := Op.buildSlice 73 1 #[(0, Operand.tmp 35)], type := 73, pos := "pmsg.go:32", after := #[{ on := 5, ground := Ground.data }], guard := none }) (by kernel_rfl) rfl rfl fun K hK => ?_
  go_simp
  refine hK _ _ (fun _ => ⟨h1.alloc _, h2.alloc _, h3.alloc _⟩) ?_
  try simp only [Act.put, List.setIfInBounds_toArray, List.set_cons_zero, List.set_cons_succ]
  refine anyG_one (i := 7) (o := { dst := some 37, op := Op.call { callee := Callee.builtin Builtin.append, args := #[Operand.tmp 34, Operand.tmp 36], argTypes := #[73, 73] }, type := 73, pos := "pmsg.go:32", after := #[{ on := 4, ground := Ground.data }, { on := 6, ground := Ground.data }], guard := none }) (by kernel_rfl) rfl rfl fun K hK => ?_
  refine wp_app_fd (.tmp 34) (.tmp 36) (by rfl) B _ fv l p _ Hx.out (by rfl) hown hB (by rfl) hlen ?_
  intro va vn vc W' own' gr'
  have h1' := (h1.alloc (.cells #[x0, x1, x2, x3, x4] 77)).kept gr' (fun e => hO e.symm)
  have h2' := (h2.alloc (.cells #[x0, x1, x2, x3, x4] 77)).kept gr' (fun e => hM e.symm)
  have h3' := (h3.alloc (.cells #[x0, x1, x2, x3, x4] 77)).kept gr' (fun e => hF e.symm)
  refine hK _ _ (fun _ => ⟨h1', h2', h3'⟩) ?_
  try simp only [Act.put, List.setIfInBounds_toArray, List.set_cons_zero, List.set_cons_succ]
  refine anyG_one (i := 8) (o := { dst := some 38, op := Op.nilCheck (Operand.tmp 30), type := 0, pos := "pmsg.go:32", after := #[{ on := 0, ground := Ground.data }, { on := 0, ground := Ground.phase }, { on := 1, ground := Ground.phase }, { on := 2, ground := Ground.phase }, { on := 3, ground := Ground.phase }, { on := 4, ground := Ground.phase }, { on := 5, ground := Ground.phase }, { on := 6, ground := Ground.phase }, { on := 7, ground := Ground.phase }], guard := none }) (by kernel_rfl) rfl rfl fun K hK => ?_
  go_simp
  refine hK _ _ (fun _ => ⟨h1', h2', h3'⟩) ?_
  try simp only [Act.put, List.setIfInBounds_toArray, List.set_cons_zero, List.set_cons_succ]
  refine anyG_one (i := 9) (o := { dst := some 39, op := Op.fieldAddr 75 (Operand.tmp 38) 1, type := 0, pos := "pmsg.go:32", after := #[{ on := 8, ground := Ground.data }, { on := 0, ground := Ground.phase }, { on := 1, ground := Ground.phase }, { on := 2, ground := Ground.phase }, { on := 3, ground := Ground.phase }, { on := 4, ground := Ground.phase }, { on := 5, ground := Ground.phase }, { on := 6, ground := Ground.phase }, { on := 7, ground := Ground.phase }], guard := none }) (by kernel_rfl) rfl rfl fun K hK => ?_
  go_simp
  refine hK _ _ (fun _ => ⟨h1', h2', h3'⟩) ?_
  try simp only [Act.put, List.setIfInBounds_toArray, List.set_cons_zero, List.set_cons_succ]
  refine anyG_one (i := 10) (o := { dst := none, op := Op.store 73 (Operand.tmp 39) (Operand.tmp 37), type := 0, pos := "pmsg.go:32", after := #[{ on := 9, ground := Ground.data }, { on := 7, ground := Ground.data }, { on := 7, ground := Ground.chain }, { on := 0, ground := Ground.phase }, { on := 1, ground := Ground.phase }, { on := 2, ground := Ground.phase }, { on := 3, ground := Ground.phase }, { on := 4, ground := Ground.phase }, { on := 5, ground := Ground.phase }, { on := 6, ground := Ground.phase }, { on := 7, ground := Ground.phase }], guard := none }) (by kernel_rfl) rfl rfl fun K hK => ?_
  have f1 := h2'.cell 1
  have f2 := h2'.frozen 1
  simp only [List.getElem?_toArray, List.getElem?_cons_zero, List.getElem?_cons_succ] at f1
  go_simp
  refine hK _ _ (fun e => by simp at e) ?_
  refine anyG_done (by kernel_rfl) ⟨rfl, ?_⟩ _
  exact hQ _ _ _ _ own' gr'
end Go.Proofs.Ytbkcklefkhlciaa
