/-
  Floats' rounds: one pattern more.
-/
import Derived.Test.YtbkcklefkhlciaaMcall
import Derived.Test.YtbkcklefkhlciaaMbook
import Derived.RangeFuncCalls
namespace Go.Proofs.Ytbkcklefkhlciaa
open Go.RowKit
set_option linter.unusedVariables false
theorem still_in {F : Fence} {n : Nat} {P : Program} {o : Oper} {Q : Exit → Act → World → Prop} (hs : Still P o) {K : Act → World → Prop} {a : Act} {w : World} (h : o.wp P a w K Q) : o.wpIn F n P a w K Q := by
  obtain ⟨hd, hab, hr⟩ := hs
  unfold Oper.wp at h
  unfold Oper.wpIn
  refine ⟨fun f hf => by (rw [hab] at hf; cases hf), ?_⟩
  rw [Oper.semAt_eq _ _ _ hd]
  have hr := hr a.eval w
  generalize (execOp a.eval o).run P w = r at *
  cases r with
  | ok x w' =>
    rcases hr x w' rfl with ⟨v, rfl⟩ | rfl
    · exact h
    · exact h
  | halt x w' => cases x <;> simp only [Oper.upon, Oper.uponIn] at h ⊢ <;> exact h
section
variable {F : Fence} {n : Nat} {P : Program} {md : Region.Mode} {ops : Array Oper} {Q : Exit → Act → World → Prop} {fuel : Nat} {listed : Array Bool} {a : Act} {w : World}
theorem in_one (i : Nat) {o : Oper} (hr : Region.ready md ops listed = [i]) (ho : ops[i]? = some o) (hg : o.guard = none)
    (h : ∀ K : Act → World → Prop, (∀ a w, wpAnyIn F n P md ops Q fuel (listed.setIfInBounds i true) a w → K a w) → o.wpIn F n P a w K Q) : wpAnyIn F n P md ops Q (fuel + 1) listed a w := by
  refine wpAnyIn_ready hr (by simp) (AllReadyIn.cons ho (fun K hK => ?_) AllReadyIn.nil)
  rw [if_pos (by simp [Region.wanted, hg])]
  exact h K hK
theorem in_two (i j : Nat) {o u : Oper} (hr : Region.ready md ops listed = [i, j]) (ho : ops[i]? = some o) (hu : ops[j]? = some u) (hg : o.guard = none) (hgu : u.guard = none)
    (h : ∀ K : Act → World → Prop, (∀ a w, wpAnyIn F n P md ops Q fuel (listed.setIfInBounds i true) a w → K a w) → o.wpIn F n P a w K Q) (h' : ∀ K : Act → World → Prop, (∀ a w, wpAnyIn F n P md ops Q fuel (listed.setIfInBounds j true) a w → K a w) → u.wpIn F n P a w K Q) : wpAnyIn F n P md ops Q (fuel + 1) listed a w := by
  refine wpAnyIn_ready hr (by simp) (AllReadyIn.cons ho (fun K hK => ?_) (AllReadyIn.cons hu (fun K hK => ?_) AllReadyIn.nil))
  · rw [if_pos (by simp [Region.wanted, hg])]
    exact h K hK
  · rw [if_pos (by simp [Region.wanted, hgu])]
    exact h' K hK
end
def uv (z : Nat) : Value := .int .u64 (z : Int)
theorem Try.infoU2 : (Try.prog.info? 25).map (fun i => (i.zero, i.size, i.bytes)) = some (some (.int .u64 0), 1, 8) := by kernel_rfl
/-- One pattern more, by 'append', of a row of the call's own. -/
theorem wp_app_uv {o : Oper} {a : Act} {K : Act → World → Prop} {Q : Exit → Act → World → Prop} (s x : Operand)
    (ho : o.op = .call { callee := .builtin .append, args := #[s, x], argTypes := #[28, 28] }) (B : Nat) (W : World) (v : Value) (l : List Nat) (p : Nat)
    (hs : a.eval s = v) (hown : W.ownsRow B 25 1 v l.length (l.map uv)) (hB : B ≤ W.heap.size) (hx : a.eval x = .slice (some ⟨W.heap.size, 0, none⟩) 1 1) (hlen : l.length ≤ 1000000000)
    (h : ∀ va vn vc W', W'.ownsRow B 25 1 (.slice va vn vc) (l ++ [p]).length ((l ++ [p]).map uv) → (W.alloc (.cells #[.int .u64 (p : Int)] 25)).grownBy W' v.ownBlock → K (a.put o.dst (.slice va vn vc)) W') :
    Oper.wp Try.prog o a (W.alloc (.cells #[.int .u64 (p : Int)] 25)) K Q := by
  obtain ⟨i0, hi, hz0, hz1, hz2⟩ := info_parts Try.infoU2
  have hc : ∀ j, (W.alloc (.cells #[.int .u64 (p : Int)] 25)).cell? ⟨W.heap.size, j, none⟩ = (#[.int .u64 (p : Int)] : Array Value)[j]? := fun j => (Blk.new W 25 _).cell j
  have hB' : B ≤ (W.alloc (.cells #[.int .u64 (p : Int)] 25)).heap.size := by simp; omega
  refine wp_append_own _ s x 28 ho B 25 i0 (.int .u64 0) 1 8 Try.underlying28 hi hz0 hz1 hz2 rfl (by decide) v l.length _ hs (hown.alloc _) ⟨W.heap.size, 0, none⟩ 1 1 [.int .u64 (p : Int)] hx rfl ?_ ?_ ?_ ?_ hB' ?_
  · intro j u hj
    have e : (⟨W.heap.size, 0, none⟩ : Addr).add j = ⟨W.heap.size, j, none⟩ := by unfold Addr.add; split <;> simp_all
    rw [e, hc, ← hj, ← Array.getElem?_toList]
  · intro u hu; simp at hu; subst hu; rfl
  · unfold maxLen; omega
  · omega
  · intro v' W' hown' hg _
    obtain ⟨va, vn, vc, rfl⟩ := slice_of hown'
    refine h va vn vc W' ?_ hg
    rw [List.map_append, List.length_append]
    exact hown'

def patOps : Array Oper := #[{ dst := some 38, op := Op.load 28 (Operand.tmp 6), type := 28, pos := "pmsg.go:136", after := #[], guard := none },
  { dst := some 39, op := Op.move (Operand.tmp 9), type := 9, pos := "pmsg.go:136", after := #[], guard := none },
  { dst := some 40, op := Op.call { callee := Callee.value (Operand.func 49), args := #[Operand.tmp 39], argTypes := #[9] }, type := 25, pos := "pmsg.go:136", after := #[{ on := 1, ground := Ground.data }], guard := none },
  { dst := some 41, op := Op.buildSlice 28 1 #[(0, Operand.tmp 40)], type := 28, pos := "pmsg.go:136", after := #[{ on := 2, ground := Ground.data }], guard := none },
  { dst := some 42, op := Op.call { callee := Callee.builtin Builtin.append, args := #[Operand.tmp 38, Operand.tmp 41], argTypes := #[28, 28] }, type := 28, pos := "pmsg.go:136", after := #[{ on := 0, ground := Ground.data }, { on := 3, ground := Ground.data }, { on := 2, ground := Ground.chain }], guard := none },
  { dst := none, op := Op.store 28 (Operand.tmp 6) (Operand.tmp 42), type := 0, pos := "pmsg.go:136", after := #[{ on := 4, ground := Ground.data }, { on := 4, ground := Ground.chain }, { on := 0, ground := Ground.phase }, { on := 1, ground := Ground.phase }, { on := 2, ground := Ground.phase }, { on := 3, ground := Ground.phase }, { on := 4, ground := Ground.phase }], guard := none }]
set_option maxRecDepth 100000 in
set_option maxHeartbeats 4000000 in
theorem round_pat (lp nq : Nat) (hlp : 1 ≤ nq) (Q : Exit → Act → World → Prop) (W : World) (B Bo : Nat) (D : ByteArray) (z : Nat) (v : Value) (l : List Nat) (t0 t1 t2 t3 t4 t5 t7 t8 t10 t11 t12 t13 t14 t15 t16 t17 t18 t19 t20 t21 t22 t23 t24 t25 t26 t27 t28 t29 t30 t31 t32 t33 t34 t35 t36 t37 t38 t39 t40 t41 t42 t43 t44 : Value)
    (ho : Blk W Bo 28 #[v]) (hown : W.ownsRow B 25 1 v l.length (l.map uv)) (hB : B ≤ W.heap.size) (hlen : l.length ≤ 1000000000) (hne : v.ownBlock ≠ some Bo)
    (HC : Hid (∀ w, Calls Try.prog 49 #[.string D] w fun e w' => e = .returned (.int .u64 (z : Int)) ∧ w = w'))
    (hQ : ∀ va vn vc W', W'.ownsRow B 25 1 (.slice va vn vc) (l ++ [z]).length ((l ++ [z]).map uv) → (W.drew.alloc (.cells #[.int .u64 (z : Int)] 25)).grownBy W' v.ownBlock → Blk W' Bo 28 #[v] → Q .normal { tmps := #[t0, t1, t2, t3, t4, t5, .pointer (some ⟨Bo, 0, none⟩), t7, t8, .string D, t10, t11, t12, t13, t14, t15, t16, t17, t18, t19, t20, t21, t22, t23, t24, t25, t26, t27, t28, t29, t30, t31, t32, t33, t34, t35, t36, t37, v, .string D, .int .u64 (z : Int), .slice (some ⟨W.heap.size, 0, none⟩) 1 1, .slice va vn vc, t43, t44], defers := [] } (W'.setCell ⟨Bo, 0, none⟩ (.slice va vn vc))) :
    (Code.region 11 patOps true).wpIn (Fence.wide.inRound lp) nq Try.prog Q { tmps := #[t0, t1, t2, t3, t4, t5, .pointer (some ⟨Bo, 0, none⟩), t7, t8, .string D, t10, t11, t12, t13, t14, t15, t16, t17, t18, t19, t20, t21, t22, t23, t24, t25, t26, t27, t28, t29, t30, t31, t32, t33, t34, t35, t36, t37, t38, t39, t40, t41, t42, t43, t44], defers := [] } W := by
  refine wpIn_mono (Q := fun e a w => e = .normal ∧ Q .normal a w) (wpIn_region_any (by kernel_rfl) ?_) (by rintro e a w ⟨rfl, h⟩; exact h)
  have ho : Blk W.drew Bo 28 #[v] := ho
  have hown : W.drew.ownsRow B 25 1 v l.length (l.map uv) := hown
  have hB : B ≤ W.drew.heap.size := hB
  have hsz : W.heap.size = W.drew.heap.size := rfl
  rw [hsz] at hQ
  change wpAnyIn _ _ _ _ _ _ 6 (Array.replicate 6 false) _ W.drew
  obtain ⟨W1, hW1⟩ : ∃ W1, W.drew = W1 := ⟨_, rfl⟩
  rw [hW1] at ho hown hB hQ ⊢
  clear hW1 hsz
  have c0 : W1.cell? ⟨Bo, 0, none⟩ = some v := ho.cell 0
  have c1 : (W1.alloc (.cells #[.int .u64 (z : Int)] 25)).cell? ⟨Bo, 0, none⟩ = some v := (ho.alloc _).cell 0
  have HO := Lib.hid ho; have HW := Lib.hid hown
  have HQ := Lib.hid hQ
  clear ho hown hQ
  refine in_two 0 1 (o := { dst := some 38, op := Op.load 28 (Operand.tmp 6), type := 28, pos := "pmsg.go:136", after := #[], guard := none }) (u := { dst := some 39, op := Op.move (Operand.tmp 9), type := 9, pos := "pmsg.go:136", after := #[], guard := none }) (by kernel_rfl) rfl rfl rfl rfl (fun K hK => ?_) (fun K hK => ?_)
  · skip
    refine still_in (still_load rfl) ?_
    go_simp
    refine hK _ _ ?_
    clear hK K
    try simp only [Act.put, List.setIfInBounds_toArray, List.set_cons_zero, List.set_cons_succ]
    refine in_one 1 (o := { dst := some 39, op := Op.move (Operand.tmp 9), type := 9, pos := "pmsg.go:136", after := #[], guard := none }) (by kernel_rfl) rfl rfl fun K hK => ?_
    refine still_in (still_move rfl) ?_
    go_simp
    refine hK _ _ ?_
    clear hK K
    try simp only [Act.put, List.setIfInBounds_toArray, List.set_cons_zero, List.set_cons_succ]
    refine in_one 2 (o := { dst := some 40, op := Op.call { callee := Callee.value (Operand.func 49), args := #[Operand.tmp 39], argTypes := #[9] }, type := 25, pos := "pmsg.go:136", after := #[{ on := 1, ground := Ground.data }], guard := none }) (by kernel_rfl) rfl rfl fun K hK => ?_
    refine call_in 49 39 (.string D) (.int .u64 (z : Int)) _ hlp rfl (fun _ => rfl) rfl (HC.out _) ?_
    refine hK _ _ ?_
    clear hK K
    try simp only [Act.put, List.setIfInBounds_toArray, List.set_cons_zero, List.set_cons_succ]
    refine in_one 3 (o := { dst := some 41, op := Op.buildSlice 28 1 #[(0, Operand.tmp 40)], type := 28, pos := "pmsg.go:136", after := #[{ on := 2, ground := Ground.data }], guard := none }) (by kernel_rfl) rfl rfl fun K hK => ?_
    refine still_in (still_row rfl) ?_
    go_simp
    refine hK _ _ ?_
    clear hK K
    try simp only [Act.put, List.setIfInBounds_toArray, List.set_cons_zero, List.set_cons_succ]
    refine in_one 4 (o := { dst := some 42, op := Op.call { callee := Callee.builtin Builtin.append, args := #[Operand.tmp 38, Operand.tmp 41], argTypes := #[28, 28] }, type := 28, pos := "pmsg.go:136", after := #[{ on := 0, ground := Ground.data }, { on := 3, ground := Ground.data }, { on := 2, ground := Ground.chain }], guard := none }) (by kernel_rfl) rfl rfl fun K hK => ?_
    refine still_in (still_append rfl) ?_
    clear c0 c1
    refine wp_app_uv (.tmp 38) (.tmp 41) rfl B W1 v l z rfl HW.out hB rfl hlen ?_
    intro va vn vc W2 hown2 hg
    have hg2 := (HO.out.alloc (.cells #[.int .u64 (z : Int)] 25)).kept hg (fun e => hne e.symm)
    have c0 := hg2.cell 0; have c1 := hg2.frozen 0
    simp only [List.getElem?_toArray, List.getElem?_cons_zero] at c0
    refine hK _ _ ?_
    clear hK K
    try simp only [Act.put, List.setIfInBounds_toArray, List.set_cons_zero, List.set_cons_succ]
    refine in_one 5 (o := { dst := none, op := Op.store 28 (Operand.tmp 6) (Operand.tmp 42), type := 0, pos := "pmsg.go:136", after := #[{ on := 4, ground := Ground.data }, { on := 4, ground := Ground.chain }, { on := 0, ground := Ground.phase }, { on := 1, ground := Ground.phase }, { on := 2, ground := Ground.phase }, { on := 3, ground := Ground.phase }, { on := 4, ground := Ground.phase }], guard := none }) (by kernel_rfl) rfl rfl fun K hK => ?_
    refine still_in (still_store rfl) ?_
    go_simp
    refine hK _ _ ?_
    clear hK K
    try simp only [Act.put, List.setIfInBounds_toArray, List.set_cons_zero, List.set_cons_succ]
    refine wpAnyIn_done (by kernel_rfl) ⟨rfl, ?_⟩ _
    exact HQ.out _ _ _ _ hown2 hg hg2
  · skip
    refine still_in (still_move rfl) ?_
    go_simp
    refine hK _ _ ?_
    clear hK K
    try simp only [Act.put, List.setIfInBounds_toArray, List.set_cons_zero, List.set_cons_succ]
    refine in_two 0 2 (o := { dst := some 38, op := Op.load 28 (Operand.tmp 6), type := 28, pos := "pmsg.go:136", after := #[], guard := none }) (u := { dst := some 40, op := Op.call { callee := Callee.value (Operand.func 49), args := #[Operand.tmp 39], argTypes := #[9] }, type := 25, pos := "pmsg.go:136", after := #[{ on := 1, ground := Ground.data }], guard := none }) (by kernel_rfl) rfl rfl rfl rfl (fun K hK => ?_) (fun K hK => ?_)
    · skip
      refine still_in (still_load rfl) ?_
      go_simp
      refine hK _ _ ?_
      clear hK K
      try simp only [Act.put, List.setIfInBounds_toArray, List.set_cons_zero, List.set_cons_succ]
      refine in_one 2 (o := { dst := some 40, op := Op.call { callee := Callee.value (Operand.func 49), args := #[Operand.tmp 39], argTypes := #[9] }, type := 25, pos := "pmsg.go:136", after := #[{ on := 1, ground := Ground.data }], guard := none }) (by kernel_rfl) rfl rfl fun K hK => ?_
      refine call_in 49 39 (.string D) (.int .u64 (z : Int)) _ hlp rfl (fun _ => rfl) rfl (HC.out _) ?_
      refine hK _ _ ?_
      clear hK K
      try simp only [Act.put, List.setIfInBounds_toArray, List.set_cons_zero, List.set_cons_succ]
      refine in_one 3 (o := { dst := some 41, op := Op.buildSlice 28 1 #[(0, Operand.tmp 40)], type := 28, pos := "pmsg.go:136", after := #[{ on := 2, ground := Ground.data }], guard := none }) (by kernel_rfl) rfl rfl fun K hK => ?_
      refine still_in (still_row rfl) ?_
      go_simp
      refine hK _ _ ?_
      clear hK K
      try simp only [Act.put, List.setIfInBounds_toArray, List.set_cons_zero, List.set_cons_succ]
      refine in_one 4 (o := { dst := some 42, op := Op.call { callee := Callee.builtin Builtin.append, args := #[Operand.tmp 38, Operand.tmp 41], argTypes := #[28, 28] }, type := 28, pos := "pmsg.go:136", after := #[{ on := 0, ground := Ground.data }, { on := 3, ground := Ground.data }, { on := 2, ground := Ground.chain }], guard := none }) (by kernel_rfl) rfl rfl fun K hK => ?_
      refine still_in (still_append rfl) ?_
      clear c0 c1
      refine wp_app_uv (.tmp 38) (.tmp 41) rfl B W1 v l z rfl HW.out hB rfl hlen ?_
      intro va vn vc W2 hown2 hg
      have hg2 := (HO.out.alloc (.cells #[.int .u64 (z : Int)] 25)).kept hg (fun e => hne e.symm)
      have c0 := hg2.cell 0; have c1 := hg2.frozen 0
      simp only [List.getElem?_toArray, List.getElem?_cons_zero] at c0
      refine hK _ _ ?_
      clear hK K
      try simp only [Act.put, List.setIfInBounds_toArray, List.set_cons_zero, List.set_cons_succ]
      refine in_one 5 (o := { dst := none, op := Op.store 28 (Operand.tmp 6) (Operand.tmp 42), type := 0, pos := "pmsg.go:136", after := #[{ on := 4, ground := Ground.data }, { on := 4, ground := Ground.chain }, { on := 0, ground := Ground.phase }, { on := 1, ground := Ground.phase }, { on := 2, ground := Ground.phase }, { on := 3, ground := Ground.phase }, { on := 4, ground := Ground.phase }], guard := none }) (by kernel_rfl) rfl rfl fun K hK => ?_
      refine still_in (still_store rfl) ?_
      go_simp
      refine hK _ _ ?_
      clear hK K
      try simp only [Act.put, List.setIfInBounds_toArray, List.set_cons_zero, List.set_cons_succ]
      refine wpAnyIn_done (by kernel_rfl) ⟨rfl, ?_⟩ _
      exact HQ.out _ _ _ _ hown2 hg hg2
    · skip
      refine call_in 49 39 (.string D) (.int .u64 (z : Int)) _ hlp rfl (fun _ => rfl) rfl (HC.out _) ?_
      refine hK _ _ ?_
      clear hK K
      try simp only [Act.put, List.setIfInBounds_toArray, List.set_cons_zero, List.set_cons_succ]
      refine in_two 0 3 (o := { dst := some 38, op := Op.load 28 (Operand.tmp 6), type := 28, pos := "pmsg.go:136", after := #[], guard := none }) (u := { dst := some 41, op := Op.buildSlice 28 1 #[(0, Operand.tmp 40)], type := 28, pos := "pmsg.go:136", after := #[{ on := 2, ground := Ground.data }], guard := none }) (by kernel_rfl) rfl rfl rfl rfl (fun K hK => ?_) (fun K hK => ?_)
      · skip
        refine still_in (still_load rfl) ?_
        go_simp
        refine hK _ _ ?_
        clear hK K
        try simp only [Act.put, List.setIfInBounds_toArray, List.set_cons_zero, List.set_cons_succ]
        refine in_one 3 (o := { dst := some 41, op := Op.buildSlice 28 1 #[(0, Operand.tmp 40)], type := 28, pos := "pmsg.go:136", after := #[{ on := 2, ground := Ground.data }], guard := none }) (by kernel_rfl) rfl rfl fun K hK => ?_
        refine still_in (still_row rfl) ?_
        go_simp
        refine hK _ _ ?_
        clear hK K
        try simp only [Act.put, List.setIfInBounds_toArray, List.set_cons_zero, List.set_cons_succ]
        refine in_one 4 (o := { dst := some 42, op := Op.call { callee := Callee.builtin Builtin.append, args := #[Operand.tmp 38, Operand.tmp 41], argTypes := #[28, 28] }, type := 28, pos := "pmsg.go:136", after := #[{ on := 0, ground := Ground.data }, { on := 3, ground := Ground.data }, { on := 2, ground := Ground.chain }], guard := none }) (by kernel_rfl) rfl rfl fun K hK => ?_
        refine still_in (still_append rfl) ?_
        clear c0 c1
        refine wp_app_uv (.tmp 38) (.tmp 41) rfl B W1 v l z rfl HW.out hB rfl hlen ?_
        intro va vn vc W2 hown2 hg
        have hg2 := (HO.out.alloc (.cells #[.int .u64 (z : Int)] 25)).kept hg (fun e => hne e.symm)
        have c0 := hg2.cell 0; have c1 := hg2.frozen 0
        simp only [List.getElem?_toArray, List.getElem?_cons_zero] at c0
        refine hK _ _ ?_
        clear hK K
        try simp only [Act.put, List.setIfInBounds_toArray, List.set_cons_zero, List.set_cons_succ]
        refine in_one 5 (o := { dst := none, op := Op.store 28 (Operand.tmp 6) (Operand.tmp 42), type := 0, pos := "pmsg.go:136", after := #[{ on := 4, ground := Ground.data }, { on := 4, ground := Ground.chain }, { on := 0, ground := Ground.phase }, { on := 1, ground := Ground.phase }, { on := 2, ground := Ground.phase }, { on := 3, ground := Ground.phase }, { on := 4, ground := Ground.phase }], guard := none }) (by kernel_rfl) rfl rfl fun K hK => ?_
        refine still_in (still_store rfl) ?_
        go_simp
        refine hK _ _ ?_
        clear hK K
        try simp only [Act.put, List.setIfInBounds_toArray, List.set_cons_zero, List.set_cons_succ]
        refine wpAnyIn_done (by kernel_rfl) ⟨rfl, ?_⟩ _
        exact HQ.out _ _ _ _ hown2 hg hg2
      · skip
        refine still_in (still_row rfl) ?_
        go_simp
        refine hK _ _ ?_
        clear hK K
        try simp only [Act.put, List.setIfInBounds_toArray, List.set_cons_zero, List.set_cons_succ]
        refine in_one 0 (o := { dst := some 38, op := Op.load 28 (Operand.tmp 6), type := 28, pos := "pmsg.go:136", after := #[], guard := none }) (by kernel_rfl) rfl rfl fun K hK => ?_
        refine still_in (still_load rfl) ?_
        go_simp
        refine hK _ _ ?_
        clear hK K
        try simp only [Act.put, List.setIfInBounds_toArray, List.set_cons_zero, List.set_cons_succ]
        refine in_one 4 (o := { dst := some 42, op := Op.call { callee := Callee.builtin Builtin.append, args := #[Operand.tmp 38, Operand.tmp 41], argTypes := #[28, 28] }, type := 28, pos := "pmsg.go:136", after := #[{ on := 0, ground := Ground.data }, { on := 3, ground := Ground.data }, { on := 2, ground := Ground.chain }], guard := none }) (by kernel_rfl) rfl rfl fun K hK => ?_
        refine still_in (still_append rfl) ?_
        clear c0 c1
        refine wp_app_uv (.tmp 38) (.tmp 41) rfl B W1 v l z rfl HW.out hB rfl hlen ?_
        intro va vn vc W2 hown2 hg
        have hg2 := (HO.out.alloc (.cells #[.int .u64 (z : Int)] 25)).kept hg (fun e => hne e.symm)
        have c0 := hg2.cell 0; have c1 := hg2.frozen 0
        simp only [List.getElem?_toArray, List.getElem?_cons_zero] at c0
        refine hK _ _ ?_
        clear hK K
        try simp only [Act.put, List.setIfInBounds_toArray, List.set_cons_zero, List.set_cons_succ]
        refine in_one 5 (o := { dst := none, op := Op.store 28 (Operand.tmp 6) (Operand.tmp 42), type := 0, pos := "pmsg.go:136", after := #[{ on := 4, ground := Ground.data }, { on := 4, ground := Ground.chain }, { on := 0, ground := Ground.phase }, { on := 1, ground := Ground.phase }, { on := 2, ground := Ground.phase }, { on := 3, ground := Ground.phase }, { on := 4, ground := Ground.phase }], guard := none }) (by kernel_rfl) rfl rfl fun K hK => ?_
        refine still_in (still_store rfl) ?_
        go_simp
        refine hK _ _ ?_
        clear hK K
        try simp only [Act.put, List.setIfInBounds_toArray, List.set_cons_zero, List.set_cons_succ]
        refine wpAnyIn_done (by kernel_rfl) ⟨rfl, ?_⟩ _
        exact HQ.out _ _ _ _ hown2 hg hg2
end Go.Proofs.Ytbkcklefkhlciaa
