/-
  A region that draws its order, within a round of a loop over a function: where its operations call nothing and defer nothing. And a condition on the world that is kept only as long as some operations have not come up.
-/
import Derived.OrdersHeld
import Derived.OrdersIn
import Derived.TacticsIn
import Derived.Deep.RegionHeld3
import Derived.Deep.AppendLies
import Derived.WalkKit
namespace Go.Proofs.YtkebjllehegjlaaGreatDoor
open Go.RowKit

/-- An operation that calls nothing and defers nothing. -/
def Still (P : Program) (o : Oper) : Prop := (∀ c, o.op ≠ .defer c) ∧ (∀ w ρ, o.about P w ρ = none) ∧
  ∀ ρ w nx w', (execOp ρ o).run P w = .ok nx w' → (∃ v, nx = .value v) ∨ nx = .skip

theorem val_run {P : Program} {s : Sem Value} {w w' : World} {nx : Next} (h : (do pure (.value (← s)) : Sem Next).run P w = .ok nx w') : ∃ v, nx = .value v := by
  rw [Sem.run_bind] at h
  cases hs : s.run P w with
  | ok v w1 => rw [hs] at h; cases h; exact ⟨_, rfl⟩
  | halt x w1 => rw [hs] at h; cases h
theorem unit_run {P : Program} {s : Sem Unit} {w w' : World} {nx : Next} (h : (do s; pure .skip : Sem Next).run P w = .ok nx w') : nx = .skip := by
  rw [Sem.run_bind] at h
  cases hs : s.run P w with
  | ok v w1 => rw [hs] at h; cases h; rfl
  | halt x w1 => rw [hs] at h; cases h

theorem still_load {P : Program} {o : Oper} {t : TypeId} {x : Operand} (h : o.op = .load t x) : Still P o := by
  refine ⟨by simp [h], by simp [Oper.about, h], fun ρ w nx w' hr => .inl ?_⟩
  unfold execOp at hr; simp only [h] at hr
  exact val_run hr
theorem still_move {P : Program} {o : Oper} {x : Operand} (h : o.op = .move x) : Still P o := by
  refine ⟨by simp [h], by simp [Oper.about, h], fun ρ w nx w' hr => .inl ?_⟩
  unfold execOp at hr; simp only [h] at hr
  cases hr; exact ⟨_, rfl⟩
theorem still_row {P : Program} {o : Oper} {t : TypeId} {n : Nat} {ps : Array (Nat × Operand)} (h : o.op = .buildSlice t n ps) : Still P o := by
  refine ⟨by simp [h], by simp [Oper.about, h], fun ρ w nx w' hr => .inl ?_⟩
  unfold execOp at hr; simp only [h] at hr
  exact val_run hr
theorem still_store {P : Program} {o : Oper} {t : TypeId} {x y : Operand} (h : o.op = .store t x y) : Still P o := by
  refine ⟨by simp [h], by simp [Oper.about, h], fun ρ w nx w' hr => .inr ?_⟩
  unfold execOp at hr; simp only [h] at hr
  exact unit_run hr
theorem still_append {P : Program} {o : Oper} {xs : Array Operand} {ts : Array TypeId} (h : o.op = .call { callee := .builtin .append, args := xs, argTypes := ts }) : Still P o := by
  refine ⟨by simp [h], ?_, fun ρ w nx w' hr => .inl ?_⟩
  · intro w ρ
    simp [Oper.about, h, resolve, Sem.run_pure, Target.leads]
  · unfold execOp at hr; simp only [h] at hr
    simp only [resolve, Sem.run_bind, Sem.run_pure, Result.andThen_ok, invoke, builtin] at hr
    cases hs : (Builtin.append_ ts o.type (Array.map ρ xs)).run P w with
    | ok v w1 => rw [hs] at hr; cases hr; exact ⟨_, rfl⟩
    | halt x w1 => rw [hs] at hr; cases hr

theorem still_op {F : Fence} {n : Nat} {P : Program} {ops : Array Oper} {Q : Exit → Act → World → Prop} {i : Nat} (hst : ∀ o, ops[i]? = some o → Still P o) (hQ : ¬ LetsOut Q)
    {K K' : Act → World → Prop} {a : Act} {w : World} (hK : ∀ a w, K a w → K' a w) (h : wpOp P ops Q i K a w) : wpOpIn F n P ops Q i K' a w := by
  unfold wpOp at h
  unfold wpOpIn
  cases ho : ops[i]? with
  | none => simp only [ho] at h ⊢; exact hK _ _ h
  | some o =>
    simp only [ho] at h ⊢
    obtain ⟨hd, hab, hr⟩ := hst o ho
    have hab' : ∀ f, o.about P w a.eval = some f → F.fn f := fun f hf => by rw [hab] at hf; cases hf
    split
    · rename_i hw
      simp only [hw, if_true] at h
      rcases h with h | ⟨_, h⟩
      · unfold Oper.wp at h
        unfold Oper.wpIn
        refine ⟨hab', ?_⟩
        rw [Oper.semAt_eq _ _ _ hd]
        have hr := hr a.eval w
        generalize (execOp a.eval o).run P w = r at *
        cases r with
        | ok x w' =>
          rcases hr x w' rfl with ⟨v, rfl⟩ | rfl
          · exact hK _ _ h
          · exact hK _ _ h
        | halt x w' => cases x <;> simp only [Oper.upon, Oper.uponIn] at h ⊢ <;> exact h
      · exact absurd h hQ
    · rename_i hw
      simp only [hw] at h
      exact ⟨hab', hK _ _ h⟩

section
variable {P : Program} {ops : Array Oper} {Q : Exit → Act → World → Prop} {md : Region.Mode} {k : Nat} {S : World → Prop}

/-- In whatever order the operations come up that have not come up yet: behind each of them, as long as number k has not come up, S holds of the world. -/
def AnyG (P : Program) (md : Region.Mode) (ops : Array Oper) (Q : Exit → Act → World → Prop) (k : Nat) (S : World → Prop) : Nat → Array Bool → Act → World → Prop
  | 0, listed, a, w => Region.ready md ops listed = [] ∧ Q .normal a w
  | fuel + 1, listed, a, w => (Region.ready md ops listed = [] → Q .normal a w) ∧
      ∀ i ∈ Region.ready md ops listed, wpOp P ops Q i (fun a' w' => ((listed.setIfInBounds i true).getD k false = false → S w') ∧ AnyG P md ops Q k S fuel (listed.setIfInBounds i true) a' w') a w

theorem anyG_in {F : Fence} {n : Nat} (hst : ∀ (i : Nat) (o : Oper), ops[i]? = some o → Still P o) (hQ : ¬ LetsOut Q) :
    ∀ (fuel : Nat) (listed : Array Bool) (a : Act) (w : World), AnyG P md ops Q k S fuel listed a w → wpAnyIn F n P md ops Q fuel listed a w
  | 0, _, _, _, h => h
  | fuel + 1, _, _, _, h => ⟨h.1, fun i hi => still_op (hst i) hQ (fun a' w' h' => anyG_in hst hQ fuel _ a' w' h'.2) (h.2 i hi)⟩

/-- What has come up has come up behind all that it waits for. -/
def Shutd (md : Region.Mode) (ops : Array Oper) (l : Array Bool) : Prop := ∀ (j : Nat) (o : Oper), ops[j]? = some o → l.getD j false = true → ∀ e ∈ o.after, Region.binds md e = true → l.getD e.on false = true

theorem getD_set {l : Array Bool} {j : Nat} (m : Nat) (d : Bool) (h : m ≠ j) : (l.setIfInBounds j true).getD m d = l.getD m d := by
  simp only [Array.getD_eq_getD_getElem?, Array.getElem?_setIfInBounds]
  rw [if_neg (fun e => h e.symm)]
theorem getD_up {l : Array Bool} {j : Nat} (m : Nat) (h : l.getD m false = true) : (l.setIfInBounds j true).getD m false = true := by
  by_cases hm : m = j
  · subst hm
    have hlt : m < l.size := by
      rcases Nat.lt_or_ge m l.size with h' | h'
      · exact h'
      · simp [Array.getD_eq_getD_getElem?, Array.getElem?_eq_none h'] at h
    simp [Array.getD_eq_getD_getElem?, hlt]
  · rw [getD_set m false hm]; exact h
theorem getD_no {l : Array Bool} {m : Nat} (h : l.getD m false = true) : l.getD m true = true := by
  cases hm : l[m]? <;> simp_all [Array.getD_eq_getD_getElem?]
theorem Shutd.step {l : Array Bool} {j : Nat} (h : Shutd md ops l) (hj : j ∈ Region.ready md ops l) : Shutd md ops (l.setIfInBounds j true) := by
  intro m o ho hm e he hb
  by_cases hmj : m = j
  · subst hmj
    obtain ⟨_, oj, hoj, hall⟩ := mem_ready.1 hj
    rw [hoj] at ho; cases ho
    exact getD_up _ (hall e he hb)
  · rw [getD_set m false hmj] at hm
    exact getD_up _ (h m o ho hm e he hb)

/-- An operation that may come up, and that yields its value in every world that meets S, may be taken first: if number k waits for it. -/
theorem anyG_first {i : Nat} {oi : Oper} {v : Value} (hi : ops[i]? = some oi) (hs : Region.noSelect ops = true) (hik : i ≠ k)
    (hk : ∀ l, Shutd md ops l → l.getD i true = false → l.getD k false = false) (hQ : ∀ c a w, Q (.panic c) (a.put oi.dst v) w → Q (.panic c) a w) :
    ∀ (fuel : Nat) (listed : Array Bool) (a : Act) (w : World),
      (∀ j oj, ops[j]? = some oj → j ≠ i → listed.getD j true = false → (∀ e ∈ oj.after, Region.binds md e = true → e.on ≠ i) → oi.apart ops oj = true) →
      i ∈ Region.ready md ops listed → YieldsIf P ops S oi v a → Shutd md ops listed → S w →
      AnyG P md ops Q k S fuel (listed.setIfInBounds i true) (a.put oi.dst v) w → AnyG P md ops Q k S (fuel + 1) listed a w := by
  have hsel := Region.noSelect_spec hs
  intro fuel
  induction fuel with
  | zero =>
    intro listed a w _ hr hy hl hS H
    refine ⟨fun h => (by rw [h] at hr; cases hr), fun j hj => ?_⟩
    rcases Decidable.em (j = i) with rfl | hji
    · exact hy.wpOp hi hS ⟨fun _ => hS, H⟩
    · have hm := ready_mono hj hji
      rw [H.1] at hm
      cases hm
  | succ fuel ih =>
    intro listed a w hfree hr hy hl hS H
    have hun := (mem_ready.1 hr).1
    refine ⟨fun h => (by rw [h] at hr; cases hr), fun j hj => ?_⟩
    rcases Decidable.em (j = i) with rfl | hji
    · exact hy.wpOp hi hS ⟨fun _ => hS, H⟩
    · obtain ⟨hjun, oj, hoj, hall⟩ := mem_ready.1 hj
      have hno : ∀ e ∈ oj.after, Region.binds md e = true → e.on ≠ i := by
        intro e he hb heq
        have h1 := hall e he hb
        rw [heq] at h1
        rw [getD_no h1] at hun
        cases hun
      have hl' := hl.step hj
      have hij : i ≠ j := fun e => hji e.symm
      have hun' : (listed.setIfInBounds j true).getD i true = false := by rw [getD_set i true hij]; exact hun
      have hkk := hk _ hl' hun'
      have hap := hfree j oj hoj hji hjun hno
      have h2 := wpOp_putIf (S := S) hoj hap (fun cs b => hsel i oi cs b hi) (fun cs b => hsel j oj cs b hoj) hQ hy (H.2 j (ready_mono hj hji))
      refine wpOp_mono (fun a' w' h3 => ?_) h2
      obtain ⟨hy', hS', h4⟩ := h3
      have hSw : S w' := hS' (by rw [Array.setIfInBounds_comm _ _ hij, getD_set k false (fun e => hik e.symm)]; exact hkk)
      refine ⟨fun _ => hSw, ih _ a' w' ?_ (ready_mono hr hij) hy' hl' hSw ?_⟩
      · intro m om hom hmi hmu hmno
        refine hfree m om hom hmi ?_ hmno
        by_cases hmj : m = j
        · subst hmj; exact hjun
        · rw [getD_set m true hmj] at hmu; exact hmu
      · rw [Array.setIfInBounds_comm _ _ hji]; exact h4

theorem anyG_take {i : Nat} {oi : Oper} {v : Value} {fuel : Nat} {listed : Array Bool} {a : Act} {w : World} (hi : ops[i]? = some oi) (hs : Region.noSelect ops = true) (hik : i ≠ k)
    (hk : ∀ l, Shutd md ops l → l.getD i true = false → l.getD k false = false) (hf : Region.free md ops listed i = true) (hr : (Region.ready md ops listed).contains i = true)
    (hQ : ∀ c a w, Q (.panic c) (a.put oi.dst v) w → Q (.panic c) a w) (hl : Shutd md ops listed) (hy : YieldsIf P ops S oi v a) (hS : S w)
    (h : AnyG P md ops Q k S fuel (listed.setIfInBounds i true) (a.put oi.dst v) w) : AnyG P md ops Q k S (fuel + 1) listed a w :=
  anyG_first hi hs hik hk hQ fuel listed a w (Region.free_spec hi hf) (by simpa using hr) hy hl hS h

theorem anyG_done {listed : Array Bool} {a : Act} {w : World} (hr : Region.ready md ops listed = []) (h : Q .normal a w) : ∀ fuel, AnyG P md ops Q k S fuel listed a w
  | 0 => ⟨hr, h⟩
  | _ + 1 => ⟨fun _ => h, by rw [hr]; simp⟩

/-- One alone may come up. -/
theorem anyG_one {i : Nat} {o : Oper} {fuel : Nat} {listed : Array Bool} {a : Act} {w : World} (hr : Region.ready md ops listed = [i]) (ho : ops[i]? = some o) (hg : o.guard = none)
    (h : ∀ K : Act → World → Prop, (∀ a' w', ((listed.setIfInBounds i true).getD k false = false → S w') → AnyG P md ops Q k S fuel (listed.setIfInBounds i true) a' w' → K a' w') → o.wp P a w K Q) : AnyG P md ops Q k S (fuel + 1) listed a w := by
  refine ⟨fun h0 => (by rw [hr] at h0; cases h0), fun j hj => ?_⟩
  rw [hr] at hj
  rcases List.mem_singleton.1 hj with rfl
  unfold wpOp
  simp only [ho]
  rw [if_pos (by simp [Region.wanted, hg])]
  exact .inl (h _ fun a' w' h1 h2 => ⟨h1, h2⟩)
/-- Two may come up. -/
theorem anyG_two {i j : Nat} {o u : Oper} {fuel : Nat} {listed : Array Bool} {a : Act} {w : World} (hr : Region.ready md ops listed = [i, j]) (ho : ops[i]? = some o) (hu : ops[j]? = some u) (hg : o.guard = none) (hgu : u.guard = none)
    (h : ∀ K : Act → World → Prop, (∀ a' w', ((listed.setIfInBounds i true).getD k false = false → S w') → AnyG P md ops Q k S fuel (listed.setIfInBounds i true) a' w' → K a' w') → o.wp P a w K Q)
    (h' : ∀ K : Act → World → Prop, (∀ a' w', ((listed.setIfInBounds j true).getD k false = false → S w') → AnyG P md ops Q k S fuel (listed.setIfInBounds j true) a' w' → K a' w') → u.wp P a w K Q) : AnyG P md ops Q k S (fuel + 1) listed a w := by
  refine ⟨fun h0 => (by rw [hr] at h0; cases h0), fun m hm => ?_⟩
  rw [hr] at hm
  unfold wpOp
  rcases List.mem_cons.1 hm with rfl | hm
  · simp only [ho]
    rw [if_pos (by simp [Region.wanted, hg])]
    exact .inl (h _ fun a' w' h1 h2 => ⟨h1, h2⟩)
  · rcases List.mem_singleton.1 hm with rfl
    simp only [hu]
    rw [if_pos (by simp [Region.wanted, hgu])]
    exact .inl (h' _ fun a' w' h1 h2 => ⟨h1, h2⟩)

/-- Number j waits for number m. -/
def waits (md : Region.Mode) (ops : Array Oper) (j m : Nat) : Bool := match ops[j]? with
  | some o => o.after.any fun e => Region.binds md e && e.on == m
  | none => false
theorem Shutd.dep {l : Array Bool} (h : Shutd md ops l) (j m : Nat) (hw : waits md ops j m = true) (hj : l.getD j false = true) : l.getD m false = true := by
  unfold waits at hw
  cases ho : ops[j]? with
  | none => rw [ho] at hw; cases hw
  | some o =>
    rw [ho] at hw
    obtain ⟨i, hi, he⟩ := Array.any_eq_true.1 hw
    simp only [Bool.and_eq_true, beq_iff_eq] at he
    rw [← he.2]
    exact h j o ho hj _ (Array.getElem_mem hi) he.1
theorem Shutd.no {l : Array Bool} (h : Shutd md ops l) (j m : Nat) (hw : waits md ops j m = true) (hm : l.getD m true = false) : l.getD j false = false := by
  cases hj : l.getD j false with
  | false => rfl
  | true => have := getD_no (h.dep j m hw hj); rw [hm] at this; cases this
theorem Shutd.no' {l : Array Bool} (h : Shutd md ops l) (j i m : Nat) (hw : waits md ops j i = true) (hw' : waits md ops i m = true) (hm : l.getD m true = false) : l.getD j false = false := by
  cases hj : l.getD j false with
  | false => rfl
  | true => have := getD_no (h.dep i m hw' (h.dep j i hw hj)); rw [hm] at this; cases this
theorem Shutd.no'' {l : Array Bool} (h : Shutd md ops l) (j i i' m : Nat) (hw : waits md ops j i = true) (hw' : waits md ops i i' = true) (hw'' : waits md ops i' m = true) (hm : l.getD m true = false) : l.getD j false = false := by
  cases hj : l.getD j false with
  | false => rfl
  | true => have := getD_no (h.dep i' m hw'' (h.dep i i' hw' (h.dep j i hw hj))); rw [hm] at this; cases this
theorem Shutd.step' {l : Array Bool} {j : Nat} (h : Shutd md ops l) (hj : (Region.ready md ops l).contains j = true) : Shutd md ops (l.setIfInBounds j true) := h.step (by simpa using hj)
theorem still_at {P : Program} {ops : Array Oper} {i : Nat} {o : Oper} (op : Oper) (ho : ops[i]? = some op) (h : ops[i]? = some o) (hs : Still P op) : Still P o := by
  rw [ho] at h; cases h; exact hs

/-- The beginning. -/
theorem wpIn_still {F : Fence} {n id : Nat} {a : Act} {w : World} (k : Nat) (S : World → Prop) (hm : P.follows .mixedOrders = true) (hst : ∀ (i : Nat) (o : Oper), ops[i]? = some o → Still P o)
    (h : AnyG P .any ops (fun e a w => e = .normal ∧ Q .normal a w) k S ops.size (Array.replicate ops.size false) a { w with drawn := w.drawn + 1 }) : (Code.region id ops true).wpIn F n P Q a w := by
  refine wpIn_mono (wpIn_region_any hm (anyG_in hst ?_ _ _ _ _ h)) ?_
  · rintro ⟨a, w, h, _⟩; cases h
  · rintro e a w ⟨rfl, h⟩; exact h
theorem shutd_start (n : Nat) : Shutd md ops (Array.replicate n false) := by
  intro j o _ h
  simp only [Array.getD_eq_getD_getElem?, Array.getElem?_replicate] at h
  split at h <;> cases h
end
end Go.Proofs.YtkebjllehegjlaaGreatDoor
