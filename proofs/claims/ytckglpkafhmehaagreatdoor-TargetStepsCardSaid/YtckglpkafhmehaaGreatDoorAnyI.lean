/-
  A region that draws its order, by an invariant: one step for each operation, whatever was done ahead of it.
-/
import Derived.Test.YtckglpkafhmehaaGreatDoorNDvM
import Derived.Deep.RegionHeld3
namespace Go.Proofs.YtckglpkafhmehaaGreatDoor
open Go.RowKit
set_option linter.unusedVariables false
def upd (d : Nat → Bool) (i : Nat) : Nat → Bool := fun j => Nat.beq j i || d j
theorem upd_self (d : Nat → Bool) (i : Nat) : upd d i i = true := by simp [upd]
theorem upd_ne (d : Nat → Bool) {i j : Nat} (h : j ≠ i) : upd d i j = d j := by
  unfold upd
  have e : Nat.beq j i = false := by
    cases hb : Nat.beq j i with
    | false => rfl
    | true => exact absurd (Nat.eq_of_beq_eq_true hb) h
  rw [e]
  rfl
/-- How many of the first m are not done. -/
def cnt (f : Nat → Bool) : Nat → Nat
  | 0 => 0
  | m + 1 => cnt f m + (if f m = true then 0 else 1)
theorem cnt_far (f : Nat → Bool) : ∀ (m i : Nat), m ≤ i → cnt (upd f i) m = cnt f m := by
  intro m
  induction m with
  | zero => intro i _; rfl
  | succ m ih =>
    intro i h
    unfold cnt
    rw [ih i (by omega), upd_ne f (by omega)]
theorem cnt_upd (f : Nat → Bool) : ∀ (m i : Nat), i < m → f i = false → cnt (upd f i) m + 1 = cnt f m := by
  intro m
  induction m with
  | zero => intro i h; omega
  | succ m ih =>
    intro i h h0
    unfold cnt
    by_cases e : i = m
    · subst e
      rw [cnt_far f i i (Nat.le_refl _), upd_self, h0]
      simp
    · rw [upd_ne f (Ne.symm e)]
      have := ih i (by omega) h0
      omega
theorem cnt_zero (f : Nat → Bool) : ∀ m, cnt f m = 0 → ∀ j, j < m → f j = true := by
  intro m
  induction m with
  | zero => intro _ j h; omega
  | succ m ih =>
    intro h j hj
    unfold cnt at h
    by_cases e : f m = true
    · by_cases ej : j = m
      · subst ej; exact e
      · exact ih (by omega) j (by omega)
    · rw [if_neg e] at h; omega
theorem cnt_pos (f : Nat → Bool) : ∀ m, 0 < cnt f m → ∃ j, j < m ∧ f j = false ∧ ∀ k, k < j → f k = true := by
  intro m
  induction m with
  | zero => intro h; simp [cnt] at h
  | succ m ih =>
    intro h
    rcases Nat.eq_zero_or_pos (cnt f m) with h0 | h0
    · unfold cnt at h
      rw [h0] at h
      by_cases e : f m = true
      · rw [if_pos e] at h; omega
      · exact ⟨m, by omega, by simpa using e, cnt_zero f m h0⟩
    · obtain ⟨j, h1, h2⟩ := ih h0
      exact ⟨j, by omega, h2⟩
def depsOf (md : Region.Mode) (ops : Array Oper) (i : Nat) : List Nat := match ops[i]? with
  | some o => (o.after.toList.filter (Region.binds md)).map (·.on)
  | none => []
theorem ready_iff {md : Region.Mode} {ops : Array Oper} {listed : Array Bool} (hs : listed.size = ops.size) (i : Nat) :
    i ∈ Region.ready md ops listed ↔ i < ops.size ∧ listed.getD i false = false ∧ ∀ j ∈ depsOf md ops i, listed.getD j false = true := by
  rw [mem_ready]
  constructor
  · rintro ⟨h1, o, h2, h3⟩
    have hi : i < ops.size := (Array.getElem?_eq_some_iff.1 h2).1
    refine ⟨hi, ?_, fun j hj => ?_⟩
    · have : i < listed.size := by omega
      simpa [Array.getD, this] using h1
    · unfold depsOf at hj
      rw [h2] at hj
      simp only [List.mem_map, List.mem_filter] at hj
      obtain ⟨e, ⟨he, hb⟩, rfl⟩ := hj
      exact h3 e (by simpa using he) hb
  · rintro ⟨hi, h1, h2⟩
    refine ⟨?_, ops[i], Array.getElem?_eq_getElem hi, fun e he hb => h2 e.on ?_⟩
    · have : i < listed.size := by omega
      simpa [Array.getD, this] using h1
    · unfold depsOf
      rw [Array.getElem?_eq_getElem hi]
      simp only [List.mem_map, List.mem_filter]
      exact ⟨e, ⟨by simpa using he, hb⟩, rfl⟩
theorem getD_upd {listed : Array Bool} {i : Nat} (h : i < listed.size) : (fun j => (listed.setIfInBounds i true).getD j false) = upd (fun j => listed.getD j false) i := by
  funext j
  by_cases e : j = i
  · subst e
    rw [upd_self]
    simp [Array.getD, h]
  · rw [upd_ne _ e, getD_set_ne false (Ne.symm e)]
theorem listed_eq {listed : Array Bool} {m n : Nat} (hs : listed.size = n) (hmn : m ≤ n) (h1 : ∀ j, j < m → listed.getD j false = true) (h2 : ∀ j, m ≤ j → listed.getD j false = false) : listed = (List.replicate m true ++ List.replicate (n - m) false).toArray := by
  apply Array.ext
  · simp; omega
  · intro i hi hi'
    have e : listed[i] = listed.getD i false := by simp [Array.getD, hi]
    rw [e]
    by_cases hm : i < m
    · rw [h1 i hm]
      simp [hm]
    · rw [h2 i (by omega)]
      simp [List.getElem_append, hm]
theorem any_inv {P : Program} {ops : Array Oper} {Q : Exit → Act → World → Prop} (m : Nat) (Inv : (Nat → Bool) → Act → World → Prop) (hmn : m ≤ ops.size)
    (hback : ∀ i, i < ops.size → ∀ j ∈ depsOf .any ops i, j < i)
    (hstep : ∀ (d : Nat → Bool) (a : Act) (w : World) (i : Nat), i < m → d i = false → (∀ j k, k ∈ depsOf .any ops j → d j = true → d k = true) → (∀ j ∈ depsOf .any ops i, d j = true) → Inv d a w → ∀ K' : Act → World → Prop, Shut (∀ a w, Inv (upd d i) a w → K' a w) → wpOp P ops Q i K' a w)
    (hlate : ∀ d : Nat → Bool, (∀ j k, k ∈ depsOf .any ops j → d j = true → d k = true) → ∀ i, m ≤ i → i < ops.size → (∀ j ∈ depsOf .any ops i, d j = true) → ∀ j, j < m → d j = true)
    (hend : ∀ (d : Nat → Bool) (a : Act) (w : World), (∀ j, j < m → d j = true) → Inv d a w → wpAny P .any ops Q (ops.size - m) (List.replicate m true ++ List.replicate (ops.size - m) false).toArray a w) :
    ∀ (c : Nat) (listed : Array Bool) (a : Act) (w : World), listed.size = ops.size → (∀ j, m ≤ j → listed.getD j false = false) → (∀ j k, k ∈ depsOf .any ops j → listed.getD j false = true → listed.getD k false = true) →
      cnt (fun j => listed.getD j false) m = c → Inv (fun j => listed.getD j false) a w → wpAny P .any ops Q (c + (ops.size - m)) listed a w := by
  intro c
  induction c with
  | zero =>
    intro listed a w hs hf _ hc hi
    have hall := cnt_zero _ m hc
    rw [listed_eq hs hmn hall hf, Nat.zero_add]
    exact hend _ a w hall hi
  | succ c ih =>
    intro listed a w hs hf hcl hc hi
    obtain ⟨j0, hj0, hj1, hj2⟩ := cnt_pos _ m (by rw [hc]; omega)
    rw [show c + 1 + (ops.size - m) = (c + (ops.size - m)) + 1 from by omega]
    refine ⟨fun hr => ?_, fun i hr => ?_⟩
    · exfalso
      have : j0 ∈ Region.ready .any ops listed := (ready_iff hs j0).2 ⟨by omega, hj1, fun k hk => hj2 k (hback j0 (by omega) k hk)⟩
      rw [hr] at this
      cases this
    · obtain ⟨h1, h2, h3⟩ := (ready_iff hs i).1 hr
      rcases Nat.lt_or_ge i m with hm | hm
      · refine hstep _ a w i hm h2 hcl h3 hi _ (fun a' w' hI => ?_)
        have e := getD_upd (listed := listed) (i := i) (by omega)
        have hcn := cnt_upd (fun j => listed.getD j false) m i hm h2
        have ef : ∀ j, (listed.setIfInBounds i true).getD j false = upd (fun j => listed.getD j false) i j := fun j => congrFun e j
        refine ih _ a' w' (by simpa using hs) (fun j hj => by rw [ef, upd_ne _ (by omega)]; exact hf j hj) (fun j k hk hj => ?_) (by rw [e]; omega) (by rw [e]; exact hI)
        by_cases ej : j = i
        · subst ej
          exact getD_set_true (h3 k hk)
        · rw [ef, upd_ne _ ej] at hj
          exact getD_set_true (hcl j k hk hj)
      · have := hlate (fun j => listed.getD j false) hcl i hm h1 h3 j0 hj0
        rw [this] at hj1
        cases hj1
theorem wp_region_inv {P : Program} {ops : Array Oper} {Q : Exit → Act → World → Prop} {id : Nat} {a0 : Act} {w0 : World} (m : Nat) (Inv : Act → (Nat → Bool) → Act → World → Prop) (hm : P.follows .mixedOrders = true) (hmn : decide (m ≤ ops.size) = true)
    (hback : ((List.range ops.size).all fun i => (depsOf .any ops i).all fun j => decide (j < i)) = true)
    (hlate : ∀ d : Nat → Bool, (∀ j k, (depsOf .any ops j).contains k = true → d j = true → d k = true) → ∀ i, m ≤ i → i < ops.size → (∀ j, (depsOf .any ops i).contains j = true → d j = true) → ∀ j, j < m → d j = true)
    (hstart : Inv a0 (fun _ => false) a0 w0.drew)
    (hstep : ∀ (d : Nat → Bool) (a : Act) (w : World) (i : Nat), i < m → d i = false → (∀ j k, (depsOf .any ops j).contains k = true → d j = true → d k = true) → (∀ j, (depsOf .any ops i).contains j = true → d j = true) → Inv a0 d a w → ∀ K' : Act → World → Prop, Shut (∀ a w, Inv a0 (upd d i) a w → K' a w) → wpOp P ops Q i K' a w)
    (hend : ∀ (d : Nat → Bool) (a : Act) (w : World), (∀ j, j < m → d j = true) → Inv a0 d a w → wpAny P .any ops Q (ops.size - m) (List.replicate m true ++ List.replicate (ops.size - m) false).toArray a w) :
    (Code.region id ops true).wp P Q a0 w0 := by
  have hmn' := of_decide_eq_true hmn
  refine wp_region_any hm ?_
  have key := any_inv (P := P) (ops := ops) (Q := Q) m (Inv a0) hmn'
    (fun i hi j hj => by
      have h1 := List.all_eq_true.1 hback i (List.mem_range.2 hi)
      exact of_decide_eq_true (List.all_eq_true.1 h1 j hj))
    (fun d a w i hi h0 hcl hd hI K hK => hstep d a w i hi h0 (fun j k hk => hcl j k (by simpa using hk)) (fun j hj => hd j (by simpa using hj)) hI K hK)
    (fun d hcl i h1 h2 h3 => hlate d (fun j k hk hj => hcl j k (by simpa using hk) hj) i h1 h2 (fun j hj => h3 j (by simpa using hj))) hend
    m (Array.replicate ops.size false) a0 w0.drew (by simp) (fun j _ => by simp [Array.getD]) (fun j k _ h => by simp [Array.getD] at h) ?_ ?_
  · rw [show m + (ops.size - m) = ops.size from by omega] at key
    exact key
  · have : ∀ k, cnt (fun j => (Array.replicate ops.size false).getD j false) k = k := by
      intro k
      induction k with
      | zero => rfl
      | succ k ih => unfold cnt; rw [ih]; simp [Array.getD]
    exact this m
  · have e : (fun j => (Array.replicate ops.size false).getD j false) = fun _ => false := by funext j; simp [Array.getD]
    rw [e]; exact hstart
theorem any_op {P : Program} {ops : Array Oper} {Q : Exit → Act → World → Prop} {i : Nat} {K : Act → World → Prop} {a : Act} {w : World} {o : Oper} (hi : ops[i]? = some o) (hg : o.guard = none) (h : o.wp P a w K Q) : wpOp P ops Q i K a w := by
  unfold wpOp
  rw [hi]
  simp only [Region.wanted, hg, if_true]
  exact .inl h
/-- Slots that were written. -/
def puts (a : Act) (l : List (Nat × Value)) : Act := { tmps := l.foldl (fun t p => t.setIfInBounds p.1 p.2) a.tmps, defers := a.defers }
/-- The value v is a slice that is the number N. -/
def Nm (W : World) (v : Value) (N : Nat) : Prop := (∃ x y z, v = .agg #[.slice x y z]) ∧ IsN W v N
theorem Nm.below {W W' : World} {v : Value} {N : Nat} (h : Nm W v N) (hb : Below W.heap.size W W') : Nm W' v N := ⟨h.1, h.2.below hb (Nat.le_refl _)⟩
/-- The value v is a pair of a Bool and a number. -/
def Pr (W : World) (v : Value) (s : Bool) (N : Nat) : Prop := ∃ x y z, v = .tuple #[.bool s, .agg #[.slice x y z]] ∧ IsN W (.agg #[.slice x y z]) N
theorem Pr.below {W W' : World} {v : Value} {s : Bool} {N : Nat} (h : Pr W v s N) (hb : Below W.heap.size W W') : Pr W' v s N := by
  obtain ⟨x, y, z, rfl, h⟩ := h
  exact ⟨x, y, z, rfl, h.below hb (Nat.le_refl _)⟩
/-- The value v is two numbers and 'true'. -/
def Tr (W : World) (v : Value) (N M : Nat) : Prop := ∃ x y z x' y' z', v = .tuple #[.agg #[.slice x y z], .agg #[.slice x' y' z'], .bool true] ∧ IsN W (.agg #[.slice x y z]) N ∧ IsN W (.agg #[.slice x' y' z']) M
theorem Tr.below {W W' : World} {v : Value} {N M : Nat} (h : Tr W v N M) (hb : Below W.heap.size W W') : Tr W' v N M := by
  obtain ⟨x, y, z, x', y', z', rfl, h, k⟩ := h
  exact ⟨x, y, z, x', y', z', rfl, h.below hb (Nat.le_refl _), k.below hb (Nat.le_refl _)⟩
/-- The value v points to a new box of a number. -/
def Bn (W0 W : World) (v : Value) : Prop := ∃ b, v = .pointer (some ⟨b, 0, none⟩) ∧ Blk W b 31 #[.slice none 0 0] ∧ W0.heap.size ≤ b
theorem Bn.below {W0 W W' : World} {v : Value} (h : Bn W0 W v) (hb : Below W.heap.size W W') : Bn W0 W' v := by
  obtain ⟨b, h1, h2, h3⟩ := h
  exact ⟨b, h1, h2.below hb h2.lt, h3⟩
theorem Bn.ne {W0 W : World} {v : Value} (h : Bn W0 W v) : v ≠ .pointer (some ⟨W.heap.size, 0, none⟩) := by
  obtain ⟨b, rfl, h2, _⟩ := h
  intro e
  simp only [Value.pointer.injEq, Option.some.injEq, Addr.mk.injEq, and_true] at e
  have := h2.lt
  omega
/-- The value v points to a new box that holds the number that the value u is. -/
def St (W0 W : World) (v u : Value) : Prop := ∃ b x y z, v = .pointer (some ⟨b, 0, none⟩) ∧ u = .agg #[.slice x y z] ∧ Blk W b 31 #[.slice x y z] ∧ W0.heap.size ≤ b
theorem St.below {W0 W W' : World} {v u : Value} (h : St W0 W v u) (hb : Below W.heap.size W W') : St W0 W' v u := by
  obtain ⟨b, x, y, z, h1, h2, h3, h4⟩ := h
  exact ⟨b, x, y, z, h1, h2, h3.below hb h3.lt, h4⟩
theorem St.ne {W0 W : World} {v u : Value} (h : St W0 W v u) : v ≠ .pointer (some ⟨W.heap.size, 0, none⟩) := by
  obtain ⟨b, x, y, z, rfl, _, h2, _⟩ := h
  intro e
  simp only [Value.pointer.injEq, Option.some.injEq, Addr.mk.injEq, and_true] at e
  have := h2.lt
  omega
theorem box_ne {W0 W : World} {v u : Value} {s : Bool} (h1 : s = false → Bn W0 W v) (h2 : s = true → St W0 W v u) : v ≠ .pointer (some ⟨W.heap.size, 0, none⟩) := by
  cases s with
  | false => exact (h1 rfl).ne
  | true => exact (h2 rfl).ne
theorem Bn.far {W0 W : World} {v y : Value} {b : Nat} (h : Bn W0 W v) (hne : v ≠ .pointer (some ⟨b, 0, none⟩)) : Bn W0 (W.setCell ⟨b, 0, none⟩ y) v := by
  obtain ⟨g, rfl, h2, h3⟩ := h
  exact ⟨g, rfl, h2.far (by show g ≠ b; exact fun e => hne (by rw [e])) _, h3⟩
theorem St.far {W0 W : World} {v u y : Value} {b : Nat} (h : St W0 W v u) (hne : v ≠ .pointer (some ⟨b, 0, none⟩)) : St W0 (W.setCell ⟨b, 0, none⟩ y) v u := by
  obtain ⟨g, x', y', z', rfl, h1, h2, h3⟩ := h
  exact ⟨g, x', y', z', rfl, h1, h2.far (by show g ≠ b; exact fun e => hne (by rw [e])) _, h3⟩
theorem Nm.put {W : World} {v y : Value} {N b : Nat} {p : Option Addr} {n c : Nat} (h : Nm W v N) (hk : Blk W b 31 #[.slice p n c]) : Nm (W.setCell ⟨b, 0, none⟩ y) v N := ⟨h.1, isN_set1 h.2 (isN_box h.2 hk)⟩
theorem Pr.put {W : World} {v y : Value} {s : Bool} {N b : Nat} {p : Option Addr} {n c : Nat} (h : Pr W v s N) (hk : Blk W b 31 #[.slice p n c]) : Pr (W.setCell ⟨b, 0, none⟩ y) v s N := by
  obtain ⟨x, y', z, rfl, h⟩ := h
  exact ⟨x, y', z, rfl, isN_set1 h (isN_box h hk)⟩
theorem Tr.put {W : World} {v y : Value} {N M b : Nat} {p : Option Addr} {n c : Nat} (h : Tr W v N M) (hk : Blk W b 31 #[.slice p n c]) : Tr (W.setCell ⟨b, 0, none⟩ y) v N M := by
  obtain ⟨x, y', z, x', y'', z', rfl, h, k⟩ := h
  exact ⟨x, y', z, x', y'', z', rfl, isN_set1 h (isN_box h hk), isN_set1 k (isN_box k hk)⟩
/-- How an activation looks behind a slot that was written. -/
theorem las : (∀ (a : Act) (d : Tmp) (v : Value), a.put (some d) v = { tmps := a.tmps.setIfInBounds d v, defers := a.defers }) ∧ (∀ (a : Act) (v : Value), a.put none v = a) ∧ (∀ {α : Type} (l : List α) (i : Nat) (x : α), l.toArray.setIfInBounds i x = (l.set i x).toArray) ∧
    (∀ {α : Type} (y x : α) (l : List α), (y :: l).set 0 x = x :: l) ∧ (∀ {α : Type} (y x : α) (l : List α) (n : Nat), (y :: l).set (n + 1) x = y :: l.set n x) :=
  ⟨fun _ _ _ => rfl, fun _ _ => rfl, fun _ _ _ => List.setIfInBounds_toArray .., fun _ _ _ => rfl, fun _ _ _ _ => rfl⟩
theorem pus : (∀ (a : Act) (l : List (Nat × Value)), puts a l = { tmps := l.foldl (fun t p => t.setIfInBounds p.1 p.2) a.tmps, defers := a.defers }) ∧ (∀ {α β : Type} (f : α → β → α) (x : α) (y : β) (l : List β), (y :: l).foldl f x = l.foldl f (f x y)) ∧ (∀ {α β : Type} (f : α → β → α) (x : α), ([] : List β).foldl f x = x) ∧
    (∀ {α : Type} (l : List α) (i : Nat) (x : α), l.toArray.setIfInBounds i x = (l.set i x).toArray) ∧ (∀ {α : Type} (y x : α) (l : List α), (y :: l).set 0 x = x :: l) ∧ (∀ {α : Type} (y x : α) (l : List α) (n : Nat), (y :: l).set (n + 1) x = y :: l.set n x) :=
  ⟨fun _ _ => rfl, fun _ _ _ _ => rfl, fun _ _ => rfl, fun _ _ _ => List.setIfInBounds_toArray .., fun _ _ _ => rfl, fun _ _ _ _ => rfl⟩
theorem tkH {P : Program} {md : Region.Mode} {ops : Array Oper} {Q : Exit → Act → World → Prop} {S : World → Prop} {i : Nat} {oi : Oper} {v : Value} {fuel : Nat} {listed : Array Bool} {a : Act} {w : World} (hi : ops[i]? = some oi)
    (hb : (Region.noSelect ops && (Region.free md ops listed i && (Region.ready md ops listed).contains i)) = true) (hQ : ∀ c a w, Q (.panic c) (a.put oi.dst v) w → Q (.panic c) a w) (hy : YieldsIf P ops S oi v a) (hS : S w)
    (h : wpAnyH P md ops Q S fuel (listed.setIfInBounds i true) (a.put oi.dst v) w) : wpAnyH P md ops Q S (fuel + 1) listed a w := by
  rw [Bool.and_eq_true, Bool.and_eq_true] at hb
  exact wpAnyH_take hi hb.1 hb.2.1 hb.2.2 hQ hy hS h
theorem tkA {P : Program} {md : Region.Mode} {ops : Array Oper} {Q : Exit → Act → World → Prop} {S : World → Prop} {fuel : Nat} {listed : Array Bool} {a : Act} {w : World} (i : Nat) (oi : Oper) (v : Value) (hy : YieldsIf P ops S oi v a)
    (h : wpAnyH P md ops Q S fuel (listed.setIfInBounds i true) (a.put oi.dst v) w) (hi : ops[i]? = some oi := by rfl)
    (hb : (Region.noSelect ops && (Region.free md ops listed i && (Region.ready md ops listed).contains i)) = true := by as_aux_lemma => kernel_rfl) (hQ : ∀ c a w, Q (.panic c) (a.put oi.dst v) w → Q (.panic c) a w := by exact fun _ _ _ h => h) (hS : S w := by assumption) : wpAnyH P md ops Q S (fuel + 1) listed a w :=
  tkH hi hb hQ hy hS h
end Go.Proofs.YtckglpkafhmehaaGreatDoor
