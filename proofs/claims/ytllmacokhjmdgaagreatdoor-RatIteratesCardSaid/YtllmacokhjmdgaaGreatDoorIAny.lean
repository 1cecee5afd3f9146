/-
 Law 2: a region that draws its order, within a round of a loop over a function: by an invariant over what is done.
-/
import Derived.Test.YtllmacokhjmdgaaGreatDoorISum
namespace Go.Proofs.YtllmacokhjmdgaaGreatDoor
open Go.RowKit
set_option linter.unusedVariables false
theorem any_invIn {F : Fence} {n_ : Nat} {P : Program} {ops : Array Oper} {Q : Exit → Act → World → Prop} (m : Nat) (Inv : (Nat → Bool) → Act → World → Prop) (hmn : m ≤ ops.size)
 (hback : ∀ i, i < ops.size → ∀ j ∈ depsOf .any ops i, j < i)
 (hstep : ∀ (d : Nat → Bool) (a : Act) (w : World) (i : Nat), i < m → d i = false → (∀ j k, k ∈ depsOf .any ops j → d j = true → d k = true) → (∀ j ∈ depsOf .any ops i, d j = true) → Inv d a w → ∀ K' : Act → World → Prop, Shut (∀ a w, Inv (upd d i) a w → K' a w) → wpOpIn F n_ P ops Q i K' a w)
 (hlate : ∀ d : Nat → Bool, (∀ j k, k ∈ depsOf .any ops j → d j = true → d k = true) → ∀ i, m ≤ i → i < ops.size → (∀ j ∈ depsOf .any ops i, d j = true) → ∀ j, j < m → d j = true)
 (hend : ∀ (d : Nat → Bool) (a : Act) (w : World), (∀ j, j < m → d j = true) → Inv d a w → wpAnyIn F n_ P .any ops Q (ops.size - m) (List.replicate m true ++ List.replicate (ops.size - m) false).toArray a w) :
 ∀ (c : Nat) (listed : Array Bool) (a : Act) (w : World), listed.size = ops.size → (∀ j, m ≤ j → listed.getD j false = false) → (∀ j k, k ∈ depsOf .any ops j → listed.getD j false = true → listed.getD k false = true) →
  cnt (fun j => listed.getD j false) m = c → Inv (fun j => listed.getD j false) a w → wpAnyIn F n_ P .any ops Q (c + (ops.size - m)) listed a w := by
 intro c
 induction c with
 | zero =>
  intro listed a w hs hf _ hc hi
  have hall := cnt_zero _ m hc
  rw [listed_eq hs hmn hall hf, Nat.zero_add]
  exact hend _ a w hall hi
 | succ c ih =>
  intro listed a w hs hf hcl hc hi
  obtain ⟨j0, hj0, hj1, hj2⟩ := cnt_pos _ m (by rw [hc]; omega)
  rw [show c + 1 + (ops.size - m) = (c + (ops.size - m)) + 1 from by omega]
  refine ⟨fun hr => ?_, fun i hr => ?_⟩
  · exfalso
    have : j0 ∈ Region.ready .any ops listed := (ready_iff hs j0).2 ⟨by omega, hj1, fun k hk => hj2 k (hback j0 (by omega) k hk)⟩
    rw [hr] at this
    cases this
  · obtain ⟨h1, h2, h3⟩ := (ready_iff hs i).1 hr
    rcases Nat.lt_or_ge i m with hm | hm
    · refine hstep _ a w i hm h2 hcl h3 hi _ (fun a' w' hI => ?_)
      have e := getD_upd (listed := listed) (i := i) (by omega)
      have hcn := cnt_upd (fun j => listed.getD j false) m i hm h2
      have ef : ∀ j, (listed.setIfInBounds i true).getD j false = upd (fun j => listed.getD j false) i j := fun j => congrFun e j
      refine ih _ a' w' (by simpa using hs) (fun j hj => by rw [ef, upd_ne _ (by omega)]; exact hf j hj) (fun j k hk hj => ?_) (by rw [e]; omega) (by rw [e]; exact hI)
      by_cases ej : j = i
      · subst ej
        exact getD_set_true (h3 k hk)
      · rw [ef, upd_ne _ ej] at hj
        exact getD_set_true (hcl j k hk hj)
    · have := hlate (fun j => listed.getD j false) hcl i hm h1 h3 j0 hj0
      rw [this] at hj1
      cases hj1
theorem wpIn_region_inv {F : Fence} {n_ : Nat} {P : Program} {ops : Array Oper} {Q : Exit → Act → World → Prop} {id : Nat} {a0 : Act} {w0 : World} (m : Nat) (Inv : Act → (Nat → Bool) → Act → World → Prop) (hm : P.follows .mixedOrders = true) (hmn : decide (m ≤ ops.size) = true)
 (hback : ((List.range ops.size).all fun i => (depsOf .any ops i).all fun j => decide (j < i)) = true)
 (hlate : ∀ d : Nat → Bool, (∀ j k, (depsOf .any ops j).contains k = true → d j = true → d k = true) → ∀ i, m ≤ i → i < ops.size → (∀ j, (depsOf .any ops i).contains j = true → d j = true) → ∀ j, j < m → d j = true)
 (hstart : Inv a0 (fun _ => false) a0 w0.drew)
 (hstep : ∀ (d : Nat → Bool) (a : Act) (w : World) (i : Nat), i < m → d i = false → (∀ j k, (depsOf .any ops j).contains k = true → d j = true → d k = true) → (∀ j, (depsOf .any ops i).contains j = true → d j = true) → Inv a0 d a w → ∀ K' : Act → World → Prop, Shut (∀ a w, Inv a0 (upd d i) a w → K' a w) → wpOpIn F n_ P ops Q i K' a w)
 (hend : ∀ (d : Nat → Bool) (a : Act) (w : World), (∀ j, j < m → d j = true) → Inv a0 d a w → wpAnyIn F n_ P .any ops Q (ops.size - m) (List.replicate m true ++ List.replicate (ops.size - m) false).toArray a w) :
 (Code.region id ops true).wpIn F n_ P Q a0 w0 := by
 have hmn' := of_decide_eq_true hmn
 refine wpIn_region_any hm ?_
 have key := any_invIn (F := F) (n_ := n_) (P := P) (ops := ops) (Q := Q) m (Inv a0) hmn'
  (fun i hi j hj => by
   have h1 := List.all_eq_true.1 hback i (List.mem_range.2 hi)
   exact of_decide_eq_true (List.all_eq_true.1 h1 j hj))
  (fun d a w i hi h0 hcl hd hI K hK => hstep d a w i hi h0 (fun j k hk => hcl j k (by simpa using hk)) (fun j hj => hd j (by simpa using hj)) hI K hK)
  (fun d hcl i h1 h2 h3 => hlate d (fun j k hk hj => hcl j k (by simpa using hk) hj) i h1 h2 (fun j hj => h3 j (by simpa using hj))) hend
  m (Array.replicate ops.size false) a0 w0.drew (by simp) (fun j _ => by simp [Array.getD]) (fun j k _ h => by simp [Array.getD] at h) ?_ ?_
 · rw [show m + (ops.size - m) = ops.size from by omega] at key
   exact key
 · have : ∀ k, cnt (fun j => (Array.replicate ops.size false).getD j false) k = k := by
    intro k
    induction k with
    | zero => rfl
    | succ k ih => unfold cnt; rw [ih]; simp [Array.getD]
   exact this m
 · have e : (fun j => (Array.replicate ops.size false).getD j false) = fun _ => false := by funext j; simp [Array.getD]
   rw [e]; exact hstart
theorem any_opIn {F : Fence} {n_ : Nat} {P : Program} {ops : Array Oper} {Q : Exit → Act → World → Prop} {i : Nat} {K : Act → World → Prop} {a : Act} {w : World} {o : Oper} (hi : ops[i]? = some o) (hg : Region.wanted o (yielded ops a.tmps) = true) (h : o.wpIn F n_ P a w K Q) : wpOpIn F n_ P ops Q i K a w := by
 unfold wpOpIn
 rw [hi]
 simp only [hg, if_true]
 exact h
theorem any_noIn {F : Fence} {n_ : Nat} {P : Program} {ops : Array Oper} {Q : Exit → Act → World → Prop} {i : Nat} {K : Act → World → Prop} {a : Act} {w : World} {o : Oper} (hi : ops[i]? = some o) (hg : Region.wanted o (yielded ops a.tmps) = false) (h1 : ∀ f, o.about P w a.eval = some f → F.fn f) (h : K (a.put o.dst undef) w) : wpOpIn F n_ P ops Q i K a w := by
 unfold wpOpIn
 rw [hi]
 simp only [hg]
 exact ⟨h1, h⟩
end Go.Proofs.YtllmacokhjmdgaaGreatDoor
