/-
  Plain mathematics for chapter 10 (fields one behind the other, and cut): what is told of them.
-/
import Derived.Test.YtbkcklefkhlciaaPutMath
namespace Go.Proofs.Ytbkcklefkhlciaa
/-- A field and its bytes, which are told as it, whatever follows. -/
def GoodB (p : Fd × ByteArray) : Prop := (∀ t, pget (p.2 ++ t) = some (p.1, p.2.size)) ∧ 1 ≤ p.2.size
def cat : List (Fd × ByteArray) → ByteArray
  | [] => ⟨#[]⟩
  | p :: r => p.2 ++ cat r
def places : Nat → List (Fd × ByteArray) → List (Fd × Nat)
  | _, [] => []
  | k, p :: r => (p.1, k) :: places (k + p.2.size) r
def ends : Nat → List (Fd × ByteArray) → List Nat
  | _, [] => []
  | k, p :: r => (k + p.2.size) :: ends (k + p.2.size) r
theorem bapp_nil (a : ByteArray) : a ++ ⟨#[]⟩ = a := by apply list_ext; rw [list_app]; simp
theorem nil_bapp (a : ByteArray) : (⟨#[]⟩ : ByteArray) ++ a = a := by apply list_ext; rw [list_app]; simp
theorem bapp_assoc (a b c : ByteArray) : a ++ b ++ c = a ++ (b ++ c) := by apply list_ext; simp only [list_app, List.append_assoc]
theorem bsize_app (a b : ByteArray) : (a ++ b).size = a.size + b.size := by simp
theorem cat_app (l m : List (Fd × ByteArray)) : cat (l ++ m) = cat l ++ cat m := by
  induction l with
  | nil => simp only [List.nil_append, cat, nil_bapp]
  | cons p r ih => simp only [List.cons_append, cat, ih, bapp_assoc]
theorem cat_one (p : Fd × ByteArray) : cat [p] = p.2 := by simp only [cat, bapp_nil]
theorem cat_snoc (l : List (Fd × ByteArray)) (p : Fd × ByteArray) : cat (l ++ [p]) = cat l ++ p.2 := by rw [cat_app, cat_one]
theorem places_snoc (l : List (Fd × ByteArray)) (p : Fd × ByteArray) : ∀ k, places k (l ++ [p]) = places k l ++ [(p.1, k + (cat l).size)] := by
  induction l with
  | nil => intro k; rfl
  | cons q r ih =>
    intro k
    simp only [List.cons_append, places, ih, cat, bsize_app, Nat.add_assoc]
theorem ends_snoc (l : List (Fd × ByteArray)) (p : Fd × ByteArray) : ∀ k, ends k (l ++ [p]) = ends k l ++ [k + (cat l).size + p.2.size] := by
  induction l with
  | nil => intro k; rfl
  | cons q r ih =>
    intro k
    simp only [List.cons_append, ends, ih, cat, bsize_app, Nat.add_assoc]
theorem places_length (l : List (Fd × ByteArray)) : ∀ k, (places k l).length = l.length := by
  induction l with
  | nil => intro k; rfl
  | cons p r ih => intro k; simp [places, ih]
theorem ends_length (l : List (Fd × ByteArray)) : ∀ k, (ends k l).length = l.length := by
  induction l with
  | nil => intro k; rfl
  | cons p r ih => intro k; simp [ends, ih]
theorem ends_get (l : List (Fd × ByteArray)) : ∀ (k j : Nat), j < l.length → (ends k l)[j]? = some (k + (cat (l.take (j + 1))).size) := by
  induction l with
  | nil => intro k j h; simp at h
  | cons p r ih =>
    intro k j h
    cases j with
    | zero => simp [ends, cat, bsize_app]; rfl
    | succ j =>
      simp only [ends, List.getElem?_cons_succ, List.take_succ_cons, cat, bsize_app]
      rw [ih _ j (by simpa using h), Nat.add_assoc]
theorem places_get (l : List (Fd × ByteArray)) : ∀ (k j : Nat) (p : Fd × ByteArray), l[j]? = some p → (places k l)[j]? = some (p.1, k + (cat (l.take j)).size) := by
  induction l with
  | nil => intro k j p h; simp at h
  | cons q r ih =>
    intro k j p h
    cases j with
    | zero =>
      simp only [List.getElem?_cons_zero, Option.some.injEq] at h
      subst h
      simp [places, cat]; rfl
    | succ j =>
      rw [List.getElem?_cons_succ] at h
      simp only [places, List.getElem?_cons_succ, List.take_succ_cons, cat, bsize_app]
      rw [ih _ j p h, Nat.add_assoc]
theorem ext_end (a b : ByteArray) : (a ++ b).extract a.size (a ++ b).size = b := by
  have := extr_right a b 0
  rw [Nat.add_zero] at this
  rw [this]
  apply list_ext
  rw [extract_l, List.drop_zero, Nat.sub_zero]
  exact List.take_of_length_le (Nat.le_refl _)
theorem pfrom_cat (l : List (Fd × ByteArray)) (h : ∀ p ∈ l, GoodB p) : ∀ a : ByteArray, pfrom (a ++ cat l) a.size = (places a.size l).map Pt.pair := by
  induction l with
  | nil => intro a; simp only [cat, bapp_nil, places, List.map_nil]; exact pfrom_end a _ (Nat.le_refl _)
  | cons p r ih =>
    intro a
    obtain ⟨hp, hp1⟩ := h p (by simp)
    have hs := bsize_app a (p.2 ++ cat r)
    have hs2 := bsize_app p.2 (cat r)
    simp only [cat, places, List.map_cons]
    rw [pfrom_ok _ a.size (by omega) (by rw [ext_end]; exact hp (cat r)), ← bapp_assoc, ← bsize_app, ih (fun q hq => h q (by simp [hq])) (a ++ p.2)]
    rfl
theorem pall_cat (l : List (Fd × ByteArray)) (h : ∀ p ∈ l, GoodB p) (hs : (cat l).size ≤ 60000) : pall (cat l) = (places 0 l).map Pt.pair := by
  rw [pall_small _ hs]
  have := pfrom_cat l h ⟨#[]⟩
  rw [nil_bapp] at this
  exact this
theorem take_front (a b : ByteArray) (k : Nat) (h : a.size ≤ k) : (a ++ b).extract 0 k = a ++ b.extract 0 (k - a.size) := by
  apply list_ext
  have h1 : a.data.toList.length = a.size := rfl
  rw [extract_l, list_app, list_app, extract_l, List.drop_zero, List.drop_zero, Nat.sub_zero, Nat.sub_zero, List.take_append, h1, List.take_of_length_le (by rw [h1]; exact h)]
theorem pget_cut (p : Fd × ByteArray) (t : ByteArray) (k : Nat) (h : GoodB p) (hk : k < p.2.size) : pget ((p.2 ++ t).extract 0 k) = none := by
  cases hp : pget ((p.2 ++ t).extract 0 k) with
  | none => rfl
  | some q =>
    exfalso
    obtain ⟨f, n⟩ := q
    have hn := pget_size _ hp
    have hsz : ((p.2 ++ t).extract 0 k).size ≤ k := by simp; omega
    have hs := bsize_app p.2 t
    have e : (p.2 ++ t).extract 0 k ++ (p.2 ++ t).extract k (p.2 ++ t).size = p.2 ++ t := by
      apply list_ext
      have hl : (p.2 ++ t).data.toList.length = (p.2 ++ t).size := rfl
      rw [list_app, extract_l, extract_l, List.drop_zero, Nat.sub_zero, List.take_of_length_le (l := List.drop k _) (by rw [List.length_drop, hl]; omega), List.take_append_drop]
    have h2 := pget_app _ ((p.2 ++ t).extract k (p.2 ++ t).size) f n hp
    rw [e, h.1 t] at h2
    simp only [Option.some.injEq, Prod.mk.injEq] at h2
    omega
/-- What is told of the first k bytes. -/
theorem pall_cut (l : List (Fd × ByteArray)) (h : ∀ p ∈ l, GoodB p) (hs : (cat l).size ≤ 60000) (k n : Nat) (hk : k ≤ (cat l).size) (hn : n ≤ l.length) (h1 : (cat (l.take n)).size ≤ k) (h2 : n < l.length → k < (cat (l.take (n + 1))).size) :
    pall ((cat l).extract 0 k) = (places 0 (l.take n)).map Pt.pair ++ if (cat (l.take n)).size = k then [] else [.bad 9 (cat (l.take n)).size] := by
  have hsz : ((cat l).extract 0 k).size = k := by simp; omega
  rw [pall_small _ (by omega)]
  have e : cat l = cat (l.take n) ++ cat (l.drop n) := by rw [← cat_app, List.take_append_drop]
  have hh := pfrom_cat (l.take n) (fun p hp => h p (List.mem_of_mem_take hp)) ⟨#[]⟩
  rw [nil_bapp] at hh
  have hlen : (cat l).size = (cat (l.take n)).size + (cat (l.drop n)).size := by
    have := congrArg ByteArray.size e
    rw [bsize_app] at this
    exact this
  have e2 : (cat l).extract 0 k = cat (l.take n) ++ (cat (l.drop n)).extract 0 (k - (cat (l.take n)).size) := by
    have h3 := take_front (cat (l.take n)) (cat (l.drop n)) k h1
    rw [← e] at h3
    exact h3
  rw [e2, pfrom_app (cat (l.take n)) _ (cat (l.take n)).size 0 _ (by omega) (by omega) hh]
  congr 1
  by_cases hkk : (cat (l.take n)).size = k
  · rw [if_pos hkk]
    exact pfrom_end _ _ (by rw [bsize_app]; simp; omega)
  · rw [if_neg hkk]
    have hnl : n < l.length := by
      rcases Nat.lt_or_ge n l.length with h' | h'
      · exact h'
      · rw [List.drop_eq_nil_of_le h'] at hlen
        simp only [cat] at hlen
        have : (⟨#[]⟩ : ByteArray).size = 0 := rfl
        omega
    have hd : l.drop n = l[n] :: l.drop (n + 1) := List.drop_eq_getElem_cons hnl
    have hg : GoodB l[n] := h _ (List.getElem_mem hnl)
    have h4 := h2 hnl
    rw [List.take_succ_eq_append_getElem hnl, cat_snoc, bsize_app] at h4
    have hx : ((cat (l.drop n)).extract 0 (k - (cat (l.take n)).size)).size = k - (cat (l.take n)).size := by simp; omega
    rw [pfrom_bad _ _ (by rw [bsize_app]; omega) (by rw [ext_end, hd]; exact pget_cut _ _ _ hg (by omega))]
end Go.Proofs.Ytbkcklefkhlciaa
