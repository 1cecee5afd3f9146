/-
 Law 2: how many digits sums have.
-/
import Derived.Test.YtllmacokhjmdgaaGreatDoorIOwn
import Derived.Test.YtllmacokhjmdgaaGreatDoorRQf
namespace Go.Proofs.YtllmacokhjmdgaaGreatDoor
open Go.RowKit Go.Shelf
set_option linter.unusedVariables false
def szs (ts : List ByteArray) : Nat := (ts.map (·.size)).sum
theorem szs_mem {ts : List ByteArray} {t : ByteArray} (h : t ∈ ts) : t.size ≤ szs ts := by
 induction ts with
 | nil => cases h
 | cons u r ih =>
  unfold szs at *
  rw [List.map_cons, List.sum_cons]
  rcases List.mem_cons.1 h with h | h
  · subst h; omega
  · have := ih h; omega
theorem szs_take {ts : List ByteArray} {t : ByteArray} {k : Nat} (h : ts[k]? = some t) : szs (ts.take (k + 1)) = szs (ts.take k) + t.size := by unfold szs; rw [List.take_add_one, h]; simp
theorem szs_le (ts : List ByteArray) (k : Nat) : szs (ts.take k) ≤ szs ts := by
 conv => rhs; rw [← List.take_append_drop k ts]
 unfold szs
 rw [List.map_append, List.sum_append]
 omega
/-- How many decimal digits a fraction's numbers need. -/
def Szx (d : Nat) (x : Rat) : Prop := x.num.natAbs < 10 ^ d ∧ x.den < 10 ^ d
theorem tp {x : Nat} (j k : Nat) (h : x < 10 ^ j) (hk : j ≤ k) : x < 10 ^ k := Nat.lt_of_lt_of_le h (Nat.pow_le_pow_right (by decide) hk)
theorem Szx.mono {j k : Nat} {x : Rat} (h : Szx j x) (hk : j ≤ k) : Szx k x := ⟨tp _ _ h.1 hk, tp _ _ h.2 hk⟩
theorem szx_mk {k : Nat} {n : Int} {d : Nat} (hd : d ≠ 0) (h1 : n.natAbs < 10 ^ k) (h2 : d < 10 ^ k) : Szx k (mkRat n d) := by
 obtain ⟨p1, p2, _⟩ := norm_parts n d hd
 exact ⟨by rw [p1]; exact Nat.lt_of_le_of_lt (Nat.div_le_self _ _) h1, by rw [p2]; exact Nat.lt_of_le_of_lt (Nat.div_le_self _ _) h2⟩
theorem t_mul {M N j k : Nat} (h1 : M < 10 ^ j) (h2 : N < 10 ^ k) : M * N < 10 ^ (j + k) := by
 rw [Nat.pow_add]
 exact Nat.mul_lt_mul'' h1 h2
theorem t_add {M N j : Nat} (h1 : M < 10 ^ j) (h2 : N < 10 ^ j) : M + N < 10 ^ (j + 1) := by
 rw [Nat.pow_succ]; omega
theorem szx_add {j k : Nat} {x y : Rat} (hx : Szx j x) (hy : Szx k y) : Szx (j + k + 1) (x + y) := by
 rw [Rat.add_def']
 refine szx_mk (Nat.mul_ne_zero x.den_nz y.den_nz) ?_ (tp _ _ (t_mul hx.2 hy.2) (by omega))
 refine Nat.lt_of_le_of_lt (Int.natAbs_add_le _ _) ?_
 rw [Int.natAbs_mul, Int.natAbs_mul]
 refine t_add (t_mul hx.1 hy.2) ?_
 rw [Nat.add_comm]
 exact t_mul hy.1 hx.2
theorem Szx.words {d k : Nat} {x : Rat} (h : Szx d x) (hk : d ≤ 19 * k) : Sz k x := by
 have key : 10 ^ d ≤ 18446744073709551616 ^ k := by
  refine Nat.le_trans (Nat.pow_le_pow_right (by decide) hk) ?_
  rw [Nat.pow_mul]
  exact Nat.pow_le_pow_left (by decide) k
 exact ⟨Nat.lt_of_lt_of_le h.1 key, Nat.lt_of_lt_of_le h.2 key⟩
theorem Szx.digs {d k : Nat} {x : Rat} (h : Szx d x) (hk : d ≤ 4 * k) : SzD k x := ⟨Nat.lt_of_lt_of_le h.1 (ten_4 hk), Nat.lt_of_lt_of_le h.2 (ten_4 hk)⟩
theorem nn_ltx {s : ByteArray} {k : Nat} (hs : s.size ≤ k) : nn s < 10 ^ k := by
 unfold nn
 split
 · rename_i h
   exact tp _ _ (dv_lt s.size s.data.toList (by simp) h.dig) hs
 · exact Nat.pow_pos (by decide)
/-- The fraction of a text. -/
noncomputable def pfv (s : ByteArray) : Rat := (pq s).getD 0
theorem pfv_szx (s : ByteArray) : Szx (s.size + 1) (pfv s) := by
 unfold pfv
 cases h : pq s with
 | none => exact ⟨Nat.pow_pos (by decide), Nat.one_lt_pow (by omega) (by decide)⟩
 | some x =>
  obtain ⟨_, _, h0, rfl⟩ := pq_ok h
  have hb := bd_size s
  have ha := above_size (bd s)
  exact szx_mk h0 (by rw [sgn_abs]; exact nn_ltx (by omega)) (nn_ltx (under1_size (by omega) (by omega)))
/-- The fractions of texts. -/
noncomputable def pfvs (ts : List ByteArray) : List Rat := ts.map pfv
theorem pfvs_at {ts : List ByteArray} {t : ByteArray} {k : Nat} (h : ts[k]? = some t) : (pfvs ts)[k]? = some (pfv t) := by unfold pfvs; rw [List.getElem?_map, h]; rfl
theorem take_succ_q {qs : List Rat} {q : Rat} {k : Nat} (h : qs[k]? = some q) : qs.take (k + 1) = qs.take k ++ [q] := by rw [List.take_add_one, h]; rfl
theorem sum_succ {qs : List Rat} {q : Rat} {k : Nat} (h : qs[k]? = some q) : sumQ (qs.take (k + 1)) = sumQ (qs.take k) + q := by rw [take_succ_q h, sumQ_snoc]
theorem sum_szx (ts : List ByteArray) : ∀ k, k ≤ ts.length → Szx (szs (ts.take k) + 2 * k + 1) (sumQ ((pfvs ts).take k)) := by
 intro k
 induction k with
 | zero =>
  intro _
  rw [List.take_zero, List.take_zero]
  exact ⟨by decide, by decide⟩
 | succ k ih =>
  intro hk
  obtain ⟨t, ht⟩ : ∃ t, ts[k]? = some t := ⟨_, List.getElem?_eq_getElem (by omega)⟩
  rw [sum_succ (pfvs_at ht), szs_take ht]
  exact (szx_add (ih (by omega)) (pfv_szx t)).mono (by omega)
theorem best_szx {side : Int} {ts : List ByteArray} {k n : Nat} {x : Rat} (hn : ∀ t ∈ ts, t.size ≤ n) (h : bestO side ((pfvs ts).take k) = some x) : Szx (n + 1) x := by
 have hm := List.mem_of_mem_take (bestO_mem side _ _ h)
 unfold pfvs at hm
 rw [List.mem_map] at hm
 obtain ⟨t, ht, rfl⟩ := hm
 exact (pfv_szx t).mono (by have := hn t ht; omega)
theorem pfvs_all (ts : List ByteArray) : (pfvs ts).take ts.length = pfvs ts := List.take_of_length_le (by unfold pfvs; rw [List.length_map]; exact Nat.le_refl _)
theorem best_all (side : Int) {ts : List ByteArray} {n : Nat} (hn : ∀ t ∈ ts, t.size ≤ n) : Szx (n + 1) ((bestO side (pfvs ts)).getD 0) := by
 cases hb : bestO side (pfvs ts) with
 | none => exact ⟨Nat.pow_pos (by decide), Nat.one_lt_pow (by omega) (by decide)⟩
 | some y => exact best_szx (k := ts.length) hn (by rw [pfvs_all]; exact hb)
theorem sum_all (ts : List ByteArray) : Szx (szs ts + 2 * ts.length + 1) (sumQ (pfvs ts)) := by
 have h := sum_szx ts ts.length (Nat.le_refl _)
 rw [List.take_length, pfvs_all] at h
 exact h
theorem best_some (side : Int) (l : List Rat) (x : Rat) : (bestO side (l ++ [x])).isSome = true := by
 rw [bestO_snoc]
 unfold fb
 split
 · rfl
 · split <;> rfl
theorem best_pos (side : Int) {ts : List ByteArray} (h : 0 < ts.length) : (bestO side (pfvs ts)).isSome = true := by
 obtain ⟨k, hk⟩ : ∃ k, ts.length = k + 1 := ⟨ts.length - 1, by omega⟩
 obtain ⟨t, ht⟩ : ∃ t, ts[k]? = some t := ⟨_, List.getElem?_eq_getElem (by omega)⟩
 rw [← pfvs_all ts, hk, take_succ_q (pfvs_at ht)]
 exact best_some _ _ _
theorem best_nil (side : Int) {ts : List ByteArray} (h : ts.length = 0) : (bestO side (pfvs ts)).isSome = false := by
 obtain rfl : ts = [] := List.eq_nil_of_length_eq_zero h
 rfl
end Go.Proofs.YtllmacokhjmdgaaGreatDoor
