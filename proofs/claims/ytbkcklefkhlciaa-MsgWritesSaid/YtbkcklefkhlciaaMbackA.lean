/-
  MsgBack: the message that is made, and what is told of it.
-/
import Derived.Test.YtbkcklefkhlciaaMops3
import Derived.Test.YtbkcklefkhlciaaMfltsR
import Derived.Test.YtbkcklefkhlciaaMtextsR
namespace Go.Proofs.Ytbkcklefkhlciaa
open Go.RowKit
set_option linter.unusedVariables false
def bI (v : List Int) : List (Fd × ByteArray) := if v.length = 0 then [] else [tF 1 (ibs v)]
def bF (p : List Nat) : List (Fd × ByteArray) := if p.length = 0 then [] else [tF 2 (fbs p)]
def bU (u u1 : Nat) : List (Fd × ByteArray) := [uF 4 u1, uF 4 u]
/-- The message, part by part. -/
def bM (v : List Int) (p : List Nat) (s : List ByteArray) (u u1 : Nat) : List (Fd × ByteArray) := bI v ++ (bF p ++ (tFs 3 s ++ bU u u1))
structure BackIn (v : List Int) (p : List Nat) (s : List ByteArray) (u u1 : Nat) : Prop where
  v60 : v.length ≤ 60
  vr : ∀ z ∈ v, InR z
  p60 : p.length ≤ 60
  pr : ∀ z ∈ p, z < 4294967296
  s20 : s.length ≤ 20
  sz : szs s ≤ 2000
  u : u < 18446744073709551616
  u1 : u1 < 18446744073709551616
section
variable {v : List Int} {p : List Nat} {s : List ByteArray} {u u1 : Nat}
theorem bI_num (q : Fd × ByteArray) (h : q ∈ bI v) : q.1.num = 1 := by
  unfold bI at h; split at h
  · simp at h
  · rw [List.mem_singleton] at h; subst h; rfl
theorem bF_num (q : Fd × ByteArray) (h : q ∈ bF p) : q.1.num = 2 := by
  unfold bF at h; split at h
  · simp at h
  · rw [List.mem_singleton] at h; subst h; rfl
theorem tFs_num {num : Nat} (q : Fd × ByteArray) (h : q ∈ tFs num s) : q.1.num = num := by
  unfold tFs at h
  obtain ⟨t, _, rfl⟩ := List.mem_map.1 h
  rfl
theorem bU_num (q : Fd × ByteArray) (h : q ∈ bU u u1) : q.1.num = 4 := by
  unfold bU at h
  simp only [List.mem_cons, List.not_mem_nil, or_false] at h
  rcases h with rfl | rfl <;> rfl
theorem BackIn.good (h : BackIn v p s u u1) : ∀ q ∈ bM v p s u u1, GoodB q ∧ PutHid q.1 q.2 ∧ q.1.data.size ≤ q.2.size := by
  have hv := h.v60; have hp := h.p60; have hs := h.sz
  intro q hq
  unfold bM at hq
  simp only [List.mem_append] at hq
  rcases hq with hq | hq | hq | hq
  · unfold bI at hq; split at hq
    · simp at hq
    · rw [List.mem_singleton] at hq; subst hq
      have hd : (ibs v).size ≤ 60000 := by have := ibs_size v; omega
      exact ⟨good_t 1 _ (by omega) (by omega) hd, puthid_t 1 _ (by omega) (by omega) hd, tF_dat _ _⟩
  · unfold bF at hq; split at hq
    · simp at hq
    · rw [List.mem_singleton] at hq; subst hq
      have hd : (fbs p).size ≤ 60000 := by rw [fbs_size]; omega
      exact ⟨good_t 2 _ (by omega) (by omega) hd, puthid_t 2 _ (by omega) (by omega) hd, tF_dat _ _⟩
  · unfold tFs at hq
    obtain ⟨t, ht, rfl⟩ := List.mem_map.1 hq
    have hd : t.size ≤ 60000 := by have := szs_mem ht; omega
    exact ⟨good_t 3 _ (by omega) (by omega) hd, puthid_t 3 _ (by omega) (by omega) hd, tF_dat _ _⟩
  · unfold bU at hq
    simp only [List.mem_cons, List.not_mem_nil, or_false] at hq
    rcases hq with rfl | rfl
    · exact ⟨good_u 4 _ (by omega) (by omega) h.u1, puthid_u 4 _ (by omega) (by omega) h.u1, uF_dat _ _⟩
    · exact ⟨good_u 4 _ (by omega) (by omega) h.u, puthid_u 4 _ (by omega) (by omega) h.u, uF_dat _ _⟩
theorem BackIn.sizes (h : BackIn v p s u u1) : (bI v).length ≤ 1 ∧ (cat (bI v)).size ≤ 620 ∧ (bF p).length ≤ 1 ∧ (cat (bF p)).size ≤ 260 ∧ (tFs 3 s).length ≤ 20 ∧ (cat (tFs 3 s)).size ≤ 2400 ∧ (uF 4 u1).2.size ≤ 20 ∧ (uF 4 u).2.size ≤ 20 := by
  have hv := h.v60; have hp := h.p60; have hs := h.sz; have hs2 := h.s20
  refine ⟨?_, ?_, ?_, ?_, ?_, ?_, size_u 4 u1 (by omega) (by omega) h.u1, size_u 4 u (by omega) (by omega) h.u⟩
  · unfold bI; split <;> simp
  · unfold bI; split
    · exact Nat.zero_le _
    · rw [cat_one]; have := ibs_size v; have := size_t 1 (ibs v) (by omega) (by omega) (by omega); omega
  · unfold bF; split <;> simp
  · unfold bF; split
    · exact Nat.zero_le _
    · rw [cat_one]; have := fbs_size p; have := size_t 2 (fbs p) (by omega) (by omega) (by omega); omega
  · unfold tFs; rw [List.length_map]; exact hs2
  · have := cat_tFs 3 s (by omega) (by omega) (by omega); omega
theorem BackIn.all (h : BackIn v p s u u1) : (bM v p s u u1).length ≤ 24 ∧ (cat (bM v p s u u1)).size ≤ 4000 := by
  obtain ⟨a1, a2, a3, a4, a5, a6, a7, a8⟩ := h.sizes
  unfold bM bU
  simp only [List.length_append, cat_app, bsize_app, cat, bapp_nil, List.length_cons, List.length_nil]
  omega
/-- What is told, part by part. -/
theorem bM_tell (num : Int) (ks : List Int) : mtell num ks 0 (places 0 (bM v p s u u1)) =
    mtell num ks 0 (places 0 (bI v)) ++ (mtell num ks (0 + (bI v).length) (places (0 + (cat (bI v)).size) (bF p)) ++ (mtell num ks (0 + (bI v).length + (bF p).length) (places (0 + (cat (bI v)).size + (cat (bF p)).size) (tFs 3 s)) ++ mtell num ks (0 + (bI v).length + (bF p).length + (tFs 3 s).length) (places (0 + (cat (bI v)).size + (cat (bF p)).size + (cat (tFs 3 s)).size) (bU u u1)))) := by
  unfold bM
  rw [places_app, mtell_app, places_app, mtell_app, places_app, mtell_app]
  simp only [places_length]
theorem BackIn.ints (h : BackIn v p s u u1) : ∃ xs : List IA, xs.map iraw = mtell 1 [0, 2] 0 (places 0 (bM v p s u u1)) ∧ ivals xs = v := by
  rw [bM_tell, mtell_other 1 _ (bF p) (fun q hq => by rw [bF_num q hq]; decide), mtell_other 1 _ (tFs 3 s) (fun q hq => by rw [tFs_num q hq]; decide), mtell_other 1 _ (bU u u1) (fun q hq => by rw [bU_num q hq]; decide)]
  simp only [List.append_nil]
  unfold bI
  by_cases h0 : v.length = 0
  · rw [if_pos h0]
    exact ⟨[], rfl, (List.length_eq_zero_iff.1 h0).symm⟩
  · rw [if_neg h0]
    exact ⟨[⟨((0, (tF 1 (ibs v)).1, 0), v), rfl, rfl, h.vr, by show v.length ≤ 6000; have := h.v60; omega⟩], by simp [places, mtell, iraw, tF], by simp [ivals]⟩
theorem BackIn.flts (h : BackIn v p s u u1) : ∃ xs : List FA, xs.map fraw = mtell 2 [5, 2] 0 (places 0 (bM v p s u u1)) ∧ fvals xs = p := by
  rw [bM_tell, mtell_other 2 _ (bI v) (fun q hq => by rw [bI_num q hq]; decide), mtell_other 2 _ (tFs 3 s) (fun q hq => by rw [tFs_num q hq]; decide), mtell_other 2 _ (bU u u1) (fun q hq => by rw [bU_num q hq]; decide)]
  simp only [List.append_nil, List.nil_append]
  unfold bF
  by_cases h0 : p.length = 0
  · rw [if_pos h0]
    exact ⟨[], rfl, (List.length_eq_zero_iff.1 h0).symm⟩
  · rw [if_neg h0]
    exact ⟨[⟨((0 + (bI v).length, (tF 2 (fbs p)).1, 0 + (cat (bI v)).size), p), rfl, rfl, h.pr, by show p.length ≤ 6000; have := h.p60; omega⟩], by simp [places, mtell, fraw, tF], by simp [fvals]⟩
theorem bM_texts : tvals (mtell 3 [2] 0 (places 0 (bM v p s u u1))) = s := by
  rw [bM_tell, mtell_other 3 _ (bI v) (fun q hq => by rw [bI_num q hq]; decide), mtell_other 3 _ (bF p) (fun q hq => by rw [bF_num q hq]; decide), mtell_other 3 _ (bU u u1) (fun q hq => by rw [bU_num q hq]; decide)]
  simp only [List.append_nil, List.nil_append]
  exact mtell_tFs 3 s _ _
theorem BackIn.lg (h : BackIn v p s u u1) (num : Int) (ks : List Int) : ∃ xs : List (LA (ends 0 (bM v p s u u1))), xs.map (·.1) = mtell num ks 0 (places 0 (bM v p s u u1)) :=
  lg_all num ks _ (fun q hq => (h.good q hq).2.2) (by have := h.all.2; omega)
theorem BackIn.uint (h : BackIn v p s u u1) : ∃ xs : List (LA (ends 0 (bM v p s u u1))), xs.map (·.1) = mtell 4 [0] 0 (places 0 (bM v p s u u1)) ∧ (∃ a b d s', lcs xs = #[.int .i64 a, .int .i64 b, .int .i64 d, .int .u64 (u : Int), .string s']) ∧ lok xs = true := by
  obtain ⟨xs, hx⟩ := h.lg 4 [0]
  refine ⟨xs, hx, ?_⟩
  have e : ∃ L y, mtell 4 [0] 0 (places 0 (bM v p s u u1)) = L ++ [y] ∧ y.2.1 = (uF 4 u).1 := by
    rw [bM_tell, mtell_other 4 _ (bI v) (fun q hq => by rw [bI_num q hq]; decide), mtell_other 4 _ (bF p) (fun q hq => by rw [bF_num q hq]; decide), mtell_other 4 _ (tFs 3 s) (fun q hq => by rw [tFs_num q hq]; decide)]
    simp only [List.nil_append]
    generalize 0 + (bI v).length + (bF p).length + (tFs 3 s).length = k
    generalize 0 + (cat (bI v)).size + (cat (bF p)).size + (cat (tFs 3 s)).size = j
    refine ⟨[(k, ((uF 4 u1).1, j))], (k + 1, ((uF 4 u).1, j + (uF 4 u1).2.size)), ?_, rfl⟩
    unfold bU
    simp only [places, mtell]
    rw [if_pos ⟨by simp only [uF]; rfl, by simp only [uF]; decide⟩, if_pos ⟨by simp only [uF]; rfl, by simp only [uF]; decide⟩]
    rfl
  obtain ⟨L, y, e1, e2⟩ := e
  obtain ⟨x, hx1, hx2⟩ := last_map hx (y := y) (by rw [e1]; simp)
  refine ⟨?_, by unfold lok; rw [hx1]⟩
  unfold lcs
  rw [hx1]
  have e3 : x.1.2.1.val = u := by rw [hx2, e2]; rfl
  refine ⟨x.1.2.1.num, x.1.2.1.kind, x.1.2.2, x.1.2.1.data, ?_⟩
  show #[_, _, _, Value.int .u64 (x.1.2.1.val : Int), _] = _
  rw [e3]
theorem BackIn.none (h : BackIn v p s u u1) : mtell 5 [0] 0 (places 0 (bM v p s u u1)) = [] := by
  rw [bM_tell, mtell_other 5 _ (bI v) (fun q hq => by rw [bI_num q hq]; decide), mtell_other 5 _ (bF p) (fun q hq => by rw [bF_num q hq]; decide), mtell_other 5 _ (tFs 3 s) (fun q hq => by rw [tFs_num q hq]; decide), mtell_other 5 _ (bU u u1) (fun q hq => by rw [bU_num q hq]; decide)]
  rfl
end
end Go.Proofs.Ytbkcklefkhlciaa
