/-
  NatDigits: rows of bytes; a text of nines.
-/
import Derived.Test.YtikbhcndgmanmaaDoorNAlive
namespace Go.Proofs.YtikbhcndgmanmaaDoor
open Go.RowKit
set_option linter.unusedVariables false
theorem rw_set {B : Nat} {e : TypeId} {w : World} {g n c : Nat} {xs : List Value} (h : w.ownsRow B e 1 (.slice (some ⟨g, 0, none⟩) n c) n xs) (i : Nat) (x : Value) (hi : i < n) :
    (w.setCell ⟨g, i, none⟩ x).ownsRow B e 1 (.slice (some ⟨g, 0, none⟩) n c) n (xs.set i x) := by
  rcases h.2 with ⟨hv, _⟩ | ⟨g', cap', cur, hv, hbg, hg, hnc, hm, hsz, htk⟩
  · cases hv
  · cases hv
    refine ⟨by rw [List.length_set]; exact h.1, .inr ⟨g, c, cur.setIfInBounds i x, rfl, hbg, ?_, hnc, hm, by rw [Array.size_setIfInBounds]; exact hsz, ?_⟩⟩
    · simp [World.setCell, Array.getElem?_modify, hg]
    · rw [Array.toList_setIfInBounds, List.take_set, htk]
theorem rw_at {B : Nat} {e : TypeId} {w : World} {g n c : Nat} {xs : List Value} (h : w.ownsRow B e 1 (.slice (some ⟨g, 0, none⟩) n c) n xs) (i : Nat) (hi : i < n) :
    w.cell? ⟨g, i, none⟩ = xs[i]? ∧ w.frozen? ⟨g, i, none⟩ = false ∧ B ≤ g := by
  rcases h.2 with ⟨hv, _⟩ | ⟨g', cap', cur, hv, hbg, hg, hnc, hm, hsz, htk⟩
  · cases hv
  · cases hv
    refine ⟨?_, Blk.frozen (cs := cur) hg i, hbg⟩
    rw [cell_of_row w g i cur e (0, 0) hg, ← htk, List.getElem?_take, if_pos (by omega), Array.getElem?_toList]
/-- k nines, the others noughts. -/
def nin (m k : Nat) : List Value := List.replicate k (.int .u8 57) ++ List.replicate (m - k) (.int .u8 0)
theorem nin_step {m k : Nat} (h : k < m) : (nin m k).set k (.int .u8 57) = nin m (k + 1) := by
  unfold nin
  rw [List.set_append_right _ _ (by rw [List.length_replicate]; exact Nat.le_refl _), List.length_replicate, Nat.sub_self, List.replicate_succ', List.append_assoc]
  congr 1
  obtain ⟨j, hj⟩ : ∃ j, m - k = j + 1 := ⟨m - k - 1, by omega⟩
  rw [hj, show m - (k + 1) = j by omega, List.replicate_succ]
  rfl
theorem Tryd.infoB8 : (Tryd.prog.info? 5).map (fun i => (i.zero, i.size, i.bytes)) = some (some (.int .u8 0), 1, 1) := by kernel_rfl
theorem make_b {ops : Array Oper} {rest : List Oper} {o : Oper} {a : Act} {Q : Exit → Act → World → Prop} (hgd : o.guard = none) (l : Operand)
    (ho : o.op = .makeSlice 81 l l) (B : Nat) (W : World) (L : Int) (n : Nat) (hl : a.eval l = .int .i64 L) (hL : L = (n : Int)) (hn : n ≤ 1000000) (hB : B ≤ W.heap.size) (g : Nat) (hg : W.heap.size = g)
    (h : ∀ W', W'.ownsRow B 5 1 (.slice (some ⟨g, 0, none⟩) n n) n (nin n 0) → Below B W W' → wpList Tryd.prog ops Q rest (a.put o.dst (.slice (some ⟨g, 0, none⟩) n n)) W') :
    wpList Tryd.prog ops Q (o :: rest) a W := by
  obtain ⟨i0, hi, hz0, hz1, hz2⟩ := info_parts Tryd.infoB8
  subst hg
  refine wpList_make_full W hgd l l 81 ho B 5 i0 (.int .u8 0) 1 Tryd.underlying81 hi hz0 hz1 .i64 .i64 L L n hl hl hL hL (by rw [hz2]; omega) (by unfold maxLen; omega) hB ?_
  intro W' h1 h2
  refine h W' ?_ ((Below.refl B W).grown h2 hB (fun k hk => by cases hk))
  have e : (madeCells (Value.int .u8 0).cells (n * 1)).toList = nin n 0 := by
    rw [Nat.mul_one]
    unfold nin
    exact toList_madeCells_one _ _
  rw [← e]
  exact h1
def ninesB (m : Nat) : ByteArray := ⟨(List.replicate m 57).toArray⟩
theorem nines_conv {B : Nat} {w : World} {g m : Nat} (h : w.ownsRow B 5 1 (.slice (some ⟨g, 0, none⟩) m m) m (nin m m)) :
    (convert 81 9 (.slice (some ⟨g, 0, none⟩) m m)).run Tryd.prog w = .ok (.string (ninesB m)) w := by
  have h1 := run_convert_bytes_back (P := Tryd.prog) w 81 9 5 ⟨g, 0, none⟩ m (List.replicate m 57) Tryd.underlying81 Tryd.underlying5 Tryd.underlying9 (fun j hj => by
    rw [List.length_replicate] at hj
    rw [add_zero_off, (rw_at h j hj).1]
    unfold nin
    rw [Nat.sub_self, List.replicate_zero, List.append_nil, List.getElem?_replicate, if_pos hj]
    simp)
  rw [List.length_replicate] at h1
  exact h1
theorem ten_pow {n k : Nat} (h : n ≤ 16 * k) : 10 ^ n ≤ 18446744073709551616 ^ k := by
  have h1 : 10 ^ n ≤ 16 ^ n := Nat.pow_le_pow_left (by decide) n
  have h2 : 16 ^ n ≤ 16 ^ (16 * k) := Nat.pow_le_pow_right (by decide) h
  rw [Nat.pow_mul] at h2
  exact Nat.le_trans h1 h2
theorem w64_mono {j k : Nat} (h : j ≤ k) : 18446744073709551616 ^ j ≤ 18446744073709551616 ^ k := Nat.pow_le_pow_right (by decide) h
/-- A sum, the greater number ahead. -/
theorem add_big (M N : Nat) (va vb : Value) (w : World) (ha : IsN w va M) (hb : IsN w vb N) (hM : M < 18446744073709551616 ^ 9000) (hN : N ≠ 0) (hNM : N < 18446744073709551616) (hM0 : M ≠ 0) :
    Calls Tryd.prog 13 #[va, vb] w (AddIs (M + N) w) := by
  obtain ⟨a1, c1, us, rfl, hc1, hu, hwu, rfl, hl1, _, _, hz1⟩ := isN_open 9000 ha hM
  obtain ⟨a2, c2, vs, rfl, hc2, hv, hwv, rfl, hl2, _, _, hz2⟩ := isN_open 1 hb (by rw [Nat.pow_one]; exact hNM)
  have hne : us ≠ [] := fun e => hM0 (by rw [e]; rfl)
  have hlu := List.length_pos_iff.2 hne
  obtain ⟨ad, rfl, _⟩ := hu 0 hlu
  exact add_long ad a2 c1 c2 us vs w hu hv hwu hwv hl1 hne (by omega)
end Go.Proofs.YtikbhcndgmanmaaDoor
