/-
  Law 17: a target that does nothing, and one that has bounds alone (mathematics); the first call.
-/
import Derived.Test.YtckglpkafhmehaaGreatDoorTgV
import Derived.Test.YtckglpkafhmehaaGreatDoorRQm
namespace Go.Proofs.YtckglpkafhmehaaGreatDoor
open Go.RowKit
set_option linter.unusedVariables false
abbrev Nl : ByteArray := ⟨#[]⟩
theorem nl_empty : Nl.toList.isEmpty = true := by rw [ByteArray.toList_eq]; rfl
theorem dg_pos (N : Nat) : 0 < (dg N).size := by
  show 0 < (Lib.decDigits N).toArray.size
  rw [List.size_toArray, Lib.decDigits_length]
  exact Lib.nDigits_pos _
theorem tx_pos (x : Rat) : 0 < (tx x).size := by
  have h := dg_pos x.num.natAbs
  unfold tx
  split <;> split <;> first | omega | (simp only [ByteArray.size_append]; omega)
theorem empty_of_pos {u : ByteArray} (h : 0 < u.size) : u.toList.isEmpty = false := by
  rw [ByteArray.toList_eq, List.isEmpty_eq_false_iff]
  intro e
  have h2 : u.data.toList.length = u.size := by simp
  rw [e] at h2
  simp at h2
  omega
theorem pq_nl : pq Nl = none := by
  cases h : pq Nl with
  | none => rfl
  | some x =>
    have h1 := tx_pq h
    have h2 := tx_pos x
    rw [h1] at h2
    exact absurd h2 (by decide)
theorem pq_empty {u : ByteArray} {x : Rat} (h : pq u = some x) : u.toList.isEmpty = false := by
  have h1 := tx_pq h
  have h2 := tx_pos x
  rw [h1] at h2
  exact empty_of_pos h2
theorem okt_some {u : ByteArray} (h : okt u = true) (h0 : u.toList.isEmpty = false) (x : Rat) : pq u = some (qv u x) := by
  unfold okt at h
  rw [h0] at h
  unfold qv
  rw [if_neg (by rw [h0]; simp)]
  cases e : pq u with
  | none => rw [e] at h; cases h
  | some y => rfl
theorem okt_some' {u : ByteArray} {x : Rat} (h : pq u = some x) : okt u = true := by
  unfold okt
  rw [h]
  simp
theorem okt_nl : okt Nl = true := okt_nil nl_empty
theorem qv_nl (x : Rat) : qv Nl x = x := qv_nil x nl_empty
theorem apv_plain (X L M : Rat) (il im : Bool) : apv X L M 1 0 il im 0 = clm im M (cll il L X) := by
  unfold apv cst
  rw [if_neg (by decide), if_neg (by decide), if_neg (by decide), Rat.mul_one, Rat.add_zero]
/-- With bounds alone. -/
theorem apT_some (mn mx num : ByteArray) (X : Rat) (h : pq num = some X) (h1 : okt mn = true) (h2 : okt mx = true) :
    apT mn mx Nl Nl 0 num = tx (clm (!mx.toList.isEmpty) (qv mx 0) (cll (!mn.toList.isEmpty) (qv mn 0) X)) := by
  unfold apT ok4
  rw [h, h1, h2, okt_nl, qv_nl, qv_nl, apv_plain]
  rfl
theorem apT_none (mn mx fa co : ByteArray) (ca : Int) (num : ByteArray) (h : pq num = none) : apT mn mx fa co ca num = Nl := by
  unfold apT
  rw [h, if_neg (by rintro ⟨e, -⟩; exact absurd e (by decide))]
theorem apT_same (num : ByteArray) (X : Rat) (h : pq num = some X) : apT Nl Nl Nl Nl 0 num = num := by
  rw [apT_some Nl Nl num X h okt_nl okt_nl, nl_empty]
  show tx X = num
  exact tx_pq h
/-- What bounds make of a number they make of it once more; it is one of the three. -/
theorem bounds (il im : Bool) (L M X : Rat) (h : il = true → im = true → ¬ M < L) : clm im M (cll il L (clm im M (cll il L X))) = clm im M (cll il L X) ∧ (clm im M (cll il L X) = X ∨ (il = true ∧ clm im M (cll il L X) = L) ∨ (im = true ∧ clm im M (cll il L X) = M)) := by
  cases il with
  | false =>
    have e : ∀ Y, cll false L Y = Y := fun Y => rfl
    simp only [e]
    cases im with
    | false => exact ⟨rfl, Or.inl rfl⟩
    | true =>
      have e4 : clm true M M = M := by unfold clm; rw [if_neg (by simp)]
      by_cases h1 : M < X
      · have e1 : clm true M X = M := by unfold clm; rw [if_pos (by simpa using h1)]
        rw [e1, e4]
        exact ⟨rfl, Or.inr (Or.inr ⟨rfl, rfl⟩)⟩
      · have e1 : clm true M X = X := by unfold clm; rw [if_neg (by simpa using h1)]
        rw [e1, e1]
        exact ⟨rfl, Or.inl rfl⟩
  | true =>
    cases im with
    | false =>
      have e : ∀ Y, clm false M Y = Y := fun Y => rfl
      simp only [e]
      have e4 : cll true L L = L := by unfold cll; rw [if_neg (by simp)]
      by_cases h1 : X < L
      · have e1 : cll true L X = L := by unfold cll; rw [if_pos (by simpa using h1)]
        rw [e1, e4]
        exact ⟨rfl, Or.inr (Or.inl ⟨by first | rfl | trivial, rfl⟩)⟩
      · have e1 : cll true L X = X := by unfold cll; rw [if_neg (by simpa using h1)]
        rw [e1, e1]
        exact ⟨rfl, Or.inl rfl⟩
    | true =>
      have hml := h rfl rfl
      by_cases h1 : X < L
      · have e1 : cll true L X = L := by unfold cll; rw [if_pos (by simpa using h1)]
        have e2 : clm true M L = L := by unfold clm; rw [if_neg (by simpa using hml)]
        have e3 : cll true L L = L := by unfold cll; rw [if_neg (by simp)]
        rw [e1, e2, e3, e2]
        exact ⟨rfl, Or.inr (Or.inl ⟨rfl, rfl⟩)⟩
      · have e1 : cll true L X = X := by unfold cll; rw [if_neg (by simpa using h1)]
        rw [e1]
        by_cases h2 : M < X
        · have e2 : clm true M X = M := by unfold clm; rw [if_pos (by simpa using h2)]
          have e3 : cll true L M = M := by unfold cll; rw [if_neg (by simpa using hml)]
          have e4 : clm true M M = M := by unfold clm; rw [if_neg (by simp)]
          rw [e2, e3, e4]
          exact ⟨rfl, Or.inr (Or.inr ⟨rfl, rfl⟩)⟩
        · have e2 : clm true M X = X := by unfold clm; rw [if_neg (by simpa using h2)]
          rw [e2, e1, e2]
          exact ⟨rfl, Or.inl rfl⟩
theorem plain_math (mn mx num : ByteArray) (X : Rat) (hX : pq num = some X) (hv : vld mn mx Nl Nl 0 = true) :
    ∃ B, apT mn mx Nl Nl 0 num = B ∧ apT mn mx Nl Nl 0 B = B ∧ B.toList.isEmpty = false ∧ (B = num ∨ B = mn ∨ B = mx) := by
  unfold vld ok4 at hv
  simp only [Bool.and_eq_true] at hv
  obtain ⟨⟨h1, h2, -⟩, -, -, h3⟩ := hv
  have hb := bounds (!mn.toList.isEmpty) (!mx.toList.isEmpty) (qv mn 0) (qv mx 0) X (fun e1 e2 => by
    have f1 : mn.toList.isEmpty = false := by simpa using e1
    have f2 : mx.toList.isEmpty = false := by simpa using e2
    rw [f1, f2] at h3
    simpa using h3)
  refine ⟨_, rfl, ?_, ?_, ?_⟩
  · rw [apT_some mn mx num X hX h1 h2, apT_some mn mx _ _ (pq_tx _) h1 h2, hb.1]
  · rw [apT_some mn mx num X hX h1 h2]
    exact empty_of_pos (tx_pos _)
  · rw [apT_some mn mx num X hX h1 h2]
    rcases hb.2 with e | ⟨f, e⟩ | ⟨f, e⟩
    · rw [e]
      exact Or.inl (tx_pq hX)
    · rw [e]
      exact Or.inr (Or.inl (tx_pq (okt_some h1 (by simpa using f) 0)))
    · rw [e]
      exact Or.inr (Or.inr (tx_pq (okt_some h2 (by simpa using f) 0)))
theorem pqd_sz (u : ByteArray) (k : Nat) (hu : u.size ≤ 19 * k) (hk : 1 ≤ k) : Sz k ((pq u).getD 0) := by
  cases h : pq u with
  | none => exact sz_zero k hk
  | some x => exact pq_sz19 h hu hk
theorem qv_sz (u : ByteArray) (k : Nat) (hu : u.size ≤ 19 * k) (hk : 1 ≤ k) : Sz k (qv u 0) := by
  unfold qv
  split
  · exact sz_zero k hk
  · exact pqd_sz u k hu hk
theorem sz_one (k : Nat) (hk : 1 ≤ k) : Sz k 1 := ⟨w_pos k hk (by decide), w_pos k hk (by decide)⟩
set_option maxRecDepth 100000 in
set_option maxHeartbeats 4000000 in
theorem plain_any (w : World) : Calls Tryz.prog 8 #[.agg #[.string ⟨#[]⟩, .string ⟨#[]⟩, .string ⟨#[]⟩, .string ⟨#[]⟩, .int .i64 0]] w fun e w' => e = .returned (.bool true) ∧ Below w.heap.size w w' := by
  have V := (Mq.refl w).alloc 25 #[.string ⟨#[]⟩, .string ⟨#[]⟩, .string ⟨#[]⟩, .string ⟨#[]⟩, .int .i64 0]
  have c0 := V.tg0 0 rfl; have c1 := V.tg1 0 rfl; have c2 := V.tg2 0 rfl; have c3 := V.tg3 0 rfl; have c4 := V.tg4 0 rfl
  have HB := Lib.hid V.bel
  clear V
  go_enter Tryz.func8, Tryz.ntmps8
  go_wp2_with fail
  go_ret
  exact ⟨by first | rfl | simp, HB.out⟩
theorem ttx34 : tx (mkRat 3 4) = ⟨#[51, 47, 52]⟩ := by decide +kernel
theorem ttx2 : tx 2 = ⟨#[50]⟩ := by decide +kernel
theorem ttx1 : tx 1 = ⟨#[49]⟩ := by decide +kernel
theorem tpq34 : pq ⟨#[51, 47, 52]⟩ = some (mkRat 3 4) := by rw [← ttx34]; exact pq_tx _
theorem tpq2 : pq ⟨#[50]⟩ = some 2 := by rw [← ttx2]; exact pq_tx _
theorem tpq1 : pq ⟨#[49]⟩ = some 1 := by rw [← ttx1]; exact pq_tx _
theorem tapv34 : tx (apv (mkRat 3 4) 0 0 2 1 false false 1) = ⟨#[51]⟩ := by decide +kernel
theorem apT_alive : apT Nl Nl ⟨#[50]⟩ ⟨#[49]⟩ 1 ⟨#[51, 47, 52]⟩ = ⟨#[51]⟩ := by
  have e2 : qv ⟨#[50]⟩ 1 = 2 := by rw [qv_some _ (pq_empty tpq2), tpq2]; rfl
  have e1 : qv ⟨#[49]⟩ 0 = 1 := by rw [qv_some _ (pq_empty tpq1), tpq1]; rfl
  unfold apT ok4
  rw [okt_nl, okt_some' tpq2, okt_some' tpq1, tpq34, qv_nl, e2, e1, nl_empty]
  exact tapv34
set_option maxRecDepth 100000 in
set_option maxHeartbeats 4000000 in
theorem alive_t (w : World) (htab : Tab w) (htb : TabB w) : Calls Tryz.prog 5 #[] w fun e w' => e = .returned (.bool true) ∧ Below w.heap.size w w' := by
  have H1 : Hid (∀ W, Below w.heap.size w W → Calls Tryz.prog 6 #[.agg #[.string ⟨#[]⟩, .string ⟨#[]⟩, .string ⟨#[50]⟩, .string ⟨#[49]⟩, .int .i64 1], .string ⟨#[51, 47, 52]⟩] W fun e w' => e = .returned (.string ⟨#[51]⟩) ∧ Below W.heap.size W w') := Lib.hid (fun W hB => by
    have h := app_any Nl Nl ⟨#[50]⟩ ⟨#[49]⟩ ⟨#[51, 47, 52]⟩ 1 W (htab.below hB (Nat.le_refl _)) (htb.below hB (Nat.le_refl _)) (by decide) (by decide) (by decide) (by decide) (by decide) 1 1 1 (pqd_sz _ 1 (by decide) (by omega)) (by rw [qv_nl]; exact sz_zero 1 (by omega)) (by rw [qv_nl]; exact sz_zero 1 (by omega)) (by rw [qv_some _ (pq_empty tpq2)]; exact pqd_sz _ 1 (by decide) (by omega)) (qv_sz _ 1 (by decide) (by omega)) (by omega) (by omega)
    rw [apT_alive] at h
    exact h)
  have H2 : Hid (∀ W, Below w.heap.size w W → Calls Tryz.prog 6 #[.agg #[.string ⟨#[]⟩, .string ⟨#[]⟩, .string ⟨#[]⟩, .string ⟨#[]⟩, .int .i64 0], .string ⟨#[]⟩] W fun e w' => e = .returned (.string ⟨#[]⟩) ∧ Below W.heap.size W w') := Lib.hid (fun W hB => by
    have h := app_any Nl Nl Nl Nl Nl 0 W (htab.below hB (Nat.le_refl _)) (htb.below hB (Nat.le_refl _)) (by decide) (by decide) (by decide) (by decide) (by decide) 1 1 1 (pqd_sz _ 1 (by decide) (by omega)) (by rw [qv_nl]; exact sz_zero 1 (by omega)) (by rw [qv_nl]; exact sz_zero 1 (by omega)) (by rw [qv_nl]; exact sz_one 1 (by omega)) (by rw [qv_nl]; exact sz_zero 1 (by omega)) (by omega) (by omega)
    rw [apT_none _ _ _ _ _ _ pq_nl] at h
    exact h)
  have H3 := Lib.hid (fun W => plain_any W)
  have HB0 := Lib.hid (Below.refl w.heap.size w)
  clear htab htb
  go_enter Tryz.func5, Tryz.ntmps5
  go_wp2_with fail
  refine (H1.out _ HB0.out).mono ?_
  rintro e w1 ⟨rfl, hb⟩
  have HB1 := Lib.hid hb
  clear hb
  go_wp2_with fail
  refine (H2.out _ HB1.out).mono ?_
  rintro e w2 ⟨rfl, hb⟩
  have HB2 := Lib.hid (HB1.out.trans (hb.mono HB1.out.size))
  clear hb
  go_wp2_with fail
  refine (H3.out _).mono ?_
  rintro e w3 ⟨rfl, hb⟩
  have HB3 := Lib.hid (HB2.out.trans (hb.mono HB2.out.size))
  clear hb
  go_wp2_with fail
  go_ret
  exact ⟨rfl, HB3.out⟩
end Go.Proofs.YtckglpkafhmehaaGreatDoor
