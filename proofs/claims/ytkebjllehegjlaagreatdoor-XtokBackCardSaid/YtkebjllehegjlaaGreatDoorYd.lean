/-
  Law 7: an element with a value, and a text within it, cut.
-/
import Derived.Test.YtkebjllehegjlaaGreatDoorYc
namespace Go.Proofs.YtkebjllehegjlaaGreatDoor
open Go.RowKit Go.Shelf
set_option linter.unusedVariables false
theorem good_app : ∀ (n : Nat) (a b : List UInt8), a.length ≤ n → good a → good b → good (a ++ b) := by
  intro n
  induction n with
  | zero =>
    intro a b h ha hb
    have : a = [] := List.length_eq_zero_iff.1 (by omega)
    subst this
    exact hb
  | succ n ih =>
    intro a b h ha hb
    match a with
    | [] => exact hb
    | c :: t =>
      have h0 : (u1 (c :: t)).2 ≠ 0 := fun h0 => good_stop _ h0 (by simp) ha
      have e := u1_app (c :: t) b h0
      have hle := u1_le (c :: t)
      obtain ⟨h1, h2⟩ := (good_go (c :: t) h0).1 ha
      rw [good_go _ (by rw [e]; exact h0), e, List.drop_append_of_le_length hle]
      refine ⟨h1, ih _ b ?_ h2 hb⟩
      rw [List.length_drop]
      simp only [List.length_cons] at h ⊢
      omega
def escN (c : UInt8) : Pc := ⟨escF false c, [c]⟩
theorem escn_ways (c : UInt8) : c = 38 ∨ c = 60 ∨ c = 62 ∨ c = 13 ∨ (escF false c = [c] ∧ SelfT c ∧ c ≠ 62) := by
  by_cases n38 : c.toNat = 38
  · exact .inl (to_byte n38)
  by_cases n60 : c.toNat = 60
  · exact .inr (.inl (to_byte n60))
  by_cases n62 : c.toNat = 62
  · exact .inr (.inr (.inl (to_byte n62)))
  by_cases n13 : c.toNat = 13
  · exact .inr (.inr (.inr (.inl (to_byte n13))))
  refine .inr (.inr (.inr (.inr ⟨?_, ⟨n60, n38, n13⟩, fun e => n62 (by rw [e]; rfl)⟩)))
  unfold escF
  simp [n38, n60, n62, n13]
theorem escn_ok (c : UInt8) : PcOk (escN c) := by
  rcases escn_ways c with rfl | rfl | rfl | rfl | ⟨h1, h2, h3⟩
  · exact .inr ⟨_, rfl, refok_amp⟩
  · exact .inr ⟨_, rfl, refok_lt⟩
  · exact .inr ⟨_, rfl, refok_gt⟩
  · exact .inr ⟨_, rfl, refok_13⟩
  · exact .inl ⟨c, h1, rfl, h2⟩
theorem escn_no (c : UInt8) : ∀ y ∈ escF false c, y ≠ 62 := by
  rcases escn_ways c with rfl | rfl | rfl | rfl | ⟨h1, h2, h3⟩
  all_goals first | (rw [h1]; intro y hy; rw [List.mem_singleton.1 hy]; exact h3) | decide
theorem srcs_escN (v : List UInt8) : srcs (v.map escN) = v.flatMap (escF false) := by
  unfold srcs
  rw [List.flatMap_map]
  rfl
theorem escn_writes : Writes (escF false) where
  wide := fun c h => by
    rcases escn_ways c with rfl | rfl | rfl | rfl | ⟨h1, _⟩
    all_goals first | exact h1 | exact absurd h (by decide)
  some_ := fun c => by
    rcases escn_ways c with rfl | rfl | rfl | rfl | ⟨h1, _⟩
    all_goals first | (rw [h1]; simp) | decide
  low := fun c h => by
    rcases escn_ways c with rfl | rfl | rfl | rfl | ⟨h1, _⟩
    all_goals first | (rw [h1]; intro y hy; rw [List.mem_singleton.1 hy]; exact h) | decide
  same := fun c h => by
    rcases escn_ways c with rfl | rfl | rfl | rfl | ⟨h1, _⟩
    all_goals first | (rw [h1]; simp) | decide
/-- An element with a value E, a text F, its end. -/
def backText (E F : List UInt8) : List UInt8 := 60 :: 97 :: ([32] ++ 98 :: ([] ++ 61 :: ([] ++ 34 :: (E ++ 34 :: ([] ++ (if false = true then 47 :: 62 :: (F ++ [60, 47, 97, 62]) else 62 :: (F ++ [60, 47, 97, 62])))))))
theorem back_flat (E F : List UInt8) : backText E F = [60, 97, 32, 98, 61, 34] ++ (E ++ ([34, 62] ++ (F ++ [60, 47, 97, 62]))) := by
  unfold backText
  rw [if_neg (by decide)]
  simp
theorem back_good {E F : List UInt8} (hE : good E) (hF : good F) : good (backText E F) := by
  rw [back_flat, good_pre _ _ (plain_of (by decide))]
  refine good_app _ _ _ (Nat.le_refl _) hE ?_
  rw [good_pre _ _ (plain_of (by decide)), good_post _ F _ (Nat.le_refl _) (plain_of (by decide))]
  exact hF
def tkB0 (v : List UInt8) : List Tkn := [⟨1, 0, ⟨#[97]⟩, ⟨#[]⟩, false, some (⟨#[98]⟩, ⟨v.toArray⟩, 3)⟩]
def tkB (v : List UInt8) (k j : Nat) : List Tkn := tkB0 v ++ (if v = [] then [⟨2, (k : Int), ⟨#[97]⟩, ⟨#[]⟩, false, none⟩] else [⟨3, (k : Int), ⟨#[]⟩, ⟨v.toArray⟩, false, none⟩, ⟨2, (j : Int), ⟨#[97]⟩, ⟨#[]⟩, false, none⟩])
theorem cut_back (s : ByteArray) (hs : s.size ≤ 60000) (v : List UInt8) (hv : v.length ≤ 1000) (hs2 : s.data.toList = backText (v.flatMap (escF true)) (v.flatMap (escF false))) (hg : good v) (w : World) :
    Calls Tryz.prog 6 #[.string s] w fun e w' => ∃ tk k j, e = .returned (.tuple #[tk, .agg #[.int .i64 0, .int .i64 0, .string ⟨#[]⟩]]) ∧ Told w' tk (tkB v k j) ∧ Below w.heap.size w w' := by
  have hgd : good s.data.toList := by rw [hs2]; exact back_good ((esc_writes.good _ _ (Nat.le_refl _)).2 hg) ((escn_writes.good _ _ (Nat.le_refl _)).2 hg)
  have hs6 : s.size ≤ 1000000 := by omega
  have hlen : s.size = 6 + (v.flatMap (escF true)).length + 2 + (v.flatMap (escF false)).length + 4 := by
    have : s.data.toList.length = s.size := by simp
    rw [← this, hs2, back_flat]
    simp only [List.length_append, List.length_cons, List.length_nil]
    omega
  have T := step_attr (s := s) (k := 0) hs6 (c := 97) (c2 := 98) (q := 34) (.inl rfl) (.inr rfl) (.inl rfl) [32] [] [] [] (by decide) (by decide) (by decide) (by decide) (by decide) (v.map escP) (fun p hp => by obtain ⟨c, _, rfl⟩ := List.mem_map.1 hp; exact esc_ok c) (by rw [decs_one escP (fun _ => rfl)]; omega) false (v.flatMap (escF false) ++ [60, 47, 97, 62]) (by rw [List.drop_zero, hs2, srcs_escP]; rfl)
  rw [decs_one escP (fun _ => rfl), srcs_escP, if_neg (by decide)] at T
  obtain ⟨k, hk⟩ : ∃ k, 0 + 2 + [32].length + 1 + ([] : List UInt8).length + 1 + ([] : List UInt8).length + 1 + (v.flatMap (escF true)).length + 1 + ([] : List UInt8).length + 1 = k := ⟨_, rfl⟩
  have hk2 : k = 6 + (v.flatMap (escF true)).length + 2 := by rw [← hk]; simp only [List.length_cons, List.length_nil]
  rw [show 0 + 2 + [(32 : UInt8)].length + 1 + ([] : List UInt8).length + 1 + ([] : List UInt8).length + 1 + (v.flatMap (escF true)).length + 1 + ([] : List UInt8).length + 1 = k from hk] at T
  have hd : s.data.toList.drop k = v.flatMap (escF false) ++ 60 :: [47, 97, 62] := by
    rw [hs2, back_flat, hk2, ← List.append_assoc, ← List.append_assoc]
    rw [show 6 + (v.flatMap (escF true)).length + 2 = (([60, 97, 32, 98, 61, 34] ++ v.flatMap (escF true)) ++ [34, 62]).length by simp only [List.length_append, List.length_cons, List.length_nil]]
    exact List.drop_left
  by_cases hv0 : v = []
  · subst hv0
    have hd2 : s.data.toList.drop k = 60 :: 47 :: 97 :: 62 :: [] := hd
    have hks : k + 4 = s.size := by rw [hlen, hk2]; rfl
    refine (cut_told s hs hgd (tkB [] k 0) (by simp [tkB, tkB0]) ?_ w).mono fun e w' hh => by
      obtain ⟨tk, h1, h2, h3⟩ := hh
      exact ⟨tk, k, 0, h1, h2, h3⟩
    refine .step T (by omega) (by omega) (by decide) ?_
    have C := step_close hs6 (c := 97) (.inl rfl) hd2
    refine .step C (by omega) (by omega) (by simp) ?_
    rw [hks]
    exact Chain.done _
  · have hF : v.flatMap (escF false) ≠ [] := by
      obtain ⟨c, r, rfl⟩ := List.exists_cons_of_ne_nil hv0
      rw [List.flatMap_cons]
      exact fun h => escn_writes.some_ c (List.append_eq_nil_iff.1 h).1
    have X := step_text hs6 (v.map escN) (fun p hp => by obtain ⟨c, _, rfl⟩ := List.mem_map.1 hp; exact escn_ok c) (by
      rw [srcs_escN]
      intro y hy
      obtain ⟨c, _, hc⟩ := List.mem_flatMap.1 hy
      exact escn_no c y hc) (by rw [decs_one escN (fun _ => rfl)]; omega) (by simpa using hv0) (by rw [decs_one escN (fun _ => rfl)]; exact hv0) [47, 97, 62] (k := k) (by rw [srcs_escN]; exact hd)
    rw [decs_one escN (fun _ => rfl), srcs_escN] at X
    obtain ⟨j, hj⟩ : ∃ j, k + (v.flatMap (escF false)).length = j := ⟨_, rfl⟩
    rw [hj] at X
    have hd2 : s.data.toList.drop j = 60 :: 47 :: 97 :: 62 :: [] := by rw [← hj]; exact drop_step hd
    have hFl := List.length_pos_iff.2 hF
    have hjs : j + 4 = s.size := by omega
    refine (cut_told s hs hgd (tkB v k j) (by simp [tkB, tkB0]) ?_ w).mono fun e w' hh => by
      obtain ⟨tk, h1, h2, h3⟩ := hh
      exact ⟨tk, k, j, h1, h2, h3⟩
    refine .step T (by omega) (by omega) (by decide) ?_
    refine .step X (by omega) (by omega) (by simp) ?_
    have C := step_close hs6 (c := 97) (.inl rfl) hd2
    refine .step C (by omega) (by omega) (by simp) ?_
    rw [hjs]
    unfold tkB
    rw [if_neg hv0]
    exact Chain.done _
/-- What the law reads of these tokens. -/
theorem Told.back {W : World} {tk : Value} {v : List UInt8} {k j : Nat} (h : Told W tk (tkB v k j)) :
    ∃ g cap ga ca, tk = .slice (some ⟨g, 0, none⟩) (if v = [] then 2 else 3) cap ∧ W.cell? ⟨g, 4, none⟩ = some (.slice (some ⟨ga, 0, none⟩) 1 ca) ∧ W.cell? ⟨ga, 1, none⟩ = some (.string ⟨v.toArray⟩) ∧ (v ≠ [] → W.cell? ⟨g, 6, none⟩ = some (.int .i64 3) ∧ W.cell? ⟨g, 9, none⟩ = some (.string ⟨v.toArray⟩)) := by
  obtain ⟨g, cap, xs, h1, h2, h3, h4⟩ := h.at_
  by_cases hv : v = []
  · subst hv
    obtain ⟨c, r, rfl, hc, _⟩ := h4
    obtain ⟨ga, ca, rfl, hat, _⟩ := hc
    exact ⟨g, cap, ga, ca, h1, h3 4 _ rfl, hat.cells.2.1, fun h => absurd rfl h⟩
  · unfold tkB at h1 h4
    rw [if_neg hv] at h1 h4
    obtain ⟨c, r, rfl, hc, h4⟩ := h4
    obtain ⟨d, r, rfl, hd, h4⟩ := h4
    obtain ⟨ga, ca, rfl, hat, _⟩ := hc
    have hd : d = tkC 3 (k : Int) ⟨#[]⟩ ⟨v.toArray⟩ none 0 0 false := hd
    subst hd
    exact ⟨g, cap, ga, ca, by rw [if_neg hv]; exact h1, h3 4 _ rfl, hat.cells.2.1, fun _ => ⟨h3 6 _ rfl, h3 9 _ rfl⟩⟩
end Go.Proofs.YtkebjllehegjlaaGreatDoor
