/-
  Law 7: reading tokens; the first calls of each law.
-/
import Derived.Test.YtkebjllehegjlaaGreatDoorXy
namespace Go.Proofs.YtkebjllehegjlaaGreatDoor
open Go.RowKit Go.Shelf
set_option linter.unusedVariables false
/-- Tokens as a slice of them tells. -/
structure Told (W : World) (tk : Value) (us : List Tkn) : Prop where
  at_ : ∃ g cap xs, tk = .slice (some ⟨g, 0, none⟩) us.length cap ∧ g < W.heap.size ∧ (∀ i v, xs[i]? = some v → W.cell? ⟨g, i, none⟩ = some v) ∧ Tks W 0 0 us xs
theorem Tks.low {W : World} {B b : Nat} : ∀ (ts : List Tkn) (xs : List Value), Tks W B b ts xs → Tks W 0 b ts xs
  | [], xs, h => h
  | t :: ts, xs, h => by
    obtain ⟨d, r, rfl, hd, hr⟩ := h
    refine ⟨d, r, rfl, ?_, Tks.low ts r hr⟩
    unfold TkAt at hd ⊢
    split at hd
    · exact hd
    · obtain ⟨g, cap, h1, h2, h3⟩ := hd
      exact ⟨g, cap, h1, h2, Nat.zero_le _⟩
theorem told_of {W : World} {B : Nat} {tk : Value} {us : List Tkn} {xs : List Value} (h : W.ownsRow B 33 6 tk us.length xs) (ht : Tks W B 0 us xs) (hn : us ≠ []) : Told W tk us := by
  have hl := h.lt
  have hc := @World.ownsRow.cells W B 33 6 tk us.length xs h
  obtain ⟨hlen, ⟨_, h0⟩ | ⟨g, cap, cur, rfl, hb, hgb, _⟩⟩ := h
  · exact absurd (List.length_eq_zero_iff.1 h0) hn
  · refine ⟨g, cap, xs, rfl, (hl g rfl).2, fun i v hv => ?_, Tks.low us xs ht⟩
    have := hc (g := g) rfl i v hv
    have e : (⟨g, 0, none⟩ : Addr).add i = ⟨g, i, none⟩ := by unfold Addr.add; split <;> simp_all
    rwa [e] at this
theorem Told.below {W W' : World} {tk : Value} {us : List Tkn} (h : Told W tk us) (hb : Below W.heap.size W W') : Told W' tk us := by
  obtain ⟨g, cap, xs, h1, h2, h3, h4⟩ := h.at_
  exact ⟨g, cap, xs, h1, Nat.lt_of_lt_of_le h2 hb.size, fun i v hv => (hb.cell (p := ⟨g, i, none⟩) h2).trans (h3 i v hv), h4.kept (fun q nm vl p hq _ => hq.kept (hb.block q hq.lt)) us xs⟩
theorem cut_told (s : ByteArray) (hs : s.size ≤ 60000) (hg : good s.data.toList) (us : List Tkn) (hus : us ≠ []) (hch : Chain s 0 [] us) (w : World) :
    Calls Tryz.prog 6 #[.string s] w fun e w' => ∃ tk, e = .returned (.tuple #[tk, .agg #[.int .i64 0, .int .i64 0, .string ⟨#[]⟩]]) ∧ Told w' tk us ∧ Below w.heap.size w w' :=
  (cut_ok s hs hg us hch w).mono fun e w' hh => by
    obtain ⟨tk, xs, B, h1, h2, h3, _, h5⟩ := hh
    exact ⟨tk, h1, told_of h2 h3 hus, h5⟩
/-- One token with one attribute. -/
theorem Told.one {W : World} {tk : Value} {K A : Int} {nm tx an av : ByteArray} {em : Bool} {ap : Int} (h : Told W tk [⟨K, A, nm, tx, em, some (an, av, ap)⟩]) :
    ∃ g cap ga ca, tk = .slice (some ⟨g, 0, none⟩) 1 cap ∧ W.cell? ⟨g, 0, none⟩ = some (.int .i64 K) ∧ W.cell? ⟨g, 4, none⟩ = some (.slice (some ⟨ga, 0, none⟩) 1 ca) ∧ W.cell? ⟨g, 5, none⟩ = some (.bool em) ∧ W.cell? ⟨ga, 1, none⟩ = some (.string av) := by
  obtain ⟨g, cap, xs, h1, h2, h3, h4⟩ := h.at_
  obtain ⟨c, r, rfl, hc, _⟩ := h4
  obtain ⟨ga, ca, rfl, hat, _⟩ := hc
  exact ⟨g, cap, ga, ca, h1, h3 0 _ rfl, h3 4 _ rfl, h3 5 _ rfl, hat.cells.2.1⟩
/-- Three tokens without attributes: the text of the second one. -/
theorem Told.three {W : World} {tk : Value} {t u v : Tkn} (h : Told W tk [t, u, v]) : ∃ g cap, tk = .slice (some ⟨g, 0, none⟩) 3 cap ∧ W.cell? ⟨g, 9, none⟩ = some (.string u.tx) := by
  obtain ⟨g, cap, xs, h1, h2, h3, h4⟩ := h.at_
  obtain ⟨c, r, rfl, hc, h4⟩ := h4
  obtain ⟨d, r, rfl, hd, h4⟩ := h4
  refine ⟨g, cap, h1, h3 9 _ ?_⟩
  rw [List.getElem?_append_right (by rw [hc.len]; decide), hc.len]
  unfold TkAt at hd
  split at hd
  · rw [hd]; rfl
  · obtain ⟨ga, ca, rfl, _⟩ := hd; rfl
theorem plain_of {l : List UInt8} (h : (l.all fun y => decide (y.toNat < 128) && uChar (y.toNat : Int)) = true) : plain l := fun y hy => by
  have := List.all_eq_true.1 h y hy
  rw [Bool.and_eq_true] at this
  exact ⟨of_decide_eq_true this.1, this.2⟩
def txA : ByteArray := ⟨#[60, 97, 32, 98, 61, 39, 49, 38, 97, 109, 112, 59, 50, 39, 47, 62]⟩
def tkA : List Tkn := [⟨1, 0, ⟨#[97]⟩, ⟨#[]⟩, true, some (⟨#[98]⟩, ⟨#[49, 38, 50]⟩, 3)⟩]
theorem chainA : Chain txA 0 [] tkA := by
  have h := step_attr (s := txA) (k := 0) (by decide) (c := 97) (c2 := 98) (q := 39) (.inl rfl) (.inr rfl) (.inr rfl) [32] [] [] [] (by decide) (by decide) (by decide) (by decide) (by decide)
    [⟨[49], [49]⟩, ⟨[38, 97, 109, 112, 59], [38]⟩, ⟨[50], [50]⟩] (fun p hp => by
      simp only [List.mem_cons, List.not_mem_nil, or_false] at hp
      rcases hp with rfl | rfl | rfl
      · exact .inl ⟨49, rfl, rfl, by unfold Self; decide, by decide⟩
      · exact .inr ⟨_, rfl, refok_amp⟩
      · exact .inl ⟨50, rfl, rfl, by unfold Self; decide, by decide⟩) (by decide) true [] rfl
  exact .step h (by decide) (by decide) (by decide) (Chain.done _)
def txB : ByteArray := ⟨#[60, 97]⟩
theorem brokenB : Broken txB 0 0 [] := .bad [] (step_none (s := txB) (k := 0) (by decide) (.inl rfl) rfl) (by decide)
set_option maxRecDepth 100000 in
set_option maxHeartbeats 8000000 in
theorem alive_any (w : World) : Calls Tryz.prog 5 #[] w fun e w' => e = .returned (.bool true) ∧ Below w.heap.size w w' := by
  have HA : Hid (∀ W, Calls Tryz.prog 6 #[.string ⟨#[60, 97, 32, 98, 61, 39, 49, 38, 97, 109, 112, 59, 50, 39, 47, 62]⟩] W fun e w' => ∃ tk, e = .returned (.tuple #[tk, .agg #[.int .i64 0, .int .i64 0, .string ⟨#[]⟩]]) ∧ Told w' tk tkA ∧ Below W.heap.size W w') := Lib.hid (fun W => cut_told txA (by decide) (good_plain _ (plain_of (by decide))) tkA (by decide) chainA W)
  have HB : Hid (∀ W, Calls Tryz.prog 6 #[.string ⟨#[60, 97]⟩] W fun e w' => e = .returned (.tuple #[.slice none 0 0, .agg #[.int .i64 11, .int .i64 0, .string ⟨#[]⟩]]) ∧ Below W.heap.size W w') := Lib.hid (fun W => cut_bad txB (by decide) (good_plain _ (plain_of (by decide))) 0 brokenB W)
  go_enter Tryz.func5, Tryz.ntmps5
  go_wp2_with fail
  refine (HA.out _).mono ?_
  rintro e w1 ⟨tk, rfl, ht, hb1⟩
  have d1 := Blk.new w1 27 #[.int .i64 0, .int .i64 0, .string ⟨#[]⟩]
  have T1 := Lib.hid (ht.below ((Below.refl _ _).alloc (Nat.le_refl _) (.cells #[.int .i64 0, .int .i64 0, .string ⟨#[]⟩] 27)))
  have HB1 := Lib.hid (hb1.alloc hb1.size (.cells #[.int .i64 0, .int .i64 0, .string ⟨#[]⟩] 27))
  have D1 := Lib.hid d1
  clear ht hb1 d1 HA
  go_wp2_with fail
  refine (HB.out _).mono ?_
  rintro e w2 ⟨rfl, hb2⟩
  have hl2 := D1.out.lt
  have e1 := D1.out.below hb2 hl2
  have T2 := T1.out.below hb2
  have HB2 := Lib.hid ((HB1.out.trans (hb2.mono HB1.out.size)).alloc (Nat.le_trans HB1.out.size hb2.size) (.cells #[.int .i64 11, .int .i64 0, .string ⟨#[]⟩] 27))
  have e2 := e1.alloc (.cells #[.int .i64 11, .int .i64 0, .string ⟨#[]⟩] 27)
  have e3 := Blk.new w2 27 #[.int .i64 11, .int .i64 0, .string ⟨#[]⟩]
  have T3 := T2.below ((Below.refl _ _).alloc (Nat.le_refl _) (.cells #[.int .i64 11, .int .i64 0, .string ⟨#[]⟩] 27))
  obtain ⟨g, cap, ga, ca, rfl, t0, t4, t5, t1⟩ := T3.one
  have a0 := e2.cell 0; have a1 := e2.cell 1; have a2 := e2.cell 2; have q0 := e3.cell 0; have q1 := e3.cell 1; have q2 := e3.cell 2
  simp only [List.getElem?_toArray, List.getElem?_cons_zero, List.getElem?_cons_succ] at a0 a1 a2 q0 q1 q2
  clear hb2 e1 T2 e2 e3 T3 T1 HB1 D1 HB
  go_wp2_with fail
  go_ret
  exact ⟨rfl, HB2.out⟩
end Go.Proofs.YtkebjllehegjlaaGreatDoor
