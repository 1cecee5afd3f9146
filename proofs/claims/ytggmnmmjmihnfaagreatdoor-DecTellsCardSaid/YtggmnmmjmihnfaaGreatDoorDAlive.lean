/-
 Law 3: the first call.
-/
import Derived.Test.YtggmnmmjmihnfaaGreatDoorDParse
import Derived.Test.YtggmnmmjmihnfaaGreatDoorDText
namespace Go.Proofs.YtggmnmmjmihnfaaGreatDoor
open Go.RowKit
set_option linter.unusedVariables false
theorem rst8 : rst 8 = 1 ∧ plc 8 = 3 := by
 have h1 : tk 2 8 = (1, 3) := tk_mul (p := 2) (M := 1) (v := 3) (by decide) (by decide)
 have h2 : tk 5 1 = (1, 0) := tk_stop (by decide)
 unfold rst plc
 rw [h1]
 show (tk 5 1).1 = 1 ∧ max 3 (tk 5 1).2 = 3
 rw [h2]
 exact ⟨rfl, rfl⟩
def S15 : ByteArray := ⟨#[45, 49, 46, 53, 48, 101, 49]⟩
theorem s15_facts : (lcut S15).1.ds.length + dv (lcut S15).1.es ≤ 740 ∧ lcode S15 = 0 ∧ litv S15 = -15 := by decide +kernel
theorem ltx8 : ltx (mkRat (sgn false 1) 8) = ⟨#[48, 46, 49, 50, 53]⟩ := by
 have hd : (mkRat (sgn false 1) 8).den = 8 := by decide +kernel
 unfold ltx ubt sdg sct
 rw [hd, rst8.2]
 decide +kernel
set_option maxRecDepth 100000 in
set_option maxHeartbeats 4000000 in
theorem alive_d (w : World) (htab : Tab w) (htb : TabB w) : Calls Tryz.prog 4 #[] w fun e w' => e = .returned (.bool true) ∧ Below w.heap.size w w' := by
 have HP : Hid (Calls Tryz.prog 5 #[.string ⟨#[45, 49, 46, 53, 48, 101, 49]⟩] w fun e w' => ∃ v, e = .returned (.tuple #[v, .int .i64 0]) ∧ IsR w' v (-15) ∧ Below w.heap.size w w') := Lib.hid (by
  have h := dparse_any S15 w (by decide) (fun _ => s15_facts.1) htab htb
  unfold LitIs at h
  rw [s15_facts.2.1, s15_facts.2.2] at h
  exact h)
 have HO1 : Hid (∀ W, Calls Tryz.prog 17 #[.int .u64 1] W (GaveV 1 W)) := Lib.hid (fun W => ofV 1 (by decide) W)
 have HO8 : Hid (∀ W, Calls Tryz.prog 17 #[.int .u64 8] W (GaveV 8 W)) := Lib.hid (fun W => ofV 8 (by decide) W)
 have HMk : Hid (∀ W va vb, Below w.heap.size w W → IsN W va 1 → IsN W vb 8 → Calls Tryz.prog 16 #[.bool false, va, vb] W fun e w' => ∃ v, e = .returned (.tuple #[v, .int .i64 0]) ∧ IsR w' v (mkRat (sgn false 1) 8) ∧ Below W.heap.size W w') := Lib.hid (fun W va vb hB h1 h2 => make_mk false 1 8 va vb W h1 h2 (Nat.one_lt_pow (by decide) (by decide)) (Nat.lt_of_lt_of_le (by decide : 8 < 18446744073709551616 ^ 1) (w64_mono (by omega))) (by decide) (htb.below hB (Nat.le_refl _)))
 have hsz8 : Sz 35 (mkRat (sgn false 1) 8) := by
  have h1 : (mkRat (sgn false 1) 8).num.natAbs = 1 := by decide +kernel
  have h2 : (mkRat (sgn false 1) 8).den = 8 := by decide +kernel
  exact ⟨by rw [h1]; exact Nat.one_lt_pow (by decide) (by decide), by rw [h2]; exact Nat.lt_of_lt_of_le (by decide : 8 < 18446744073709551616 ^ 1) (w64_mono (by omega))⟩
 have HT8 : Hid (∀ W v, Below w.heap.size w W → IsR W v (mkRat (sgn false 1) 8) → Calls Tryz.prog 13 #[v] W fun e w' => e = .returned (.tuple #[.string ⟨#[48, 46, 49, 50, 53]⟩, .int .i64 0]) ∧ Below W.heap.size W w') := Lib.hid (fun W v hB h => by
  have hd : (mkRat (sgn false 1) 8).den = 8 := by decide +kernel
  have h2 := dtext_some _ v W h hsz8 (by rw [hd]; exact rst8.1) (by rw [hd, rst8.2]; decide) (htab.below hB (Nat.le_refl _))
  rw [ltx8] at h2
  exact h2)
 have HTx : Hid (∀ W v, Below w.heap.size w W → IsR W v (-15) → Calls Tryz.prog 7 #[v] W fun e w' => e = .returned (.string ⟨#[45, 49, 53]⟩) ∧ Below W.heap.size W w') := Lib.hid (fun W v hB h => by
  have e1 : tx (-15) = ⟨#[45, 49, 53]⟩ := by decide +kernel
  have h1 : ((-15 : Rat)).num.natAbs = 15 := by decide +kernel
  have h3 : ((-15 : Rat)).den = 1 := by decide +kernel
  have h2 := text_r (-15) v W h ⟨by rw [h1]; exact Nat.lt_of_lt_of_le (by decide : 15 < 18446744073709551616 ^ 1) (w64_mono (by omega)), by rw [h3]; exact Nat.one_lt_pow (by decide) (by decide)⟩ (htab.below hB (Nat.le_refl _))
  rw [e1] at h2
  exact h2)
 obtain ⟨X8, hX8⟩ : ∃ X, mkRat (sgn false 1) 8 = X := ⟨_, rfl⟩
 obtain ⟨X15, hX15⟩ : ∃ X : Rat, -15 = X := ⟨_, rfl⟩
 rw [hX8] at HMk HT8
 rw [hX15] at HP HTx
 clear hX8 hX15 hsz8 htab htb
 go_enter Tryz.func4, Tryz.ntmps4
 go_wp2_with fail
 refine HP.out.mono ?_
 rintro e w1 ⟨v, rfl, hr, hb⟩
 have V1' := ((Mq.refl w).below hb).rcons hr
 obtain ⟨p, n, c, p', n', c', rfl, -, -⟩ := hr
 obtain ⟨z, hz⟩ : ∃ z, decide (X15.num < 0) = z := ⟨_, rfl⟩
 rw [hz] at V1' ⊢
 have V1 := V1'.alloc 27 #[.bool z, .slice p n c, .slice p' n' c']
 clear V1' hb hz HP
 go_wp2_with fail
 refine (HO1.out _).mono ?_
 rintro e w2 ⟨x2, y2, z2, rfl, i2, hb⟩
 have V2 := (V1.below hb).cons i2 (Nat.one_lt_pow (by decide) (by decide))
 clear V1 hb i2 HO1
 go_wp2_with fail
 refine (HO8.out _).mono ?_
 rintro e w3 ⟨x3, y3, z3, rfl, i3, hb⟩
 have V3 := V2.below hb
 clear V2 hb HO8
 go_wp2_with fail
 refine (HMk.out _ _ _ V3.bel (V3.num 0 _ _ rfl).1 i3).mono ?_
 rintro e w4 ⟨v, rfl, hr, hb⟩
 have V4' := (V3.below hb).rcons hr
 obtain ⟨q, m, d, q', m', d', rfl, -, -⟩ := hr
 obtain ⟨u, hu⟩ : ∃ z, decide (X8.num < 0) = z := ⟨_, rfl⟩
 rw [hu] at V4' ⊢
 have V4 := V4'.alloc 27 #[.bool u, .slice q m d, .slice q' m' d']
 have a0 := V4.c0 0 rfl; have a1 := V4.c1 0 rfl; have a2 := V4.c2 0 rfl
 clear V3 V4' hb hu i3 HMk
 go_wp2_with fail
 refine (HT8.out _ _ V4.bel (V4.rat 0 _ _ rfl)).mono ?_
 rintro e w5 ⟨rfl, hb⟩
 have V5 := V4.below hb
 clear V4 hb a0 a1 a2 HT8
 have a0 := V5.c0 1 rfl; have a1 := V5.c1 1 rfl; have a2 := V5.c2 1 rfl
 go_wp2_with fail
 refine (HTx.out _ _ V5.bel (V5.rat 1 _ _ rfl)).mono ?_
 rintro e w6 ⟨rfl, hb⟩
 have HB := Lib.hid (V5.below hb).bel
 clear V5 hb a0 a1 a2 HTx
 go_wp2_with fail
 go_ret
 exact ⟨rfl, HB.out⟩
end Go.Proofs.YtggmnmmjmihnfaaGreatDoor
