/-
  The walk of IeeeBetween: for every input it returns true, and leaves what lay in memory as it was.
-/
import Derived.Test.YtnhobagjpjcigaaGreatDoorESpt
import Derived.Test.YtnhobagjpjcigaaGreatDoorEAlive
import Derived.Test.YtnhobagjpjcigaaGreatDoorQPp
import Derived.Test.YtnhobagjpjcigaaGreatDoorQJ
namespace Go.Proofs.YtnhobagjpjcigaaGreatDoor
open Go.RowKit
set_option linter.unusedVariables false
/-- How what is told of a number hangs together. -/
def BtwOk (e m : Nat) (BP AP NP EP : Nat) (BB AB EB : Bool) : Prop :=
  (BB && AB) = false ∧ EB = false ∨ BB = true ∧ AB = true ∧ EB = true ∧ BP = EP ∧ AP = EP ∧ NP = EP ∨ BB = true ∧ AB = true ∧ EB = false ∧ (nxT e m BP) = (AP, true) ∧ (NP = BP ∨ NP = AP)
theorem btw_ok (e m s : Nat) (z ex up : Bool) (hs : s < inf e m) (hex : ex = true → up = false) :
    BtwOk e m (bsT e m z z ex s).1 (bsT e m z (!z) ex s).1 (ptn e m z (if up = true then s + 1 else s)) (if ex = true then ptn e m z s else 0) (bsT e m z z ex s).2 (bsT e m z (!z) ex s).2 ex := by
  cases ex with
  | true =>
    rw [bsd_no e m s _ _ _ hs (by simp), bsd_no e m s _ _ _ hs (by simp), hex rfl]
    exact Or.inr (Or.inl ⟨rfl, rfl, rfl, by simp, by simp, by simp⟩)
  | false =>
    cases z with
    | false =>
      rw [bsd_no e m s false false false hs rfl, show (!false) = true from rfl, bsd_up]
      by_cases h : s + 1 = inf e m
      · rw [if_pos h]
        exact Or.inl ⟨rfl, rfl⟩
      · rw [if_neg h]
        refine Or.inr (Or.inr ⟨rfl, rfl, rfl, ?_, ?_⟩)
        · simp only [ptn_pos]
          rw [nx_pos e m s hs, if_neg h]
        · cases up
          · exact Or.inl rfl
          · exact Or.inr rfl
    | true =>
      rw [show (!true) = false from rfl, bsd_no e m s true false false hs rfl, bsd_up]
      by_cases h : s + 1 = inf e m
      · rw [if_pos h]
        exact Or.inl ⟨rfl, rfl⟩
      · rw [if_neg h]
        refine Or.inr (Or.inr ⟨rfl, rfl, rfl, ptn_nx_neg e m s (by omega), ?_⟩)
        cases up
        · exact Or.inr rfl
        · exact Or.inl rfl
theorem bs_small (e m s : Nat) (z aw ex : Bool) (hem : e + m ≤ 31) (hs : s < inf e m) : (bsT e m z aw ex s).1 < 18446744073709551616 := by
  have h1 := inf_lt e m
  have h2 : 2 ^ (e + m) ≤ 2 ^ 31 := Nat.pow_le_pow_right (by decide) hem
  have h3 : ∀ t, t ≤ inf e m → ptn e m z t < 18446744073709551616 := fun t ht => by
    unfold ptn
    split <;> omega
  unfold bsT
  by_cases h1 : aw = true ∧ ex = false
  · simp only [if_pos h1]
    split
    · exact (by decide : 0 < 18446744073709551616)
    · exact h3 _ (by omega)
  · simp only [if_neg h1]
    split
    · exact (by decide : 0 < 18446744073709551616)
    · exact h3 _ (by omega)
set_option maxRecDepth 100000 in
set_option maxHeartbeats 8000000 in
theorem ieeeBetween.long (H : Int) (s : ByteArray) (w : World) (htab : Tab w) (htb : TabB w) (hs : (60 : Int) < (s.size : Int)) :
    Calls Tryz.prog 9 #[.int .i64 H, .string s] w fun e w' => e = .returned (.bool true) ∧ Below w.heap.size w w' := by
  have HAl := Lib.hid (alive_e w htab htb)
  clear htab htb
  go_enter Tryz.func9, Tryz.ntmps9
  go_wp2_with fail
  refine HAl.out.mono ?_
  rintro e w1 ⟨rfl, hb1⟩
  have HB := Lib.hid hb1
  clear hb1 HAl
  go_wp2_with fail
  go_ret
  exact ⟨rfl, HB.out⟩
set_option maxRecDepth 100000 in
set_option maxHeartbeats 8000000 in
theorem ieeeBetween.bad (H : Int) (s : ByteArray) (w : World) (htab : Tab w) (htb : TabB w) (hs : ¬ (60 : Int) < (s.size : Int)) (hp : oc (pq s) = 3) (e m : Nat) (hF : ∀ W, Calls Tryz.prog 33 #[.int .i64 (bits .and .i64 H 2), .int .i64 0, .int .i64 0] W fun E w' => E = .returned (.agg #[.int .i64 (e : Int), .int .i64 (m : Int)]) ∧ Below W.heap.size W w') :
    Calls Tryz.prog 9 #[.int .i64 H, .string s] w fun e w' => e = .returned (.bool true) ∧ Below w.heap.size w w' := by
  have HAl := Lib.hid (alive_e w htab htb)
  have HF := Lib.hid hF
  have HTB : Hid (∀ W, Below w.heap.size w W → TabB W) := Lib.hid (fun W hb => htb.below hb (Nat.le_refl _))
  have HP0 : Hid (∀ W, TabB W → Calls Tryz.prog 15 #[.string s] W fun e w' => ∃ b x y z x' y' z', e = .returned (.tuple #[.agg #[.bool b, .slice x y z, .slice x' y' z'], .int .i64 (oc (pq s))]) ∧ IsR w' (.agg #[.bool b, .slice x y z, .slice x' y' z']) ((pq s).getD 0) ∧ Below W.heap.size W w') := Lib.hid (fun W h => parse_r s W (by omega) h)
  simp only [hp] at HP0
  clear hp hF htab htb
  go_enter Tryz.func9, Tryz.ntmps9
  go_wp2_with fail
  refine HAl.out.mono ?_
  rintro E w0 ⟨rfl, hb⟩
  have V0 := (Mq.refl w).below hb
  clear hb HAl
  go_wp2_with fail
  refine (HF.out _).mono ?_
  rintro E w1 ⟨rfl, hb⟩
  have V1 := (V0.below hb).alloc 63 #[.int .i64 (e : Int), .int .i64 (m : Int)]
  clear V0 hb HF
  go_wp2_with fail
  refine (HP0.out _ (HTB.out _ V1.bel)).mono ?_
  rintro E w2 ⟨bA, pA, nA, cA, qA, mA, dA, rfl, -, hb⟩
  have V2 := (V1.below hb).alloc 27 #[.bool bA, .slice pA nA cA, .slice qA mA dA]
  have HB := Lib.hid V2.bel
  clear V1 hb V2 HP0 HTB
  go_wp2_with fail
  go_ret
  exact ⟨rfl, HB.out⟩
set_option maxRecDepth 100000 in
set_option maxHeartbeats 8000000 in
theorem ieeeBetween.good (H : Int) (s : ByteArray) (X : Rat) (w : World) (htab : Tab w) (htb : TabB w) (hs : ¬ (60 : Int) < (s.size : Int)) (hp : pq s = some X) (e m : Nat) (he : 2 ≤ e) (he2 : e ≤ 8) (hm : 1 ≤ m) (hm2 : m ≤ 23) (hF : ∀ W, Calls Tryz.prog 33 #[.int .i64 (bits .and .i64 H 2), .int .i64 0, .int .i64 0] W fun E w' => E = .returned (.agg #[.int .i64 (e : Int), .int .i64 (m : Int)]) ∧ Below W.heap.size W w') :
    Calls Tryz.prog 9 #[.int .i64 H, .string s] w fun e w' => e = .returned (.bool true) ∧ Below w.heap.size w w' := by
  have HAl := Lib.hid (alive_e w htab htb)
  have HF := Lib.hid hF
  have HTB : Hid (∀ W, Below w.heap.size w W → TabB W) := Lib.hid (fun W hb => htb.below hb (Nat.le_refl _))
  have HP0 : Hid (∀ W, TabB W → Calls Tryz.prog 15 #[.string s] W fun e w' => ∃ b x y z x' y' z', e = .returned (.tuple #[.agg #[.bool b, .slice x y z, .slice x' y' z'], .int .i64 0]) ∧ IsR w' (.agg #[.bool b, .slice x y z, .slice x' y' z']) X ∧ Below W.heap.size W w') := Lib.hid (fun W htw => by
    have := parse_r s W (by omega) htw
    rw [hp] at this
    exact this)
  have hsz : Sz 4 X := pq_sz19 hp (by omega) (by omega)
  obtain ⟨t, ex, hA⟩ := at_spot_ex e m X he (by omega) hm (by omega) (hsz.mono (by omega))
  have hOk := btw_ok e m t (decide (X.num < 0)) ex (nup m t (X.num.natAbs * 2 ^ upl e m) X.den) hA.spot.1 (fun h => exq_nup m t _ _ X.den_pos (hA.exq.trans h))
  have hsm := bs_small e m t (decide (X.num < 0)) (decide (X.num < 0)) ex (by omega) hA.spot.1
  have hE := hA.ext; have hBl := hA.blw; have hAb := hA.abv; have hNr := hA.nrs
  obtain ⟨BP, h1⟩ : ∃ x, (bsT e m (decide (X.num < 0)) (decide (X.num < 0)) ex t).1 = x := ⟨_, rfl⟩
  obtain ⟨BB, h2⟩ : ∃ x, (bsT e m (decide (X.num < 0)) (decide (X.num < 0)) ex t).2 = x := ⟨_, rfl⟩
  obtain ⟨AP, h3⟩ : ∃ x, (bsT e m (decide (X.num < 0)) (!decide (X.num < 0)) ex t).1 = x := ⟨_, rfl⟩
  obtain ⟨AB, h4⟩ : ∃ x, (bsT e m (decide (X.num < 0)) (!decide (X.num < 0)) ex t).2 = x := ⟨_, rfl⟩
  obtain ⟨NP, h5⟩ : ∃ x, ptn e m (decide (X.num < 0)) (if nup m t (X.num.natAbs * 2 ^ upl e m) X.den = true then t + 1 else t) = x := ⟨_, rfl⟩
  obtain ⟨EP, h6⟩ : ∃ x, (if ex = true then ptn e m (decide (X.num < 0)) t else 0) = x := ⟨_, rfl⟩
  rw [h1, h2, h3, h4, h5, h6] at hOk
  rw [h1] at hsm
  rw [h1, h2] at hBl
  rw [h3, h4] at hAb
  rw [h5] at hNr
  rw [h6] at hE
  have HE := Lib.hid hE; have HBl := Lib.hid hBl; have HAb := Lib.hid hAb; have HNr := Lib.hid hNr; have HOk := Lib.hid hOk
  have HNx : Hid (∀ W, Calls Tryz.prog 45 #[.agg #[.int .i64 (e : Int), .int .i64 (m : Int)], .int .u64 (BP : Int)] W (NxIs e m BP W)) := Lib.hid (fun W => next_any e m BP he (by omega) hm (by omega) hsm W)
  clear hp hF htab htb hsz hA hOk hsm hE hBl hAb hNr h1 h2 h3 h4 h5 h6
  go_enter Tryz.func9, Tryz.ntmps9
  go_wp2_with fail
  refine HAl.out.mono ?_
  rintro E w0 ⟨rfl, hb⟩
  have V0 := (Mq.refl w).below hb
  clear hb HAl
  go_wp2_with fail
  refine (HF.out _).mono ?_
  rintro E w1 ⟨rfl, hb⟩
  have V1 := (V0.below hb).alloc 63 #[.int .i64 (e : Int), .int .i64 (m : Int)]
  clear V0 hb HF
  go_wp2_with fail
  refine (HP0.out _ (HTB.out _ V1.bel)).mono ?_
  rintro E w2 ⟨bA, pA, nA, cA, qA, mA, dA, rfl, hr, hb⟩
  have V2 := ((V1.below hb).rcons hr).alloc 27 #[.bool bA, .slice pA nA cA, .slice qA mA dA]
  clear V1 hb HP0 HTB hr
  have q0 := V2.f0 1 rfl; have q1 := V2.f1 1 rfl
  have a0 := V2.c0 0 rfl; have a1 := V2.c1 0 rfl; have a2 := V2.c2 0 rfl
  go_wp2_with fail
  refine (HBl.out _ _ (V2.rat 0 _ _ rfl)).mono ?_
  rintro E w3 ⟨rfl, hb⟩
  have V3 := V2.below hb
  clear V2 hb HBl q0 q1 a0 a1 a2
  have q0 := V3.f0 1 rfl; have q1 := V3.f1 1 rfl
  have a0 := V3.c0 0 rfl; have a1 := V3.c1 0 rfl; have a2 := V3.c2 0 rfl
  go_wp2_with fail
  refine (HAb.out _ _ (V3.rat 0 _ _ rfl)).mono ?_
  rintro E w4 ⟨rfl, hb⟩
  have V4 := V3.below hb
  clear V3 hb HAb q0 q1 a0 a1 a2
  have q0 := V4.f0 1 rfl; have q1 := V4.f1 1 rfl
  have a0 := V4.c0 0 rfl; have a1 := V4.c1 0 rfl; have a2 := V4.c2 0 rfl
  go_wp2_with fail
  refine (HNr.out _ _ (V4.rat 0 _ _ rfl)).mono ?_
  rintro E w5 ⟨rfl, hb⟩
  have V5 := V4.below hb
  clear V4 hb HNr q0 q1 a0 a1 a2
  have q0 := V5.f0 1 rfl; have q1 := V5.f1 1 rfl
  have a0 := V5.c0 0 rfl; have a1 := V5.c1 0 rfl; have a2 := V5.c2 0 rfl
  go_wp2_with fail
  refine (HE.out _ _ (V5.rat 0 _ _ rfl)).mono ?_
  rintro E w6 ⟨rfl, hb⟩
  have V6 := V5.below hb
  clear V5 hb HE q0 q1 a0 a1 a2
  have q0 := V6.f0 1 rfl; have q1 := V6.f1 1 rfl
  have HB := Lib.hid V6.bel
  rcases HOk.out with ⟨h1, rfl⟩ | ⟨rfl, rfl, rfl, h1, h2, h3⟩ | ⟨rfl, rfl, rfl, hnx, hor⟩
  · clear V6 HNx HOk
    cases BB with
    | false =>
      go_wp2_with fail
      go_ret
      exact ⟨rfl, HB.out⟩
    | true =>
      obtain rfl : AB = false := h1
      go_wp2_with fail
      go_ret
      exact ⟨rfl, HB.out⟩
  · clear V6 HNx HOk
    have b1 : (BP : Int) = (EP : Int) := by rw [h1]
    have b2 : (AP : Int) = (EP : Int) := by rw [h2]
    have b3 : (NP : Int) = (EP : Int) := by rw [h3]
    rw [b1, b2, b3]
    obtain ⟨x, hx⟩ : ∃ x : Int, (EP : Int) = x := ⟨_, rfl⟩
    rw [hx]
    clear hx b1 b2 b3 h1 h2 h3
    go_wp2_with fail
    go_ret
    exact ⟨rfl, HB.out⟩
  · have HN2 : Hid (∀ W, Calls Tryz.prog 45 #[.agg #[.int .i64 (e : Int), .int .i64 (m : Int)], .int .u64 (BP : Int)] W fun E w' => E = .returned (.tuple #[.int .u64 (AP : Int), .bool true]) ∧ Below W.heap.size W w') := Lib.hid (fun W => (HNx.out W).mono fun E w' h => by
      unfold NxIs at h
      rw [hnx] at h
      exact h)
    clear HNx HOk HB hnx
    obtain ⟨x, hx⟩ : ∃ x : Int, (BP : Int) = x := ⟨_, rfl⟩
    obtain ⟨y, hy⟩ : ∃ x : Int, (AP : Int) = x := ⟨_, rfl⟩
    obtain ⟨z, hz⟩ : ∃ x : Int, (NP : Int) = x := ⟨_, rfl⟩
    have hor2 : z = x ∨ z = y := by omega
    rw [hx, hy] at HN2
    rw [hx, hy, hz]
    clear hx hy hz hor
    by_cases hzx : z = x
    · subst hzx
      clear hor2
      go_wp2_with fail
      refine (HN2.out _).mono ?_
      rintro E w7 ⟨rfl, hb⟩
      have V7 := V6.below hb
      have HB := Lib.hid V7.bel
      clear V6 V7 hb HN2 q0 q1
      go_wp2_with fail
      go_ret
      exact ⟨rfl, HB.out⟩
    · have hzy : z = y := by omega
      subst hzy
      have g1 : (z == x) = false := by simpa using hzx
      clear hor2 hzx
      go_wp2_with fail
      refine (HN2.out _).mono ?_
      rintro E w7 ⟨rfl, hb⟩
      have V7 := V6.below hb
      have HB := Lib.hid V7.bel
      clear V6 V7 hb HN2 q0 q1
      go_wp2_with fail
      go_ret
      exact ⟨rfl, HB.out⟩
theorem ieeeBetween.walk (H : Int) (s : ByteArray) (_ : (Lit.int .i64 H).wf = true) (hs : s.size ≤ maxLen) (w : World) (htab : Tab w) (htb : TabB w) :
    Calls Tryz.prog 9 #[.int .i64 H, .string s] w fun e w' => e = .returned (.bool true) ∧ Below w.heap.size w w' := by
  have hf : ∃ e m : Nat, 2 ≤ e ∧ e ≤ 8 ∧ 1 ≤ m ∧ m ≤ 23 ∧ ∀ W, Calls Tryz.prog 33 #[.int .i64 (bits .and .i64 H 2), .int .i64 0, .int .i64 0] W fun E w' => E = .returned (.agg #[.int .i64 (e : Int), .int .i64 (m : Int)]) ∧ Below W.heap.size W w' := by
    rcases and_two H with h | h
    · rw [h]; exact ⟨8, 23, by omega, by omega, by omega, by omega, form_0⟩
    · rw [h]; exact ⟨4, 3, by omega, by omega, by omega, by omega, form_2⟩
  obtain ⟨e, m, h1, h2, h3, h4, hF⟩ := hf
  by_cases hl : (60 : Int) < (s.size : Int)
  · exact ieeeBetween.long H s w htab htb hl
  · cases hp : pq s with
    | none => exact ieeeBetween.bad H s w htab htb hl (by rw [hp]; rfl) e m hF
    | some X => exact ieeeBetween.good H s X w htab htb hl hp e m h1 h2 h3 h4 hF
end Go.Proofs.YtnhobagjpjcigaaGreatDoor
