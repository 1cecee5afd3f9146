/-
  The walk of RatLaws: for every input it returns true, and leaves what lay in memory as it was.
-/
import Derived.Test.YtllmacokhjmdgaaGreatDoorRatLawsN
import Derived.Test.YtllmacokhjmdgaaGreatDoorRatLawsZ
namespace Go.Proofs.YtllmacokhjmdgaaGreatDoor
open Go.RowKit
set_option linter.unusedVariables false
set_option maxRecDepth 100000 in
set_option maxHeartbeats 4000000 in
theorem ratLaws.bad0 (s t u : ByteArray) (w : World) (htab : Tab w) (htb : TabB w) (hs : ¬ (100 : Int) < (s.size : Int)) (ht : ¬ (100 : Int) < (t.size : Int)) (hu : ¬ (100 : Int) < (u.size : Int)) (hp0 : oc (pq s) = 3) :
    Calls Tryz.prog 5 #[.string s, .string t, .string u] w fun e w' => e = .returned (.bool true) ∧ Below w.heap.size w w' := by
  have HAl := Lib.hid (alive_r w htab htb)
  have HTB : Hid (∀ W, Below w.heap.size w W → TabB W) := Lib.hid (fun W hb => htb.below hb (Nat.le_refl _))
  have HP0 : Hid (∀ W, TabB W → Calls Tryz.prog 12 #[.string s] W fun e w' => ∃ b x y z x' y' z', e = .returned (.tuple #[.agg #[.bool b, .slice x y z, .slice x' y' z'], .int .i64 (oc (pq s))]) ∧ IsR w' (.agg #[.bool b, .slice x y z, .slice x' y' z']) ((pq s).getD 0) ∧ Below W.heap.size W w') := Lib.hid (fun W h => parse_r s W (by omega) h)
  have HP1 : Hid (∀ W, TabB W → Calls Tryz.prog 12 #[.string t] W fun e w' => ∃ b x y z x' y' z', e = .returned (.tuple #[.agg #[.bool b, .slice x y z, .slice x' y' z'], .int .i64 (oc (pq t))]) ∧ IsR w' (.agg #[.bool b, .slice x y z, .slice x' y' z']) ((pq t).getD 0) ∧ Below W.heap.size W w') := Lib.hid (fun W h => parse_r t W (by omega) h)
  have HP2 : Hid (∀ W, TabB W → Calls Tryz.prog 12 #[.string u] W fun e w' => ∃ b x y z x' y' z', e = .returned (.tuple #[.agg #[.bool b, .slice x y z, .slice x' y' z'], .int .i64 (oc (pq u))]) ∧ IsR w' (.agg #[.bool b, .slice x y z, .slice x' y' z']) ((pq u).getD 0) ∧ Below W.heap.size W w') := Lib.hid (fun W h => parse_r u W (by omega) h)
  simp only [hp0] at HP0
  obtain ⟨k1, hk1⟩ : ∃ k, oc (pq t) = k := ⟨_, rfl⟩
  simp only [hk1] at HP1
  clear hk1
  obtain ⟨k2, hk2⟩ : ∃ k, oc (pq u) = k := ⟨_, rfl⟩
  simp only [hk2] at HP2
  clear hk2
  clear hp0
  go_enter Tryz.func5, Tryz.ntmps5
  go_wp2_with fail
  refine HAl.out.mono ?_
  rintro e w1 ⟨rfl, hb1⟩
  have V1 := (Mq.refl w).below hb1
  go_wp2_with fail
  refine (HP0.out _ (HTB.out _ V1.bel)).mono ?_
  rintro e wA ⟨bA, pA, nA, cA, qA, mA, dA, rfl, -, hb⟩
  have VA := (V1.below hb).alloc 28 #[.bool bA, .slice pA nA cA, .slice qA mA dA]
  clear V1 hb
  go_wp2_with fail
  refine (HP1.out _ (HTB.out _ VA.bel)).mono ?_
  rintro e wB ⟨bB, pB, nB, cB, qB, mB, dB, rfl, -, hb⟩
  have VB := (VA.below hb).alloc 28 #[.bool bB, .slice pB nB cB, .slice qB mB dB]
  clear VA hb
  go_wp2_with fail
  refine (HP2.out _ (HTB.out _ VB.bel)).mono ?_
  rintro e wC ⟨bC, pC, nC, cC, qC, mC, dC, rfl, -, hb⟩
  have VC := (VB.below hb).alloc 28 #[.bool bC, .slice pC nC cC, .slice qC mC dC]
  clear VB hb
  have HB := Lib.hid VC.bel
  clear VC
  go_wp2_with fail
  go_ret
  exact ⟨rfl, HB.out⟩
set_option maxRecDepth 100000 in
set_option maxHeartbeats 4000000 in
theorem ratLaws.bad1 (s t u : ByteArray) (w : World) (htab : Tab w) (htb : TabB w) (hs : ¬ (100 : Int) < (s.size : Int)) (ht : ¬ (100 : Int) < (t.size : Int)) (hu : ¬ (100 : Int) < (u.size : Int)) (hp0 : oc (pq s) = 0) (hp1 : oc (pq t) = 3) :
    Calls Tryz.prog 5 #[.string s, .string t, .string u] w fun e w' => e = .returned (.bool true) ∧ Below w.heap.size w w' := by
  have HAl := Lib.hid (alive_r w htab htb)
  have HTB : Hid (∀ W, Below w.heap.size w W → TabB W) := Lib.hid (fun W hb => htb.below hb (Nat.le_refl _))
  have HP0 : Hid (∀ W, TabB W → Calls Tryz.prog 12 #[.string s] W fun e w' => ∃ b x y z x' y' z', e = .returned (.tuple #[.agg #[.bool b, .slice x y z, .slice x' y' z'], .int .i64 (oc (pq s))]) ∧ IsR w' (.agg #[.bool b, .slice x y z, .slice x' y' z']) ((pq s).getD 0) ∧ Below W.heap.size W w') := Lib.hid (fun W h => parse_r s W (by omega) h)
  have HP1 : Hid (∀ W, TabB W → Calls Tryz.prog 12 #[.string t] W fun e w' => ∃ b x y z x' y' z', e = .returned (.tuple #[.agg #[.bool b, .slice x y z, .slice x' y' z'], .int .i64 (oc (pq t))]) ∧ IsR w' (.agg #[.bool b, .slice x y z, .slice x' y' z']) ((pq t).getD 0) ∧ Below W.heap.size W w') := Lib.hid (fun W h => parse_r t W (by omega) h)
  have HP2 : Hid (∀ W, TabB W → Calls Tryz.prog 12 #[.string u] W fun e w' => ∃ b x y z x' y' z', e = .returned (.tuple #[.agg #[.bool b, .slice x y z, .slice x' y' z'], .int .i64 (oc (pq u))]) ∧ IsR w' (.agg #[.bool b, .slice x y z, .slice x' y' z']) ((pq u).getD 0) ∧ Below W.heap.size W w') := Lib.hid (fun W h => parse_r u W (by omega) h)
  simp only [hp0] at HP0
  simp only [hp1] at HP1
  obtain ⟨k2, hk2⟩ : ∃ k, oc (pq u) = k := ⟨_, rfl⟩
  simp only [hk2] at HP2
  clear hk2
  clear hp0 hp1
  go_enter Tryz.func5, Tryz.ntmps5
  go_wp2_with fail
  refine HAl.out.mono ?_
  rintro e w1 ⟨rfl, hb1⟩
  have V1 := (Mq.refl w).below hb1
  go_wp2_with fail
  refine (HP0.out _ (HTB.out _ V1.bel)).mono ?_
  rintro e wA ⟨bA, pA, nA, cA, qA, mA, dA, rfl, -, hb⟩
  have VA := (V1.below hb).alloc 28 #[.bool bA, .slice pA nA cA, .slice qA mA dA]
  clear V1 hb
  go_wp2_with fail
  refine (HP1.out _ (HTB.out _ VA.bel)).mono ?_
  rintro e wB ⟨bB, pB, nB, cB, qB, mB, dB, rfl, -, hb⟩
  have VB := (VA.below hb).alloc 28 #[.bool bB, .slice pB nB cB, .slice qB mB dB]
  clear VA hb
  go_wp2_with fail
  refine (HP2.out _ (HTB.out _ VB.bel)).mono ?_
  rintro e wC ⟨bC, pC, nC, cC, qC, mC, dC, rfl, -, hb⟩
  have VC := (VB.below hb).alloc 28 #[.bool bC, .slice pC nC cC, .slice qC mC dC]
  clear VB hb
  have HB := Lib.hid VC.bel
  clear VC
  go_wp2_with fail
  go_ret
  exact ⟨rfl, HB.out⟩
set_option maxRecDepth 100000 in
set_option maxHeartbeats 4000000 in
theorem ratLaws.bad2 (s t u : ByteArray) (w : World) (htab : Tab w) (htb : TabB w) (hs : ¬ (100 : Int) < (s.size : Int)) (ht : ¬ (100 : Int) < (t.size : Int)) (hu : ¬ (100 : Int) < (u.size : Int)) (hp0 : oc (pq s) = 0) (hp1 : oc (pq t) = 0) (hp2 : oc (pq u) = 3) :
    Calls Tryz.prog 5 #[.string s, .string t, .string u] w fun e w' => e = .returned (.bool true) ∧ Below w.heap.size w w' := by
  have HAl := Lib.hid (alive_r w htab htb)
  have HTB : Hid (∀ W, Below w.heap.size w W → TabB W) := Lib.hid (fun W hb => htb.below hb (Nat.le_refl _))
  have HP0 : Hid (∀ W, TabB W → Calls Tryz.prog 12 #[.string s] W fun e w' => ∃ b x y z x' y' z', e = .returned (.tuple #[.agg #[.bool b, .slice x y z, .slice x' y' z'], .int .i64 (oc (pq s))]) ∧ IsR w' (.agg #[.bool b, .slice x y z, .slice x' y' z']) ((pq s).getD 0) ∧ Below W.heap.size W w') := Lib.hid (fun W h => parse_r s W (by omega) h)
  have HP1 : Hid (∀ W, TabB W → Calls Tryz.prog 12 #[.string t] W fun e w' => ∃ b x y z x' y' z', e = .returned (.tuple #[.agg #[.bool b, .slice x y z, .slice x' y' z'], .int .i64 (oc (pq t))]) ∧ IsR w' (.agg #[.bool b, .slice x y z, .slice x' y' z']) ((pq t).getD 0) ∧ Below W.heap.size W w') := Lib.hid (fun W h => parse_r t W (by omega) h)
  have HP2 : Hid (∀ W, TabB W → Calls Tryz.prog 12 #[.string u] W fun e w' => ∃ b x y z x' y' z', e = .returned (.tuple #[.agg #[.bool b, .slice x y z, .slice x' y' z'], .int .i64 (oc (pq u))]) ∧ IsR w' (.agg #[.bool b, .slice x y z, .slice x' y' z']) ((pq u).getD 0) ∧ Below W.heap.size W w') := Lib.hid (fun W h => parse_r u W (by omega) h)
  simp only [hp0] at HP0
  simp only [hp1] at HP1
  simp only [hp2] at HP2
  clear hp0 hp1 hp2
  go_enter Tryz.func5, Tryz.ntmps5
  go_wp2_with fail
  refine HAl.out.mono ?_
  rintro e w1 ⟨rfl, hb1⟩
  have V1 := (Mq.refl w).below hb1
  go_wp2_with fail
  refine (HP0.out _ (HTB.out _ V1.bel)).mono ?_
  rintro e wA ⟨bA, pA, nA, cA, qA, mA, dA, rfl, -, hb⟩
  have VA := (V1.below hb).alloc 28 #[.bool bA, .slice pA nA cA, .slice qA mA dA]
  clear V1 hb
  go_wp2_with fail
  refine (HP1.out _ (HTB.out _ VA.bel)).mono ?_
  rintro e wB ⟨bB, pB, nB, cB, qB, mB, dB, rfl, -, hb⟩
  have VB := (VA.below hb).alloc 28 #[.bool bB, .slice pB nB cB, .slice qB mB dB]
  clear VA hb
  go_wp2_with fail
  refine (HP2.out _ (HTB.out _ VB.bel)).mono ?_
  rintro e wC ⟨bC, pC, nC, cC, qC, mC, dC, rfl, -, hb⟩
  have VC := (VB.below hb).alloc 28 #[.bool bC, .slice pC nC cC, .slice qC mC dC]
  clear VB hb
  have HB := Lib.hid VC.bel
  clear VC
  go_wp2_with fail
  go_ret
  exact ⟨rfl, HB.out⟩
set_option maxRecDepth 100000 in
set_option maxHeartbeats 4000000 in
theorem ratLaws.long0 (s t u : ByteArray) (w : World) (htab : Tab w) (htb : TabB w) (hs : (100 : Int) < (s.size : Int)) :
    Calls Tryz.prog 5 #[.string s, .string t, .string u] w fun e w' => e = .returned (.bool true) ∧ Below w.heap.size w w' := by
  have HAl := Lib.hid (alive_r w htab htb)
  go_enter Tryz.func5, Tryz.ntmps5
  go_wp2_with fail
  refine HAl.out.mono ?_
  rintro e w1 ⟨rfl, hb1⟩
  go_wp2_with fail
  go_ret
  exact ⟨rfl, hb1⟩
set_option maxRecDepth 100000 in
set_option maxHeartbeats 4000000 in
theorem ratLaws.long1 (s t u : ByteArray) (w : World) (htab : Tab w) (htb : TabB w) (hs : ¬ (100 : Int) < (s.size : Int)) (ht : (100 : Int) < (t.size : Int)) :
    Calls Tryz.prog 5 #[.string s, .string t, .string u] w fun e w' => e = .returned (.bool true) ∧ Below w.heap.size w w' := by
  have HAl := Lib.hid (alive_r w htab htb)
  go_enter Tryz.func5, Tryz.ntmps5
  go_wp2_with fail
  refine HAl.out.mono ?_
  rintro e w1 ⟨rfl, hb1⟩
  go_wp2_with fail
  go_ret
  exact ⟨rfl, hb1⟩
set_option maxRecDepth 100000 in
set_option maxHeartbeats 4000000 in
theorem ratLaws.long2 (s t u : ByteArray) (w : World) (htab : Tab w) (htb : TabB w) (hs : ¬ (100 : Int) < (s.size : Int)) (ht : ¬ (100 : Int) < (t.size : Int)) (hu : (100 : Int) < (u.size : Int)) :
    Calls Tryz.prog 5 #[.string s, .string t, .string u] w fun e w' => e = .returned (.bool true) ∧ Below w.heap.size w w' := by
  have HAl := Lib.hid (alive_r w htab htb)
  go_enter Tryz.func5, Tryz.ntmps5
  go_wp2_with fail
  refine HAl.out.mono ?_
  rintro e w1 ⟨rfl, hb1⟩
  go_wp2_with fail
  go_ret
  exact ⟨rfl, hb1⟩
theorem ratLaws.walk (s t u : ByteArray) (hs : s.size ≤ maxLen) (ht : t.size ≤ maxLen) (hu : u.size ≤ maxLen) (w : World) (htab : Tab w) (htb : TabB w) :
    Calls Tryz.prog 5 #[.string s, .string t, .string u] w fun e w' => e = .returned (.bool true) ∧ Below w.heap.size w w' := by
  by_cases h1 : (100 : Int) < (s.size : Int)
  · exact ratLaws.long0 s t u w htab htb h1
  by_cases h2 : (100 : Int) < (t.size : Int)
  · exact ratLaws.long1 s t u w htab htb h1 h2
  by_cases h3 : (100 : Int) < (u.size : Int)
  · exact ratLaws.long2 s t u w htab htb h1 h2 h3
  cases hp : pq s with
  | none => exact ratLaws.bad0 s t u w htab htb h1 h2 h3 (by rw [hp]; rfl)
  | some qa =>
    cases hq : pq t with
    | none => exact ratLaws.bad1 s t u w htab htb h1 h2 h3 (by rw [hp]; rfl) (by rw [hq]; rfl)
    | some qb =>
      cases hr : pq u with
      | none => exact ratLaws.bad2 s t u w htab htb h1 h2 h3 (by rw [hp]; rfl) (by rw [hq]; rfl) (by rw [hr]; rfl)
      | some qc =>
        by_cases hb0 : qb.num.natAbs = 0
        · exact ratLaws.good0 s t u qa qb qc w htab htb h1 h2 h3 hp hq hr hb0
        · exact ratLaws.good1 s t u qa qb qc w htab htb h1 h2 h3 hp hq hr hb0
end Go.Proofs.YtllmacokhjmdgaaGreatDoor
