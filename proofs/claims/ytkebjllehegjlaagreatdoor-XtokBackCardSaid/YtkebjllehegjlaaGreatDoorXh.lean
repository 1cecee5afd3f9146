/-
  Law 7: a reference by a number.
-/
import Derived.Test.YtkebjllehegjlaaGreatDoorXg
import Derived.Test.YtkebjllehegjlaaGreatDoorUtClass
namespace Go.Proofs.YtkebjllehegjlaaGreatDoor
open Go.RowKit Go.Shelf
set_option linter.unusedVariables false
set_option maxRecDepth 100000 in
theorem puint_ok (t : ByteArray) (base : Int) (v : Nat) (HI : ∀ W, Calls Tryz.prog 65 #[.string t, .int .i64 base, .int .i64 32] W fun e w' => e = .returned (.tuple #[.int .u64 (v : Int), .nilIface]) ∧ Below W.heap.size W w') (w : World) :
    Calls Tryz.prog 53 #[.string t, .int .i64 base, .int .i64 32] w fun e w' => e = .returned (.tuple #[.int .u64 (v : Int), .nilIface]) ∧ Below w.heap.size w w' := by
  have HI := Lib.hid HI
  obtain ⟨V, hV⟩ : ∃ V : Int, (v : Int) = V := ⟨_, rfl⟩
  rw [hV] at HI ⊢
  clear hV
  go_enter Tryz.func53, Tryz.ntmps53
  go_wp2_with fail
  refine (HI.out _).mono ?_
  rintro e w1 ⟨rfl, hb⟩
  have HB := Lib.hid hb
  clear hb
  go_wp2_with fail
  go_ret2
  exact ⟨rfl, HB.out⟩
set_option maxRecDepth 100000 in
set_option maxHeartbeats 4000000 in
theorem numbered_dec (word : ByteArray) (v : Nat) (hs : word.size ≤ 1000000) (h1 : Lib.hasPrefix word.data.toList (⟨#[35]⟩ : ByteArray).data.toList = true) (h2 : Lib.hasPrefix (bhd word ⟨#[35]⟩).data.toList (⟨#[120]⟩ : ByteArray).data.toList = false) (h3 : (bhd word ⟨#[35]⟩).size ≤ 7) (hv : v ≤ 4294967295)
    (HU : ∀ W, Calls Tryz.prog 65 #[.string (bhd word ⟨#[35]⟩), .int .i64 10, .int .i64 32] W fun e w' => e = .returned (.tuple #[.int .u64 (v : Int), .nilIface]) ∧ Below W.heap.size W w') (hc : uChar (v : Int) = true) (T : ByteArray) (HP : ∀ W, Calls Tryz.prog 54 #[.int .i64 (v : Int)] W fun e w' => e = .returned (.tuple #[.string T, .bool true]) ∧ Below W.heap.size W w') (w : World) :
    Calls Tryz.prog 44 #[.string word] w fun e w' => e = .returned (.tuple #[.string T, .bool true]) ∧ Below w.heap.size w w' := by
  have hbs : (bhd word ⟨#[35]⟩).size ≤ 1000000 := by
    unfold bhd
    split <;> first | exact hs | (rw [ByteArray.size_extract]; omega)
  have H1 := Lib.hid (fun W => cutp_any word ⟨#[35]⟩ hs W)
  have H2 := Lib.hid (fun W => cutp_any (bhd word ⟨#[35]⟩) ⟨#[120]⟩ hbs W)
  rw [h1] at H1
  rw [h2] at H2
  have HC : Hid (∀ W, Calls Tryz.prog 19 #[.int .i64 (v : Int)] W fun e w' => e = .returned (.bool true) ∧ W = w') := Lib.hid (fun W => by
    have h := char_any (v : Int) W
    rwa [hc] at h)
  have HC2 : Hid (∀ W, Calls Tryz.prog 19 #[.int .i64 (IntKind.i64.wrap (v : Int))] W fun e w' => e = .returned (.bool true) ∧ W = w') := Lib.hid (fun W => by
    rw [show IntKind.i64.wrap (v : Int) = (v : Int) from IntWalk.i64_in _ ⟨by omega, by omega⟩]
    exact HC.out W)
  have HU := Lib.hid (fun W => puint_ok (bhd word ⟨#[35]⟩) 10 v HU W)
  have HP := Lib.hid HP
  obtain ⟨D1, hD1⟩ : ∃ D, bhd word ⟨#[35]⟩ = D := ⟨_, rfl⟩
  simp only [hD1] at H1 H2 HU h3
  obtain ⟨D2, hD2⟩ : ∃ D, bhd D1 ⟨#[120]⟩ = D := ⟨_, rfl⟩
  simp only [hD2] at H2
  have hsz : ¬ (7 : Int) < (D1.size : Int) := by omega
  have hv2 : (v : Int) ≤ 4294967295 := by omega
  obtain ⟨V, hV⟩ : ∃ V : Int, (v : Int) = V := ⟨_, rfl⟩
  have hV0 : 0 ≤ V := by omega
  rw [hV] at hv2
  simp only [hV] at HC HC2 HU HP
  clear hs h1 h2 h3 hv hc hbs hD1 hD2 hV
  go_enter Tryz.func44, Tryz.ntmps44
  go_wp2_with fail
  refine (H1.out _).mono ?_
  rintro e w1 ⟨rfl, rfl⟩
  go_wp2_with fail
  refine (H2.out _).mono ?_
  rintro e w2 ⟨rfl, rfl⟩
  go_wp2_with fail
  refine (HU.out _).mono ?_
  rintro e w3 ⟨rfl, hb⟩
  have HB := Lib.hid hb
  clear hb
  go_wp2_with fail
  first | refine (HC.out _).mono ?_ | refine (HC2.out _).mono ?_
  rintro e w4 ⟨rfl, rfl⟩
  go_wp2_with fail
  refine (HP.out _).mono ?_
  rintro e w5 ⟨rfl, hb⟩
  have HB2 := Lib.hid (HB.out.trans (hb.mono HB.out.size))
  clear hb
  go_wp2_with fail
  go_ret2
  exact ⟨rfl, HB2.out⟩
set_option maxRecDepth 100000 in
set_option maxHeartbeats 4000000 in
theorem numbered_dec_no (word : ByteArray) (v : Nat) (hs : word.size ≤ 1000000) (h1 : Lib.hasPrefix word.data.toList (⟨#[35]⟩ : ByteArray).data.toList = true) (h2 : Lib.hasPrefix (bhd word ⟨#[35]⟩).data.toList (⟨#[120]⟩ : ByteArray).data.toList = false) (h3 : (bhd word ⟨#[35]⟩).size ≤ 7) (hv : v ≤ 4294967295)
    (HU : ∀ W, Calls Tryz.prog 65 #[.string (bhd word ⟨#[35]⟩), .int .i64 10, .int .i64 32] W fun e w' => e = .returned (.tuple #[.int .u64 (v : Int), .nilIface]) ∧ Below W.heap.size W w') (hc : uChar (v : Int) = false) (w : World) :
    Calls Tryz.prog 44 #[.string word] w fun e w' => e = .returned (.tuple #[.string ⟨#[]⟩, .bool false]) ∧ Below w.heap.size w w' := by
  have hbs : (bhd word ⟨#[35]⟩).size ≤ 1000000 := by
    unfold bhd
    split <;> first | exact hs | (rw [ByteArray.size_extract]; omega)
  have H1 := Lib.hid (fun W => cutp_any word ⟨#[35]⟩ hs W)
  have H2 := Lib.hid (fun W => cutp_any (bhd word ⟨#[35]⟩) ⟨#[120]⟩ hbs W)
  rw [h1] at H1
  rw [h2] at H2
  have HC : Hid (∀ W, Calls Tryz.prog 19 #[.int .i64 (v : Int)] W fun e w' => e = .returned (.bool false) ∧ W = w') := Lib.hid (fun W => by
    have h := char_any (v : Int) W
    rwa [hc] at h)
  have HC2 : Hid (∀ W, Calls Tryz.prog 19 #[.int .i64 (IntKind.i64.wrap (v : Int))] W fun e w' => e = .returned (.bool false) ∧ W = w') := Lib.hid (fun W => by
    rw [show IntKind.i64.wrap (v : Int) = (v : Int) from IntWalk.i64_in _ ⟨by omega, by omega⟩]
    exact HC.out W)
  have HU := Lib.hid (fun W => puint_ok (bhd word ⟨#[35]⟩) 10 v HU W)
  obtain ⟨D1, hD1⟩ : ∃ D, bhd word ⟨#[35]⟩ = D := ⟨_, rfl⟩
  simp only [hD1] at H1 H2 HU h3
  obtain ⟨D2, hD2⟩ : ∃ D, bhd D1 ⟨#[120]⟩ = D := ⟨_, rfl⟩
  simp only [hD2] at H2
  have hsz : ¬ (7 : Int) < (D1.size : Int) := by omega
  have hv2 : (v : Int) ≤ 4294967295 := by omega
  obtain ⟨V, hV⟩ : ∃ V : Int, (v : Int) = V := ⟨_, rfl⟩
  have hV0 : 0 ≤ V := by omega
  rw [hV] at hv2
  simp only [hV] at HC HC2 HU
  clear hs h1 h2 h3 hv hc hbs hD1 hD2 hV
  go_enter Tryz.func44, Tryz.ntmps44
  go_wp2_with fail
  refine (H1.out _).mono ?_
  rintro e w1 ⟨rfl, rfl⟩
  go_wp2_with fail
  refine (H2.out _).mono ?_
  rintro e w2 ⟨rfl, rfl⟩
  go_wp2_with fail
  refine (HU.out _).mono ?_
  rintro e w3 ⟨rfl, hb⟩
  have HB := Lib.hid hb
  clear hb
  go_wp2_with fail
  first | refine (HC.out _).mono ?_ | refine (HC2.out _).mono ?_
  rintro e w4 ⟨rfl, rfl⟩
  go_wp2_with fail
  go_ret2
  exact ⟨rfl, HB.out⟩
set_option maxRecDepth 100000 in
set_option maxHeartbeats 4000000 in
theorem numbered_hex (word : ByteArray) (v : Nat) (hs : word.size ≤ 1000000) (h1 : Lib.hasPrefix word.data.toList (⟨#[35]⟩ : ByteArray).data.toList = true) (h2 : Lib.hasPrefix (bhd word ⟨#[35]⟩).data.toList (⟨#[120]⟩ : ByteArray).data.toList = true) (h3 : (bhd (bhd word ⟨#[35]⟩) ⟨#[120]⟩).size ≤ 6) (hv : v ≤ 4294967295)
    (HU : ∀ W, Calls Tryz.prog 65 #[.string (bhd (bhd word ⟨#[35]⟩) ⟨#[120]⟩), .int .i64 16, .int .i64 32] W fun e w' => e = .returned (.tuple #[.int .u64 (v : Int), .nilIface]) ∧ Below W.heap.size W w') (hc : uChar (v : Int) = true) (T : ByteArray) (HP : ∀ W, Calls Tryz.prog 54 #[.int .i64 (v : Int)] W fun e w' => e = .returned (.tuple #[.string T, .bool true]) ∧ Below W.heap.size W w') (w : World) :
    Calls Tryz.prog 44 #[.string word] w fun e w' => e = .returned (.tuple #[.string T, .bool true]) ∧ Below w.heap.size w w' := by
  have hbs : (bhd word ⟨#[35]⟩).size ≤ 1000000 := by
    unfold bhd
    split <;> first | exact hs | (rw [ByteArray.size_extract]; omega)
  have H1 := Lib.hid (fun W => cutp_any word ⟨#[35]⟩ hs W)
  have H2 := Lib.hid (fun W => cutp_any (bhd word ⟨#[35]⟩) ⟨#[120]⟩ hbs W)
  rw [h1] at H1
  rw [h2] at H2
  have HC : Hid (∀ W, Calls Tryz.prog 19 #[.int .i64 (v : Int)] W fun e w' => e = .returned (.bool true) ∧ W = w') := Lib.hid (fun W => by
    have h := char_any (v : Int) W
    rwa [hc] at h)
  have HC2 : Hid (∀ W, Calls Tryz.prog 19 #[.int .i64 (IntKind.i64.wrap (v : Int))] W fun e w' => e = .returned (.bool true) ∧ W = w') := Lib.hid (fun W => by
    rw [show IntKind.i64.wrap (v : Int) = (v : Int) from IntWalk.i64_in _ ⟨by omega, by omega⟩]
    exact HC.out W)
  have HU := Lib.hid (fun W => puint_ok (bhd (bhd word ⟨#[35]⟩) ⟨#[120]⟩) 16 v HU W)
  have HP := Lib.hid HP
  obtain ⟨D1, hD1⟩ : ∃ D, bhd word ⟨#[35]⟩ = D := ⟨_, rfl⟩
  simp only [hD1] at H1 H2 HU h3
  obtain ⟨D2, hD2⟩ : ∃ D, bhd D1 ⟨#[120]⟩ = D := ⟨_, rfl⟩
  simp only [hD2] at H2 HU h3
  have hsz : ¬ (6 : Int) < (D2.size : Int) := by omega
  have hv2 : (v : Int) ≤ 4294967295 := by omega
  obtain ⟨V, hV⟩ : ∃ V : Int, (v : Int) = V := ⟨_, rfl⟩
  have hV0 : 0 ≤ V := by omega
  rw [hV] at hv2
  simp only [hV] at HC HC2 HU HP
  clear hs h1 h2 h3 hv hc hbs hD1 hD2 hV
  go_enter Tryz.func44, Tryz.ntmps44
  go_wp2_with fail
  refine (H1.out _).mono ?_
  rintro e w1 ⟨rfl, rfl⟩
  go_wp2_with fail
  refine (H2.out _).mono ?_
  rintro e w2 ⟨rfl, rfl⟩
  go_wp2_with fail
  refine (HU.out _).mono ?_
  rintro e w3 ⟨rfl, hb⟩
  have HB := Lib.hid hb
  clear hb
  go_wp2_with fail
  first | refine (HC.out _).mono ?_ | refine (HC2.out _).mono ?_
  rintro e w4 ⟨rfl, rfl⟩
  go_wp2_with fail
  refine (HP.out _).mono ?_
  rintro e w5 ⟨rfl, hb⟩
  have HB2 := Lib.hid (HB.out.trans (hb.mono HB.out.size))
  clear hb
  go_wp2_with fail
  go_ret2
  exact ⟨rfl, HB2.out⟩
set_option maxRecDepth 100000 in
set_option maxHeartbeats 4000000 in
theorem numbered_hex_no (word : ByteArray) (v : Nat) (hs : word.size ≤ 1000000) (h1 : Lib.hasPrefix word.data.toList (⟨#[35]⟩ : ByteArray).data.toList = true) (h2 : Lib.hasPrefix (bhd word ⟨#[35]⟩).data.toList (⟨#[120]⟩ : ByteArray).data.toList = true) (h3 : (bhd (bhd word ⟨#[35]⟩) ⟨#[120]⟩).size ≤ 6) (hv : v ≤ 4294967295)
    (HU : ∀ W, Calls Tryz.prog 65 #[.string (bhd (bhd word ⟨#[35]⟩) ⟨#[120]⟩), .int .i64 16, .int .i64 32] W fun e w' => e = .returned (.tuple #[.int .u64 (v : Int), .nilIface]) ∧ Below W.heap.size W w') (hc : uChar (v : Int) = false) (w : World) :
    Calls Tryz.prog 44 #[.string word] w fun e w' => e = .returned (.tuple #[.string ⟨#[]⟩, .bool false]) ∧ Below w.heap.size w w' := by
  have hbs : (bhd word ⟨#[35]⟩).size ≤ 1000000 := by
    unfold bhd
    split <;> first | exact hs | (rw [ByteArray.size_extract]; omega)
  have H1 := Lib.hid (fun W => cutp_any word ⟨#[35]⟩ hs W)
  have H2 := Lib.hid (fun W => cutp_any (bhd word ⟨#[35]⟩) ⟨#[120]⟩ hbs W)
  rw [h1] at H1
  rw [h2] at H2
  have HC : Hid (∀ W, Calls Tryz.prog 19 #[.int .i64 (v : Int)] W fun e w' => e = .returned (.bool false) ∧ W = w') := Lib.hid (fun W => by
    have h := char_any (v : Int) W
    rwa [hc] at h)
  have HC2 : Hid (∀ W, Calls Tryz.prog 19 #[.int .i64 (IntKind.i64.wrap (v : Int))] W fun e w' => e = .returned (.bool false) ∧ W = w') := Lib.hid (fun W => by
    rw [show IntKind.i64.wrap (v : Int) = (v : Int) from IntWalk.i64_in _ ⟨by omega, by omega⟩]
    exact HC.out W)
  have HU := Lib.hid (fun W => puint_ok (bhd (bhd word ⟨#[35]⟩) ⟨#[120]⟩) 16 v HU W)
  obtain ⟨D1, hD1⟩ : ∃ D, bhd word ⟨#[35]⟩ = D := ⟨_, rfl⟩
  simp only [hD1] at H1 H2 HU h3
  obtain ⟨D2, hD2⟩ : ∃ D, bhd D1 ⟨#[120]⟩ = D := ⟨_, rfl⟩
  simp only [hD2] at H2 HU h3
  have hsz : ¬ (6 : Int) < (D2.size : Int) := by omega
  have hv2 : (v : Int) ≤ 4294967295 := by omega
  obtain ⟨V, hV⟩ : ∃ V : Int, (v : Int) = V := ⟨_, rfl⟩
  have hV0 : 0 ≤ V := by omega
  rw [hV] at hv2
  simp only [hV] at HC HC2 HU
  clear hs h1 h2 h3 hv hc hbs hD1 hD2 hV
  go_enter Tryz.func44, Tryz.ntmps44
  go_wp2_with fail
  refine (H1.out _).mono ?_
  rintro e w1 ⟨rfl, rfl⟩
  go_wp2_with fail
  refine (H2.out _).mono ?_
  rintro e w2 ⟨rfl, rfl⟩
  go_wp2_with fail
  refine (HU.out _).mono ?_
  rintro e w3 ⟨rfl, hb⟩
  have HB := Lib.hid hb
  clear hb
  go_wp2_with fail
  first | refine (HC.out _).mono ?_ | refine (HC2.out _).mono ?_
  rintro e w4 ⟨rfl, rfl⟩
  go_wp2_with fail
  go_ret2
  exact ⟨rfl, HB.out⟩
end Go.Proofs.YtkebjllehegjlaaGreatDoor
