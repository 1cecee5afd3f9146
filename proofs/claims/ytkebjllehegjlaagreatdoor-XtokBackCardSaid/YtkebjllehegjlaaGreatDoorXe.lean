/-
  Law 7: the cutter goes past blanks.
-/
import Derived.Test.YtkebjllehegjlaaGreatDoorXd
import Derived.Test.YtkebjllehegjlaaGreatDoorUtClass
namespace Go.Proofs.YtkebjllehegjlaaGreatDoor
open Go.RowKit Go.Shelf
set_option linter.unusedVariables false
/-- Where the cutter stands, as memory tells it. -/
def atOf (b : Nat) (W : World) : Nat := match W.cell? ⟨b, 1, none⟩ with | some (.int _ j) => j.toNat | _ => 0
theorem Cu.atOf {w W : World} {b k : Nat} {s : ByteArray} {tk : Value} {x : Int} (h : Cu w b s k tk x W) : atOf b W = k := by
  unfold Go.Proofs.YtkebjllehegjlaaGreatDoor.atOf
  rw [h.c1]
  exact Int.toNat_natCast k
set_option maxRecDepth 100000 in
set_option maxHeartbeats 4000000 in
theorem blanks_any {w W : World} {b k : Nat} {s : ByteArray} {tk : Value} {x : Int} (h : Cu w b s k tk x W) (hk : k ≤ s.size) (hs : s.size ≤ 1000000) :
    Calls Tryz.prog 40 #[.pointer (some ⟨b, 0, none⟩)] W fun e w' => ∃ j : Nat, e = .returned (.bool (decide (k < j))) ∧ Cu w b s j tk x w' ∧ k ≤ j ∧ j ≤ s.size ∧
      (∀ (i : Nat) (y : UInt8), k ≤ i → i < j → s.data.toList[i]? = some y → uSpace (y.toNat : Int) = true) ∧ (∀ y : UInt8, s.data.toList[j]? = some y → uSpace (y.toNat : Int) = false) := by
  obtain ⟨n, hn⟩ : ∃ n, s.size = n := ⟨_, rfl⟩
  have Hsn := Lib.hid hn
  have hsn : (s.size : Int) = (n : Int) := by rw [hn]
  have hkn : k ≤ n := by omega
  have hn6 : n ≤ 1000000 := by omega
  have HC := Lib.hid h
  have c1 := h.c1
  clear h hk hs hn
  go_enter Tryz.func40, Tryz.ntmps40
  go_wp2_with fail
  go_loopw [] (fun wr => ∃ j : Nat, k ≤ j ∧ j ≤ n ∧ Hid (Cu w b s j tk x wr) ∧ Hid (∀ (i : Nat) (y : UInt8), k ≤ i → i < j → s.data.toList[i]? = some y → uSpace (y.toNat : Int) = true)) (fun wr => n - atOf b wr)
  case atStart => exact ⟨k, by omega, hkn, HC, Lib.hid (fun i y h1 h2 => by omega)⟩
  case round =>
    clear HC c1
    obtain ⟨j, hkj, hjn, HJ, HS⟩ := hrel
    have HJD := Lib.hid (HJ.out.below (Below.refl _ _).drew)
    have c0 := HJ.out.c0; have c1 := HJ.out.c1
    by_cases hend : j = n
    · have hnl : ¬ (j : Int) < (n : Int) := by omega
      have HE : Hid (∀ y : UInt8, s.data.toList[j]? = some y → uSpace (y.toNat : Int) = false) := Lib.hid (fun y hy => by
        have h1 := (List.getElem?_eq_some_iff.1 hy).1
        have h2 : s.data.toList.length = s.size := by simp
        have := Hsn.out
        omega)
      have hle : j ≤ s.size := by have := Hsn.out; omega
      go_wp2_with fail
      refine wp_region_held_drew (S := (fun W => W.cell? ⟨b, 0, none⟩ = some (.string s) ∧ W.cell? ⟨b, 1, none⟩ = some (.int .i64 (j : Int)))) (by kernel_rfl) ?_ (fun hHeld => ?_)
      · exact ⟨HJD.out.c0, HJD.out.c1⟩
      refine wpAnyH_take (i := 0) (oi := { dst := some 8, op := Op.move (Operand.tmp 0), type := 60, pos := "cut.go:48", after := #[], guard := none }) (v := ?_) rfl (by kernel_rfl) (by kernel_rfl) (by kernel_rfl) (fun _ _ _ h => h) (Or.inl ⟨by rfl, ?_⟩) (by assumption) ?_
      rotate_left
      · intro w hSw; (try dsimp only at hSw); go_simp; (try with_reducible rfl)
      try simp only [Act.put, List.setIfInBounds_toArray, List.set_cons_zero, List.set_cons_succ]
      refine wpAnyH_take (i := 1) (oi := { dst := some 9, op := Op.nilCheck (Operand.tmp 8), type := 0, pos := "cut.go:48", after := #[{ on := 0, ground := Ground.data }], guard := none }) (v := ?_) rfl (by kernel_rfl) (by kernel_rfl) (by kernel_rfl) (fun _ _ _ h => h) (Or.inl ⟨by rfl, ?_⟩) (by assumption) ?_
      rotate_left
      · intro w hSw; (try dsimp only at hSw); go_simp; (try with_reducible rfl)
      try simp only [Act.put, List.setIfInBounds_toArray, List.set_cons_zero, List.set_cons_succ]
      refine wpAnyH_take (i := 2) (oi := { dst := some 10, op := Op.fieldAddr 45 (Operand.tmp 9) 1, type := 0, pos := "cut.go:48", after := #[{ on := 1, ground := Ground.data }], guard := none }) (v := ?_) rfl (by kernel_rfl) (by kernel_rfl) (by kernel_rfl) (fun _ _ _ h => h) (Or.inl ⟨by rfl, ?_⟩) (by assumption) ?_
      rotate_left
      · intro w hSw; (try dsimp only at hSw); go_simp; (try with_reducible rfl)
      try simp only [Act.put, List.setIfInBounds_toArray, List.set_cons_zero, List.set_cons_succ]
      refine wpAnyH_take (i := 3) (oi := { dst := some 11, op := Op.load 3 (Operand.tmp 10), type := 3, pos := "cut.go:48", after := #[{ on := 2, ground := Ground.data }], guard := none }) (v := ?_) rfl (by kernel_rfl) (by kernel_rfl) (by kernel_rfl) (fun _ _ _ h => h) (Or.inl ⟨by rfl, ?_⟩) (by assumption) ?_
      rotate_left
      · intro w hSw; (try dsimp only at hSw); go_simp; (try with_reducible rfl)
      try simp only [Act.put, List.setIfInBounds_toArray, List.set_cons_zero, List.set_cons_succ]
      refine wpAnyH_take (i := 4) (oi := { dst := some 12, op := Op.move (Operand.tmp 0), type := 60, pos := "cut.go:48", after := #[], guard := none }) (v := ?_) rfl (by kernel_rfl) (by kernel_rfl) (by kernel_rfl) (fun _ _ _ h => h) (Or.inl ⟨by rfl, ?_⟩) (by assumption) ?_
      rotate_left
      · intro w hSw; (try dsimp only at hSw); go_simp; (try with_reducible rfl)
      try simp only [Act.put, List.setIfInBounds_toArray, List.set_cons_zero, List.set_cons_succ]
      refine wpAnyH_take (i := 5) (oi := { dst := some 13, op := Op.nilCheck (Operand.tmp 12), type := 0, pos := "cut.go:48", after := #[{ on := 4, ground := Ground.data }], guard := none }) (v := ?_) rfl (by kernel_rfl) (by kernel_rfl) (by kernel_rfl) (fun _ _ _ h => h) (Or.inl ⟨by rfl, ?_⟩) (by assumption) ?_
      rotate_left
      · intro w hSw; (try dsimp only at hSw); go_simp; (try with_reducible rfl)
      try simp only [Act.put, List.setIfInBounds_toArray, List.set_cons_zero, List.set_cons_succ]
      refine wpAnyH_take (i := 6) (oi := { dst := some 14, op := Op.fieldAddr 45 (Operand.tmp 13) 0, type := 0, pos := "cut.go:48", after := #[{ on := 5, ground := Ground.data }], guard := none }) (v := ?_) rfl (by kernel_rfl) (by kernel_rfl) (by kernel_rfl) (fun _ _ _ h => h) (Or.inl ⟨by rfl, ?_⟩) (by assumption) ?_
      rotate_left
      · intro w hSw; (try dsimp only at hSw); go_simp; (try with_reducible rfl)
      try simp only [Act.put, List.setIfInBounds_toArray, List.set_cons_zero, List.set_cons_succ]
      refine wpAnyH_take (i := 7) (oi := { dst := some 15, op := Op.load 9 (Operand.tmp 14), type := 9, pos := "cut.go:48", after := #[{ on := 6, ground := Ground.data }], guard := none }) (v := ?_) rfl (by kernel_rfl) (by kernel_rfl) (by kernel_rfl) (fun _ _ _ h => h) (Or.inl ⟨by rfl, ?_⟩) (by assumption) ?_
      rotate_left
      · intro w hSw; (try dsimp only at hSw); go_simp; (try with_reducible rfl)
      try simp only [Act.put, List.setIfInBounds_toArray, List.set_cons_zero, List.set_cons_succ]
      refine wpAnyH_take (i := 8) (oi := { dst := some 16, op := Op.call { callee := Callee.builtin Builtin.len, args := #[Operand.tmp 15], argTypes := #[9] }, type := 3, pos := "cut.go:48", after := #[{ on := 7, ground := Ground.data }], guard := none }) (v := ?_) rfl (by kernel_rfl) (by kernel_rfl) (by kernel_rfl) (fun _ _ _ h => h) (Or.inl ⟨by rfl, ?_⟩) (by assumption) ?_
      rotate_left
      · intro w hSw; (try dsimp only at hSw); go_simp; (try with_reducible rfl)
      try simp only [Act.put, List.setIfInBounds_toArray, List.set_cons_zero, List.set_cons_succ]
      refine wpAnyH_take (i := 9) (oi := { dst := some 17, op := Op.binOp BinOp.lss 3 (Operand.tmp 11) (Operand.tmp 16) 3, type := 4, pos := "cut.go:48", after := #[{ on := 3, ground := Ground.data }, { on := 8, ground := Ground.data }], guard := none }) (v := ?_) rfl (by kernel_rfl) (by kernel_rfl) (by kernel_rfl) (fun _ _ _ h => h) (Or.inl ⟨by rfl, ?_⟩) (by assumption) ?_
      rotate_left
      · intro w hSw; (try dsimp only at hSw); go_simp; (try with_reducible rfl)
      try simp only [Act.put, List.setIfInBounds_toArray, List.set_cons_zero, List.set_cons_succ]
      refine wpAnyH_take (i := 10) (oi := { dst := some 18, op := Op.move (Operand.tmp 17), type := 4, pos := "cut.go:48", after := #[{ on := 9, ground := Ground.data }], guard := none }) (v := ?_) rfl (by kernel_rfl) (by kernel_rfl) (by kernel_rfl) (fun _ _ _ h => h) (Or.inl ⟨by rfl, ?_⟩) (by assumption) ?_
      rotate_left
      · intro w hSw; (try dsimp only at hSw); go_simp; (try with_reducible rfl)
      try simp only [Act.put, List.setIfInBounds_toArray, List.set_cons_zero, List.set_cons_succ]
      refine wpAnyH_take (i := 11) (oi := { dst := some 19, op := Op.move (Operand.tmp 0), type := 60, pos := "cut.go:48", after := #[{ on := 10, ground := Ground.guard }], guard := some (10, true) }) (v := undef) rfl (by kernel_rfl) (by kernel_rfl) (by kernel_rfl) (fun _ _ _ h => h) (Or.inr ⟨by rfl, rfl⟩) (by assumption) ?_
      try simp only [Act.put, List.setIfInBounds_toArray, List.set_cons_zero, List.set_cons_succ]
      refine wpAnyH_take (i := 12) (oi := { dst := some 20, op := Op.nilCheck (Operand.tmp 19), type := 0, pos := "cut.go:48", after := #[{ on := 11, ground := Ground.data }, { on := 10, ground := Ground.guard }], guard := some (10, true) }) (v := undef) rfl (by kernel_rfl) (by kernel_rfl) (by kernel_rfl) (fun _ _ _ h => h) (Or.inr ⟨by rfl, rfl⟩) (by assumption) ?_
      try simp only [Act.put, List.setIfInBounds_toArray, List.set_cons_zero, List.set_cons_succ]
      refine wpAnyH_take (i := 13) (oi := { dst := some 21, op := Op.fieldAddr 45 (Operand.tmp 20) 0, type := 0, pos := "cut.go:48", after := #[{ on := 12, ground := Ground.data }, { on := 10, ground := Ground.guard }], guard := some (10, true) }) (v := undef) rfl (by kernel_rfl) (by kernel_rfl) (by kernel_rfl) (fun _ _ _ h => h) (Or.inr ⟨by rfl, rfl⟩) (by assumption) ?_
      try simp only [Act.put, List.setIfInBounds_toArray, List.set_cons_zero, List.set_cons_succ]
      refine wpAnyH_take (i := 14) (oi := { dst := some 22, op := Op.load 9 (Operand.tmp 21), type := 9, pos := "cut.go:48", after := #[{ on := 13, ground := Ground.data }, { on := 10, ground := Ground.guard }], guard := some (10, true) }) (v := undef) rfl (by kernel_rfl) (by kernel_rfl) (by kernel_rfl) (fun _ _ _ h => h) (Or.inr ⟨by rfl, rfl⟩) (by assumption) ?_
      try simp only [Act.put, List.setIfInBounds_toArray, List.set_cons_zero, List.set_cons_succ]
      refine wpAnyH_take (i := 15) (oi := { dst := some 23, op := Op.move (Operand.tmp 0), type := 60, pos := "cut.go:48", after := #[{ on := 10, ground := Ground.guard }], guard := some (10, true) }) (v := undef) rfl (by kernel_rfl) (by kernel_rfl) (by kernel_rfl) (fun _ _ _ h => h) (Or.inr ⟨by rfl, rfl⟩) (by assumption) ?_
      try simp only [Act.put, List.setIfInBounds_toArray, List.set_cons_zero, List.set_cons_succ]
      refine wpAnyH_take (i := 16) (oi := { dst := some 24, op := Op.nilCheck (Operand.tmp 23), type := 0, pos := "cut.go:48", after := #[{ on := 15, ground := Ground.data }, { on := 10, ground := Ground.guard }], guard := some (10, true) }) (v := undef) rfl (by kernel_rfl) (by kernel_rfl) (by kernel_rfl) (fun _ _ _ h => h) (Or.inr ⟨by rfl, rfl⟩) (by assumption) ?_
      try simp only [Act.put, List.setIfInBounds_toArray, List.set_cons_zero, List.set_cons_succ]
      refine wpAnyH_take (i := 17) (oi := { dst := some 25, op := Op.fieldAddr 45 (Operand.tmp 24) 1, type := 0, pos := "cut.go:48", after := #[{ on := 16, ground := Ground.data }, { on := 10, ground := Ground.guard }], guard := some (10, true) }) (v := undef) rfl (by kernel_rfl) (by kernel_rfl) (by kernel_rfl) (fun _ _ _ h => h) (Or.inr ⟨by rfl, rfl⟩) (by assumption) ?_
      try simp only [Act.put, List.setIfInBounds_toArray, List.set_cons_zero, List.set_cons_succ]
      refine wpAnyH_take (i := 18) (oi := { dst := some 26, op := Op.load 3 (Operand.tmp 25), type := 3, pos := "cut.go:48", after := #[{ on := 17, ground := Ground.data }, { on := 10, ground := Ground.guard }], guard := some (10, true) }) (v := undef) rfl (by kernel_rfl) (by kernel_rfl) (by kernel_rfl) (fun _ _ _ h => h) (Or.inr ⟨by rfl, rfl⟩) (by assumption) ?_
      try simp only [Act.put, List.setIfInBounds_toArray, List.set_cons_zero, List.set_cons_succ]
      refine wpAnyH_take (i := 19) (oi := { dst := some 27, op := Op.index 9 (Operand.tmp 22) (Operand.tmp 26), type := 5, pos := "cut.go:48", after := #[{ on := 14, ground := Ground.data }, { on := 18, ground := Ground.data }, { on := 10, ground := Ground.guard }], guard := some (10, true) }) (v := undef) rfl (by kernel_rfl) (by kernel_rfl) (by kernel_rfl) (fun _ _ _ h => h) (Or.inr ⟨by rfl, rfl⟩) (by assumption) ?_
      try simp only [Act.put, List.setIfInBounds_toArray, List.set_cons_zero, List.set_cons_succ]
      refine wpAnyH_take (i := 20) (oi := { dst := some 28, op := Op.convert 5 3 (Operand.tmp 27), type := 3, pos := "cut.go:48", after := #[{ on := 19, ground := Ground.data }, { on := 10, ground := Ground.guard }], guard := some (10, true) }) (v := undef) rfl (by kernel_rfl) (by kernel_rfl) (by kernel_rfl) (fun _ _ _ h => h) (Or.inr ⟨by rfl, rfl⟩) (by assumption) ?_
      try simp only [Act.put, List.setIfInBounds_toArray, List.set_cons_zero, List.set_cons_succ]
      refine wpAnyH_take (i := 21) (oi := { dst := some 29, op := Op.call { callee := Callee.value (Operand.func 50), args := #[Operand.tmp 28], argTypes := #[3] }, type := 4, pos := "cut.go:48", after := #[{ on := 20, ground := Ground.data }, { on := 10, ground := Ground.chain }, { on := 10, ground := Ground.guard }], guard := some (10, true) }) (v := undef) rfl (by kernel_rfl) (by kernel_rfl) (by kernel_rfl) (fun _ _ _ h => h) (Or.inr ⟨by rfl, rfl⟩) (by assumption) ?_
      try simp only [Act.put, List.setIfInBounds_toArray, List.set_cons_zero, List.set_cons_succ]
      refine wpAnyH_take (i := 22) (oi := { dst := some 30, op := Op.pick (Operand.tmp 18) (Operand.tmp 29) (Operand.const (Value.bool false)), type := 4, pos := "cut.go:48", after := #[{ on := 10, ground := Ground.data }, { on := 21, ground := Ground.data }], guard := none }) (v := ?_) rfl (by kernel_rfl) (by kernel_rfl) (by kernel_rfl) (fun _ _ _ h => h) (Or.inl ⟨by rfl, ?_⟩) (by assumption) ?_
      rotate_left
      · intro w hSw; (try dsimp only at hSw); go_simp; (try with_reducible rfl)
      try simp only [Act.put, List.setIfInBounds_toArray, List.set_cons_zero, List.set_cons_succ]
      refine wpAnyH_done (by kernel_rfl) ?_ _
      have c1 := HJD.out.c1
      go_wp2_with fail
      go_ret
      exact ⟨j, (by first | rfl | (rw [hend]; rfl)), HJD.out, hkj, hle, HS.out, HE.out⟩
    · have hks : j < s.size := by rw [Hsn.out]; omega
      have hat := toList_atx s j hks
      obtain ⟨y, hy⟩ : ∃ y, s[j] = y := ⟨_, rfl⟩
      rw [hy] at hat
      obtain ⟨C, hC⟩ : ∃ C : Int, (y.toNat : Int) = C := ⟨_, rfl⟩
      have hC0 : 0 ≤ C := by omega
      have hC2 : C < 256 := by have := y.toNat_lt; omega
      have hji : (j : Int) < (n : Int) := by omega
      obtain ⟨sp, hsp⟩ : ∃ sp, uSpace C = sp := ⟨_, rfl⟩
      have HSp : Hid (∀ W, Calls Tryz.prog 50 #[.int .i64 (IntKind.i64.wrap C)] W fun e w' => e = .returned (.bool sp) ∧ W = w') := Lib.hid (fun W => by
        have h := space_any C W
        rw [hsp] at h
        rwa [show IntKind.i64.wrap C = C from IntWalk.i64_in _ ⟨by omega, by omega⟩])
      go_wp2_with fail
      go_region_held3 (fun w' => w'.cell? ⟨b, 0, none⟩ = some (.string s) ∧ w'.cell? ⟨b, 1, none⟩ = some (.int .i64 (j : Int)))
        (first | exact ⟨c0, c1⟩ | exact ⟨HJD.out.c0, HJD.out.c1⟩ | go_keep)
        (first
          | (go_at_call 50; refine (HSp.out _).mono ?_; rintro e w1 ⟨rfl, rfl⟩))
      cases sp with
      | false =>
        have HE : Hid (∀ z : UInt8, s.data.toList[j]? = some z → uSpace (z.toNat : Int) = false) := Lib.hid (fun z hz => by
          rw [hat] at hz
          injection hz with hz
          subst hz
          rw [hC]
          exact hsp)
        have hle : j ≤ s.size := by omega
        have c1 := HJD.out.c1
        go_wp2_with fail
        go_ret
        exact ⟨j, (by first | rfl | (rw [hend]; rfl)), HJD.out, hkj, hle, HS.out, HE.out⟩
      | true =>
        have HS2 : Hid (∀ (i : Nat) (z : UInt8), k ≤ i → i < j + 1 → s.data.toList[i]? = some z → uSpace (z.toNat : Int) = true) := Lib.hid (fun i z h1 h2 h3 => by
          by_cases h : i = j
          · subst h
            rw [hat] at h3
            injection h3 with h3
            subst h3
            rw [hC]
            exact hsp
          · exact HS.out i z h1 (by omega) h3)
        have hj6 : j ≤ 1000000 := by omega
        have c1 := HJD.out.c1; have f1 := HJD.out.f 1
        have HH := Lib.hid ((HJ.out.at_ (j + 1)).below (Below.refl _ _).drew)
        rw [show ((j + 1 : Nat) : Int) = (j : Int) + 1 by omega] at HH
        have hm1 := HJ.out.atOf
        have hm2 := HH.out.atOf
        clear HJ HS HJD
        go_wp2_with fail
        go_roundw
        case rel => exact ⟨j + 1, by omega, by omega, HH, HS2⟩
        case measure => rw [hm1, hm2]; omega
end Go.Proofs.YtkebjllehegjlaaGreatDoor
