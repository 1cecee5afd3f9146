/-
  Law 1: powers of 2.
-/
import Derived.Test.YtllmacokhjmdgaaGreatDoorNDvM
import Derived.Test.YtllmacokhjmdgaaGreatDoorNNines
import Derived.StillTailTactics
import Derived.Lib.RabinKarpLaws
namespace Go.Proofs.YtllmacokhjmdgaaGreatDoor
open Go.RowKit
set_option linter.unusedVariables false
theorem two_big {q k : Nat} (h : q ≤ 800) (hk : 13 ≤ k) : 2 ^ q < 18446744073709551616 ^ k := by
  have e1 : (18446744073709551616 : Nat) = 2 ^ 64 := by decide
  rw [e1, ← Nat.pow_mul]
  exact Nat.pow_lt_pow_right (by decide) (by omega)
/-- What lies in memory while a power is worked out. -/
structure PB (w wr : World) (p : Nat) (a o : Value) : Prop where
  b1 : Blk wr w.heap.size 26 #[a]
  b2 : Blk wr (w.heap.size + 1) 26 #[.slice none 0 0]
  b3 : Blk wr p 26 #[o]
  bel : Below w.heap.size w wr
theorem PB.below {w wr w' : World} {p B : Nat} {a o : Value} (h : PB w wr p a o) (hb : Below B wr w') (hp : w.heap.size + 2 ≤ p) (hB : p < B) : PB w w' p a o :=
  ⟨h.b1.below hb (by omega), h.b2.below hb (by omega), h.b3.below hb (by omega), h.bel.trans (hb.mono (by omega))⟩
theorem PB.set {w wr : World} {p : Nat} {a o : Value} (h : PB w wr p a o) (hp : w.heap.size + 2 ≤ p) (o' : Value) : PB w (wr.setCell ⟨p, 0, none⟩ o') p a o' :=
  ⟨h.b1.far (p := ⟨p, 0, none⟩) (by show w.heap.size ≠ p; omega) _, h.b2.far (p := ⟨p, 0, none⟩) (by show w.heap.size + 1 ≠ p; omega) _, h.b3.set_ 0 _, h.bel.setCell (p := ⟨p, 0, none⟩) (by show w.heap.size ≤ p; omega) _⟩
theorem half_pow (e k : Nat) : 2 ^ (e / 2 ^ (k + 1)) * 2 ^ (e / 2 ^ (k + 1)) * 2 ^ (e / 2 ^ k % 2) = 2 ^ (e / 2 ^ k) := by
  rw [← Nat.pow_add, ← Nat.pow_add, Nat.pow_succ, ← Nat.div_div_eq_div_mul]
  congr 1
  omega
theorem bit_of {E : Int} {e k : Nat} (hE : E = (e : Int)) (he : e ≤ 5000) : bits .and .i64 (E / 2 ^ k) 1 = ((e / 2 ^ k % 2 : Nat) : Int) := by
  have h1 : E / 2 ^ k = ((e / 2 ^ k : Nat) : Int) := by rw [hE]; simp
  have h2 : e / 2 ^ k ≤ e := Nat.div_le_self _ _
  rw [h1]
  exact and_one _ (by omega)
/-- What a call of Pow gives. -/
def PowIs (N : Nat) (w : World) (e : Ending) (w' : World) : Prop := ∃ x y z, e = .returned (.tuple #[.agg #[.slice x y z], .int .i64 0]) ∧ IsN w' (.agg #[.slice x y z]) N ∧ Below w.heap.size w w'
set_option maxRecDepth 100000 in
set_option maxHeartbeats 4000000 in
theorem pow_two (e : Nat) (v : Value) (w : World) (E : Int) (h : IsN w v 2) (he : e ≤ 500) (hE : E = (e : Int)) :
    Calls Tryz.prog 92 #[v, .int .i64 E] w (PowIs (2 ^ e) w) := by
  obtain ⟨a, n, c, rfl⟩ := isN_form h
  obtain ⟨W2, hW2⟩ : ∃ W2, ((w.alloc (.cells #[.slice a n c] 26)).alloc (.cells #[.slice none 0 0] 26)) = W2 := ⟨_, rfl⟩
  have k1 : Blk W2 w.heap.size 26 #[.slice a n c] := by rw [← hW2]; exact (Blk.new w _ _).alloc _
  have k2 : Blk W2 (w.heap.size + 1) 26 #[.slice none 0 0] := by
    have := Blk.new (w.alloc (.cells #[.slice a n c] 26)) 26 #[.slice none 0 0]
    rw [World.size_alloc, hW2] at this
    exact this
  have hb2 : Below w.heap.size w W2 := by rw [← hW2]; exact ((Below.refl _ w).alloc (Nat.le_refl _) _).alloc (by simp) _
  have hs2 : W2.heap.size = w.heap.size + 2 := by rw [← hW2]; simp
  have HK := Lib.hid (And.intro k1 (And.intro k2 hb2))
  have HN := Lib.hid (h.below hb2 (Nat.le_refl _))
  have q1 : W2.cell? ⟨w.heap.size, 0, none⟩ = some (.slice a n c) := k1.cell 0
  have HBits : Hid (∀ wx, Below W2.heap.size W2 wx → Calls Tryz.prog 110 #[.agg #[.slice a n c]] wx fun e w' => e = .returned (.int .i64 2) ∧ Below W2.heap.size W2 w') := Lib.hid (fun wx hb => (bits_any 2 _ wx (HN.out.below hb (by omega))).mono fun e w' h => by
    obtain ⟨L, h1, h2, _, h3⟩ := h
    have : L = 2 := h2.inj ⟨by decide, fun _ => by decide⟩
    subst this
    exact ⟨h1, hb.trans (h3.mono hb.size)⟩)
  have HS : Hid (∀ wx, Below W2.heap.size W2 wx → wx.cell? ⟨w.heap.size, 0, none⟩ = some (.slice a n c)) := Lib.hid (fun wx hb => (hb.cell (p := ⟨w.heap.size, 0, none⟩) k1.lt).trans (k1.cell 0))
  have hE0 : ¬ E < 0 := by omega
  have hE1 : ¬ 5000 < E := by omega
  have hE2 : E ≤ 500 := by omega
  have hE3 : 0 ≤ E := by omega
  obtain ⟨L, hL⟩ : ∃ L, Lib.bitLen E.toNat = L := ⟨_, rfl⟩
  have HLen : Hid (∀ wx, Calls Tryz.prog 117 #[.int .u64 E] wx fun e w' => e = .returned (.int .i64 (L : Int)) ∧ w' = wx) := Lib.hid (fun wx => by
    have := Tryz.bits_Len E wx (by omega) (by omega)
    rw [hL] at this
    exact this)
  have hLe : Hid (e / 2 ^ L = 0) := Lib.hid (by
    have h1 := isLen_bitLen E.toNat E.toNat (Nat.le_refl _) (by omega)
    rw [hL] at h1
    have h2 := h1.lt
    have h3 : E.toNat = e := by omega
    rw [h3] at h2
    exact Nat.div_eq_of_lt h2)
  have hEs : E.toNat < 2 ^ 64 := by
    have : E.toNat ≤ 500 := by omega
    exact Nat.lt_of_le_of_lt this (by decide)
  have hL64 : L ≤ 64 := by rw [← hL]; exact Lib.bitLen_le E.toNat 64 (Nat.le_refl _) hEs
  have hd2 : Below W2.heap.size W2 W2.drew := (Below.refl _ _).drew
  have d1 : decide (5000 < E) = false := by simp; omega
  have d5 : IntKind.i64.wrap 1 = 1 := by decide
  have HE := Lib.hid hE
  clear h k1 k2 hb2 hL hE
  by_cases h0 : E = 0
  · have d2 : decide (0 < E) = false := by simp; omega
    clear h0
    go_enter Tryz.func92, Tryz.ntmps92
    go_wp2_with fail
    refine wp_region_held_drew (S := (fun w' => w'.cell? ⟨w.heap.size, 0, none⟩ = some (.slice a n c))) (by kernel_rfl) ?_ (fun hHeld => ?_)
    · exact q1
    refine wpAnyH_take (i := 0) (oi := { dst := some 11, op := Op.move (Operand.tmp 1), type := 3, pos := "nat.go:237", after := #[], guard := none }) (v := ?_) rfl (by kernel_rfl) (by kernel_rfl) (by kernel_rfl) (fun _ _ _ h => h) (Or.inl ⟨by rfl, ?_⟩) (by assumption) ?_
    rotate_left
    · intro w hSw; (try dsimp only at hSw); go_simp; (try with_reducible rfl)
    try simp only [Act.put, List.setIfInBounds_toArray, List.set_cons_zero, List.set_cons_succ]
    refine wpAnyH_take (i := 1) (oi := { dst := some 12, op := Op.binOp BinOp.gtr 3 (Operand.tmp 11) (Operand.const (Value.int IntKind.i64 5000)) 3, type := 4, pos := "nat.go:237", after := #[{ on := 0, ground := Ground.data }], guard := none }) (v := ?_) rfl (by kernel_rfl) (by kernel_rfl) (by kernel_rfl) (fun _ _ _ h => h) (Or.inl ⟨by rfl, ?_⟩) (by assumption) ?_
    rotate_left
    · intro w hSw; (try dsimp only at hSw); go_simp; (try with_reducible rfl)
    try simp only [Act.put, List.setIfInBounds_toArray, List.set_cons_zero, List.set_cons_succ]
    refine wpAnyH_take (i := 2) (oi := { dst := some 13, op := Op.move (Operand.tmp 12), type := 4, pos := "nat.go:237", after := #[{ on := 1, ground := Ground.data }], guard := none }) (v := ?_) rfl (by kernel_rfl) (by kernel_rfl) (by kernel_rfl) (fun _ _ _ h => h) (Or.inl ⟨by rfl, ?_⟩) (by assumption) ?_
    rotate_left
    · intro w hSw; (try dsimp only at hSw); go_simp; (try with_reducible rfl)
    try simp only [Act.put, List.setIfInBounds_toArray, List.set_cons_zero, List.set_cons_succ]
    refine wpAnyH_take (i := 3) (oi := { dst := some 14, op := Op.move (Operand.tmp 1), type := 3, pos := "nat.go:237", after := #[{ on := 2, ground := Ground.guard }], guard := some (2, false) }) (v := ?_) rfl (by kernel_rfl) (by kernel_rfl) (by kernel_rfl) (fun _ _ _ h => h) (Or.inl ⟨by rfl, ?_⟩) (by assumption) ?_
    rotate_left
    · intro w hSw; (try dsimp only at hSw); go_simp; (try with_reducible rfl)
    try simp only [Act.put, List.setIfInBounds_toArray, List.set_cons_zero, List.set_cons_succ]
    refine wpAnyH_take (i := 4) (oi := { dst := some 15, op := Op.binOp BinOp.gtr 3 (Operand.tmp 14) (Operand.const (Value.int IntKind.i64 0)) 3, type := 4, pos := "nat.go:237", after := #[{ on := 3, ground := Ground.data }, { on := 2, ground := Ground.guard }], guard := some (2, false) }) (v := ?_) rfl (by kernel_rfl) (by kernel_rfl) (by kernel_rfl) (fun _ _ _ h => h) (Or.inl ⟨by rfl, ?_⟩) (by assumption) ?_
    rotate_left
    · intro w hSw; (try dsimp only at hSw); go_simp; (try with_reducible rfl)
    try simp only [Act.put, List.setIfInBounds_toArray, List.set_cons_zero, List.set_cons_succ]
    refine wpAnyH_take (i := 5) (oi := { dst := some 16, op := Op.move (Operand.tmp 15), type := 4, pos := "nat.go:237", after := #[{ on := 4, ground := Ground.data }, { on := 2, ground := Ground.chain }, { on := 2, ground := Ground.guard }], guard := some (2, false) }) (v := ?_) rfl (by kernel_rfl) (by kernel_rfl) (by kernel_rfl) (fun _ _ _ h => h) (Or.inl ⟨by rfl, ?_⟩) (by assumption) ?_
    rotate_left
    · intro w hSw; (try dsimp only at hSw); go_simp; (try with_reducible rfl)
    try simp only [Act.put, List.setIfInBounds_toArray, List.set_cons_zero, List.set_cons_succ]
    refine wpAnyH_take (i := 6) (oi := { dst := some 17, op := Op.load 26 (Operand.tmp 2), type := 26, pos := "nat.go:237", after := #[{ on := 5, ground := Ground.guard }], guard := some (5, true) }) (v := undef) rfl (by kernel_rfl) (by kernel_rfl) (by kernel_rfl) (fun _ _ _ h => h) (Or.inr ⟨by rfl, rfl⟩) (by assumption) ?_
    try simp only [Act.put, List.setIfInBounds_toArray, List.set_cons_zero, List.set_cons_succ]
    refine wpAnyH_take (i := 7) (oi := { dst := some 18, op := Op.call { callee := Callee.value (Operand.func 110), args := #[Operand.tmp 17], argTypes := #[26] }, type := 3, pos := "nat.go:237", after := #[{ on := 6, ground := Ground.data }, { on := 5, ground := Ground.chain }, { on := 5, ground := Ground.guard }], guard := some (5, true) }) (v := undef) rfl (by kernel_rfl) (by kernel_rfl) (by kernel_rfl) (fun _ _ _ h => h) (Or.inr ⟨by rfl, rfl⟩) (by assumption) ?_
    try simp only [Act.put, List.setIfInBounds_toArray, List.set_cons_zero, List.set_cons_succ]
    refine wpAnyH_take (i := 8) (oi := { dst := some 19, op := Op.binOp BinOp.gtr 3 (Operand.tmp 18) (Operand.const (Value.int IntKind.i64 1)) 3, type := 4, pos := "nat.go:237", after := #[{ on := 7, ground := Ground.data }, { on := 5, ground := Ground.guard }], guard := some (5, true) }) (v := undef) rfl (by kernel_rfl) (by kernel_rfl) (by kernel_rfl) (fun _ _ _ h => h) (Or.inr ⟨by rfl, rfl⟩) (by assumption) ?_
    try simp only [Act.put, List.setIfInBounds_toArray, List.set_cons_zero, List.set_cons_succ]
    refine wpAnyH_take (i := 9) (oi := { dst := some 20, op := Op.pick (Operand.tmp 16) (Operand.tmp 19) (Operand.const (Value.bool false)), type := 4, pos := "nat.go:237", after := #[{ on := 5, ground := Ground.data }, { on := 8, ground := Ground.data }, { on := 2, ground := Ground.guard }], guard := some (2, false) }) (v := ?_) rfl (by kernel_rfl) (by kernel_rfl) (by kernel_rfl) (fun _ _ _ h => h) (Or.inl ⟨by rfl, ?_⟩) (by assumption) ?_
    rotate_left
    · intro w hSw; (try dsimp only at hSw); go_simp; (try with_reducible rfl)
    try simp only [Act.put, List.setIfInBounds_toArray, List.set_cons_zero, List.set_cons_succ]
    refine wpAnyH_take (i := 10) (oi := { dst := some 21, op := Op.move (Operand.tmp 20), type := 4, pos := "nat.go:237", after := #[{ on := 9, ground := Ground.data }, { on := 7, ground := Ground.chain }, { on := 2, ground := Ground.guard }], guard := some (2, false) }) (v := ?_) rfl (by kernel_rfl) (by kernel_rfl) (by kernel_rfl) (fun _ _ _ h => h) (Or.inl ⟨by rfl, ?_⟩) (by assumption) ?_
    rotate_left
    · intro w hSw; (try dsimp only at hSw); go_simp; (try with_reducible rfl)
    try simp only [Act.put, List.setIfInBounds_toArray, List.set_cons_zero, List.set_cons_succ]
    refine wpAnyH_take (i := 11) (oi := { dst := some 22, op := Op.load 26 (Operand.tmp 2), type := 26, pos := "nat.go:237", after := #[{ on := 10, ground := Ground.guard }], guard := some (10, true) }) (v := undef) rfl (by kernel_rfl) (by kernel_rfl) (by kernel_rfl) (fun _ _ _ h => h) (Or.inr ⟨by rfl, rfl⟩) (by assumption) ?_
    try simp only [Act.put, List.setIfInBounds_toArray, List.set_cons_zero, List.set_cons_succ]
    refine wpAnyH_take (i := 12) (oi := { dst := some 23, op := Op.call { callee := Callee.value (Operand.func 110), args := #[Operand.tmp 22], argTypes := #[26] }, type := 3, pos := "nat.go:237", after := #[{ on := 11, ground := Ground.data }, { on := 10, ground := Ground.chain }, { on := 10, ground := Ground.guard }], guard := some (10, true) }) (v := undef) rfl (by kernel_rfl) (by kernel_rfl) (by kernel_rfl) (fun _ _ _ h => h) (Or.inr ⟨by rfl, rfl⟩) (by assumption) ?_
    try simp only [Act.put, List.setIfInBounds_toArray, List.set_cons_zero, List.set_cons_succ]
    refine wpAnyH_take (i := 13) (oi := { dst := some 24, op := Op.binOp BinOp.sub 3 (Operand.tmp 23) (Operand.const (Value.int IntKind.i64 1)) 3, type := 3, pos := "nat.go:237", after := #[{ on := 12, ground := Ground.data }, { on := 10, ground := Ground.guard }], guard := some (10, true) }) (v := undef) rfl (by kernel_rfl) (by kernel_rfl) (by kernel_rfl) (fun _ _ _ h => h) (Or.inr ⟨by rfl, rfl⟩) (by assumption) ?_
    try simp only [Act.put, List.setIfInBounds_toArray, List.set_cons_zero, List.set_cons_succ]
    refine wpAnyH_take (i := 14) (oi := { dst := some 25, op := Op.move (Operand.tmp 1), type := 3, pos := "nat.go:237", after := #[{ on := 10, ground := Ground.guard }], guard := some (10, true) }) (v := undef) rfl (by kernel_rfl) (by kernel_rfl) (by kernel_rfl) (fun _ _ _ h => h) (Or.inr ⟨by rfl, rfl⟩) (by assumption) ?_
    try simp only [Act.put, List.setIfInBounds_toArray, List.set_cons_zero, List.set_cons_succ]
    refine wpAnyH_take (i := 15) (oi := { dst := some 26, op := Op.binOp BinOp.quo 3 (Operand.const (Value.int IntKind.i64 9999)) (Operand.tmp 25) 3, type := 3, pos := "nat.go:237", after := #[{ on := 14, ground := Ground.data }, { on := 10, ground := Ground.guard }], guard := some (10, true) }) (v := undef) rfl (by kernel_rfl) (by kernel_rfl) (by kernel_rfl) (fun _ _ _ h => h) (Or.inr ⟨by rfl, rfl⟩) (by assumption) ?_
    try simp only [Act.put, List.setIfInBounds_toArray, List.set_cons_zero, List.set_cons_succ]
    refine wpAnyH_take (i := 16) (oi := { dst := some 27, op := Op.binOp BinOp.gtr 3 (Operand.tmp 24) (Operand.tmp 26) 3, type := 4, pos := "nat.go:237", after := #[{ on := 13, ground := Ground.data }, { on := 15, ground := Ground.data }, { on := 10, ground := Ground.guard }], guard := some (10, true) }) (v := undef) rfl (by kernel_rfl) (by kernel_rfl) (by kernel_rfl) (fun _ _ _ h => h) (Or.inr ⟨by rfl, rfl⟩) (by assumption) ?_
    try simp only [Act.put, List.setIfInBounds_toArray, List.set_cons_zero, List.set_cons_succ]
    refine wpAnyH_take (i := 17) (oi := { dst := some 28, op := Op.pick (Operand.tmp 21) (Operand.tmp 27) (Operand.const (Value.bool false)), type := 4, pos := "nat.go:237", after := #[{ on := 10, ground := Ground.data }, { on := 16, ground := Ground.data }, { on := 2, ground := Ground.guard }], guard := some (2, false) }) (v := ?_) rfl (by kernel_rfl) (by kernel_rfl) (by kernel_rfl) (fun _ _ _ h => h) (Or.inl ⟨by rfl, ?_⟩) (by assumption) ?_
    rotate_left
    · intro w hSw; (try dsimp only at hSw); go_simp; (try with_reducible rfl)
    try simp only [Act.put, List.setIfInBounds_toArray, List.set_cons_zero, List.set_cons_succ]
    refine wpAnyH_take (i := 18) (oi := { dst := some 29, op := Op.pick (Operand.tmp 13) (Operand.const (Value.bool true)) (Operand.tmp 28), type := 4, pos := "nat.go:237", after := #[{ on := 2, ground := Ground.data }, { on := 17, ground := Ground.data }], guard := none }) (v := ?_) rfl (by kernel_rfl) (by kernel_rfl) (by kernel_rfl) (fun _ _ _ h => h) (Or.inl ⟨by rfl, ?_⟩) (by assumption) ?_
    rotate_left
    · intro w hSw; (try dsimp only at hSw); go_simp; (try with_reducible rfl)
    try simp only [Act.put, List.setIfInBounds_toArray, List.set_cons_zero, List.set_cons_succ]
    refine wpAnyH_done (by kernel_rfl) ?_ _
    have HK3 : ∀ wx, Below W2.heap.size W2 wx → Hid (Below W2.heap.size W2 wx) := fun wx h => Lib.hid h
    have HB3 := Lib.hid hd2
    have hs3 := hd2.size
    clear HBits HS q1 hd2
    go_wp2_with fail
    refine (of_any 1 (by decide) _).mono ?_
    rintro e w4 h4
    obtain ⟨x4, y4, z4, rfl, hN4, hb4⟩ := gaveV h4
    have HPB : Hid (PB w (w4.alloc (.cells #[.slice x4 y4 z4] 26)) w4.heap.size (.slice a n c) (.slice x4 y4 z4)) := Lib.hid (by
      have hb24 := HB3.out.trans (hb4.mono hs3)
      have hB := hb24.alloc hb24.size (.cells #[.slice x4 y4 z4] 26)
      exact ⟨HK.out.1.below hB (by omega), HK.out.2.1.below hB (by omega), Blk.new w4 _ _, HK.out.2.2.trans (hB.mono (by omega))⟩)
    have HB5 : Hid (Below W2.heap.size W2 (w4.alloc (.cells #[.slice x4 y4 z4] 26))) := Lib.hid (by
      have hb24 := HB3.out.trans (hb4.mono hs3)
      exact hb24.alloc hb24.size _)
    have HN5 : Hid (IsN (w4.alloc (.cells #[.slice x4 y4 z4] 26)) (.agg #[.slice x4 y4 z4]) (2 ^ (e / 2 ^ L))) := Lib.hid (by
      rw [hLe.out]
      exact hN4.below ((Below.refl _ w4).alloc (Nat.le_refl _) _) (Nat.le_refl _))
    obtain ⟨p, hp⟩ : ∃ p, w4.heap.size = p := ⟨_, rfl⟩
    have hs4 := hb4.size
    have hp2 : w.heap.size + 2 ≤ p := by omega
    have hp3 : W2.heap.size ≤ p := by omega
    obtain ⟨W5, hW5⟩ : ∃ W5, w4.alloc (.cells #[.slice x4 y4 z4] 26) = W5 := ⟨_, rfl⟩
    rw [hW5] at HPB HB5 HN5
    rw [hp] at HPB
    have Hp := Lib.hid hp; have HW5 := Lib.hid hW5
    clear h4 hb4 hN4 hp hW5 hs4 HB3 HK HK3
    go_wp2_with fail
    rw [HW5.out, Hp.out]
    refine (HLen.out _).mono ?_
    rintro e w6 ⟨rfl, rfl⟩
    go_wp2_with fail
    go_loopw [7] (fun iv wr => ∃ (k : Nat) (z : Int) (x : Option Addr) (y s : Nat), k ≤ L ∧ z = (k : Int) - 1 ∧ iv = .int .i64 z ∧ Hid (PB w wr p (.slice a n c) (.slice x y s)) ∧ Hid (IsN wr (.agg #[.slice x y s]) (2 ^ (e / 2 ^ k))) ∧ Hid (Below W2.heap.size W2 wr)) (fun iv _ => (intOf iv + 1).toNat)
    case atStart => exact ⟨L, _, x4, y4, z4, Nat.le_refl _, rfl, rfl, HPB, HN5, HB5⟩
    case round =>
      clear HPB HN5 HB5
      obtain ⟨k, z, x, y, s, hk, hz, rfl, hpb, hn, hb⟩ := hrel
      have r1 : wr.cell? ⟨p, 0, none⟩ = some (.slice x y s) := hpb.out.b3.cell 0
      cases k with
      | zero =>
        have hzn : ¬ (0 : Int) ≤ z := by omega
        clear hz
        rw [Nat.pow_zero, Nat.div_one] at hn
        have HBt : Hid (Calls Tryz.prog 110 #[.agg #[.slice x y s]] wr fun ε w' => ∃ Z : Int, ε = .returned (.int .i64 Z) ∧ ¬ 10000 < Z ∧ Below wr.heap.size wr w') := Lib.hid ((bits_any _ _ wr hn.out).mono fun ε w' h => by
          obtain ⟨L', h1, h2, _, h3⟩ := h
          have : L' = e + 1 := h2.inj ⟨Nat.pow_lt_pow_right (by decide) (by omega), fun _ => Nat.le_refl _⟩
          exact ⟨_, h1, by omega, h3⟩)
        go_wp2_with fail
        refine HBt.out.mono ?_
        rintro ε w7 ⟨Z, rfl, hZ, hb7⟩
        have hd : decide (10000 < Z) = false := by simp; omega
        have hs : wr.heap.size ≤ w7.heap.size := hb7.size
        have hpl := hpb.out.b3.lt
        have hpb7 := hpb.out.below hb7 hp2 hpl
        have r2 : w7.cell? ⟨p, 0, none⟩ = some (.slice x y s) := hpb7.b3.cell 0
        have r3 : w7.cell? ⟨w.heap.size + 1, 0, none⟩ = some (.slice none 0 0) := hpb7.b2.cell 0
        have r4 : w7.frozen? ⟨w.heap.size + 1, 0, none⟩ = false := hpb7.b2.frozen 0
        have Hk2 : Hid (Blk (w7.setCell ⟨w.heap.size + 1, 0, none⟩ (.slice x y s)) (w.heap.size + 1) 26 #[.slice x y s]) := Lib.hid (hpb7.b2.set_ 0 _)
        have HR : Hid (PowIs (2 ^ e) w (.returned (.tuple #[.agg #[.slice x y s], .int .i64 0])) (w7.setCell ⟨w.heap.size + 1, 0, none⟩ (.slice x y s))) := Lib.hid ⟨x, y, s, rfl, isN_set1 (hn.out.below hb7 (Nat.le_refl _)) (isN_box (hn.out.below hb7 (Nat.le_refl _)) hpb7.b2), hpb7.bel.setCell (p := ⟨w.heap.size + 1, 0, none⟩) (by show w.heap.size ≤ w.heap.size + 1; omega) _⟩
        clear hpb7 hb7 HBt hn hb hpb
        go_wp2_with fail
        refine bodyPost_ret (res_nat2 rfl _ _ (w.heap.size + 1) (.slice x y s) (.int .i64 0) rfl rfl Hk2.out) rfl ?_
        exact HR.out
      | succ k =>
        obtain rfl : z = (k : Int) := by omega
        clear hz
        have hpl := hpb.out.b3.lt
        have HM1 : Hid (Calls Tryz.prog 74 #[.agg #[.slice x y s], .agg #[.slice x y s]] wr fun ε w' => ∃ x1 y1 s1, ε = .returned (.agg #[.slice x1 y1 s1]) ∧ Hid (IsN (w'.setCell ⟨p, 0, none⟩ (.slice x1 y1 s1)) (.agg #[.slice x1 y1 s1]) (2 ^ (e / 2 ^ (k + 1)) * 2 ^ (e / 2 ^ (k + 1)))) ∧ Hid (PB w (w'.setCell ⟨p, 0, none⟩ (.slice x1 y1 s1)) p (.slice a n c) (.slice x1 y1 s1)) ∧ Hid (Below W2.heap.size W2 (w'.setCell ⟨p, 0, none⟩ (.slice x1 y1 s1))) ∧ w'.cell? ⟨p, 0, none⟩ = some (.slice x y s) ∧ w'.frozen? ⟨p, 0, none⟩ = false) := Lib.hid (by
          have hq : e / 2 ^ (k + 1) ≤ 800 := Nat.le_trans (Nat.div_le_self _ _) (by omega)
          have hB := two_big (k := 5000) hq (by omega)
          refine (mul_any _ _ _ _ wr hn.out hn.out hB hB).mono fun ε w' h => ?_
          obtain ⟨x1, y1, s1, h1, h2, h3⟩ := gaveV h
          have h4 := hpb.out.below h3 hp2 hpl
          exact ⟨x1, y1, s1, h1, Lib.hid (isN_set1 h2 (isN_box h2 h4.b3)), Lib.hid (h4.set hp2 _), Lib.hid ((hb.out.trans (h3.mono hb.out.size)).setCell (p := ⟨p, 0, none⟩) hp3 _), h4.b3.cell 0, h4.b3.frozen 0⟩)
        have hb3 : Hid (e / 2 ^ k % 2 = 0 ∨ e / 2 ^ k % 2 = 1) := Lib.hid (by omega)
        clear hn hb hpb
        go_wp2_with fail
        refine HM1.out.mono ?_
        rintro ε w7 ⟨x1, y1, s1, rfl, hn7, hpb7, hb7, r5, r6⟩
        have Hn7 := Lib.hid hn7
        rcases hb3.out with h01 | h01
        · have hbit : bits .and .i64 (E / 2 ^ k) 1 = 0 := by rw [bit_of HE.out (by omega), h01]; rfl
          have hn8 : Hid (IsN (w7.setCell ⟨p, 0, none⟩ (.slice x1 y1 s1)) (.agg #[.slice x1 y1 s1]) (2 ^ (e / 2 ^ k))) := Lib.hid (by
            have h1 := hn7.out
            have h2 := half_pow e k
            rw [h01, Nat.pow_zero, Nat.mul_one] at h2
            rw [h2] at h1
            exact h1)
          clear hn7 Hn7 h01 hb3 HM1
          go_wp2_with fail
          go_roundw
          case rel => exact ⟨k, _, _, _, _, by omega, rfl, rfl, hpb7, hn8, hb7⟩
          case measure => simp [intOf] <;> omega
        · have hbit : bits .and .i64 (E / 2 ^ k) 1 = 1 := by rw [bit_of HE.out (by omega), h01]; rfl
          have hpl7 := hpb7.out.b3.lt
          have HM2 : Hid (Calls Tryz.prog 74 #[.agg #[.slice x1 y1 s1], .agg #[.slice a n c]] (w7.setCell ⟨p, 0, none⟩ (.slice x1 y1 s1)) fun ε w' => ∃ x2 y2 s2, ε = .returned (.agg #[.slice x2 y2 s2]) ∧ Hid (IsN (w'.setCell ⟨p, 0, none⟩ (.slice x2 y2 s2)) (.agg #[.slice x2 y2 s2]) (2 ^ (e / 2 ^ k))) ∧ Hid (PB w (w'.setCell ⟨p, 0, none⟩ (.slice x2 y2 s2)) p (.slice a n c) (.slice x2 y2 s2)) ∧ Hid (Below W2.heap.size W2 (w'.setCell ⟨p, 0, none⟩ (.slice x2 y2 s2))) ∧ w'.cell? ⟨p, 0, none⟩ = some (.slice x1 y1 s1) ∧ w'.frozen? ⟨p, 0, none⟩ = false) := Lib.hid (by
            have hq : e / 2 ^ (k + 1) ≤ 500 := Nat.le_trans (Nat.div_le_self _ _) he
            have hB : 2 ^ (e / 2 ^ (k + 1)) * 2 ^ (e / 2 ^ (k + 1)) < 18446744073709551616 ^ 5000 := by
              rw [← Nat.pow_add]
              have h2 : e / 2 ^ (k + 1) + e / 2 ^ (k + 1) ≤ 800 := by
                have : 2 ^ (k + 1) ≥ 2 := by rw [Nat.pow_succ]; have := Nat.one_le_two_pow (n := k); omega
                have : e / 2 ^ (k + 1) ≤ e / 2 := Nat.div_le_div_left this (by decide)
                omega
              exact two_big (k := 5000) h2 (by omega)
            have hB2 : 2 < 18446744073709551616 ^ 5000 := two_big (q := 1) (k := 5000) (by omega) (by omega)
            refine (mul_any _ _ _ _ _ hn7.out (HN.out.below hb7.out (Nat.le_refl _)) hB hB2).mono fun ε w' h => ?_
            obtain ⟨x2, y2, s2, h1, h2, h3⟩ := gaveV h
            have h4 := hpb7.out.below h3 hp2 hpl7
            have e9 := half_pow e k
            rw [h01, Nat.pow_one] at e9
            rw [e9] at h2
            exact ⟨x2, y2, s2, h1, Lib.hid (isN_set1 h2 (isN_box h2 h4.b3)), Lib.hid (h4.set hp2 _), Lib.hid ((hb7.out.trans (h3.mono hb7.out.size)).setCell (p := ⟨p, 0, none⟩) hp3 _), h4.b3.cell 0, h4.b3.frozen 0⟩)
          have r7 : (w7.setCell ⟨p, 0, none⟩ (.slice x1 y1 s1)).cell? ⟨w.heap.size, 0, none⟩ = some (.slice a n c) := hpb7.out.b1.cell 0
          clear hn7 Hn7 h01 hb3 HM1 hpb7 hb7
          go_wp2_with fail
          refine HM2.out.mono ?_
          rintro ε w8 ⟨x2, y2, s2, rfl, hn8, hpb8, hb8, r8, r9⟩
          clear HM2
          go_wp2_with fail
          go_roundw
          case rel => exact ⟨k, _, _, _, _, by omega, rfl, rfl, hpb8, hn8, hb8⟩
          case measure => simp [intOf] <;> omega
  · have hE4 : 0 < E := by omega
    have d2 : decide (0 < E) = true := by simp; omega
    obtain ⟨Q, hQ⟩ : ∃ Q : Int, 9999 / E = Q := ⟨_, rfl⟩
    have hQ2 : Int.tdiv 9999 E = Q := by rw [Int.tdiv_eq_ediv_of_nonneg (by decide)]; exact hQ
    have hQ1 : 1 ≤ Q := by rw [← hQ]; exact (Int.le_ediv_iff_mul_le hE4).2 (by omega)
    have hQ3 : Q ≤ 9999 := by rw [← hQ]; exact Int.ediv_le_self _ (by decide)
    have d3 : decide (Q < 1) = false := by simp; omega
    have d4 : IntKind.i64.wrap Q = Q := IntWalk.i64_in _ ⟨by omega, by omega⟩
    go_enter Tryz.func92, Tryz.ntmps92
    go_wp2_with fail
    go_region_held3 (fun w' => w'.cell? ⟨w.heap.size, 0, none⟩ = some (.slice a n c))
      (first | exact q1 | exact HS.out _ ‹_› | go_keep)
      (first
        | (go_at_call 110; refine (HBits.out _ (by assumption)).mono ?_; rintro e w7 ⟨rfl, hb7⟩))
    have HK3 : ∀ wx, Below W2.heap.size W2 wx → Hid (Below W2.heap.size W2 wx) := fun wx h => Lib.hid h
    have HB3 := Lib.hid hb7
    have hs3 := hb7.size
    clear hb7 HBits HS q1 hd2
    go_wp2_with fail
    refine (of_any 1 (by decide) _).mono ?_
    rintro e w4 h4
    obtain ⟨x4, y4, z4, rfl, hN4, hb4⟩ := gaveV h4
    have HPB : Hid (PB w (w4.alloc (.cells #[.slice x4 y4 z4] 26)) w4.heap.size (.slice a n c) (.slice x4 y4 z4)) := Lib.hid (by
      have hb24 := HB3.out.trans (hb4.mono hs3)
      have hB := hb24.alloc hb24.size (.cells #[.slice x4 y4 z4] 26)
      exact ⟨HK.out.1.below hB (by omega), HK.out.2.1.below hB (by omega), Blk.new w4 _ _, HK.out.2.2.trans (hB.mono (by omega))⟩)
    have HB5 : Hid (Below W2.heap.size W2 (w4.alloc (.cells #[.slice x4 y4 z4] 26))) := Lib.hid (by
      have hb24 := HB3.out.trans (hb4.mono hs3)
      exact hb24.alloc hb24.size _)
    have HN5 : Hid (IsN (w4.alloc (.cells #[.slice x4 y4 z4] 26)) (.agg #[.slice x4 y4 z4]) (2 ^ (e / 2 ^ L))) := Lib.hid (by
      rw [hLe.out]
      exact hN4.below ((Below.refl _ w4).alloc (Nat.le_refl _) _) (Nat.le_refl _))
    obtain ⟨p, hp⟩ : ∃ p, w4.heap.size = p := ⟨_, rfl⟩
    have hs4 := hb4.size
    have hp2 : w.heap.size + 2 ≤ p := by omega
    have hp3 : W2.heap.size ≤ p := by omega
    obtain ⟨W5, hW5⟩ : ∃ W5, w4.alloc (.cells #[.slice x4 y4 z4] 26) = W5 := ⟨_, rfl⟩
    rw [hW5] at HPB HB5 HN5
    rw [hp] at HPB
    have Hp := Lib.hid hp; have HW5 := Lib.hid hW5
    clear h4 hb4 hN4 hp hW5 hs4 HB3 HK HK3
    go_wp2_with fail
    rw [HW5.out, Hp.out]
    refine (HLen.out _).mono ?_
    rintro e w6 ⟨rfl, rfl⟩
    go_wp2_with fail
    go_loopw [7] (fun iv wr => ∃ (k : Nat) (z : Int) (x : Option Addr) (y s : Nat), k ≤ L ∧ z = (k : Int) - 1 ∧ iv = .int .i64 z ∧ Hid (PB w wr p (.slice a n c) (.slice x y s)) ∧ Hid (IsN wr (.agg #[.slice x y s]) (2 ^ (e / 2 ^ k))) ∧ Hid (Below W2.heap.size W2 wr)) (fun iv _ => (intOf iv + 1).toNat)
    case atStart => exact ⟨L, _, x4, y4, z4, Nat.le_refl _, rfl, rfl, HPB, HN5, HB5⟩
    case round =>
      clear HPB HN5 HB5
      obtain ⟨k, z, x, y, s, hk, hz, rfl, hpb, hn, hb⟩ := hrel
      have r1 : wr.cell? ⟨p, 0, none⟩ = some (.slice x y s) := hpb.out.b3.cell 0
      cases k with
      | zero =>
        have hzn : ¬ (0 : Int) ≤ z := by omega
        clear hz
        rw [Nat.pow_zero, Nat.div_one] at hn
        have HBt : Hid (Calls Tryz.prog 110 #[.agg #[.slice x y s]] wr fun ε w' => ∃ Z : Int, ε = .returned (.int .i64 Z) ∧ ¬ 10000 < Z ∧ Below wr.heap.size wr w') := Lib.hid ((bits_any _ _ wr hn.out).mono fun ε w' h => by
          obtain ⟨L', h1, h2, _, h3⟩ := h
          have : L' = e + 1 := h2.inj ⟨Nat.pow_lt_pow_right (by decide) (by omega), fun _ => Nat.le_refl _⟩
          exact ⟨_, h1, by omega, h3⟩)
        go_wp2_with fail
        refine HBt.out.mono ?_
        rintro ε w7 ⟨Z, rfl, hZ, hb7⟩
        have hd : decide (10000 < Z) = false := by simp; omega
        have hs : wr.heap.size ≤ w7.heap.size := hb7.size
        have hpl := hpb.out.b3.lt
        have hpb7 := hpb.out.below hb7 hp2 hpl
        have r2 : w7.cell? ⟨p, 0, none⟩ = some (.slice x y s) := hpb7.b3.cell 0
        have r3 : w7.cell? ⟨w.heap.size + 1, 0, none⟩ = some (.slice none 0 0) := hpb7.b2.cell 0
        have r4 : w7.frozen? ⟨w.heap.size + 1, 0, none⟩ = false := hpb7.b2.frozen 0
        have Hk2 : Hid (Blk (w7.setCell ⟨w.heap.size + 1, 0, none⟩ (.slice x y s)) (w.heap.size + 1) 26 #[.slice x y s]) := Lib.hid (hpb7.b2.set_ 0 _)
        have HR : Hid (PowIs (2 ^ e) w (.returned (.tuple #[.agg #[.slice x y s], .int .i64 0])) (w7.setCell ⟨w.heap.size + 1, 0, none⟩ (.slice x y s))) := Lib.hid ⟨x, y, s, rfl, isN_set1 (hn.out.below hb7 (Nat.le_refl _)) (isN_box (hn.out.below hb7 (Nat.le_refl _)) hpb7.b2), hpb7.bel.setCell (p := ⟨w.heap.size + 1, 0, none⟩) (by show w.heap.size ≤ w.heap.size + 1; omega) _⟩
        clear hpb7 hb7 HBt hn hb hpb
        go_wp2_with fail
        refine bodyPost_ret (res_nat2 rfl _ _ (w.heap.size + 1) (.slice x y s) (.int .i64 0) rfl rfl Hk2.out) rfl ?_
        exact HR.out
      | succ k =>
        obtain rfl : z = (k : Int) := by omega
        clear hz
        have hpl := hpb.out.b3.lt
        have HM1 : Hid (Calls Tryz.prog 74 #[.agg #[.slice x y s], .agg #[.slice x y s]] wr fun ε w' => ∃ x1 y1 s1, ε = .returned (.agg #[.slice x1 y1 s1]) ∧ Hid (IsN (w'.setCell ⟨p, 0, none⟩ (.slice x1 y1 s1)) (.agg #[.slice x1 y1 s1]) (2 ^ (e / 2 ^ (k + 1)) * 2 ^ (e / 2 ^ (k + 1)))) ∧ Hid (PB w (w'.setCell ⟨p, 0, none⟩ (.slice x1 y1 s1)) p (.slice a n c) (.slice x1 y1 s1)) ∧ Hid (Below W2.heap.size W2 (w'.setCell ⟨p, 0, none⟩ (.slice x1 y1 s1))) ∧ w'.cell? ⟨p, 0, none⟩ = some (.slice x y s) ∧ w'.frozen? ⟨p, 0, none⟩ = false) := Lib.hid (by
          have hq : e / 2 ^ (k + 1) ≤ 800 := Nat.le_trans (Nat.div_le_self _ _) (by omega)
          have hB := two_big (k := 5000) hq (by omega)
          refine (mul_any _ _ _ _ wr hn.out hn.out hB hB).mono fun ε w' h => ?_
          obtain ⟨x1, y1, s1, h1, h2, h3⟩ := gaveV h
          have h4 := hpb.out.below h3 hp2 hpl
          exact ⟨x1, y1, s1, h1, Lib.hid (isN_set1 h2 (isN_box h2 h4.b3)), Lib.hid (h4.set hp2 _), Lib.hid ((hb.out.trans (h3.mono hb.out.size)).setCell (p := ⟨p, 0, none⟩) hp3 _), h4.b3.cell 0, h4.b3.frozen 0⟩)
        have hb3 : Hid (e / 2 ^ k % 2 = 0 ∨ e / 2 ^ k % 2 = 1) := Lib.hid (by omega)
        clear hn hb hpb
        go_wp2_with fail
        refine HM1.out.mono ?_
        rintro ε w7 ⟨x1, y1, s1, rfl, hn7, hpb7, hb7, r5, r6⟩
        have Hn7 := Lib.hid hn7
        rcases hb3.out with h01 | h01
        · have hbit : bits .and .i64 (E / 2 ^ k) 1 = 0 := by rw [bit_of HE.out (by omega), h01]; rfl
          have hn8 : Hid (IsN (w7.setCell ⟨p, 0, none⟩ (.slice x1 y1 s1)) (.agg #[.slice x1 y1 s1]) (2 ^ (e / 2 ^ k))) := Lib.hid (by
            have h1 := hn7.out
            have h2 := half_pow e k
            rw [h01, Nat.pow_zero, Nat.mul_one] at h2
            rw [h2] at h1
            exact h1)
          clear hn7 Hn7 h01 hb3 HM1
          go_wp2_with fail
          go_roundw
          case rel => exact ⟨k, _, _, _, _, by omega, rfl, rfl, hpb7, hn8, hb7⟩
          case measure => simp [intOf] <;> omega
        · have hbit : bits .and .i64 (E / 2 ^ k) 1 = 1 := by rw [bit_of HE.out (by omega), h01]; rfl
          have hpl7 := hpb7.out.b3.lt
          have HM2 : Hid (Calls Tryz.prog 74 #[.agg #[.slice x1 y1 s1], .agg #[.slice a n c]] (w7.setCell ⟨p, 0, none⟩ (.slice x1 y1 s1)) fun ε w' => ∃ x2 y2 s2, ε = .returned (.agg #[.slice x2 y2 s2]) ∧ Hid (IsN (w'.setCell ⟨p, 0, none⟩ (.slice x2 y2 s2)) (.agg #[.slice x2 y2 s2]) (2 ^ (e / 2 ^ k))) ∧ Hid (PB w (w'.setCell ⟨p, 0, none⟩ (.slice x2 y2 s2)) p (.slice a n c) (.slice x2 y2 s2)) ∧ Hid (Below W2.heap.size W2 (w'.setCell ⟨p, 0, none⟩ (.slice x2 y2 s2))) ∧ w'.cell? ⟨p, 0, none⟩ = some (.slice x1 y1 s1) ∧ w'.frozen? ⟨p, 0, none⟩ = false) := Lib.hid (by
            have hq : e / 2 ^ (k + 1) ≤ 500 := Nat.le_trans (Nat.div_le_self _ _) he
            have hB : 2 ^ (e / 2 ^ (k + 1)) * 2 ^ (e / 2 ^ (k + 1)) < 18446744073709551616 ^ 5000 := by
              rw [← Nat.pow_add]
              have h2 : e / 2 ^ (k + 1) + e / 2 ^ (k + 1) ≤ 800 := by
                have : 2 ^ (k + 1) ≥ 2 := by rw [Nat.pow_succ]; have := Nat.one_le_two_pow (n := k); omega
                have : e / 2 ^ (k + 1) ≤ e / 2 := Nat.div_le_div_left this (by decide)
                omega
              exact two_big (k := 5000) h2 (by omega)
            have hB2 : 2 < 18446744073709551616 ^ 5000 := two_big (q := 1) (k := 5000) (by omega) (by omega)
            refine (mul_any _ _ _ _ _ hn7.out (HN.out.below hb7.out (Nat.le_refl _)) hB hB2).mono fun ε w' h => ?_
            obtain ⟨x2, y2, s2, h1, h2, h3⟩ := gaveV h
            have h4 := hpb7.out.below h3 hp2 hpl7
            have e9 := half_pow e k
            rw [h01, Nat.pow_one] at e9
            rw [e9] at h2
            exact ⟨x2, y2, s2, h1, Lib.hid (isN_set1 h2 (isN_box h2 h4.b3)), Lib.hid (h4.set hp2 _), Lib.hid ((hb7.out.trans (h3.mono hb7.out.size)).setCell (p := ⟨p, 0, none⟩) hp3 _), h4.b3.cell 0, h4.b3.frozen 0⟩)
          have r7 : (w7.setCell ⟨p, 0, none⟩ (.slice x1 y1 s1)).cell? ⟨w.heap.size, 0, none⟩ = some (.slice a n c) := hpb7.out.b1.cell 0
          clear hn7 Hn7 h01 hb3 HM1 hpb7 hb7
          go_wp2_with fail
          refine HM2.out.mono ?_
          rintro ε w8 ⟨x2, y2, s2, rfl, hn8, hpb8, hb8, r8, r9⟩
          clear HM2
          go_wp2_with fail
          go_roundw
          case rel => exact ⟨k, _, _, _, _, by omega, rfl, rfl, hpb8, hn8, hb8⟩
          case measure => simp [intOf] <;> omega
end Go.Proofs.YtllmacokhjmdgaaGreatDoor
