/-
 Law 3: powers of small numbers, with exponents to 1300.
-/
import Derived.Test.YtggmnmmjmihnfaaGreatDoorNCmp
import Derived.Test.YtggmnmmjmihnfaaGreatDoorNBits
import Derived.Test.YtggmnmmjmihnfaaGreatDoorAnyI
import Derived.Test.YtggmnmmjmihnfaaGreatDoorNNines
namespace Go.Proofs.YtggmnmmjmihnfaaGreatDoor
open Go.RowKit
set_option linter.unusedVariables false
/-- What lies in memory while a power is worked out. -/
structure PB (w wr : World) (p : Nat) (a o : Value) : Prop where
 b1 : Blk wr w.heap.size 25 #[a]
 b2 : Blk wr (w.heap.size + 1) 25 #[.slice none 0 0]
 b3 : Blk wr p 25 #[o]
 bel : Below w.heap.size w wr
theorem PB.below {w wr w' : World} {p B : Nat} {a o : Value} (h : PB w wr p a o) (hb : Below B wr w') (hp : w.heap.size + 2 ≤ p) (hB : p < B) : PB w w' p a o :=
 ⟨h.b1.below hb (by omega), h.b2.below hb (by omega), h.b3.below hb (by omega), h.bel.trans (hb.mono (by omega))⟩
theorem PB.set {w wr : World} {p : Nat} {a o : Value} (h : PB w wr p a o) (hp : w.heap.size + 2 ≤ p) (o' : Value) : PB w (wr.setCell ⟨p, 0, none⟩ o') p a o' :=
 ⟨h.b1.far (p := ⟨p, 0, none⟩) (by show w.heap.size ≠ p; omega) _, h.b2.far (p := ⟨p, 0, none⟩) (by show w.heap.size + 1 ≠ p; omega) _, h.b3.set_ 0 _, h.bel.setCell (p := ⟨p, 0, none⟩) (by show w.heap.size ≤ p; omega) _⟩
theorem bit_of {E : Int} {e k : Nat} (hE : E = (e : Int)) (he : e ≤ 5000) : bits .and .i64 (E / 2 ^ k) 1 = ((e / 2 ^ k % 2 : Nat) : Int) := by
 have h1 : E / 2 ^ k = ((e / 2 ^ k : Nat) : Int) := by rw [hE]; simp
 have h2 : e / 2 ^ k ≤ e := Nat.div_le_self _ _
 rw [h1]
 exact and_one _ (by omega)
def PowIs (N : Nat) (w : World) (e : Ending) (w' : World) : Prop := ∃ x y z, e = .returned (.tuple #[.agg #[.slice x y z], .int .i64 0]) ∧ IsN w' (.agg #[.slice x y z]) N ∧ Below w.heap.size w w'
theorem half_powN (N e k : Nat) : N ^ (e / 2 ^ (k + 1)) * N ^ (e / 2 ^ (k + 1)) * N ^ (e / 2 ^ k % 2) = N ^ (e / 2 ^ k) := by
 rw [← Nat.pow_add, ← Nat.pow_add, Nat.pow_succ, ← Nat.div_div_eq_div_mul]
 congr 1
 omega
theorem len4 {N L : Nat} (h : IsLen N L) (hN : N < 2 ^ 4) : L ≤ 4 := by
 rcases Nat.eq_zero_or_pos L with h0 | h0
 · omega
 · have h1 := Nat.lt_of_le_of_lt (h.le h0) hN
   have := (Nat.pow_lt_pow_iff_right (a := 2) (by omega)).1 h1
   omega
theorem num_pow {N m : Nat} (hN : N < 2 ^ 4) : N ^ m ≤ 2 ^ (4 * m) := by
 rw [Nat.pow_mul]
 exact Nat.pow_le_pow_left (Nat.le_of_lt hN) m
theorem num_big {N m : Nat} (k : Nat) (hN : N < 2 ^ 4) (hm : m ≤ 2600) (hk : 163 ≤ k) : N ^ m < 18446744073709551616 ^ k := by
 have e1 : (18446744073709551616 : Nat) = 2 ^ 64 := by decide
 refine Nat.lt_of_le_of_lt (num_pow hN) ?_
 rw [e1, ← Nat.pow_mul]
 exact Nat.pow_lt_pow_right (by decide) (by omega)
theorem lenP {N e L : Nat} (h : IsLen (N ^ e) L) (hN : N < 2 ^ 4) (he : e ≤ 1300) : L ≤ 5201 := by
 rcases Nat.eq_zero_or_pos L with h0 | h0
 · omega
 · have h1 := Nat.le_trans (h.le h0) (num_pow hN)
   have := (Nat.pow_le_pow_iff_right (a := 2) (by omega)).1 h1
   omega
set_option maxRecDepth 100000 in
set_option maxHeartbeats 16000000 in
theorem pow_big (N e : Nat) (v : Value) (w : World) (E : Int) (h : IsN w v N) (hN2 : 2 ≤ N) (hN4_ : N < 2 ^ 4) (he : e ≤ 1300) (hE : E = (e : Int)) :
 Calls Tryz.prog 61 #[v, .int .i64 E] w (PowIs (N ^ e) w) := by
 obtain ⟨a, n, c, rfl⟩ := isN_form h
 obtain ⟨W2, hW2⟩ : ∃ W2, ((w.alloc (.cells #[.slice a n c] 25)).alloc (.cells #[.slice none 0 0] 25)) = W2 := ⟨_, rfl⟩
 have k1 : Blk W2 w.heap.size 25 #[.slice a n c] := by rw [← hW2]; exact (Blk.new w _ _).alloc _
 have k2 : Blk W2 (w.heap.size + 1) 25 #[.slice none 0 0] := by
  have := Blk.new (w.alloc (.cells #[.slice a n c] 25)) 25 #[.slice none 0 0]
  rw [World.size_alloc, hW2] at this
  exact this
 have hb2 : Below w.heap.size w W2 := by rw [← hW2]; exact ((Below.refl _ w).alloc (Nat.le_refl _) _).alloc (by simp) _
 have hs2 : W2.heap.size = w.heap.size + 2 := by rw [← hW2]; simp
 have HK := Lib.hid (And.intro k1 (And.intro k2 hb2))
 have HN := Lib.hid (h.below hb2 (Nat.le_refl _))
 have q1 : W2.cell? ⟨w.heap.size, 0, none⟩ = some (.slice a n c) := k1.cell 0
 obtain ⟨L0, hL0, _⟩ := isN_len h
 obtain ⟨LB, hLB⟩ : ∃ LB : Int, (L0 : Int) = LB := ⟨_, rfl⟩
 have hLB4 : LB ≤ 4 := by
  have h1 := len4 (hL0) hN4_
  omega
 have hLB0 : 0 ≤ LB := by omega
 have hL1 : 1 < LB := by
  have h1 := (hL0).lt
  rcases Nat.lt_or_ge 1 L0 with h | h
  · omega
  · exact absurd (Nat.lt_of_lt_of_le h1 (Nat.pow_le_pow_right (n := 2) (by decide) h)) (by omega)
 have HN4_ := Lib.hid hN4_
 have HBits : Hid (∀ wx, Below W2.heap.size W2 wx → Calls Tryz.prog 91 #[.agg #[.slice a n c]] wx fun e w' => e = .returned (.int .i64 LB) ∧ Below W2.heap.size W2 w') := Lib.hid (fun wx hb => (bits_any N _ wx (HN.out.below hb (by omega))).mono fun e w' h => by
  obtain ⟨L, h1, h2, _, h3⟩ := h
  have : (L : Int) = LB := by rw [← hLB]; exact congrArg _ (h2.inj (hL0))
  rw [this] at h1
  exact ⟨h1, hb.trans (h3.mono hb.size)⟩)
 have HS : Hid (∀ wx, Below W2.heap.size W2 wx → wx.cell? ⟨w.heap.size, 0, none⟩ = some (.slice a n c)) := Lib.hid (fun wx hb => (hb.cell (p := ⟨w.heap.size, 0, none⟩) k1.lt).trans (k1.cell 0))
 have hE0 : ¬ E < 0 := by omega
 have hE1 : ¬ 5000 < E := by omega
 have hE2 : E ≤ 1300 := by omega
 have hE3 : 0 ≤ E := by omega
 obtain ⟨L, hL⟩ : ∃ L, Lib.bitLen E.toNat = L := ⟨_, rfl⟩
 have HLen : Hid (∀ wx, Calls Tryz.prog 92 #[.int .u64 E] wx fun e w' => e = .returned (.int .i64 (L : Int)) ∧ w' = wx) := Lib.hid (fun wx => by
  have := Tryz.bits_Len E wx (by omega) (by omega)
  rw [hL] at this
  exact this)
 have hLe : Hid (e / 2 ^ L = 0) := Lib.hid (by
  have h1 := isLen_bitLen E.toNat E.toNat (Nat.le_refl _) (by omega)
  rw [hL] at h1
  have h2 := h1.lt
  have h3 : E.toNat = e := by omega
  rw [h3] at h2
  exact Nat.div_eq_of_lt h2)
 have hEs : E.toNat < 2 ^ 64 := by
  have : E.toNat ≤ 1300 := by omega
  exact Nat.lt_of_le_of_lt this (by decide)
 have hL64 : L ≤ 64 := by rw [← hL]; exact Lib.bitLen_le E.toNat 64 (Nat.le_refl _) hEs
 have hd2 : Below W2.heap.size W2 W2.drew := (Below.refl _ _).drew
 have d1 : decide (5000 < E) = false := by simp; omega
 have d5 : IntKind.i64.wrap 1 = 1 := by decide
 have HE := Lib.hid hE
 clear h k1 k2 hb2 hL hE hN4_ hLB
 by_cases h0 : E = 0
 · have d2 : decide (0 < E) = false := by simp; omega
   clear h0
   go_enter Tryz.func61, Tryz.ntmps61
   go_wp2_with fail
   refine wp_region_held_drew (S := (fun w' => w'.cell? ⟨w.heap.size, 0, none⟩ = some (.slice a n c))) (by kernel_rfl) ?_ (fun hHeld => ?_)
   · exact q1
   refine tkA 0 ⟨some 11, .move (.tmp 1), 3, "nat.go:237", #[], none⟩ ?_ (Or.inl ⟨by rfl, ?_⟩) ?_
   rotate_left
   · intro w hSw; (try dsimp only at hSw); go_simp; (try with_reducible rfl)
   try simp only [las]
   refine tkA 1 ⟨some 12, .binOp .gtr 3 (.tmp 11) (.const (.int .i64 5000)) 3, 4, "nat.go:237", #[⟨0, .data⟩], none⟩ ?_ (Or.inl ⟨by rfl, ?_⟩) ?_
   rotate_left
   · intro w hSw; (try dsimp only at hSw); go_simp; (try with_reducible rfl)
   try simp only [las]
   refine tkA 2 ⟨some 13, .move (.tmp 12), 4, "nat.go:237", #[⟨1, .data⟩], none⟩ ?_ (Or.inl ⟨by rfl, ?_⟩) ?_
   rotate_left
   · intro w hSw; (try dsimp only at hSw); go_simp; (try with_reducible rfl)
   try simp only [las]
   refine tkA 3 ⟨some 14, .move (.tmp 1), 3, "nat.go:237", #[⟨2, .guard⟩], some (2, false)⟩ ?_ (Or.inl ⟨by rfl, ?_⟩) ?_
   rotate_left
   · intro w hSw; (try dsimp only at hSw); go_simp; (try with_reducible rfl)
   try simp only [las]
   refine tkA 4 ⟨some 15, .binOp .gtr 3 (.tmp 14) (.const (.int .i64 0)) 3, 4, "nat.go:237", #[⟨3, .data⟩, ⟨2, .guard⟩], some (2, false)⟩ ?_ (Or.inl ⟨by rfl, ?_⟩) ?_
   rotate_left
   · intro w hSw; (try dsimp only at hSw); go_simp; (try with_reducible rfl)
   try simp only [las]
   refine tkA 5 ⟨some 16, .move (.tmp 15), 4, "nat.go:237", #[⟨4, .data⟩, ⟨2, .chain⟩, ⟨2, .guard⟩], some (2, false)⟩ ?_ (Or.inl ⟨by rfl, ?_⟩) ?_
   rotate_left
   · intro w hSw; (try dsimp only at hSw); go_simp; (try with_reducible rfl)
   try simp only [las]
   refine tkA 6 ⟨some 17, .load 25 (.tmp 2), 25, "nat.go:237", #[⟨5, .guard⟩], some (5, true)⟩ (undef) (Or.inr ⟨by rfl, rfl⟩) ?_
   try simp only [las]
   refine tkA 7 ⟨some 18, .call ⟨.value (.func 91), #[.tmp 17], #[25]⟩, 3, "nat.go:237", #[⟨6, .data⟩, ⟨5, .chain⟩, ⟨5, .guard⟩], some (5, true)⟩ (undef) (Or.inr ⟨by rfl, rfl⟩) ?_
   try simp only [las]
   refine tkA 8 ⟨some 19, .binOp .gtr 3 (.tmp 18) (.const (.int .i64 1)) 3, 4, "nat.go:237", #[⟨7, .data⟩, ⟨5, .guard⟩], some (5, true)⟩ (undef) (Or.inr ⟨by rfl, rfl⟩) ?_
   try simp only [las]
   refine tkA 9 ⟨some 20, .pick (.tmp 16) (.tmp 19) (.const (.bool false)), 4, "nat.go:237", #[⟨5, .data⟩, ⟨8, .data⟩, ⟨2, .guard⟩], some (2, false)⟩ ?_ (Or.inl ⟨by rfl, ?_⟩) ?_
   rotate_left
   · intro w hSw; (try dsimp only at hSw); go_simp; (try with_reducible rfl)
   try simp only [las]
   refine tkA 10 ⟨some 21, .move (.tmp 20), 4, "nat.go:237", #[⟨9, .data⟩, ⟨7, .chain⟩, ⟨2, .guard⟩], some (2, false)⟩ ?_ (Or.inl ⟨by rfl, ?_⟩) ?_
   rotate_left
   · intro w hSw; (try dsimp only at hSw); go_simp; (try with_reducible rfl)
   try simp only [las]
   refine tkA 11 ⟨some 22, .load 25 (.tmp 2), 25, "nat.go:237", #[⟨10, .guard⟩], some (10, true)⟩ (undef) (Or.inr ⟨by rfl, rfl⟩) ?_
   try simp only [las]
   refine tkA 12 ⟨some 23, .call ⟨.value (.func 91), #[.tmp 22], #[25]⟩, 3, "nat.go:237", #[⟨11, .data⟩, ⟨10, .chain⟩, ⟨10, .guard⟩], some (10, true)⟩ (undef) (Or.inr ⟨by rfl, rfl⟩) ?_
   try simp only [las]
   refine tkA 13 ⟨some 24, .binOp .sub 3 (.tmp 23) (.const (.int .i64 1)) 3, 3, "nat.go:237", #[⟨12, .data⟩, ⟨10, .guard⟩], some (10, true)⟩ (undef) (Or.inr ⟨by rfl, rfl⟩) ?_
   try simp only [las]
   refine tkA 14 ⟨some 25, .move (.tmp 1), 3, "nat.go:237", #[⟨10, .guard⟩], some (10, true)⟩ (undef) (Or.inr ⟨by rfl, rfl⟩) ?_
   try simp only [las]
   refine tkA 15 ⟨some 26, .binOp .quo 3 (.const (.int .i64 9999)) (.tmp 25) 3, 3, "nat.go:237", #[⟨14, .data⟩, ⟨10, .guard⟩], some (10, true)⟩ (undef) (Or.inr ⟨by rfl, rfl⟩) ?_
   try simp only [las]
   refine tkA 16 ⟨some 27, .binOp .gtr 3 (.tmp 24) (.tmp 26) 3, 4, "nat.go:237", #[⟨13, .data⟩, ⟨15, .data⟩, ⟨10, .guard⟩], some (10, true)⟩ (undef) (Or.inr ⟨by rfl, rfl⟩) ?_
   try simp only [las]
   refine tkA 17 ⟨some 28, .pick (.tmp 21) (.tmp 27) (.const (.bool false)), 4, "nat.go:237", #[⟨10, .data⟩, ⟨16, .data⟩, ⟨2, .guard⟩], some (2, false)⟩ ?_ (Or.inl ⟨by rfl, ?_⟩) ?_
   rotate_left
   · intro w hSw; (try dsimp only at hSw); go_simp; (try with_reducible rfl)
   try simp only [las]
   refine tkA 18 ⟨some 29, .pick (.tmp 13) (.const (.bool true)) (.tmp 28), 4, "nat.go:237", #[⟨2, .data⟩, ⟨17, .data⟩], none⟩ ?_ (Or.inl ⟨by rfl, ?_⟩) ?_
   rotate_left
   · intro w hSw; (try dsimp only at hSw); go_simp; (try with_reducible rfl)
   try simp only [las]
   refine wpAnyH_done (by kernel_rfl) ?_ _
   have HK3 : ∀ wx, Below W2.heap.size W2 wx → Hid (Below W2.heap.size W2 wx) := fun wx h => Lib.hid h
   have HB3 := Lib.hid hd2
   have hs3 := hd2.size
   clear HBits HS q1 hd2
   go_wp2_with fail
   refine (of_any 1 (by decide) _).mono ?_
   rintro e w4 h4
   obtain ⟨x4, y4, z4, rfl, hN4, hb4⟩ := gaveV h4
   have HPB : Hid (PB w (w4.alloc (.cells #[.slice x4 y4 z4] 25)) w4.heap.size (.slice a n c) (.slice x4 y4 z4)) := Lib.hid (by
    have hb24 := HB3.out.trans (hb4.mono hs3)
    have hB := hb24.alloc hb24.size (.cells #[.slice x4 y4 z4] 25)
    exact ⟨HK.out.1.below hB (by omega), HK.out.2.1.below hB (by omega), Blk.new w4 _ _, HK.out.2.2.trans (hB.mono (by omega))⟩)
   have HB5 : Hid (Below W2.heap.size W2 (w4.alloc (.cells #[.slice x4 y4 z4] 25))) := Lib.hid (by
    have hb24 := HB3.out.trans (hb4.mono hs3)
    exact hb24.alloc hb24.size _)
   have HN5 : Hid (IsN (w4.alloc (.cells #[.slice x4 y4 z4] 25)) (.agg #[.slice x4 y4 z4]) (N ^ (e / 2 ^ L))) := Lib.hid (by
    rw [hLe.out, Nat.pow_zero]
    exact hN4.below ((Below.refl _ w4).alloc (Nat.le_refl _) _) (Nat.le_refl _))
   obtain ⟨p, hp⟩ : ∃ p, w4.heap.size = p := ⟨_, rfl⟩
   have hs4 := hb4.size
   have hp2 : w.heap.size + 2 ≤ p := by omega
   have hp3 : W2.heap.size ≤ p := by omega
   obtain ⟨W5, hW5⟩ : ∃ W5, w4.alloc (.cells #[.slice x4 y4 z4] 25) = W5 := ⟨_, rfl⟩
   rw [hW5] at HPB HB5 HN5
   rw [hp] at HPB
   have Hp := Lib.hid hp; have HW5 := Lib.hid hW5
   clear h4 hb4 hN4 hp hW5 hs4 HB3 HK HK3
   go_wp2_with fail
   rw [HW5.out, Hp.out]
   refine (HLen.out _).mono ?_
   rintro e w6 ⟨rfl, rfl⟩
   go_wp2_with fail
   go_loopw [7] (fun iv wr => ∃ (k : Nat) (z : Int) (x : Option Addr) (y s : Nat), k ≤ L ∧ z = (k : Int) - 1 ∧ iv = .int .i64 z ∧ Hid (PB w wr p (.slice a n c) (.slice x y s)) ∧ Hid (IsN wr (.agg #[.slice x y s]) (N ^ (e / 2 ^ k))) ∧ Hid (Below W2.heap.size W2 wr)) (fun iv _ => (intOf iv + 1).toNat)
   case atStart => exact ⟨L, _, x4, y4, z4, Nat.le_refl _, rfl, rfl, HPB, HN5, HB5⟩
   case round =>
    clear HPB HN5 HB5
    obtain ⟨k, z, x, y, s, hk, hz, rfl, hpb, hn, hb⟩ := hrel
    have r1 : wr.cell? ⟨p, 0, none⟩ = some (.slice x y s) := hpb.out.b3.cell 0
    cases k with
    | zero =>
     have hzn : ¬ (0 : Int) ≤ z := by omega
     clear hz
     rw [Nat.pow_zero, Nat.div_one] at hn
     have HBt : Hid (Calls Tryz.prog 91 #[.agg #[.slice x y s]] wr fun ε w' => ∃ Z : Int, ε = .returned (.int .i64 Z) ∧ ¬ 10000 < Z ∧ Below wr.heap.size wr w') := Lib.hid ((bits_any _ _ wr hn.out).mono fun ε w' h => by
      obtain ⟨L', h1, h2, _, h3⟩ := h
      have : L' ≤ 5201 := lenP h2 HN4_.out he
      exact ⟨_, h1, by omega, h3⟩)
     go_wp2_with fail
     refine HBt.out.mono ?_
     rintro ε w7 ⟨Z, rfl, hZ, hb7⟩
     have hd : decide (10000 < Z) = false := by simp; omega
     have hs : wr.heap.size ≤ w7.heap.size := hb7.size
     have hpl := hpb.out.b3.lt
     have hpb7 := hpb.out.below hb7 hp2 hpl
     have r2 : w7.cell? ⟨p, 0, none⟩ = some (.slice x y s) := hpb7.b3.cell 0
     have r3 : w7.cell? ⟨w.heap.size + 1, 0, none⟩ = some (.slice none 0 0) := hpb7.b2.cell 0
     have r4 : w7.frozen? ⟨w.heap.size + 1, 0, none⟩ = false := hpb7.b2.frozen 0
     have Hk2 : Hid (Blk (w7.setCell ⟨w.heap.size + 1, 0, none⟩ (.slice x y s)) (w.heap.size + 1) 25 #[.slice x y s]) := Lib.hid (hpb7.b2.set_ 0 _)
     have HR : Hid (PowIs (N ^ e) w (.returned (.tuple #[.agg #[.slice x y s], .int .i64 0])) (w7.setCell ⟨w.heap.size + 1, 0, none⟩ (.slice x y s))) := Lib.hid ⟨x, y, s, rfl, isN_set1 (hn.out.below hb7 (Nat.le_refl _)) (isN_box (hn.out.below hb7 (Nat.le_refl _)) hpb7.b2), hpb7.bel.setCell (p := ⟨w.heap.size + 1, 0, none⟩) (by show w.heap.size ≤ w.heap.size + 1; omega) _⟩
     clear hpb7 hb7 HBt hn hb hpb
     go_wp2_with fail
     refine bodyPost_ret (res_nat2 rfl _ _ (w.heap.size + 1) (.slice x y s) (.int .i64 0) rfl rfl Hk2.out) rfl ?_
     exact HR.out
    | succ k =>
     obtain rfl : z = (k : Int) := by omega
     clear hz
     have hpl := hpb.out.b3.lt
     have HM1 : Hid (Calls Tryz.prog 22 #[.agg #[.slice x y s], .agg #[.slice x y s]] wr fun ε w' => ∃ x1 y1 s1, ε = .returned (.agg #[.slice x1 y1 s1]) ∧ Hid (IsN (w'.setCell ⟨p, 0, none⟩ (.slice x1 y1 s1)) (.agg #[.slice x1 y1 s1]) (N ^ (e / 2 ^ (k + 1)) * N ^ (e / 2 ^ (k + 1)))) ∧ Hid (PB w (w'.setCell ⟨p, 0, none⟩ (.slice x1 y1 s1)) p (.slice a n c) (.slice x1 y1 s1)) ∧ Hid (Below W2.heap.size W2 (w'.setCell ⟨p, 0, none⟩ (.slice x1 y1 s1))) ∧ w'.cell? ⟨p, 0, none⟩ = some (.slice x y s) ∧ w'.frozen? ⟨p, 0, none⟩ = false) := Lib.hid (by
      have hq : e / 2 ^ (k + 1) ≤ 2600 := Nat.le_trans (Nat.div_le_self _ _) (by omega)
      have hB := num_big 5000 HN4_.out hq (by omega)
      refine (mul_any _ _ _ _ wr hn.out hn.out hB hB).mono fun ε w' h => ?_
      obtain ⟨x1, y1, s1, h1, h2, h3⟩ := gaveV h
      have h4 := hpb.out.below h3 hp2 hpl
      exact ⟨x1, y1, s1, h1, Lib.hid (isN_set1 h2 (isN_box h2 h4.b3)), Lib.hid (h4.set hp2 _), Lib.hid ((hb.out.trans (h3.mono hb.out.size)).setCell (p := ⟨p, 0, none⟩) hp3 _), h4.b3.cell 0, h4.b3.frozen 0⟩)
     have hb3 : Hid (e / 2 ^ k % 2 = 0 ∨ e / 2 ^ k % 2 = 1) := Lib.hid (by omega)
     clear hn hb hpb
     go_wp2_with fail
     refine HM1.out.mono ?_
     rintro ε w7 ⟨x1, y1, s1, rfl, hn7, hpb7, hb7, r5, r6⟩
     have Hn7 := Lib.hid hn7
     rcases hb3.out with h01 | h01
     · have hbit : bits .and .i64 (E / 2 ^ k) 1 = 0 := by rw [bit_of HE.out (by omega), h01]; rfl
       have hn8 : Hid (IsN (w7.setCell ⟨p, 0, none⟩ (.slice x1 y1 s1)) (.agg #[.slice x1 y1 s1]) (N ^ (e / 2 ^ k))) := Lib.hid (by
        have h1 := hn7.out
        have h2 := half_powN N e k
        rw [h01, Nat.pow_zero, Nat.mul_one] at h2
        rw [h2] at h1
        exact h1)
       clear hn7 Hn7 h01 hb3 HM1
       go_wp2_with fail
       go_roundw
       case rel => exact ⟨k, _, _, _, _, by omega, rfl, rfl, hpb7, hn8, hb7⟩
       case measure => simp [intOf] <;> omega
     · have hbit : bits .and .i64 (E / 2 ^ k) 1 = 1 := by rw [bit_of HE.out (by omega), h01]; rfl
       have hpl7 := hpb7.out.b3.lt
       have HM2 : Hid (Calls Tryz.prog 22 #[.agg #[.slice x1 y1 s1], .agg #[.slice a n c]] (w7.setCell ⟨p, 0, none⟩ (.slice x1 y1 s1)) fun ε w' => ∃ x2 y2 s2, ε = .returned (.agg #[.slice x2 y2 s2]) ∧ Hid (IsN (w'.setCell ⟨p, 0, none⟩ (.slice x2 y2 s2)) (.agg #[.slice x2 y2 s2]) (N ^ (e / 2 ^ k))) ∧ Hid (PB w (w'.setCell ⟨p, 0, none⟩ (.slice x2 y2 s2)) p (.slice a n c) (.slice x2 y2 s2)) ∧ Hid (Below W2.heap.size W2 (w'.setCell ⟨p, 0, none⟩ (.slice x2 y2 s2))) ∧ w'.cell? ⟨p, 0, none⟩ = some (.slice x1 y1 s1) ∧ w'.frozen? ⟨p, 0, none⟩ = false) := Lib.hid (by
        have hB : N ^ (e / 2 ^ (k + 1)) * N ^ (e / 2 ^ (k + 1)) < 18446744073709551616 ^ 5000 := by
         rw [← Nat.pow_add]
         have h2 : e / 2 ^ (k + 1) ≤ e := Nat.div_le_self _ _
         exact num_big 5000 HN4_.out (by omega) (by omega)
        have hB2 : N < 18446744073709551616 ^ 5000 := by have := num_big (m := 1) 5000 HN4_.out (by omega) (by omega); rwa [Nat.pow_one] at this
        refine (mul_any _ _ _ _ _ hn7.out (HN.out.below hb7.out (Nat.le_refl _)) hB hB2).mono fun ε w' h => ?_
        obtain ⟨x2, y2, s2, h1, h2, h3⟩ := gaveV h
        have h4 := hpb7.out.below h3 hp2 hpl7
        have e9 := half_powN N e k
        rw [h01, Nat.pow_one] at e9
        rw [e9] at h2
        exact ⟨x2, y2, s2, h1, Lib.hid (isN_set1 h2 (isN_box h2 h4.b3)), Lib.hid (h4.set hp2 _), Lib.hid ((hb7.out.trans (h3.mono hb7.out.size)).setCell (p := ⟨p, 0, none⟩) hp3 _), h4.b3.cell 0, h4.b3.frozen 0⟩)
       have r7 : (w7.setCell ⟨p, 0, none⟩ (.slice x1 y1 s1)).cell? ⟨w.heap.size, 0, none⟩ = some (.slice a n c) := hpb7.out.b1.cell 0
       clear hn7 Hn7 h01 hb3 HM1 hpb7 hb7
       go_wp2_with fail
       refine HM2.out.mono ?_
       rintro ε w8 ⟨x2, y2, s2, rfl, hn8, hpb8, hb8, r8, r9⟩
       clear HM2
       go_wp2_with fail
       go_roundw
       case rel => exact ⟨k, _, _, _, _, by omega, rfl, rfl, hpb8, hn8, hb8⟩
       case measure => simp [intOf] <;> omega
 · have hE4 : 0 < E := by omega
   have d2 : decide (0 < E) = true := by simp; omega
   obtain ⟨Q, hQ⟩ : ∃ Q : Int, 9999 / E = Q := ⟨_, rfl⟩
   have hQ2 : Int.tdiv 9999 E = Q := by rw [Int.tdiv_eq_ediv_of_nonneg (by decide)]; exact hQ
   have hQ1 : 7 ≤ Q := by rw [← hQ]; exact (Int.le_ediv_iff_mul_le hE4).2 (by omega)
   have hQ3 : Q ≤ 9999 := by rw [← hQ]; exact Int.ediv_le_self _ (by decide)
   have d3 : decide (Q < LB - 1) = false := by simp; omega
   have d4 : IntKind.i64.wrap Q = Q := IntWalk.i64_in _ ⟨by omega, by omega⟩
   · have d6 : decide (1 < LB) = true := by simp; omega
     have d7 : IntKind.i64.wrap (LB - 1) = LB - 1 := IntWalk.i64_in _ ⟨by omega, by omega⟩
     have d8 : decide (Q < LB - 1) = false := by simp; omega
     have d9 : ¬ Q < LB - 1 := by omega
     clear d3
     go_enter Tryz.func61, Tryz.ntmps61
     go_wp2_with fail
     refine wp_region_held_drew (S := (fun w' => w'.cell? ⟨w.heap.size, 0, none⟩ = some (.slice a n c))) (by kernel_rfl) ?_ (fun hHeld => ?_)
     · exact q1
     refine tkA 0 ⟨some 11, .move (.tmp 1), 3, "nat.go:237", #[], none⟩ ?_ (Or.inl ⟨by rfl, ?_⟩) ?_
     rotate_left
     · intro w hSw; (try dsimp only at hSw); go_simp; (try with_reducible rfl)
     try simp only [las]
     refine tkA 1 ⟨some 12, .binOp .gtr 3 (.tmp 11) (.const (.int .i64 5000)) 3, 4, "nat.go:237", #[⟨0, .data⟩], none⟩ ?_ (Or.inl ⟨by rfl, ?_⟩) ?_
     rotate_left
     · intro w hSw; (try dsimp only at hSw); go_simp; (try with_reducible rfl)
     try simp only [las]
     refine tkA 2 ⟨some 13, .move (.tmp 12), 4, "nat.go:237", #[⟨1, .data⟩], none⟩ ?_ (Or.inl ⟨by rfl, ?_⟩) ?_
     rotate_left
     · intro w hSw; (try dsimp only at hSw); go_simp; (try with_reducible rfl)
     try simp only [las]
     refine tkA 3 ⟨some 14, .move (.tmp 1), 3, "nat.go:237", #[⟨2, .guard⟩], some (2, false)⟩ ?_ (Or.inl ⟨by rfl, ?_⟩) ?_
     rotate_left
     · intro w hSw; (try dsimp only at hSw); go_simp; (try with_reducible rfl)
     try simp only [las]
     refine tkA 4 ⟨some 15, .binOp .gtr 3 (.tmp 14) (.const (.int .i64 0)) 3, 4, "nat.go:237", #[⟨3, .data⟩, ⟨2, .guard⟩], some (2, false)⟩ ?_ (Or.inl ⟨by rfl, ?_⟩) ?_
     rotate_left
     · intro w hSw; (try dsimp only at hSw); go_simp; (try with_reducible rfl)
     try simp only [las]
     refine tkA 5 ⟨some 16, .move (.tmp 15), 4, "nat.go:237", #[⟨4, .data⟩, ⟨2, .chain⟩, ⟨2, .guard⟩], some (2, false)⟩ ?_ (Or.inl ⟨by rfl, ?_⟩) ?_
     rotate_left
     · intro w hSw; (try dsimp only at hSw); go_simp; (try with_reducible rfl)
     try simp only [las]
     refine tkA 6 ⟨some 17, .load 25 (.tmp 2), 25, "nat.go:237", #[⟨5, .guard⟩], some (5, true)⟩ ?_ (Or.inl ⟨by rfl, ?_⟩) ?_
     rotate_left
     · intro w hSw; (try dsimp only at hSw); go_simp; (try with_reducible rfl)
     try simp only [las]
     refine wpAnyH_ready (rs := [7]) (by kernel_rfl) (by simp) ?_
     refine AllReadyH.cons (o := _) rfl (fun K hK => ?_) AllReadyH.nil
     go_simp
     go_at_call 91; refine (HBits.out _ hd2).mono ?_; rintro e w6 ⟨rfl, hb6⟩
     refine hK.out _ _ ?_ (fun hHeld => ?_)
     · exact HS.out _ ‹_›
     clear hK K
     try simp only [las]
     refine tkA 8 ⟨some 19, .binOp .gtr 3 (.tmp 18) (.const (.int .i64 1)) 3, 4, "nat.go:237", #[⟨7, .data⟩, ⟨5, .guard⟩], some (5, true)⟩ ?_ (Or.inl ⟨by rfl, ?_⟩) ?_
     rotate_left
     · intro w hSw; (try dsimp only at hSw); go_simp; (try with_reducible rfl)
     try simp only [las]
     refine tkA 9 ⟨some 20, .pick (.tmp 16) (.tmp 19) (.const (.bool false)), 4, "nat.go:237", #[⟨5, .data⟩, ⟨8, .data⟩, ⟨2, .guard⟩], some (2, false)⟩ ?_ (Or.inl ⟨by rfl, ?_⟩) ?_
     rotate_left
     · intro w hSw; (try dsimp only at hSw); go_simp; (try with_reducible rfl)
     try simp only [las]
     refine tkA 10 ⟨some 21, .move (.tmp 20), 4, "nat.go:237", #[⟨9, .data⟩, ⟨7, .chain⟩, ⟨2, .guard⟩], some (2, false)⟩ ?_ (Or.inl ⟨by rfl, ?_⟩) ?_
     rotate_left
     · intro w hSw; (try dsimp only at hSw); go_simp; (try with_reducible rfl)
     try simp only [las]
     refine tkA 11 ⟨some 22, .load 25 (.tmp 2), 25, "nat.go:237", #[⟨10, .guard⟩], some (10, true)⟩ ?_ (Or.inl ⟨by rfl, ?_⟩) ?_
     rotate_left
     · intro w hSw; (try dsimp only at hSw); go_simp; (try with_reducible rfl)
     try simp only [las]
     refine tkA 14 ⟨some 25, .move (.tmp 1), 3, "nat.go:237", #[⟨10, .guard⟩], some (10, true)⟩ ?_ (Or.inl ⟨by rfl, ?_⟩) ?_
     rotate_left
     · intro w hSw; (try dsimp only at hSw); go_simp; (try with_reducible rfl)
     try simp only [las]
     refine tkA 15 ⟨some 26, .binOp .quo 3 (.const (.int .i64 9999)) (.tmp 25) 3, 3, "nat.go:237", #[⟨14, .data⟩, ⟨10, .guard⟩], some (10, true)⟩ ?_ (Or.inl ⟨by rfl, ?_⟩) ?_
     rotate_left
     · intro w hSw; (try dsimp only at hSw); go_simp; (try with_reducible rfl)
     try simp only [las]
     refine wpAnyH_ready (rs := [12]) (by kernel_rfl) (by simp) ?_
     refine AllReadyH.cons (o := _) rfl (fun K hK => ?_) AllReadyH.nil
     go_simp
     go_at_call 91; refine (HBits.out _ hb6).mono ?_; rintro e w7 ⟨rfl, hb7⟩
     refine hK.out _ _ ?_ (fun hHeld => ?_)
     · exact HS.out _ ‹_›
     clear hK K
     try simp only [las]
     refine tkA 13 ⟨some 24, .binOp .sub 3 (.tmp 23) (.const (.int .i64 1)) 3, 3, "nat.go:237", #[⟨12, .data⟩, ⟨10, .guard⟩], some (10, true)⟩ ?_ (Or.inl ⟨by rfl, ?_⟩) ?_
     rotate_left
     · intro w hSw; (try dsimp only at hSw); go_simp; (try with_reducible rfl)
     try simp only [las]
     refine tkA 16 ⟨some 27, .binOp .gtr 3 (.tmp 24) (.tmp 26) 3, 4, "nat.go:237", #[⟨13, .data⟩, ⟨15, .data⟩, ⟨10, .guard⟩], some (10, true)⟩ ?_ (Or.inl ⟨by rfl, ?_⟩) ?_
     rotate_left
     · intro w hSw; (try dsimp only at hSw); go_simp; (try with_reducible rfl)
     try simp only [las]
     refine tkA 17 ⟨some 28, .pick (.tmp 21) (.tmp 27) (.const (.bool false)), 4, "nat.go:237", #[⟨10, .data⟩, ⟨16, .data⟩, ⟨2, .guard⟩], some (2, false)⟩ ?_ (Or.inl ⟨by rfl, ?_⟩) ?_
     rotate_left
     · intro w hSw; (try dsimp only at hSw); go_simp; (try with_reducible rfl)
     try simp only [las]
     refine tkA 18 ⟨some 29, .pick (.tmp 13) (.const (.bool true)) (.tmp 28), 4, "nat.go:237", #[⟨2, .data⟩, ⟨17, .data⟩], none⟩ ?_ (Or.inl ⟨by rfl, ?_⟩) ?_
     rotate_left
     · intro w hSw; (try dsimp only at hSw); go_simp; (try with_reducible rfl)
     try simp only [las]
     refine wpAnyH_done (by kernel_rfl) ?_ _
     have HK3 : ∀ wx, Below W2.heap.size W2 wx → Hid (Below W2.heap.size W2 wx) := fun wx h => Lib.hid h
     have HB3 := Lib.hid hb7
     have hs3 := hb7.size
     clear hb7 HBits HS q1 hd2
     go_wp2_with fail
     refine (of_any 1 (by decide) _).mono ?_
     rintro e w4 h4
     obtain ⟨x4, y4, z4, rfl, hN4, hb4⟩ := gaveV h4
     have HPB : Hid (PB w (w4.alloc (.cells #[.slice x4 y4 z4] 25)) w4.heap.size (.slice a n c) (.slice x4 y4 z4)) := Lib.hid (by
      have hb24 := HB3.out.trans (hb4.mono hs3)
      have hB := hb24.alloc hb24.size (.cells #[.slice x4 y4 z4] 25)
      exact ⟨HK.out.1.below hB (by omega), HK.out.2.1.below hB (by omega), Blk.new w4 _ _, HK.out.2.2.trans (hB.mono (by omega))⟩)
     have HB5 : Hid (Below W2.heap.size W2 (w4.alloc (.cells #[.slice x4 y4 z4] 25))) := Lib.hid (by
      have hb24 := HB3.out.trans (hb4.mono hs3)
      exact hb24.alloc hb24.size _)
     have HN5 : Hid (IsN (w4.alloc (.cells #[.slice x4 y4 z4] 25)) (.agg #[.slice x4 y4 z4]) (N ^ (e / 2 ^ L))) := Lib.hid (by
      rw [hLe.out, Nat.pow_zero]
      exact hN4.below ((Below.refl _ w4).alloc (Nat.le_refl _) _) (Nat.le_refl _))
     obtain ⟨p, hp⟩ : ∃ p, w4.heap.size = p := ⟨_, rfl⟩
     have hs4 := hb4.size
     have hp2 : w.heap.size + 2 ≤ p := by omega
     have hp3 : W2.heap.size ≤ p := by omega
     obtain ⟨W5, hW5⟩ : ∃ W5, w4.alloc (.cells #[.slice x4 y4 z4] 25) = W5 := ⟨_, rfl⟩
     rw [hW5] at HPB HB5 HN5
     rw [hp] at HPB
     have Hp := Lib.hid hp; have HW5 := Lib.hid hW5
     clear h4 hb4 hN4 hp hW5 hs4 HB3 HK HK3
     go_wp2_with fail
     rw [HW5.out, Hp.out]
     refine (HLen.out _).mono ?_
     rintro e w6 ⟨rfl, rfl⟩
     go_wp2_with fail
     go_loopw [7] (fun iv wr => ∃ (k : Nat) (z : Int) (x : Option Addr) (y s : Nat), k ≤ L ∧ z = (k : Int) - 1 ∧ iv = .int .i64 z ∧ Hid (PB w wr p (.slice a n c) (.slice x y s)) ∧ Hid (IsN wr (.agg #[.slice x y s]) (N ^ (e / 2 ^ k))) ∧ Hid (Below W2.heap.size W2 wr)) (fun iv _ => (intOf iv + 1).toNat)
     case atStart => exact ⟨L, _, x4, y4, z4, Nat.le_refl _, rfl, rfl, HPB, HN5, HB5⟩
     case round =>
      clear HPB HN5 HB5
      obtain ⟨k, z, x, y, s, hk, hz, rfl, hpb, hn, hb⟩ := hrel
      have r1 : wr.cell? ⟨p, 0, none⟩ = some (.slice x y s) := hpb.out.b3.cell 0
      cases k with
      | zero =>
       have hzn : ¬ (0 : Int) ≤ z := by omega
       clear hz
       rw [Nat.pow_zero, Nat.div_one] at hn
       have HBt : Hid (Calls Tryz.prog 91 #[.agg #[.slice x y s]] wr fun ε w' => ∃ Z : Int, ε = .returned (.int .i64 Z) ∧ ¬ 10000 < Z ∧ Below wr.heap.size wr w') := Lib.hid ((bits_any _ _ wr hn.out).mono fun ε w' h => by
        obtain ⟨L', h1, h2, _, h3⟩ := h
        have : L' ≤ 5201 := lenP h2 HN4_.out he
        exact ⟨_, h1, by omega, h3⟩)
       go_wp2_with fail
       refine HBt.out.mono ?_
       rintro ε w7 ⟨Z, rfl, hZ, hb7⟩
       have hd : decide (10000 < Z) = false := by simp; omega
       have hs : wr.heap.size ≤ w7.heap.size := hb7.size
       have hpl := hpb.out.b3.lt
       have hpb7 := hpb.out.below hb7 hp2 hpl
       have r2 : w7.cell? ⟨p, 0, none⟩ = some (.slice x y s) := hpb7.b3.cell 0
       have r3 : w7.cell? ⟨w.heap.size + 1, 0, none⟩ = some (.slice none 0 0) := hpb7.b2.cell 0
       have r4 : w7.frozen? ⟨w.heap.size + 1, 0, none⟩ = false := hpb7.b2.frozen 0
       have Hk2 : Hid (Blk (w7.setCell ⟨w.heap.size + 1, 0, none⟩ (.slice x y s)) (w.heap.size + 1) 25 #[.slice x y s]) := Lib.hid (hpb7.b2.set_ 0 _)
       have HR : Hid (PowIs (N ^ e) w (.returned (.tuple #[.agg #[.slice x y s], .int .i64 0])) (w7.setCell ⟨w.heap.size + 1, 0, none⟩ (.slice x y s))) := Lib.hid ⟨x, y, s, rfl, isN_set1 (hn.out.below hb7 (Nat.le_refl _)) (isN_box (hn.out.below hb7 (Nat.le_refl _)) hpb7.b2), hpb7.bel.setCell (p := ⟨w.heap.size + 1, 0, none⟩) (by show w.heap.size ≤ w.heap.size + 1; omega) _⟩
       clear hpb7 hb7 HBt hn hb hpb
       go_wp2_with fail
       refine bodyPost_ret (res_nat2 rfl _ _ (w.heap.size + 1) (.slice x y s) (.int .i64 0) rfl rfl Hk2.out) rfl ?_
       exact HR.out
      | succ k =>
       obtain rfl : z = (k : Int) := by omega
       clear hz
       have hpl := hpb.out.b3.lt
       have HM1 : Hid (Calls Tryz.prog 22 #[.agg #[.slice x y s], .agg #[.slice x y s]] wr fun ε w' => ∃ x1 y1 s1, ε = .returned (.agg #[.slice x1 y1 s1]) ∧ Hid (IsN (w'.setCell ⟨p, 0, none⟩ (.slice x1 y1 s1)) (.agg #[.slice x1 y1 s1]) (N ^ (e / 2 ^ (k + 1)) * N ^ (e / 2 ^ (k + 1)))) ∧ Hid (PB w (w'.setCell ⟨p, 0, none⟩ (.slice x1 y1 s1)) p (.slice a n c) (.slice x1 y1 s1)) ∧ Hid (Below W2.heap.size W2 (w'.setCell ⟨p, 0, none⟩ (.slice x1 y1 s1))) ∧ w'.cell? ⟨p, 0, none⟩ = some (.slice x y s) ∧ w'.frozen? ⟨p, 0, none⟩ = false) := Lib.hid (by
        have hq : e / 2 ^ (k + 1) ≤ 2600 := Nat.le_trans (Nat.div_le_self _ _) (by omega)
        have hB := num_big 5000 HN4_.out hq (by omega)
        refine (mul_any _ _ _ _ wr hn.out hn.out hB hB).mono fun ε w' h => ?_
        obtain ⟨x1, y1, s1, h1, h2, h3⟩ := gaveV h
        have h4 := hpb.out.below h3 hp2 hpl
        exact ⟨x1, y1, s1, h1, Lib.hid (isN_set1 h2 (isN_box h2 h4.b3)), Lib.hid (h4.set hp2 _), Lib.hid ((hb.out.trans (h3.mono hb.out.size)).setCell (p := ⟨p, 0, none⟩) hp3 _), h4.b3.cell 0, h4.b3.frozen 0⟩)
       have hb3 : Hid (e / 2 ^ k % 2 = 0 ∨ e / 2 ^ k % 2 = 1) := Lib.hid (by omega)
       clear hn hb hpb
       go_wp2_with fail
       refine HM1.out.mono ?_
       rintro ε w7 ⟨x1, y1, s1, rfl, hn7, hpb7, hb7, r5, r6⟩
       have Hn7 := Lib.hid hn7
       rcases hb3.out with h01 | h01
       · have hbit : bits .and .i64 (E / 2 ^ k) 1 = 0 := by rw [bit_of HE.out (by omega), h01]; rfl
         have hn8 : Hid (IsN (w7.setCell ⟨p, 0, none⟩ (.slice x1 y1 s1)) (.agg #[.slice x1 y1 s1]) (N ^ (e / 2 ^ k))) := Lib.hid (by
          have h1 := hn7.out
          have h2 := half_powN N e k
          rw [h01, Nat.pow_zero, Nat.mul_one] at h2
          rw [h2] at h1
          exact h1)
         clear hn7 Hn7 h01 hb3 HM1
         go_wp2_with fail
         go_roundw
         case rel => exact ⟨k, _, _, _, _, by omega, rfl, rfl, hpb7, hn8, hb7⟩
         case measure => simp [intOf] <;> omega
       · have hbit : bits .and .i64 (E / 2 ^ k) 1 = 1 := by rw [bit_of HE.out (by omega), h01]; rfl
         have hpl7 := hpb7.out.b3.lt
         have HM2 : Hid (Calls Tryz.prog 22 #[.agg #[.slice x1 y1 s1], .agg #[.slice a n c]] (w7.setCell ⟨p, 0, none⟩ (.slice x1 y1 s1)) fun ε w' => ∃ x2 y2 s2, ε = .returned (.agg #[.slice x2 y2 s2]) ∧ Hid (IsN (w'.setCell ⟨p, 0, none⟩ (.slice x2 y2 s2)) (.agg #[.slice x2 y2 s2]) (N ^ (e / 2 ^ k))) ∧ Hid (PB w (w'.setCell ⟨p, 0, none⟩ (.slice x2 y2 s2)) p (.slice a n c) (.slice x2 y2 s2)) ∧ Hid (Below W2.heap.size W2 (w'.setCell ⟨p, 0, none⟩ (.slice x2 y2 s2))) ∧ w'.cell? ⟨p, 0, none⟩ = some (.slice x1 y1 s1) ∧ w'.frozen? ⟨p, 0, none⟩ = false) := Lib.hid (by
          have hB : N ^ (e / 2 ^ (k + 1)) * N ^ (e / 2 ^ (k + 1)) < 18446744073709551616 ^ 5000 := by
           rw [← Nat.pow_add]
           have h2 : e / 2 ^ (k + 1) ≤ e := Nat.div_le_self _ _
           exact num_big 5000 HN4_.out (by omega) (by omega)
          have hB2 : N < 18446744073709551616 ^ 5000 := by have := num_big (m := 1) 5000 HN4_.out (by omega) (by omega); rwa [Nat.pow_one] at this
          refine (mul_any _ _ _ _ _ hn7.out (HN.out.below hb7.out (Nat.le_refl _)) hB hB2).mono fun ε w' h => ?_
          obtain ⟨x2, y2, s2, h1, h2, h3⟩ := gaveV h
          have h4 := hpb7.out.below h3 hp2 hpl7
          have e9 := half_powN N e k
          rw [h01, Nat.pow_one] at e9
          rw [e9] at h2
          exact ⟨x2, y2, s2, h1, Lib.hid (isN_set1 h2 (isN_box h2 h4.b3)), Lib.hid (h4.set hp2 _), Lib.hid ((hb7.out.trans (h3.mono hb7.out.size)).setCell (p := ⟨p, 0, none⟩) hp3 _), h4.b3.cell 0, h4.b3.frozen 0⟩)
         have r7 : (w7.setCell ⟨p, 0, none⟩ (.slice x1 y1 s1)).cell? ⟨w.heap.size, 0, none⟩ = some (.slice a n c) := hpb7.out.b1.cell 0
         clear hn7 Hn7 h01 hb3 HM1 hpb7 hb7
         go_wp2_with fail
         refine HM2.out.mono ?_
         rintro ε w8 ⟨x2, y2, s2, rfl, hn8, hpb8, hb8, r8, r9⟩
         clear HM2
         go_wp2_with fail
         go_roundw
         case rel => exact ⟨k, _, _, _, _, by omega, rfl, rfl, hpb8, hn8, hb8⟩
         case measure => simp [intOf] <;> omega


end Go.Proofs.YtggmnmmjmihnfaaGreatDoor
