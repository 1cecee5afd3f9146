/-
  Law 1: the first call of the statements, whose answer the document fixes: it answers true.
-/
import Derived.Test.YtikbhcndgmanmaaDoorNDig
namespace Go.Proofs.YtikbhcndgmanmaaDoor
open Go.RowKit
set_option linter.unusedVariables false
theorem run_equalIn_func_nil {P : Program} (d : Nat) (t : TypeId) (f : Fn) (xs ys : Array Value) (a b : Array TypeId) (c : Bool) (h : P.underlying t = some (.func a b c)) (w : World) : (Op.equalIn (d + 1) t (.func f xs ys) .nilFunc).run P w = .ok false w := by
  simp [Op.equalIn, run_underlying h]
def isFunc (x : Option TypeDesc) : Bool := match x with | some (.func ..) => true | _ => false
theorem run_eql_func_nil {P : Program} (t : TypeId) (f : Fn) (xs ys : Array Value) (h : isFunc (P.underlying t) = true) (w : World) : (binOp .eql t (.func f xs ys) .nilFunc).run P w = .ok (.bool false) w := by
  have ⟨a, b, c, h⟩ : ∃ a b c, P.underlying t = some (.func a b c) := by
    unfold isFunc at h
    split at h
    · exact ⟨_, _, _, by assumption⟩
    · cases h
  have e : (Op.equal t (.func f xs ys) .nilFunc).run P w = .ok false w := run_equalIn_func_nil 9999 t f xs ys a b c h w
  simp only [binOp]
  simp [e]
theorem IsN.drew {w : World} {v : Value} {N : Nat} (h : IsN w v N) : IsN w.drew v N := h
def GaveV (N : Nat) (w : World) (e : Ending) (w' : World) : Prop := ∃ x y z, e = .returned (.agg #[.slice x y z]) ∧ IsN w' (.agg #[.slice x y z]) N ∧ Below w.heap.size w w'
theorem gaveV {N : Nat} {w : World} {e : Ending} {w' : World} (h : GaveN N w e w') : GaveV N w e w' := by
  obtain ⟨v, rfl, h2, h3⟩ := h
  obtain ⟨x, y, z, rfl⟩ := isN_form h2
  exact ⟨x, y, z, rfl, h2, h3⟩
set_option maxRecDepth 100000 in
theorem halves_fn (a : Option Addr) (n c : Nat) (w : World) :
    Calls Tryd.prog 34 #[.agg #[.slice a n c]] w fun e w' => e = .returned (.func (.func 55) #[] #[.pointer (some ⟨w.heap.size, 0, none⟩)]) ∧ w.alloc (.cells #[.slice a n c] 30) = w' := by
  go_enter Tryd.func34, Tryd.ntmps34
  go_wp2
  go_ret
  exact ⟨rfl, rfl⟩
def s20 : ByteArray := ⟨#[57, 57, 57, 57, 57, 57, 57, 57, 57, 57, 57, 57, 57, 57, 57, 57, 57, 57, 57, 57]⟩
theorem wf_s20 : WF s20 := wf_nines (n := 20) rfl (by decide)
theorem dv_s20 : dv s20.data.toList = 99999999999999999999 := by
  have h := dv_nines 20
  have e : s20.data.toList = List.replicate 20 57 := rfl
  rw [e]
  have e2 : (10 : Nat) ^ 20 = 100000000000000000000 := by decide
  omega
theorem text_alive : (⟨(Lib.decDigits 999999999999999999990).toArray⟩ : ByteArray) = ⟨#[57, 57, 57, 57, 57, 57, 57, 57, 57, 57, 57, 57, 57, 57, 57, 57, 57, 57, 57, 57, 48]⟩ := by
  have h := dec_dv 21 [57, 57, 57, 57, 57, 57, 57, 57, 57, 57, 57, 57, 57, 57, 57, 57, 57, 57, 57, 57, 48] rfl (by
    intro b hb
    simp only [List.mem_cons, List.not_mem_nil, or_false] at hb
    rcases hb with h | h | h | h | h | h | h | h | h | h | h | h | h | h | h | h | h | h | h | h | h <;> subst h <;> exact ⟨by decide, by decide⟩) (by decide) (by decide)
  have e : dv [57, 57, 57, 57, 57, 57, 57, 57, 57, 57, 57, 57, 57, 57, 57, 57, 57, 57, 57, 57, 48] = 999999999999999999990 := by decide
  rw [e] at h
  rw [h]
theorem lt_big (x k : Nat) (h : x < 18446744073709551616 ^ 2) (hk : 2 ≤ k) : x < 18446744073709551616 ^ k := Nat.lt_of_lt_of_le h (Nat.pow_le_pow_right (by decide) hk)
/-- What holds on throughout the last test. -/
structure AtA (w w7 : World) (a : Value) (W : World) : Prop where
  num : IsN W a 99999999999999999999
  b0 : Below w.heap.size w W
  b7 : Below w7.heap.size w7 W
theorem AtA.below {w w7 : World} {a : Value} {W W' : World} (h : AtA w w7 a W) (hb : Below W.heap.size W W') : AtA w w7 a W' := ⟨h.num.below hb (Nat.le_refl _), h.b0.trans (hb.mono h.b0.size), h.b7.trans (hb.mono h.b7.size)⟩
set_option maxRecDepth 100000 in
set_option maxHeartbeats 2000000 in
theorem alive_any (w : World) (htab : Tab w) : Calls Tryd.prog 6 #[] w fun e w' => e = .returned (.bool true) ∧ Below w.heap.size w w' := by
  obtain ⟨n, hn⟩ : ∃ n, w.heap.size = n := ⟨_, rfl⟩
  have HT := Lib.hid htab
  have HN := Lib.hid hn
  have HP : Hid (Calls Tryd.prog 36 #[.string ⟨#[57, 57, 57, 57, 57, 57, 57, 57, 57, 57, 57, 57, 57, 57, 57, 57, 57, 57, 57, 57]⟩] w fun e w' => ∃ x y z, e = .returned (.tuple #[.agg #[.slice x y z], .int .i64 0]) ∧ IsN w' (.agg #[.slice x y z]) 99999999999999999999 ∧ Below n w w') := Lib.hid (by
    refine (parse_any s20 w (by decide)).mono ?_
    rintro e w' ⟨⟨_, _, v, rfl, hN⟩ | ⟨h, _⟩ | ⟨_, h, _⟩, hb⟩
    · obtain ⟨x, y, z, rfl⟩ := isN_form hN
      rw [dv_s20] at hN
      rw [hn] at hb
      exact ⟨x, y, z, rfl, hN, hb⟩
    · exact absurd wf_s20 h
    · exact absurd h (by decide))
  rw [hn]
  clear htab hn
  go_enter Tryd.func6, Tryd.ntmps6
  go_wp2_with fail
  refine HP.out.mono ?_
  rintro e w1 ⟨x, y, z, rfl, hN1, hb1⟩
  have hn1 : n ≤ w1.heap.size := by have := hb1.size; have := HN.out; omega
  obtain ⟨W2, hW2⟩ : ∃ W2, w1.alloc (.cells #[.slice x y z] 30) = W2 := ⟨_, rfl⟩
  obtain ⟨b, hbb⟩ : ∃ b, w1.heap.size = b := ⟨_, rfl⟩
  have HK2 : Hid (Blk W2 b 30 #[.slice x y z]) := Lib.hid (by rw [← hW2, ← hbb]; exact Blk.new w1 _ _)
  have hb2 : Below b w1 W2 := by rw [← hW2]; exact (Below.refl _ w1).alloc (by omega) _
  have HN2 := Lib.hid (hN1.below hb2 (by omega))
  have HB2 := Lib.hid (hb1.trans (hb2.mono (by omega)))
  have hs2 : W2.heap.size = b + 1 := by rw [← hW2, ← hbb]; simp
  clear hN1 hb1 hb2 HP
  go_wp2_with fail
  refine (of_any 6 (by decide) W2).mono ?_
  rintro e w3 h3
  obtain ⟨x3, y3, z3, rfl, hN3, hb3⟩ := gaveV h3
  rw [hs2] at hb3
  have HK3 := Lib.hid (HK2.out.below hb3 (by omega))
  have HN3 := Lib.hid (HN2.out.below hb3 (by omega))
  have hs3 := hb3.size
  have HB3 := Lib.hid (HB2.out.trans (hb3.mono (by omega)))
  have H63 := Lib.hid hN3
  clear h3 hb3 hN3 HK2 HN2 HB2 hW2
  go_wp2_with fail
  refine (halves_fn x3 y3 z3 w3).mono ?_
  rintro e w4 ⟨rfl, hw4⟩
  have hb4 : Below w3.heap.size w3 w4 := by rw [← hw4]; exact (Below.refl _ w3).alloc (Nat.le_refl _) _
  obtain ⟨q, hq⟩ : ∃ q, w3.heap.size = q := ⟨_, rfl⟩
  have hk4 : Blk w4 q 30 #[.slice x3 y3 z3] := by rw [← hw4, ← hq]; exact Blk.new w3 _ _
  rw [hq] at hb4 hs3 ⊢
  have HK4 := Lib.hid (HK3.out.below hb4 (by omega))
  have HN4 := Lib.hid (HN3.out.below hb4 (by omega))
  have HB4 := Lib.hid (HB3.out.trans (hb4.mono (by omega)))
  have hs4 : q < w4.heap.size := hk4.lt
  have HHv := Lib.hid (halves_any q 6 x3 y3 z3 0 w4 hs4 (hk4.cell 0) (H63.out.below hb4 (by omega)))
  have hnil : ∀ wx, (binOp .eql 60 (.func (.func 55) #[] #[.pointer (some ⟨q, 0, none⟩)]) .nilFunc).run Tryd.prog wx = .ok (.bool false) wx := fun wx => run_eql_func_nil _ _ _ _ (by kernel_rfl) wx
  clear hw4 hb4 hk4 HK3 HN3 HB3 H63
  go_wp2_with fail
  refine HHv.out.mono ?_
  rintro e w5 ⟨v5, xs5, k5, rfl, hk5, ho5, hb5⟩
  have hk3 : k5 = 3 := by
    have h6 : (hlv 6).length = 3 := hlv_len 3 6 ⟨by decide, fun _ => by decide⟩
    rw [h6] at hk5
    omega
  subst hk3
  obtain ⟨a5, c5, rfl⟩ : ∃ a c, v5 = .slice a 3 c := by
    rcases ho5.2 with ⟨_, h0⟩ | ⟨g, cap, _, rfl, _⟩
    · omega
    · exact ⟨_, _, rfl⟩
  have HK5 := Lib.hid (HK4.out.below hb5 (by omega))
  have HN5 := Lib.hid (HN4.out.below hb5 (by omega))
  have HB5 := Lib.hid (HB4.out.trans (hb5.mono (by omega)))
  have hs5 := hb5.size
  clear hk5 ho5 hb5 HHv hnil HK4 HN4 HB4
  go_wp2_with fail
  refine (of_any 7 (by decide) w5).mono ?_
  rintro e w6 h6
  obtain ⟨x6, y6, z6, rfl, hN6, hb6⟩ := gaveV h6
  have HK6 := Lib.hid (HK5.out.below hb6 (by omega))
  have HN6 := Lib.hid (HN5.out.below hb6 (by omega))
  have HB6 := Lib.hid (HB5.out.trans (hb6.mono (by omega)))
  have hs6 := hb6.size
  have HSm : Hid (Calls Tryd.prog 22 #[.agg #[.slice x6 y6 z6]] w6 fun e w' => e = .returned (.tuple #[.int .u64 7, .bool true]) ∧ Below w6.heap.size w6 w') := Lib.hid ((small_any 7 _ w6 hN6).mono fun e w' h => ⟨by rcases h.1 with h | h; exact h.2; exact absurd h.1 (by decide), h.2⟩)
  clear h6 hb6 hN6 HK5 HN5 HB5
  go_wp2_with fail
  refine HSm.out.mono ?_
  rintro e w7 ⟨rfl, hb7⟩
  have hK7 := HK6.out.below hb7 (by omega)
  have HN7 := Lib.hid (HN6.out.below hb7 (by omega))
  have HB7 := Lib.hid (HB6.out.trans (hb7.mono (by omega)))
  have hs7 : n ≤ w7.heap.size := by have := hb7.size; omega
  have q7 : w7.drew.cell? ⟨b, 0, none⟩ = some (.slice x y z) := hK7.cell 0
  obtain ⟨av, hav⟩ : ∃ av, Value.agg #[.slice x y z] = av := ⟨_, rfl⟩
  have HS : Hid (∀ W, AtA w w7 av W → W.cell? ⟨b, 0, none⟩ = some (.slice x y z)) := Lib.hid (fun W h => (hK7.below h.b7 hK7.lt).cell 0)
  have HA7 : AtA w w7 av w7.drew := ⟨by rw [← hav]; exact HN7.out.drew, by rw [HN.out]; exact HB7.out.drew, (Below.refl _ _).drew⟩
  have HOf : Hid (∀ (k : Int), k = 10 ∨ k = 6 → ∀ W, AtA w w7 av W → Calls Tryd.prog 27 #[.int .u64 k] W fun e w' => ∃ x y z, e = .returned (.agg #[.slice x y z]) ∧ IsN w' (.agg #[.slice x y z]) k.toNat ∧ AtA w w7 av w') := Lib.hid (fun k hk W hA => by
    have := (of_any k.toNat (by omega) W).mono (fun _ _ h => gaveV h)
    rw [show ((k.toNat : Nat) : Int) = k by omega] at this
    refine this.mono ?_
    rintro e w' ⟨x, y, z, h1, h2, h3⟩
    exact ⟨x, y, z, h1, h2, hA.below h3⟩)
  have HMul : Hid (∀ W x' y' z', IsN W (.agg #[.slice x' y' z']) (Int.toNat 10) → AtA w w7 av W → Calls Tryd.prog 15 #[.agg #[.slice x y z], .agg #[.slice x' y' z']] W fun e w' => ∃ x y z, e = .returned (.agg #[.slice x y z]) ∧ IsN w' (.agg #[.slice x y z]) 999999999999999999990 ∧ AtA w w7 av w') := Lib.hid (fun W x' y' z' h10 hA => by
    have h25 : 2 ≤ 5000 := by decide
    have h2 : (99999999999999999999 : Nat) < 18446744073709551616 ^ 2 := by decide
    have h3 : Int.toNat 10 < 18446744073709551616 ^ 2 := by decide
    refine (mul_any _ _ _ _ W (by rw [hav]; exact hA.num) h10 (lt_big 99999999999999999999 5000 h2 h25) (lt_big (Int.toNat 10) 5000 h3 h25)).mono fun e w' h => ?_
    obtain ⟨x, y, z, g1, g2, g3⟩ := gaveV h
    exact ⟨x, y, z, g1, g2, hA.below g3⟩)
  have HText : Hid (∀ W x' y' z', IsN W (.agg #[.slice x' y' z']) 999999999999999999990 → AtA w w7 av W → Calls Tryd.prog 37 #[.agg #[.slice x' y' z']] W fun e w' => e = .returned (.string ⟨#[57, 57, 57, 57, 57, 57, 57, 57, 57, 57, 57, 57, 57, 57, 57, 57, 57, 57, 57, 57, 48]⟩) ∧ AtA w w7 av w') := Lib.hid (fun W x' y' z' hN hA => (text_any _ _ W hN (HT.out.below hA.b0 (Nat.le_refl _))).mono fun e w' h => ⟨by rw [h.1, text_alive], hA.below h.2⟩)
  have HBits : Hid (∀ W x' y' z', IsN W (.agg #[.slice x' y' z']) (Int.toNat 6) → AtA w w7 av W → Calls Tryd.prog 23 #[.agg #[.slice x' y' z']] W fun e w' => e = .returned (.int .i64 3) ∧ AtA w w7 av w') := Lib.hid (fun W x' y' z' hN hA => (bits_any _ _ W hN).mono fun e w' ⟨L, h1, h2, _, h3⟩ => ⟨by
    have : L = 3 := h2.inj ⟨by decide, fun _ => by decide⟩
    subst this
    exact h1, hA.below h3⟩)
  have HN' := HN.out
  clear hb7 hK7 HSm HK6 HN6 HB6 HN7 HB7 hav
  go_wp2_with fail
  go_region_held3 (fun w' => w'.cell? ⟨b, 0, none⟩ = some (.slice x y z))
    (first | exact q7 | exact HS.out _ ‹_› | go_keep)
    (first
      | (go_at_call 27; refine (HOf.out _ (by decide) _ (by assumption)).mono ?_; rintro e w8 ⟨x8, y8, z8, rfl, hN8, hA8⟩)
      | (go_at_call 15; refine (HMul.out _ _ _ _ (by assumption) (by assumption)).mono ?_; rintro e w8 ⟨x8, y8, z8, rfl, hN8, hA8⟩)
      | (go_at_call 37; refine (HText.out _ _ _ _ (by assumption) (by assumption)).mono ?_; rintro e w8 ⟨rfl, hA8⟩)
      | (go_at_call 23; refine (HBits.out _ _ _ _ (by assumption) (by assumption)).mono ?_; rintro e w8 ⟨rfl, hA8⟩))
  have HA9 := Lib.hid hA8
  go_wp2_with fail
  go_ret
  exact ⟨rfl, by rw [← HN.out]; exact HA9.out.b0⟩
end Go.Proofs.YtikbhcndgmanmaaDoor
