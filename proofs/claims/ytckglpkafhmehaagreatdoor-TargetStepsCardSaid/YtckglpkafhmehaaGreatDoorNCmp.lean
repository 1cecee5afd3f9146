/-
  Law 1: words that are shifted.
  Law 1: a number shifted down.
  Law 1: a shift down.
  Law 1: a number and its halves; blocks that lie apart from what a loop's body writes.
  Law 1: which of two numbers is greater.
-/
import Derived.Test.YtckglpkafhmehaaGreatDoorNBits
import Derived.RangeFuncBox
import Derived.RangeFuncNested
namespace Go.Proofs.YtckglpkafhmehaaGreatDoor
open Go.RowKit
set_option linter.unusedVariables false
theorem pow_part {p : Nat} (hp : p ≤ 64) : 2 ^ p * 2 ^ (64 - p) = 18446744073709551616 := by rw [← Nat.pow_add, show p + (64 - p) = 64 by omega]
/-- A word of a number that is shifted down. -/
def shw (p x y : Nat) : Nat := x / 2 ^ p + (y * 2 ^ (64 - p)) % 18446744073709551616
theorem shw_parts {p x y : Nat} (hp : p ≤ 63) (hx : x < 18446744073709551616) : x / 2 ^ p < 2 ^ (64 - p) ∧ (y * 2 ^ (64 - p)) % 18446744073709551616 = (y % 2 ^ p) * 2 ^ (64 - p) ∧ shw p x y < 18446744073709551616 := by
  have h1 := pow_part (p := p) (by omega)
  have h2 : 0 < 2 ^ p := Nat.two_pow_pos p
  have h3 : 0 < 2 ^ (64 - p) := Nat.two_pow_pos _
  have h4 : x / 2 ^ p < 2 ^ (64 - p) := by rw [Nat.div_lt_iff_lt_mul h2, Nat.mul_comm, h1]; exact hx
  have h5 : (y * 2 ^ (64 - p)) % 18446744073709551616 = (y % 2 ^ p) * 2 ^ (64 - p) := by rw [← h1, Nat.mul_mod_mul_right]
  refine ⟨h4, h5, ?_⟩
  unfold shw
  rw [h5]
  have h6 : y % 2 ^ p < 2 ^ p := Nat.mod_lt _ h2
  have h7 : (y % 2 ^ p + 1) * 2 ^ (64 - p) ≤ 2 ^ p * 2 ^ (64 - p) := Nat.mul_le_mul_right _ (by omega)
  rw [Nat.add_mul, Nat.one_mul, h1] at h7
  omega
theorem wv_mod {r : List Nat} {p : Nat} (hp : p ≤ 63) : wv r % 2 ^ p = r.getD 0 0 % 2 ^ p := by
  cases r with
  | nil => rfl
  | cons x r =>
    simp only [wv, List.getD_cons_zero]
    rw [← pow_part (p := p) (by omega), Nat.mul_assoc, Nat.add_mul_mod_self_left]
theorem shd_step {zs : List Nat} {p k : Nat} (hp : p ≤ 63) (hk : k < zs.length) : wv (zs.drop k) / 2 ^ p = shw p (zs.getD k 0) (zs.getD (k + 1) 0) + 18446744073709551616 * (wv (zs.drop (k + 1)) / 2 ^ p) := by
  have h0 : (zs.drop (k + 1)).getD 0 0 = zs.getD (k + 1) 0 := by rw [List.getD_eq_getElem?_getD, List.getElem?_drop, List.getD_eq_getElem?_getD]
  have h1 := drop_get zs k hk
  rw [h1]
  generalize zs.getD k 0 = x at *
  have h2 := wv_mod (r := zs.drop (k + 1)) hp
  rw [h0] at h2
  generalize zs.getD (k + 1) 0 = y at *
  simp only [wv]
  generalize wv (zs.drop (k + 1)) = R at *
  have hB := pow_part (p := p) (by omega)
  have hpos : 0 < 2 ^ p := Nat.two_pow_pos p
  unfold shw
  have h5 : (y * 2 ^ (64 - p)) % 18446744073709551616 = (y % 2 ^ p) * 2 ^ (64 - p) := by rw [← hB, Nat.mul_mod_mul_right]
  rw [h5, ← h2, ← hB]
  generalize 2 ^ (64 - p) = t at *
  rw [Nat.mul_assoc, Nat.add_mul_div_left _ _ hpos]
  have h6 := Nat.div_add_mod R (2 ^ p)
  generalize R / 2 ^ p = d at *
  generalize R % 2 ^ p = m at *
  rw [← h6, Nat.mul_add, Nat.mul_comm t m]
  have h7 : t * (2 ^ p * d) = 2 ^ p * t * d := by rw [Nat.mul_left_comm, Nat.mul_assoc]
  rw [h7]
  omega
/-- What the loop down keeps. -/
structure Sd (zs : List Nat) (p k : Nat) (ps : List Nat) : Prop where
  len : ps.length = k
  wrd : Wrd ps
  eq : wv ps + 18446744073709551616 ^ k * (wv (zs.drop k) / 2 ^ p) = wv zs / 2 ^ p
theorem sd_step {zs ps : List Nat} {p k : Nat} (hp : p ≤ 63) (hk : k < zs.length) (hw : Wrd zs) (h : Sd zs p k ps) : Sd zs p (k + 1) (ps ++ [shw p (zs.getD k 0) (zs.getD (k + 1) 0)]) := by
  refine ⟨by rw [List.length_append, h.len]; rfl, ?_, ?_⟩
  · intro u hu
    rcases List.mem_append.1 hu with hu | hu
    · exact h.wrd u hu
    · simp only [List.mem_singleton] at hu
      rw [hu]
      exact (shw_parts hp (getW hw k)).2.2
  · rw [← h.eq, shd_step hp hk, wv_append, h.len, Nat.mul_add, Nat.pow_succ, ← Nat.mul_assoc, ← Nat.add_assoc]
    simp [wv]
theorem sd_done {zs ps : List Nat} {p : Nat} (h : Sd zs p zs.length ps) : wv ps = wv zs / 2 ^ p := by
  have h1 := h.eq
  rw [List.drop_length] at h1
  simp only [wv, Nat.zero_div, Nat.mul_zero, Nat.add_zero] at h1
  exact h1
theorem wv_drop {us : List Nat} (hw : Wrd us) (k : Nat) : wv us / 18446744073709551616 ^ k = wv (us.drop k) := by
  have h1 : wv us = wv (us.take k) + 18446744073709551616 ^ (us.take k).length * wv (us.drop k) := by rw [← wv_append, List.take_append_drop]
  have hpos : 0 < 18446744073709551616 ^ k := Nat.pow_pos (by omega)
  by_cases hk : k ≤ us.length
  · have hl : (us.take k).length = k := by rw [List.length_take]; omega
    have h2 := wv_lt (us.take k) (fun u hu => hw u (List.mem_of_mem_take hu))
    rw [hl] at h1 h2
    rw [h1, Nat.add_mul_div_left _ _ hpos, Nat.div_eq_of_lt h2, Nat.zero_add]
  · rw [List.drop_of_length_le (by omega)]
    have h2 := wv_lt us hw
    have h3 : 18446744073709551616 ^ us.length ≤ 18446744073709551616 ^ k := Nat.pow_le_pow_right (by omega) (by omega)
    rw [Nat.div_eq_of_lt (by omega)]
    rfl
theorem shd_whole {us ps : List Nat} {d wh p : Nat} (hw : Wrd us) (hd : d = wh * 64 + p) (h : wv ps = wv (us.drop wh) / 2 ^ p) : wv ps = wv us / 2 ^ d := by
  rw [h, ← wv_drop hw, Nat.div_div_eq_div_mul, hd, Nat.pow_add]
  have e : 18446744073709551616 ^ wh = 2 ^ (wh * 64) := by rw [Nat.mul_comm, Nat.pow_mul]
  rw [e]
/-- What the loop up keeps: the row is A, then c, then noughts. -/
structure Su (us : List Nat) (p wh k : Nat) (A : List Nat) (c : Nat) : Prop where
  len : A.length = wh + k
  wrd : Wrd A
  clt : c < 2 ^ p
  eq : wv A + 18446744073709551616 ^ (wh + k) * c = wv (us.take k) * 2 ^ (wh * 64 + p)
theorem su_step {us A : List Nat} {p wh k c : Nat} (hp : p ≤ 63) (hw : Wrd us) (h : Su us p wh k A c) :
    c < 2 ^ p ∧ (us.getD k 0 * 2 ^ p) % 18446744073709551616 = (us.getD k 0 % 2 ^ (64 - p)) * 2 ^ p ∧ Su us p wh (k + 1) (A ++ [(us.getD k 0 * 2 ^ p) % 18446744073709551616 + c]) (us.getD k 0 / 2 ^ (64 - p)) := by
  have hx := getW hw k
  have he := h.eq
  have e1 := wv_take us k
  have hc := h.clt
  generalize us.getD k 0 = x at *
  have hB := pow_part (p := p) (by omega)
  have hpos : 0 < 2 ^ p := Nat.two_pow_pos p
  have hpos2 : 0 < 2 ^ (64 - p) := Nat.two_pow_pos _
  have h5 : (x * 2 ^ p) % 18446744073709551616 = (x % 2 ^ (64 - p)) * 2 ^ p := by
    have hB2 : 2 ^ (64 - p) * 2 ^ p = 18446744073709551616 := by rw [Nat.mul_comm]; exact hB
    rw [← hB2, Nat.mul_mod_mul_right]
  refine ⟨hc, h5, ?_⟩
  have h6 : x % 2 ^ (64 - p) < 2 ^ (64 - p) := Nat.mod_lt _ hpos2
  have h7 : (x % 2 ^ (64 - p) + 1) * 2 ^ p ≤ 2 ^ (64 - p) * 2 ^ p := Nat.mul_le_mul_right _ (by omega)
  rw [Nat.add_mul, Nat.one_mul, Nat.mul_comm (2 ^ (64 - p)), hB] at h7
  have h8 : x / 2 ^ (64 - p) < 2 ^ p := by rw [Nat.div_lt_iff_lt_mul hpos2, hB]; exact hx
  refine ⟨by rw [List.length_append, h.len]; rfl, ?_, h8, ?_⟩
  · intro u hu
    rcases List.mem_append.1 hu with hu | hu
    · exact h.wrd u hu
    · simp only [List.mem_singleton] at hu
      rw [hu, h5]
      omega
  · rw [wv_append, h.len, e1, Nat.add_mul, ← he, h5]
    have h9 := Nat.div_add_mod x (2 ^ (64 - p))
    have e2 : 18446744073709551616 ^ k * x * 2 ^ (wh * 64 + p) = 18446744073709551616 ^ (wh + k) * (x * 2 ^ p) := by
      have e : 18446744073709551616 ^ wh = 2 ^ (wh * 64) := by rw [Nat.mul_comm, Nat.pow_mul]
      rw [Nat.pow_add, Nat.pow_add, e, Nat.mul_assoc, Nat.mul_left_comm x, ← Nat.mul_assoc, Nat.mul_comm (18446744073709551616 ^ k)]
    rw [e2, ← Nat.add_assoc, Nat.pow_succ, show wv [x % 2 ^ (64 - p) * 2 ^ p + c] = x % 2 ^ (64 - p) * 2 ^ p + c by simp [wv]]
    generalize 18446744073709551616 ^ (wh + k) = P at *
    generalize x % 2 ^ (64 - p) = m at *
    generalize x / 2 ^ (64 - p) = q at *
    have e3 : x * 2 ^ p = 18446744073709551616 * q + m * 2 ^ p := by
      rw [← h9, Nat.add_mul, ← hB]
      congr 1
      rw [Nat.mul_comm (2 ^ (64 - p)), Nat.mul_assoc, Nat.mul_comm, Nat.mul_comm (2 ^ p)]
    rw [e3, Nat.mul_add, Nat.mul_add, Nat.mul_assoc]
    omega
theorem su_done {us A : List Nat} {p wh c : Nat} (hp : p ≤ 63) (h : Su us p wh us.length A c) : Wrd (A ++ [c]) ∧ wv (A ++ [c]) = wv us * 2 ^ (wh * 64 + p) := by
  have h1 := h.eq
  rw [List.take_length] at h1
  have h2 : 2 ^ p ≤ 2 ^ 63 := Nat.pow_le_pow_right (by omega) hp
  have h3 := h.clt
  refine ⟨?_, ?_⟩
  · intro u hu
    rcases List.mem_append.1 hu with hu | hu
    · exact h.wrd u hu
    · simp only [List.mem_singleton] at hu; omega
  · rw [wv_append, h.len, ← h1]; simp [wv]
end Go.Proofs.YtckglpkafhmehaaGreatDoor
namespace Go.Proofs.YtckglpkafhmehaaGreatDoor
open Go.RowKit
set_option linter.unusedVariables false
/-- Two boxes: a number and a result. -/
structure B2 (w W : World) (va vr : Value) : Prop where
  b1 : Blk W w.heap.size 31 #[va]
  b2 : Blk W (w.heap.size + 1) 31 #[vr]
  bel : Below w.heap.size w W
theorem B2.below {w W W' : World} {va vr : Value} {B : Nat} (h : B2 w W va vr) (hb : Below B W W') (hB : w.heap.size + 2 ≤ B) : B2 w W' va vr :=
  ⟨h.b1.below hb (by omega), h.b2.below hb (by omega), h.bel.trans (hb.mono (by omega))⟩
theorem B2.new (w : World) (va vr : Value) : B2 w ((w.alloc (.cells #[va] 31)).alloc (.cells #[vr] 31)) va vr := by
  have k1 := (Blk.new w 31 #[va]).alloc (.cells #[vr] 31)
  have k2 := Blk.new (w.alloc (.cells #[va] 31)) 31 #[vr]
  simp only [World.size_alloc] at k2
  exact ⟨k1, k2, ((Below.refl _ w).alloc (Nat.le_refl _) _).alloc (by simp) _⟩
theorem row_set {ps Z : List Nat} {k : Nat} (hp : ps.length = k) (hk : k < Z.length) (v : Nat) : (ps ++ Z.drop k).set k v = (ps ++ [v]) ++ Z.drop (k + 1) := by
  rw [List.set_append_right _ _ (by omega), hp, Nat.sub_self, List.drop_eq_getElem_cons hk]
  simp only [List.set_cons_zero, List.append_assoc, List.cons_append, List.nil_append]
theorem row_set2 {ps Z : List Nat} {k : Nat} (hp : ps.length = k) (hk : k < Z.length) (u v : Nat) : ((ps ++ [u]) ++ Z.drop (k + 1)).set k v = (ps ++ [v]) ++ Z.drop (k + 1) := by
  rw [← row_set hp hk u, List.set_set, row_set hp hk]
theorem row_get {ps Z : List Nat} {k : Nat} (hp : ps.length = k) (u : Nat) : ((ps ++ [u]) ++ Z.drop (k + 1)).getD k 0 = u := by
  rw [List.append_assoc, List.getD_eq_getElem?_getD, List.getElem?_append_right (by omega), hp, Nat.sub_self]; rfl
/-- The words of v lie in blocks from B on. -/
def Fresh (B : Nat) (v : Value) : Prop := ∀ ad n c, v = .agg #[.slice (some ad) n c] → B ≤ ad.block
theorem fresh_zero (B : Nat) : Fresh B (.agg #[.slice none 0 0]) := fun ad n c h => by cases h
theorem Fresh.mono {B B' : Nat} {v : Value} (h : Fresh B v) (hb : B' ≤ B) : Fresh B' v := fun ad n c e => Nat.le_trans hb (h ad n c e)
def GaveF (N : Nat) (w : World) (e : Ending) (w' : World) : Prop := ∃ v, e = .returned v ∧ IsN w' v N ∧ Fresh w.heap.size v ∧ Below w.heap.size w w'
theorem gaveF_n {N : Nat} {w : World} {e : Ending} {w' : World} (h : GaveF N w e w') : GaveN N w e w' := by
  obtain ⟨v, h1, h2, _, h3⟩ := h
  exact ⟨v, h1, h2, h3⟩
theorem trim_fresh (Bd b : Nat) (w0 W : World) (v : Value) (us : List Nat) (S : Nat) (ho : OU Bd W v us) (hb : Below w0.heap.size w0 W) (hbd : b < Bd) (hwb : w0.heap.size ≤ b) (hk : Blk W b 31 #[.slice none 0 0]) (hw : Wrd us) (hv : wv us = S) (hl : us.length ≤ 10000) :
    Calls Tryz.prog 51 #[v] W fun e w' => ∃ x y z, e = .returned (.agg #[.slice x y z]) ∧ Hid (Blk w' b 31 #[.slice none 0 0]) ∧ Hid (IsN (w'.setCell ⟨b, 0, none⟩ (.slice x y z)) (.agg #[.slice x y z]) S) ∧ Hid (Below w0.heap.size w0 (w'.setCell ⟨b, 0, none⟩ (.slice x y z))) ∧ Hid (Fresh Bd (.agg #[.slice x y z])) := by
  obtain ⟨a, cap, rfl, hcap, ha⟩ := ou_form ho
  have hur : UR W a us := by
    obtain ⟨a', c', he, _, h⟩ := ou_ur ho
    cases he
    exact h
  have hf : us = [] ∨ ∃ g, a = some ⟨g, 0, none⟩ ∧ Bd ≤ g := by
    rcases ha with h | ⟨g, h⟩
    · exact .inl h
    · subst h
      exact .inr ⟨g, rfl, (ou_block ho).1⟩
  refine (trim_any a cap us W hur (by omega) hcap).mono ?_
  rintro e w' ⟨rfl, hb'⟩
  have hfr : Fresh Bd (.agg #[trimV a cap (tlen us us.length)]) := by
    unfold trimV
    split
    · exact fresh_zero _
    · rename_i hne
      rcases hf with h | ⟨g, h, hg⟩
      · subst h; exact absurd rfl hne
      · subst h
        intro ad n c he
        have h1 := congrArg (fun v => match v with | Value.agg xs => xs[0]? | _ => none) he
        simp at h1
        rw [← h1.1]
        exact hg
  obtain ⟨m, hm⟩ : ∃ m, tlen us us.length = m := ⟨_, rfl⟩
  have h1 := fun x => isN_trim ((hur.below hb' (Nat.le_refl _)).far (i := 0) hbd hf x) hw hcap hl
  rw [hv, hm] at h1
  rw [hm] at hfr ⊢
  have htvs : ∃ x y z, trimV a cap m = .slice x y z := by
    unfold trimV; split
    · exact ⟨_, _, _, rfl⟩
    · exact ⟨_, _, _, rfl⟩
  obtain ⟨x, y, z, hx⟩ := htvs
  rw [hx] at h1 hfr ⊢
  have hlt := hk.lt
  have h0 : w0.heap.size ≤ W.heap.size := hb.size
  exact ⟨x, y, z, rfl, Lib.hid (hk.below hb' hlt), Lib.hid (h1 _), Lib.hid ((hb.trans (hb'.mono h0)).setCell (p := ⟨b, 0, none⟩) hwb _), Lib.hid hfr⟩
/-- The words a shift writes, as the walk reckons them. -/
theorem shw_int {p x y : Nat} (hp : p ≤ 63) (hx : x < 18446744073709551616) :
    ((x : Int) / 2 ^ p = ((x / 2 ^ p : Nat) : Int)) ∧ IntKind.u64.wrap ((y : Int) * 2 ^ (64 - p)) = (((y * 2 ^ (64 - p)) % 18446744073709551616 : Nat) : Int) ∧
    bits .or .u64 ((x / 2 ^ p : Nat) : Int) (((y * 2 ^ (64 - p)) % 18446744073709551616 : Nat) : Int) = ((shw p x y : Nat) : Int) := by
  have e2 : ∀ q : Nat, ((2 : Int) ^ q) = ((2 ^ q : Nat) : Int) := fun q => by rw [Int.natCast_pow]; rfl
  obtain ⟨h1, h2, h3⟩ := shw_parts (y := y) hp hx
  refine ⟨by rw [e2, ← Int.natCast_ediv], by rw [e2, ← Int.natCast_mul, wrapu64_mod], ?_⟩
  have h4 : (y * 2 ^ (64 - p)) % 18446744073709551616 < 18446744073709551616 := Nat.mod_lt _ (by omega)
  have h5 : x / 2 ^ p < 18446744073709551616 := Nat.lt_of_le_of_lt (Nat.div_le_self _ _) hx
  rw [u64_or_nat _ _ h5 h4]
  congr 1
  rw [Nat.or_comm, h2, nat_join (64 - p) _ _ (Nat.mul_mod_left _ _) h1]
  unfold shw
  rw [h2, Nat.add_comm]
set_option maxRecDepth 100000 in
set_option maxHeartbeats 4000000 in
theorem shdf_any (N d : Nat) (v : Value) (BY : Int) (w : World) (h : IsN w v N) (hd0 : 0 < d) (hd1 : d ≤ 1000000) (hBY : BY = -(d : Int)) :
    Calls Tryz.prog 70 #[v, .int .i64 BY] w (GaveF (N / 2 ^ d) w) := by
  obtain ⟨a, c, us, rfl, hc, hu, hw, rfl, hl, hlast, hnil⟩ := h
  obtain ⟨n, hn⟩ : ∃ n, us.length = n := ⟨_, rfl⟩
  obtain ⟨W2, hW2⟩ : ∃ W2, ((w.alloc (.cells #[.slice a us.length c] 31)).alloc (.cells #[.slice none 0 0] 31)) = W2 := ⟨_, rfl⟩
  have hb2 := B2.new w (.slice a us.length c) (.slice none 0 0)
  have hsz2 : W2.heap.size = w.heap.size + 2 := by rw [← hW2]; simp
  rw [hW2] at hb2
  have hN2 : IsN W2 (.agg #[.slice a us.length c]) (wv us) := ⟨a, c, us, rfl, hc, hu.below hb2.bel (Nat.le_refl _), hw, rfl, hl, hlast, hnil⟩
  have HBits := Lib.hid (bits_any _ _ _ hN2)
  have Hn := Lib.hid hn
  have Hw := Lib.hid hw
  have Hu := Lib.hid hu
  have Hb2 := Lib.hid hb2
  have q1 : W2.cell? ⟨w.heap.size, 0, none⟩ = some (.slice a us.length c) := hb2.b1.cell 0
  rw [hn] at q1 HBits Hb2 hW2 hl ⊢
  clear hb2 hN2 hc hu hw hlast hnil hn
  go_enter Tryz.func70, Tryz.ntmps70
  go_wp2_with fail
  refine HBits.out.mono ?_
  rintro e W3 ⟨L, rfl, hL, hLb, hb3⟩
  rw [hsz2] at hb3
  have hbx3 := Hb2.out.below hb3 (Nat.le_refl _)
  have HL := Lib.hid hL
  have HB3 := Lib.hid hb3
  have hwl : IntKind.i64.wrap (-(L : Int)) = -(L : Int) := IntWalk.i64_in _ ⟨by omega, by omega⟩
  by_cases hdl : L ≤ d
  · have hz := Lib.hid (Nat.div_eq_of_lt (Nat.lt_of_lt_of_le hL.lt (Nat.pow_le_pow_right (by omega) hdl)) : wv us / 2 ^ d = 0)
    have hle : BY ≤ -(L : Int) := by omega
    have hk5 := hbx3.b2
    have hk50 := hk5.cell 0; have hk5f := hk5.frozen 0
    simp only [List.getElem?_toArray, List.getElem?_cons_zero] at hk50
    have HK5 := Lib.hid hk5
    have HB5 := Lib.hid hbx3.bel
    clear HBits hL hbx3 hb3 hk5 q1
    go_wp2_with fail
    refine bodyPost_ret (res_nat rfl _ _ (w.heap.size + 1) (.slice none 0 0) rfl (HK5.out.set_ 0 _)) rfl ?_
    exact ⟨_, rfl, by rw [hz.out]; exact isN_zero _, fresh_zero _, HB5.out.setCell (p := ⟨w.heap.size + 1, 0, none⟩) (by show w.heap.size ≤ w.heap.size + 1; omega) _⟩
  · have hle : ¬ BY ≤ -(L : Int) := by omega
    have q3 : W3.cell? ⟨w.heap.size, 0, none⟩ = some (.slice a n c) := hbx3.b1.cell 0
    have hnb : IntKind.i64.wrap (-BY) = (d : Int) := by rw [hBY, Int.neg_neg]; exact IntWalk.i64_in _ ⟨by omega, by omega⟩
    have hLn : L ≤ 64 * n := by
      rcases Nat.lt_or_ge (64 * n) L with hgt | hle2
      · exfalso
        have h1 := hL.le (by omega)
        have h2 : 2 ^ (64 * n) ≤ 2 ^ (L - 1) := Nat.pow_le_pow_right (by omega) (by omega)
        have h3 := wv_lt us Hw.out
        have e : 18446744073709551616 ^ us.length = 2 ^ (64 * n) := by rw [Hn.out, Nat.pow_mul]
        omega
      · exact hle2
    have hd0' : (0 : Int) ≤ (d : Int) := by omega
    obtain ⟨wh, hwh⟩ : ∃ wh, d / 64 = wh := ⟨_, rfl⟩
    obtain ⟨p, hp⟩ : ∃ p, d % 64 = p := ⟨_, rfl⟩
    obtain ⟨m, hm⟩ : ∃ m, n - wh = m := ⟨_, rfl⟩
    have hwn : wh < n := by omega
    have hp63 : p ≤ 63 := by omega
    have Hdd : Hid (d = wh * 64 + p) := Lib.hid (by omega)
    have hdw : (d : Int) / 64 = (wh : Int) := by omega
    have hdp : (d : Int) % 64 = (p : Int) := by omega
    have hnm : (n : Int) - (wh : Int) = (m : Int) := by omega
    have hp63' : (p : Int) ≤ 63 := by omega
    have hsz3 : w.heap.size + 2 ≤ W3.heap.size := by have := hb3.size; omega
    clear HBits hL hbx3 hb3 q1 hwh hp HL hLn hBY hd0 hd1
    go_wp2_with (at_make; refine make_u rfl (.tmp 26) rfl (w.heap.size + 2) _ _ m rfl rfl (by omega) hsz3 _ rfl ?_)
    intro W6 hr6 hb6 _
    obtain ⟨g, hg⟩ : ∃ g, W3.heap.size = g := ⟨_, rfl⟩
    rw [hg] at hr6
    try rw [hg]
    rw [← List.map_replicate] at hr6
    have HB6 : Hid (Below (w.heap.size + 2) W2 W6) := Lib.hid (HB3.out.trans hb6)
    obtain ⟨zs, hzs⟩ : ∃ zs, List.replicate m 0 = zs := ⟨_, rfl⟩
    have Hzl : Hid (zs.length = m) := Lib.hid (by rw [← hzs, List.length_replicate])
    rw [hzs] at hr6
    obtain ⟨ts, hts⟩ : ∃ ts, us.drop wh = ts := ⟨_, rfl⟩
    have Htl : Hid (ts.length = m) := Lib.hid (by rw [← hts, List.length_drop, Hn.out]; exact hm)
    have Hwt : Hid (Wrd ts) := Lib.hid (fun u hu => Hw.out u (by rw [← hts] at hu; exact List.mem_of_mem_drop hu))
    have Hts := Lib.hid hts
    have hM0 : Hid (Sd ts p 0 []) := Lib.hid ⟨rfl, fun u hu => by simp at hu, by simp [wv]⟩
    have Hr6 : Hid (W6.ownsRow (w.heap.size + 2) 60 1 (.slice (some ⟨g, 0, none⟩) m m) m (([] ++ zs.drop 0).map uv)) := Lib.hid (by simpa using hr6)
    have hm0 : 0 < m := by omega
    clear hr6 hb6 q3 hzs HB3 hg hsz3 hts hm
    go_wp2_with fail
    go_loopw [30] (fun iv wr => ∃ (k : Nat) (ps : List Nat), k ≤ m ∧ iv = .int .i64 (k : Int) ∧ Hid (Sd ts p k ps) ∧ Hid (wr.ownsRow (w.heap.size + 2) 60 1 (.slice (some ⟨g, 0, none⟩) m m) m ((ps ++ zs.drop k).map uv)) ∧ Hid (Below (w.heap.size + 2) W2 wr)) (fun iv _ => m - (intOf iv).toNat)
    case atStart => exact ⟨0, [], by omega, rfl, hM0, Hr6, HB6⟩
    case round =>
      clear hM0 Hr6 HB6
      obtain ⟨k, ps, hk, rfl, hS, hrow, hbel⟩ := hrel
      have hbxr := Hb2.out.below hbel.out (Nat.le_refl _)
      have q7 : wr.cell? ⟨w.heap.size, 0, none⟩ = some (.slice a n c) := hbxr.b1.cell 0
      by_cases hlt : k < m
      · obtain ⟨q, hq⟩ : ∃ q, k + wh = q := ⟨_, rfl⟩
        have hkq : (k : Int) + (wh : Int) = (q : Int) := by omega
        have hq0 : (0 : Int) ≤ (q : Int) := by omega
        have hqn : (q : Int) < (n : Int) := by omega
        have hk0 : (0 : Int) ≤ (k : Int) := by omega
        have hkm : (k : Int) < (m : Int) := by omega
        obtain ⟨ad, rfl, hadl, hcu⟩ := Hu.out q (by rw [Hn.out]; omega)
        obtain ⟨x, hx⟩ : ∃ x, ts.getD k 0 = x := ⟨_, rfl⟩
        have hxw : x < 18446744073709551616 := by rw [← hx]; exact getW Hwt.out k
        have hxu : us.getD q 0 = x := by rw [← hx, ← Hts.out, List.getD_eq_getElem?_getD, List.getD_eq_getElem?_getD, List.getElem?_drop, Nat.add_comm, hq]
        obtain ⟨X, hX⟩ : ∃ X : Int, (x : Int) = X := ⟨_, rfl⟩
        rw [hxu, hX] at hcu
        have hcx : wr.cell? (ad.add q) = some (.int .u64 X) := (hbel.out.cell (by rw [add_block]; omega)).trans ((Hb2.out.bel.cell (by rw [add_block]; exact hadl)).trans hcu)
        obtain ⟨cv, hck, hfk⟩ := row_at hrow.out k hlt
        obtain ⟨hbg, _, _⟩ := ou_block hrow.out
        obtain ⟨y, hy⟩ : ∃ y, ts.getD (k + 1) 0 = y := ⟨_, rfl⟩
        obtain ⟨hi1, hi2, hi3⟩ := shw_int (y := y) hp63 hxw
        obtain ⟨X1, hX1⟩ : ∃ X1 : Int, ((x / 2 ^ p : Nat) : Int) = X1 := ⟨_, rfl⟩
        rw [hX, hX1] at hi1
        have hrw1 := ou_set hrow.out k (x / 2 ^ p) hlt
        rw [row_set hS.out.len (by rw [Hzl.out]; exact hlt), hX1] at hrw1
        have hstep := sd_step hp63 (by rw [Htl.out]; exact hlt) Hwt.out hS.out
        rw [hx, hy] at hstep
        have hbw1 := hbel.out.setCell (p := ⟨g, k, none⟩) hbg (.int .u64 X1)
        by_cases hr : q + 1 < n
        · have hr' : (q : Int) + 1 < (n : Int) := by omega
          obtain ⟨r, hrr⟩ : ∃ r, q + 1 = r := ⟨_, rfl⟩
          obtain ⟨t, ht⟩ : ∃ t, 64 - p = t := ⟨_, rfl⟩
          have hq1 : (q : Int) + 1 = (r : Int) := by omega
          have hr0 : (0 : Int) ≤ (r : Int) := by omega
          have hrn : (r : Int) < (n : Int) := by omega
          have hpt : (64 : Int) - (p : Int) = (t : Int) := by omega
          have hpt' : IntKind.u64.wrap ((64 : Int) - (p : Int)) = (t : Int) := by rw [hpt]; exact IntWalk.u64_in _ ⟨by omega, by omega⟩
          have ht0 : (0 : Int) ≤ (t : Int) := by omega
          have hwq : IntKind.i64.wrap (q : Int) = (q : Int) := IntWalk.i64_in _ ⟨by omega, by omega⟩
          have hwr : IntKind.i64.wrap (r : Int) = (r : Int) := IntWalk.i64_in _ ⟨by omega, by omega⟩
          have hwt : IntKind.u64.wrap (t : Int) = (t : Int) := IntWalk.u64_in _ ⟨by omega, by omega⟩
          have ht64 : (t : Int) ≤ 64 := by omega
          have hyu : us.getD r 0 = y := by rw [← hy, ← Hts.out, List.getD_eq_getElem?_getD, List.getD_eq_getElem?_getD, List.getElem?_drop, ← hrr, ← hq, Nat.add_comm wh, Nat.add_right_comm]
          obtain ⟨ad', hade, hadl', hcu2⟩ := Hu.out r (by rw [Hn.out]; omega)
          cases hade
          obtain ⟨Y, hY⟩ : ∃ Y : Int, (y : Int) = Y := ⟨_, rfl⟩
          obtain ⟨Y1, hY1⟩ : ∃ Y1 : Int, (((y * 2 ^ (64 - p)) % 18446744073709551616 : Nat) : Int) = Y1 := ⟨_, rfl⟩
          obtain ⟨Z, hZ⟩ : ∃ Z : Int, ((shw p x y : Nat) : Int) = Z := ⟨_, rfl⟩
          rw [hyu, hY] at hcu2
          rw [hY, ht] at hi2
          rw [ht] at hY1
          rw [hY1] at hi2
          rw [hX1, ht, hY1, hZ] at hi3
          have hcy : (wr.setCell ⟨g, k, none⟩ (.int .u64 X1)).cell? (ad.add r) = some (.int .u64 Y) := (hbw1.cell (by rw [add_block]; omega)).trans ((Hb2.out.bel.cell (by rw [add_block]; exact hadl')).trans hcu2)
          have hS1 : (wr.setCell ⟨g, k, none⟩ (.int .u64 X1)).cell? ⟨w.heap.size, 0, none⟩ = some (.slice (some ad) n c) := (Hb2.out.below hbw1 (Nat.le_refl _)).b1.cell 0
          have hS2 := ou_cell hrw1 k (by have := hrw1.1; rw [List.length_map] at this; omega)
          rw [row_get hS.out.len, add_zero_off, hX1] at hS2
          have hfk2 : (wr.setCell ⟨g, k, none⟩ (.int .u64 X1)).frozen? ⟨g, k, none⟩ = false := (ou_block hrw1).2.2 k hlt
          have hrw2 := ou_set hrw1 k (shw p x y) hlt
          rw [row_set2 hS.out.len (by rw [Hzl.out]; exact hlt), hZ] at hrw2
          have HSt := Lib.hid hstep
          have Hrw := Lib.hid hrw2
          have Hbw := Lib.hid (hbw1.setCell (p := ⟨g, k, none⟩) hbg (.int .u64 Z))
          clear hstep hrw1 hrw2 hX1 hX hx hy hxu hxw hcu hadl hadl' hbxr hrow hS hbel hr hq hrr ht hyu hcu2 hY hY1 hZ hbw1
          go_wp2_with fail
          go_region
          have Hrw' := Lib.hid (World.ownsRow.drew Hrw.out)
          have Hbw' := Lib.hid Hbw.out.drew
          clear Hrw Hbw hcy hS1 hS2
          go_wp2_with fail
          go_roundw
          case rel => exact ⟨k + 1, _, by omega, by go_num, HSt, Hrw', Hbw'⟩
          case measure => simp [intOf]; omega
        · have hr' : ¬ (q : Int) + 1 < (n : Int) := by omega
          have hy0 : y = 0 := by rw [← hy, List.getD_eq_getElem?_getD, List.getElem?_eq_none (by rw [Htl.out]; omega)]; rfl
          have esh : shw p x y = x / 2 ^ p := by unfold shw; rw [hy0, Nat.zero_mul]; rfl
          rw [esh] at hstep
          have HSt := Lib.hid hstep
          have Hrw := Lib.hid hrw1
          have Hbw := Lib.hid hbw1
          have q8 : (wr.setCell ⟨g, k, none⟩ (.int .u64 X1)).cell? ⟨w.heap.size, 0, none⟩ = some (.slice (some ad) n c) := (Hb2.out.below hbw1 (Nat.le_refl _)).b1.cell 0
          clear hstep hrw1 hbw1 esh hy0 hi2 hi3 hX1 hX hx hy hxu hxw hcu hadl hbxr hrow hS hbel hr hq
          go_wp2_with fail
          go_roundw
          case rel => exact ⟨k + 1, _, by omega, by go_num, HSt, Hrw, Hbw⟩
          case measure => simp [intOf]; omega
      · obtain rfl : k = m := by omega
        have hps : ps ++ zs.drop k = ps := by rw [List.drop_of_length_le (by rw [Hzl.out]; exact Nat.le_refl _), List.append_nil]
        have hval : wv ps = wv us / 2 ^ d := shd_whole Hw.out Hdd.out (by
          rw [Hts.out]
          exact sd_done (by rw [Htl.out]; exact hS.out))
        have hou : OU (w.heap.size + 2) wr (.slice (some ⟨g, 0, none⟩) k k) ps := by
          have h1 := hrow.out
          rw [hps] at h1
          unfold OU
          rw [hS.out.len]
          exact h1
        have HT := Lib.hid (trim_fresh (w.heap.size + 2) (w.heap.size + 1) w wr _ _ _ hou hbxr.bel (by omega) (by omega) hbxr.b2 hS.out.wrd hval (by rw [hS.out.len]; omega))
        clear hval hou hps hbxr hbel hrow hS
        go_wp2_with fail
        refine HT.out.mono ?_
        rintro e w5 ⟨x, y, z, rfl, hk5, hN5, hB5, hF5⟩
        have hk50 := hk5.out.cell 0; have hk5f := hk5.out.frozen 0
        simp only [List.getElem?_toArray, List.getElem?_cons_zero] at hk50
        clear HT
        go_wp2_with fail
        refine bodyPost_ret (res_nat rfl _ _ (w.heap.size + 1) (.slice x y z) rfl (hk5.out.set_ 0 _)) rfl ?_
        exact ⟨_, rfl, hN5.out, hF5.out.mono (by omega), hB5.out⟩
theorem shd_any (N d : Nat) (v : Value) (BY : Int) (w : World) (h : IsN w v N) (hd0 : 0 < d) (hd1 : d ≤ 1000000) (hBY : BY = -(d : Int)) :
    Calls Tryz.prog 70 #[v, .int .i64 BY] w (GaveN (N / 2 ^ d) w) :=
  (shdf_any N d v BY w h hd0 hd1 hBY).mono fun _ _ h => gaveF_n h
end Go.Proofs.YtckglpkafhmehaaGreatDoor
namespace Go.Proofs.YtckglpkafhmehaaGreatDoor
open Go.RowKit
set_option linter.unusedVariables false
theorem IsN.set {w : World} {v : Value} {N B b : Nat} {x : Value} (h : IsN w v N) (hf : Fresh B v) (hb : b < B) : IsN (w.setCell ⟨b, 0, none⟩ x) v N := by
  obtain ⟨a, c, us, rfl, h2, h3, h4⟩ := h
  refine ⟨a, c, us, rfl, h2, fun j hj => ?_, h4⟩
  obtain ⟨ad, rfl, hlt, hc⟩ := h3 j hj
  have := hf ad _ _ rfl
  refine ⟨ad, rfl, by rw [World.size_setCell]; exact hlt, ?_⟩
  rw [World.cell?_setCell_other _ _ _ _ (fun e => by have := congrArg Addr.block e; rw [add_block] at this; simp at this; omega)]
  exact hc
set_option maxRecDepth 100000 in
set_option maxHeartbeats 2000000 in
theorem shn_any (N d : Nat) (v : Value) (BY : Int) (w : World) (h : IsN w v N) (hd0 : 0 < d) (hd1 : d ≤ 1000000) (hBY : BY = -(d : Int)) :
    Calls Tryz.prog 42 #[v, .int .i64 BY] w (GaveF (N / 2 ^ d) w) := by
  obtain ⟨a, n, c, rfl⟩ := isN_form h
  obtain ⟨W2, hW2⟩ : ∃ W2, ((w.alloc (.cells #[.slice a n c] 31)).alloc (.cells #[.slice none 0 0] 31)) = W2 := ⟨_, rfl⟩
  have hb2 := B2.new w (.slice a n c) (.slice none 0 0)
  have hsz2 : W2.heap.size = w.heap.size + 2 := by rw [← hW2]; simp
  rw [hW2] at hb2
  have HS := Lib.hid (shdf_any N d _ BY W2 (h.below hb2.bel (Nat.le_refl _)) hd0 hd1 hBY)
  have Hb2 := Lib.hid hb2
  have q1 : W2.cell? ⟨w.heap.size, 0, none⟩ = some (.slice a n c) := hb2.b1.cell 0
  have hneg : BY < 0 := by omega
  clear h hb2 hBY
  go_enter Tryz.func42, Tryz.ntmps42
  go_wp2_with fail
  refine HS.out.mono ?_
  rintro e w5 ⟨v, rfl, hN5, hF5, hb5⟩
  rw [hsz2] at hF5 hb5
  obtain ⟨x, y, z, rfl⟩ := isN_form hN5
  have hbx := Hb2.out.below hb5 (Nat.le_refl _)
  have hk5 := hbx.b2
  have hk50 := hk5.cell 0; have hk5f := hk5.frozen 0
  simp only [List.getElem?_toArray, List.getElem?_cons_zero] at hk50
  have HK5 := Lib.hid hk5
  have HN6 := Lib.hid (hN5.set (b := w.heap.size + 1) (x := .slice x y z) hF5 (by omega))
  have HF6 := Lib.hid (hF5.mono (show w.heap.size ≤ _ by omega))
  have HB6 := Lib.hid (hbx.bel.setCell (p := ⟨w.heap.size + 1, 0, none⟩) (by show w.heap.size ≤ w.heap.size + 1; omega) (.slice x y z))
  clear hbx hk5 hN5 hF5 hb5 HS q1
  go_wp2_with fail
  refine bodyPost_ret (res_nat rfl _ _ (w.heap.size + 1) (.slice x y z) rfl (HK5.out.set_ 0 _)) rfl ?_
  exact ⟨_, rfl, HN6.out, HF6.out, HB6.out⟩
end Go.Proofs.YtckglpkafhmehaaGreatDoor
namespace Go.Proofs.YtckglpkafhmehaaGreatDoor
open Go.RowKit Go.Shelf
set_option linter.unusedVariables false
/-- A number, its half, and so on. -/
def hlv : Nat → List Nat
  | 0 => []
  | n + 1 => (n + 1) :: hlv ((n + 1) / 2)
termination_by n => n
decreasing_by omega
theorem hlv_pos {M : Nat} (h : M ≠ 0) : hlv M = M :: hlv (M / 2) := by
  obtain ⟨m, rfl⟩ : ∃ m, M = m + 1 := ⟨M - 1, by omega⟩
  rw [hlv]
theorem hlv_zero : hlv 0 = [] := by rw [hlv]
theorem hlv_len : ∀ (L M : Nat), IsLen M L → (hlv M).length = L := by
  intro L
  induction L with
  | zero =>
    intro M h
    have := h.lt
    obtain rfl : M = 0 := by simp at this; omega
    rw [hlv_zero]; rfl
  | succ L ih =>
    intro M h
    have h1 := h.lt
    have h2 := h.le (by omega)
    simp only [Nat.add_sub_cancel] at h2
    have h0 : M ≠ 0 := by have := Nat.two_pow_pos L; omega
    rw [hlv_pos h0, List.length_cons, ih (M / 2) ⟨by rw [Nat.pow_succ] at h1; omega, fun hL => by
      have h3 : 2 ^ L = 2 ^ (L - 1) * 2 := by rw [← Nat.pow_succ]; congr 1; omega
      omega⟩]
theorem cell_same {W W' : World} {p : Addr} (h : W.heap[p.block]? = W'.heap[p.block]?) : W.cell? p = W'.cell? p := by
  unfold World.cell?
  rw [h]
theorem isN_len {w : World} {v : Value} {N : Nat} (h : IsN w v N) : ∃ L, IsLen N L ∧ L ≤ 640000 := by
  obtain ⟨a, c, us, rfl, _, _, hw, rfl, hl, hlast, _⟩ := h
  by_cases hne : us = []
  · subst hne
    exact ⟨0, ⟨by simp [wv], fun h => absurd h (by decide)⟩, by omega⟩
  · have hx := getW hw (us.length - 1)
    have hL := isLen_bitLen _ _ (Nat.le_refl _) hx
    have h64 : Lib.bitLen (us.getD (us.length - 1) 0) ≤ 64 := by
      rcases Nat.lt_or_ge 64 (Lib.bitLen (us.getD (us.length - 1) 0)) with hgt | hle
      · exfalso
        have h1 := hL.le (by omega)
        have h2 : 2 ^ 64 ≤ 2 ^ (Lib.bitLen (us.getD (us.length - 1) 0) - 1) := Nat.pow_le_pow_right (by omega) (by omega)
        omega
      · exact hle
    exact ⟨_, isLen_words hw hne hL (hlast hne), by omega⟩
theorem isN_inj {w : World} {v : Value} {M N : Nat} (h : IsN w v M) (h' : IsN w v N) : M = N := by
  obtain ⟨a, c, us, rfl, _, hu, _, rfl, _⟩ := h
  obtain ⟨a', c', us', he, _, hu', _, rfl, _⟩ := h'
  have h1 := congrArg (fun v => match v with | Value.agg xs => xs[0]? | _ => none) he
  simp at h1
  obtain ⟨rfl, h2, rfl⟩ := h1
  have : us = us' := by
    apply List.ext_getElem h2
    intro i h3 h4
    obtain ⟨ad, had, _, hc⟩ := hu i h3
    obtain ⟨ad', had', _, hc'⟩ := hu' i h4
    rw [had] at had'
    cases had'
    rw [hc] at hc'
    simp only [Option.some.injEq, Value.int.injEq, true_and] at hc'
    rw [List.getD_eq_getElem?_getD, List.getD_eq_getElem?_getD, List.getElem?_eq_getElem h3, List.getElem?_eq_getElem h4] at hc'
    simpa using Int.ofNat.inj hc'
  rw [this]
/-- Blocks that lie apart: Live is what the loop's own variables owe. -/
structure FarOk (Live : World → Prop) (Far : World → Nat → Obj → Prop) : Prop where
  at_ : ∀ {W g o}, Far W g o → W.heap[g]? = some o
  live : ∀ {W W'}, Live W → Below W.heap.size W W' → Live W'
  far : ∀ {W W' g o}, Far W g o → Below W.heap.size W W' → Far W' g o
  new : ∀ {W W' g o}, Live W → Below W.heap.size W W' → W.heap.size ≤ g → W'.heap[g]? = some o → o.isCells = true → Far W' g o
def Kp (Live : World → Prop) (Far : World → Nat → Obj → Prop) (W W' : World) : Prop := (Live W → Live W') ∧ ∀ g o, Far W g o → Far W' g o
theorem Kp.trans {Live : World → Prop} {Far : World → Nat → Obj → Prop} {A B C : World} (h : Kp Live Far A B) (k : Kp Live Far B C) : Kp Live Far A C := ⟨fun x => k.1 (h.1 x), fun g o x => k.2 g o (h.2 g o x)⟩
/-- The value v is the number N, its words apart. -/
def FN (Far : World → Nat → Obj → Prop) (W : World) (v : Value) (N : Nat) : Prop := IsN W v N ∧ ∀ ad n c, v = .agg #[.slice (some ad) n c] → ∃ o, Far W ad.block o
theorem FN.kept {Live : World → Prop} {Far : World → Nat → Obj → Prop} (ok : FarOk Live Far) {W W' : World} {v : Value} {N : Nat} (h : FN Far W v N) (hk : ∀ g o, Far W g o → Far W' g o) : FN Far W' v N := by
  obtain ⟨⟨a, c, us, rfl, h2, h3, h4⟩, hf⟩ := h
  refine ⟨⟨a, c, us, rfl, h2, fun j hj => ?_, h4⟩, fun ad n c e => ?_⟩
  · obtain ⟨ad, rfl, hlt, hc⟩ := h3 j hj
    obtain ⟨o, ho⟩ := hf ad _ _ rfl
    have e1 := ok.at_ ho
    have e2 := ok.at_ (hk _ _ ho)
    exact ⟨ad, rfl, (Array.getElem?_eq_some_iff.1 e2).1, by rw [← hc]; exact cell_same (by rw [add_block, e1, e2])⟩
  · obtain ⟨o, ho⟩ := hf ad n c e
    exact ⟨o, hk _ _ ho⟩
theorem FN.below {Live : World → Prop} {Far : World → Nat → Obj → Prop} (ok : FarOk Live Far) {W W' : World} {v : Value} {N : Nat} (h : FN Far W v N) (hb : Below W.heap.size W W') : FN Far W' v N := h.kept ok (fun g o hf => ok.far hf hb)
theorem FN.fresh {Live : World → Prop} {Far : World → Nat → Obj → Prop} (ok : FarOk Live Far) {W W' : World} {v : Value} {N : Nat} (hL : Live W) (hb : Below W.heap.size W W') (h : IsN W' v N) (hf : Fresh W.heap.size v) : FN Far W' v N := by
  refine ⟨h, fun ad n c e => ?_⟩
  subst e
  obtain ⟨a, c', us, he, h2, h3, _, _, _, _, h5⟩ := h
  have h1 := congrArg (fun v => match v with | Value.agg xs => xs[0]? | _ => none) he
  simp at h1
  obtain ⟨rfl, hn, rfl⟩ := h1
  have hne : us ≠ [] := fun e => by have := (h5 e).1; cases this
  obtain ⟨ad', hade, hlt, hc⟩ := h3 0 (List.length_pos_iff.2 hne)
  cases hade
  have hg := hf ad n c rfl
  obtain ⟨o, ho⟩ : ∃ o, W'.heap[ad.block]? = some o := ⟨_, Array.getElem?_eq_getElem hlt⟩
  refine ⟨o, ok.new hL hb hg ho ?_⟩
  unfold World.cell? at hc
  rw [add_block, ho] at hc
  cases o <;> first | rfl | simp at hc
/-- The number that a variable holds. -/
noncomputable def numAt (w : World) (p : Value) : Nat := by
  classical exact if h : ∃ M b x y z, p = .pointer (some ⟨b, 0, none⟩) ∧ w.cell? ⟨b, 0, none⟩ = some (.slice x y z) ∧ IsN w (.agg #[.slice x y z]) M then h.choose else 0
theorem numAt_eq {w : World} {b M : Nat} {x : Option Addr} {y z : Nat} (hc : w.cell? ⟨b, 0, none⟩ = some (.slice x y z)) (hN : IsN w (.agg #[.slice x y z]) M) : numAt w (.pointer (some ⟨b, 0, none⟩)) = M := by
  have h : ∃ M b' x y z, Value.pointer (some ⟨b, 0, none⟩) = .pointer (some ⟨b', 0, none⟩) ∧ w.cell? ⟨b', 0, none⟩ = some (.slice x y z) ∧ IsN w (.agg #[.slice x y z]) M := ⟨M, b, x, y, z, rfl, hc, hN⟩
  unfold numAt
  rw [dif_pos h]
  obtain ⟨b', x', y', z', h1, h2, h3⟩ := h.choose_spec
  cases h1
  rw [hc] at h2
  cases h2
  exact isN_inj h3 hN
end Go.Proofs.YtckglpkafhmehaaGreatDoor
namespace Go.Proofs.YtckglpkafhmehaaGreatDoor
open Go.RowKit
set_option linter.unusedVariables false
def cmpI (M N : Nat) : Int := if M < N then -1 else if N < M then 1 else 0
theorem cmpI_lt {M N : Nat} (h : M < N) : cmpI M N = -1 := by unfold cmpI; rw [if_pos h]
theorem cmpI_gt {M N : Nat} (h : N < M) : cmpI M N = 1 := by unfold cmpI; rw [if_neg (by omega), if_pos h]
theorem cmpI_eq (M : Nat) : cmpI M M = 0 := by unfold cmpI; rw [if_neg (by omega), if_neg (by omega)]
theorem wv_ge {us : List Nat} (hne : us ≠ []) (hl : us.getD (us.length - 1) 0 ≠ 0) : 18446744073709551616 ^ (us.length - 1) ≤ wv us := by
  rw [wv_last hne]
  have : 18446744073709551616 ^ (us.length - 1) * 1 ≤ 18446744073709551616 ^ (us.length - 1) * us.getD (us.length - 1) 0 := Nat.mul_le_mul_left _ (by omega)
  omega
theorem wv_len_lt {us vs : List Nat} (hu : Wrd us) (h : us.length < vs.length) (hl : vs.getD (vs.length - 1) 0 ≠ 0) : wv us < wv vs := by
  have hne : vs ≠ [] := fun e => by rw [e] at h; simp at h
  have h1 := wv_lt us hu
  have h2 := wv_ge hne hl
  have h3 : 18446744073709551616 ^ us.length ≤ 18446744073709551616 ^ (vs.length - 1) := Nat.pow_le_pow_right (by decide) (by omega)
  omega
theorem wv_top {us vs : List Nat} (hu : Wrd us) {k : Nat} (hk : k < us.length) (hk2 : k < vs.length) (he : us.drop (k + 1) = vs.drop (k + 1)) (hlt : us.getD k 0 < vs.getD k 0) : wv us < wv vs := by
  have e1 : ∀ l : List Nat, k < l.length → wv l = wv (l.take k) + 18446744073709551616 ^ k * (l.getD k 0 + 18446744073709551616 * wv (l.drop (k + 1))) := fun l hl => by
    conv => lhs; rw [← List.take_append_drop k l]
    rw [wv_append, List.length_take, Nat.min_eq_left (by omega), drop_get l k hl]
    rfl
  rw [e1 us hk, e1 vs hk2, he]
  have h1 : wv (us.take k) < 18446744073709551616 ^ k := by
    have h3 := wv_lt (us.take k) (fun u hu' => hu u (List.mem_of_mem_take hu'))
    rwa [List.length_take, Nat.min_eq_left (by omega)] at h3
  generalize 18446744073709551616 * wv (vs.drop (k + 1)) = t at *
  generalize us.getD k 0 = x at *
  generalize vs.getD k 0 = y at *
  generalize 18446744073709551616 ^ k = P at *
  have h2 : P * (x + t + 1) ≤ P * (y + t) := Nat.mul_le_mul_left _ (by omega)
  rw [Nat.mul_add, Nat.mul_one] at h2
  omega
set_option maxRecDepth 100000 in
theorem order_t (w : World) : Calls Tryz.prog 80 #[.bool true] w fun e w' => e = .returned (.int .i64 (-1)) ∧ w = w' := by
  go_enter Tryz.func80, Tryz.ntmps80
  go_wp2
  go_ret
  exact ⟨rfl, rfl⟩
set_option maxRecDepth 100000 in
theorem order_f (w : World) : Calls Tryz.prog 80 #[.bool false] w fun e w' => e = .returned (.int .i64 1) ∧ w = w' := by
  go_enter Tryz.func80, Tryz.ntmps80
  go_wp2
  go_ret
  exact ⟨rfl, rfl⟩
/-- Two boxes of numbers. -/
structure C2 (w W : World) (va vb : Value) : Prop where
  b1 : Blk W w.heap.size 31 #[va]
  b2 : Blk W (w.heap.size + 1) 31 #[vb]
  bel : Below w.heap.size w W
theorem C2.below {w W W' : World} {va vb : Value} {B : Nat} (h : C2 w W va vb) (hb : Below B W W') (hB : w.heap.size + 2 ≤ B) : C2 w W' va vb :=
  ⟨h.b1.below hb (by omega), h.b2.below hb (by omega), h.bel.trans (hb.mono (by omega))⟩
theorem C2.new (w : World) (va vb : Value) : C2 w ((w.alloc (.cells #[va] 31)).alloc (.cells #[vb] 31)) va vb := by
  have k1 := (Blk.new w 31 #[va]).alloc (.cells #[vb] 31)
  have k2 := Blk.new (w.alloc (.cells #[va] 31)) 31 #[vb]
  simp only [World.size_alloc] at k2
  exact ⟨k1, k2, ((Below.refl _ w).alloc (Nat.le_refl _) _).alloc (by simp) _⟩
def CmpIs (M N : Nat) (w : World) (e : Ending) (w' : World) : Prop := e = .returned (.int .i64 (cmpI M N)) ∧ Below w.heap.size w w'
set_option maxRecDepth 100000 in
set_option maxHeartbeats 2000000 in
theorem cmp_any (M N : Nat) (va vb : Value) (w : World) (ha : IsN w va M) (hb : IsN w vb N) : Calls Tryz.prog 57 #[va, vb] w (CmpIs M N w) := by
  obtain ⟨a1, c1, us, rfl, hc1, hu, hwu, rfl, hl1, hlast1, hnil1⟩ := ha
  obtain ⟨a2, c2, vs, rfl, hc2, hv, hwv, rfl, hl2, hlast2, hnil2⟩ := hb
  obtain ⟨n, hn⟩ : ∃ n, us.length = n := ⟨_, rfl⟩
  obtain ⟨m, hm⟩ : ∃ m, vs.length = m := ⟨_, rfl⟩
  have hc := C2.new w (.slice a1 us.length c1) (.slice a2 vs.length c2)
  obtain ⟨W2, hW2⟩ : ∃ W2, (w.alloc (.cells #[.slice a1 us.length c1] 31)).alloc (.cells #[.slice a2 vs.length c2] 31) = W2 := ⟨_, rfl⟩
  have hsz2 : W2.heap.size = w.heap.size + 2 := by rw [← hW2]; simp
  rw [hW2] at hc
  have Hn := Lib.hid hn; have Hm := Lib.hid hm
  have q1 : W2.cell? ⟨w.heap.size, 0, none⟩ = some (.slice a1 us.length c1) := hc.b1.cell 0
  have q2 : W2.cell? ⟨w.heap.size + 1, 0, none⟩ = some (.slice a2 vs.length c2) := hc.b2.cell 0
  have Hc := Lib.hid hc
  rw [hn, hm] at hW2
  rw [hn] at q1 Hc hl1
  rw [hm] at q2 Hc hl2
  have HB : Hid (Below w.heap.size w W2) := Lib.hid hc.bel
  rcases Nat.lt_trichotomy n m with hlt | heq | hgt
  · have HR : Hid (CmpIs (wv us) (wv vs) w (.returned (.int .i64 (-1))) W2) := Lib.hid ⟨by rw [cmpI_lt (wv_len_lt hwu (by omega) (hlast2 (fun e => by rw [e] at hm; simp at hm; omega)))], HB.out⟩
    have h1 : ((n : Int) == (m : Int)) = false := by simp; omega
    have h2 : (n : Int) < (m : Int) := by omega
    rw [hn, hm]
    clear hc hu hwu hlast1 hnil1 hv hwv hlast2 hnil2 hc1 hc2 hn hm Hc HB
    go_enter Tryz.func57, Tryz.ntmps57
    go_wp2_with fail
    refine (order_t _).mono ?_
    rintro e w3 ⟨rfl, rfl⟩
    go_wp2_with fail
    go_ret
    exact HR.out
  · subst heq
    have Hu := Lib.hid hu; have Hv := Lib.hid hv; have Hwu := Lib.hid hwu; have Hwv := Lib.hid hwv
    have hi0 : ((n : Int) == (n : Int)) = true := by simp
    have hdr0 : Hid (us.drop n = vs.drop n) := Lib.hid (by rw [List.drop_of_length_le (by omega), List.drop_of_length_le (by omega)])
    have hB0 : Hid (Below (w.heap.size + 2) W2 W2) := Lib.hid (Below.refl _ _)
    have hwn : IntKind.i64.wrap ((n : Int) - 1) = (n : Int) - 1 := IntWalk.i64_in _ ⟨by omega, by omega⟩
    rw [hn, hm]
    clear hc hu hwu hlast1 hnil1 hv hwv hlast2 hnil2 hc1 hc2 hn hm
    go_enter Tryz.func57, Tryz.ntmps57
    go_wp2_with fail
    go_loopw [5] (fun iv wr => ∃ (k : Nat) (z : Int), k ≤ n ∧ z = (k : Int) - 1 ∧ iv = .int .i64 z ∧ Hid (us.drop k = vs.drop k) ∧ Hid (Below (w.heap.size + 2) W2 wr)) (fun iv _ => (intOf iv + 1).toNat)
    case atStart => exact ⟨n, _, Nat.le_refl _, rfl, rfl, hdr0, hB0⟩
    case round =>
      clear hdr0 hB0 q1 q2
      obtain ⟨k, z, hk, hz, rfl, hdr, hbel⟩ := hrel
      have hcr := Hc.out.below hbel.out (Nat.le_refl _)
      cases k with
      | zero =>
        have hzn : ¬ (0 : Int) ≤ z := by omega
        clear hz
        have HR : Hid (CmpIs (wv us) (wv vs) w (.returned (.int .i64 0)) wr) := Lib.hid ⟨by rw [show us = vs from hdr.out, cmpI_eq], hcr.bel⟩
        clear hcr hdr hbel
        go_wp2_with fail
        go_ret
        exact HR.out
      | succ k =>
        obtain rfl : z = (k : Int) := by omega
        clear hz
        have hku : k < us.length := by rw [Hn.out]; omega
        have hkv : k < vs.length := by rw [Hm.out]; omega
        obtain ⟨ad1, rfl, hadl1, hcu⟩ := Hu.out.at hku (B := w.heap.size) (Nat.le_refl _)
        obtain ⟨ad2, rfl, hadl2, hcv⟩ := Hv.out.at hkv (B := w.heap.size) (Nat.le_refl _)
        have r1 : wr.drew.cell? ⟨w.heap.size, 0, none⟩ = some (.slice (some ad1) n c1) := hcr.b1.cell 0
        have r2 : wr.drew.cell? ⟨w.heap.size + 1, 0, none⟩ = some (.slice (some ad2) n c2) := hcr.b2.cell 0
        have r1' : wr.cell? ⟨w.heap.size, 0, none⟩ = some (.slice (some ad1) n c1) := r1
        have r2' : wr.cell? ⟨w.heap.size + 1, 0, none⟩ = some (.slice (some ad2) n c2) := r2
        have r3 : wr.drew.cell? (ad1.add k) = some (.int .u64 ((us.getD k 0 : Nat) : Int)) := (hcr.bel.cell (by rw [add_block]; exact hadl1)).trans hcu
        have r4 : wr.drew.cell? (ad2.add k) = some (.int .u64 ((vs.getD k 0 : Nat) : Int)) := (hcr.bel.cell (by rw [add_block]; exact hadl2)).trans hcv
        have r3' : wr.cell? (ad1.add k) = some (.int .u64 ((us.getD k 0 : Nat) : Int)) := r3
        have r4' : wr.cell? (ad2.add k) = some (.int .u64 ((vs.getD k 0 : Nat) : Int)) := r4
        have eu := drop_get us k hku
        have ev := drop_get vs k hkv
        have hwr : Hid (Below (w.heap.size + 2) W2 wr.drew) := Lib.hid hbel.out.drew
        have hwr2 : Hid (Below w.heap.size w wr.drew.drew) := Lib.hid hcr.bel.drew.drew
        obtain ⟨x, hx⟩ : ∃ x, us.getD k 0 = x := ⟨_, rfl⟩
        obtain ⟨y, hy⟩ : ∃ y, vs.getD k 0 = y := ⟨_, rfl⟩
        have Hx := Lib.hid hx; have Hy := Lib.hid hy
        rw [hx] at r3 r3' eu
        rw [hy] at r4 r4' ev
        have hi1 : (0 : Int) ≤ (k : Int) := by omega
        have hi2 : (k : Int) < (n : Int) := by omega
        rcases Nat.lt_trichotomy x y with hxy | hxy | hxy
        · have HR : Hid (CmpIs (wv us) (wv vs) w (.returned (.int .i64 (-1))) wr.drew.drew) := Lib.hid ⟨by rw [cmpI_lt (wv_top Hwu.out hku hkv hdr.out (by rw [Hx.out, Hy.out]; exact hxy))], hwr2.out⟩
          have h1 : ((x : Int) == (y : Int)) = false := by simp; omega
          have h2 : (x : Int) < (y : Int) := by omega
          clear hcr hdr hbel hcu hcv eu ev hx hy hadl1 hadl2 hwr hwr2 hku hkv
          go_wp2_with fail
          go_region_held3 (fun w' => w'.cell? ⟨w.heap.size, 0, none⟩ = some (.slice (some ad1) n c1) ∧ w'.cell? ⟨w.heap.size + 1, 0, none⟩ = some (.slice (some ad2) n c2) ∧ w'.cell? (ad1.add k) = some (.int .u64 (x : Int)) ∧ w'.cell? (ad2.add k) = some (.int .u64 (y : Int)))
            (first | exact ⟨r1, r2, r3, r4⟩ | go_keep)
            (fail)
          go_wp2_with fail
          go_region_held3 (fun w' => w'.cell? ⟨w.heap.size, 0, none⟩ = some (.slice (some ad1) n c1) ∧ w'.cell? ⟨w.heap.size + 1, 0, none⟩ = some (.slice (some ad2) n c2) ∧ w'.cell? (ad1.add k) = some (.int .u64 (x : Int)) ∧ w'.cell? (ad2.add k) = some (.int .u64 (y : Int)))
            (first | exact ⟨r1', r2', r3', r4'⟩ | go_keep)
            (first
              | (go_at_call 80; refine (order_t _).mono ?_; rintro e w3 ⟨rfl, rfl⟩))
          go_wp2_with fail
          go_ret
          exact HR.out
        · subst hxy
          have h1 : ((x : Int) == (x : Int)) = true := by simp
          have hdr2 : Hid (us.drop k = vs.drop k) := Lib.hid (by rw [eu, ev, hdr.out])
          clear hcr hdr hbel hcu hcv eu ev hx hy hadl1 hadl2 hku hkv hwr2
          go_wp2_with fail
          go_region_held3 (fun w' => w'.cell? ⟨w.heap.size, 0, none⟩ = some (.slice (some ad1) n c1) ∧ w'.cell? ⟨w.heap.size + 1, 0, none⟩ = some (.slice (some ad2) n c2) ∧ w'.cell? (ad1.add k) = some (.int .u64 (x : Int)) ∧ w'.cell? (ad2.add k) = some (.int .u64 (x : Int)))
            (first | exact ⟨r1, r2, r3, r4⟩ | go_keep)
            (fail)
          go_wp2_with fail
          go_roundw
          case rel => exact ⟨k, _, by omega, rfl, by go_num, hdr2, hwr⟩
          case measure => simp [intOf] <;> omega
        · have HR : Hid (CmpIs (wv us) (wv vs) w (.returned (.int .i64 1)) wr.drew.drew) := Lib.hid ⟨by rw [cmpI_gt (wv_top Hwv.out hkv hku hdr.out.symm (by rw [Hx.out, Hy.out]; exact hxy))], hwr2.out⟩
          have h1 : ((x : Int) == (y : Int)) = false := by simp; omega
          have h2 : ¬ (x : Int) < (y : Int) := by omega
          have h3 : decide (x < y) = false := by simp; omega
          clear hcr hdr hbel hcu hcv eu ev hx hy hadl1 hadl2 hwr hwr2 hku hkv
          go_wp2_with fail
          go_region_held3 (fun w' => w'.cell? ⟨w.heap.size, 0, none⟩ = some (.slice (some ad1) n c1) ∧ w'.cell? ⟨w.heap.size + 1, 0, none⟩ = some (.slice (some ad2) n c2) ∧ w'.cell? (ad1.add k) = some (.int .u64 (x : Int)) ∧ w'.cell? (ad2.add k) = some (.int .u64 (y : Int)))
            (first | exact ⟨r1, r2, r3, r4⟩ | go_keep)
            (fail)
          go_wp2_with fail
          go_region_held3 (fun w' => w'.cell? ⟨w.heap.size, 0, none⟩ = some (.slice (some ad1) n c1) ∧ w'.cell? ⟨w.heap.size + 1, 0, none⟩ = some (.slice (some ad2) n c2) ∧ w'.cell? (ad1.add k) = some (.int .u64 (x : Int)) ∧ w'.cell? (ad2.add k) = some (.int .u64 (y : Int)))
            (first | exact ⟨r1', r2', r3', r4'⟩ | go_keep)
            (first
              | (go_at_call 80; refine (order_f _).mono ?_; rintro e w3 ⟨rfl, rfl⟩))
          go_wp2_with fail
          go_ret
          exact HR.out
  · have HR : Hid (CmpIs (wv us) (wv vs) w (.returned (.int .i64 1)) W2) := Lib.hid ⟨by rw [cmpI_gt (wv_len_lt hwv (by omega) (hlast1 (fun e => by rw [e] at hn; simp at hn; omega)))], HB.out⟩
    have h1 : ((n : Int) == (m : Int)) = false := by simp; omega
    have h2 : ¬ (n : Int) < (m : Int) := by omega
    rw [hn, hm]
    clear hc hu hwu hlast1 hnil1 hv hwv hlast2 hnil2 hc1 hc2 hn hm Hc HB
    go_enter Tryz.func57, Tryz.ntmps57
    go_wp2_with fail
    refine (order_f _).mono ?_
    rintro e w3 ⟨rfl, rfl⟩
    go_wp2_with fail
    go_ret
    exact HR.out
end Go.Proofs.YtckglpkafhmehaaGreatDoor
