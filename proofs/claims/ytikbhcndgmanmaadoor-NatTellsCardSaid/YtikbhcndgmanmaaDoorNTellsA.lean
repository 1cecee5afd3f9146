/-
  NatTells, for texts that are not too long: six cases.
-/
import Derived.Test.YtikbhcndgmanmaaDoorNTell
namespace Go.Proofs.YtikbhcndgmanmaaDoor
open Go.RowKit
set_option linter.unusedVariables false
theorem len_two {l : List Value} (h : l.length = 0 + 1 + 1) : ∃ a b, l = [a, b] := by
  match l, h with
  | [a, b], _ => exact ⟨a, b, rfl⟩
theorem zlen {n A : Nat} {b : Bool} (h : n = 0 ↔ A = 0) (hb : decide (A = 0) = b) : (((n : Nat) : Int) == 0) = b := by
  subst hb
  by_cases h0 : A = 0
  · have hn := h.2 h0
    subst hn
    simp [h0]
  · have hn : n ≠ 0 := fun e => h0 (h.1 e)
    simp only [h0, decide_false]
    simp
    omega
theorem pos_of {n B : Nat} (h : n = 0 ↔ B = 0) (hB : 0 < B) : (0 : Int) < (n : Int) := by
  have : n ≠ 0 := fun e => by have := h.1 e; omega
  omega
theorem zlenN {n A : Nat} {b : Bool} (h : n = 0 ↔ A = 0) (hb : decide (A = 0) = b) : (n == 0) = b := by
  have := zlen h hb
  rw [← this]
  by_cases h0 : n = 0
  · subst h0; rfl
  · have h1 : (n == 0) = false := by simp [h0]
    rw [h1]
    symm
    simp
    omega
theorem nats_two (s t : ByteArray) (w : World) (hs : s.size ≤ 1200) (ht : t.size ≤ 1200) (htab : Tab w) :
    Calls Tryd.prog 7 #[.slice (some ⟨w.heap.size, 0, none⟩) 2 2] (w.alloc (.cells #[.string s, .string t] 9)) fun e w' =>
      ∃ ga ca gb cb xa ya za xb yb zb xc yc zc xd yd zd, e = .returned (.tuple #[.slice (some ⟨ga, 0, none⟩) 2 ca, .slice (some ⟨gb, 0, none⟩) 2 cb, .bool true]) ∧
        w'.cell? ⟨ga, 0, none⟩ = some (.slice xa ya za) ∧ w'.cell? ⟨ga, 1, none⟩ = some (.slice xb yb zb) ∧ w'.cell? ⟨gb, 0, none⟩ = some (.slice xc yc zc) ∧ w'.cell? ⟨gb, 1, none⟩ = some (.slice xd yd zd) ∧
        IsN w' (.agg #[.slice xa ya za]) (nn s) ∧ IsN w' (.agg #[.slice xb yb zb]) (nn t) ∧ RN w' (.slice xc yc zc) (nn s) ∧ RN w' (.slice xd yd zd) (nn t) ∧ Below w.heap.size w w' ∧ 2 ≤ ca ∧ 2 ≤ cb := by
  have hl := below_lit w (.cells #[.string s, .string t] 9)
  have htr : TR (w.alloc (.cells #[.string s, .string t] 9)) (some ⟨w.heap.size, 0, none⟩) [s, t] := fun i hi => by
    have hk := Blk.new w 9 #[.string s, .string t]
    refine ⟨_, rfl, by simp, ?_⟩
    rw [add_zero_i, hk.cell i]
    simp only [List.length_cons, List.length_nil] at hi
    rcases (show i = 0 ∨ i = 1 by omega) with rfl | rfl <;> rfl
  refine (nats_any [s, t] _ 2 _ htr (fun u hu => by simp at hu; rcases hu with rfl | rfl <;> assumption) (by simp) (htab.below hl (Nat.le_refl _))).mono fun e w' h => ?_
  obtain ⟨va, vb, xs, ys, rfl, hN⟩ := h
  have hla := hN.la; have hlb := hN.lb
  simp only [List.map_cons, List.map_nil, List.length_cons, List.length_nil] at hla hlb
  obtain ⟨u1, u2, rfl⟩ : ∃ a b, xs = [a, b] := len_two hla
  obtain ⟨v1, v2, rfl⟩ : ∃ a b, ys = [a, b] := len_two hlb
  obtain ⟨⟨xa, ya, za, rfl⟩, h1, _⟩ := hN.na 0 u1 (nn s) rfl rfl
  obtain ⟨⟨xb, yb, zb, rfl⟩, h2, _⟩ := hN.na 1 u2 (nn t) rfl rfl
  obtain ⟨⟨xc, yc, zc, rfl⟩, h3, _⟩ := hN.nb 0 v1 (nn s) rfl rfl
  obtain ⟨⟨xd, yd, zd, rfl⟩, h4, _⟩ := hN.nb 1 v2 (nn t) rfl rfl
  obtain ⟨ga, ca, rfl, hca2, hca⟩ := row_form hN.oa (by simp)
  obtain ⟨gb, cb, rfl, hcb2, hcb⟩ := row_form hN.ob (by simp)
  exact ⟨ga, ca, gb, cb, xa, ya, za, xb, yb, zb, xc, yc, zc, xd, yd, zd, rfl, hca 0 _ rfl, hca 1 _ rfl, hcb 0 _ rfl, hcb 1 _ rfl, h1, h2, h3, h4, hl.trans (hN.bel.mono hl.size), hca2, hcb2⟩
theorem below_drew2 (w : World) : Below w.heap.size w w.drew := (Below.refl _ _).drew
theorem lenN {N : Nat} (h : N < 18446744073709551616 ^ 16) : (hlv N).length ≤ 100000 := by
  have hL := isLen_hlv N
  generalize (hlv N).length = L at *
  rcases Nat.eq_zero_or_pos L with h0 | h0
  · omega
  · have h1 := Nat.lt_of_le_of_lt (hL.le h0) h
    have e1 : (18446744073709551616 : Nat) = 2 ^ 64 := by decide
    rw [e1, ← Nat.pow_mul] at h1
    have := (Nat.pow_lt_pow_iff_right (a := 2) (by omega)).1 h1
    omega
theorem len_fit {N L : Nat} (h : IsLen N L) (hN : N < 18446744073709551616) : L ≤ 64 := by
  rcases Nat.eq_zero_or_pos L with h0 | h0
  · omega
  · have h1 : 2 ^ (L - 1) < 2 ^ 64 := Nat.lt_of_le_of_lt (h.le h0) hN
    have := (Nat.pow_lt_pow_iff_right (a := 2) (by omega)).1 h1
    omega
theorem len_big {N L : Nat} (h : IsLen N L) (hN : 18446744073709551616 ≤ N) : 64 < L := by
  have h1 : 2 ^ 64 < 2 ^ L := Nat.lt_of_le_of_lt hN h.lt
  exact (Nat.pow_lt_pow_iff_right (a := 2) (by omega)).1 h1
set_option maxRecDepth 100000 in
set_option maxHeartbeats 8000000 in
theorem natTells.zgf (s t : ByteArray) (hs : s.size ≤ 250) (ht : t.size ≤ 250) (hz : nn t = 0) (hge : nn t ≤ nn s) (hfit : nn s < 18446744073709551616) (w : World) (htab : Tab w) (htb : TabB w) :
    Calls Tryd.prog 3 #[.string s, .string t] w fun e w' => e = .returned (.bool true) ∧ Below w.heap.size w w' := by
  have HAl := Lib.hid (alive_any w htab)
  have HTab := Lib.hid htab
  have HTb := Lib.hid htb
  have H1 := Lib.hid (tb_all 18446744073709551616 16 100 (by omega) (nn_w (s := s) (k := 16) (by omega)) (nn_w (s := t) (k := 16) (by omega)) (by omega) (by omega))
  have H2 := Lib.hid (tb_all 10000 63 200 (by omega) (nn_lt (s := s) (k := 63) (by omega)) (nn_lt (s := t) (k := 63) (by omega)) (by omega) (by omega))
  have H3 := Lib.hid (And.intro (nn_w (s := s) (k := 26) (by omega)) (nn_w (s := t) (k := 26) (by omega)))
  have H4 := Lib.hid (And.intro (nn_w (s := s) (k := 100) (by omega)) (nn_w (s := t) (k := 100) (by omega)))
  have H5 := Lib.hid (And.intro (pow_up 63 200 (nn_lt (s := s) (k := 63) (by omega)) (by omega)) (pow_up 63 200 (nn_lt (s := t) (k := 63) (by omega)) (by omega)))
  have HLen := Lib.hid (lenN (nn_w (s := s) (k := 16) (by omega)))
  have HNats : Hid (∀ w1, Below w.heap.size w w1 → _) := Lib.hid (fun w1 h => nats_two s t w1 (by omega) (by omega) (htab.below h (Nat.le_refl _)))
  obtain ⟨A, hA⟩ : ∃ A, nn s = A := ⟨_, rfl⟩
  obtain ⟨B, hB⟩ : ∃ B, nn t = B := ⟨_, rfl⟩
  rw [hA] at HLen hge hfit
  rw [hB] at hge hz
  rw [hA, hB] at H1 H2 H3 H4 H5
  simp only [hA, hB] at HNats
  obtain ⟨sz, hsz⟩ : ∃ sz, s.size = sz := ⟨_, rfl⟩
  obtain ⟨tz, htz⟩ : ∃ tz, t.size = tz := ⟨_, rfl⟩
  have c1 : ¬ (250 : Int) < (sz : Int) := by omega
  have c2 : ¬ (250 : Int) < (tz : Int) := by omega
  have c1b : decide ((250 : Int) < (sz : Int)) = false := by simp; omega
  have c2b : decide ((250 : Int) < (tz : Int)) = false := by simp; omega
  subst hz
  have Hge := Lib.hid hge
  have Hfit := Lib.hid hfit
  obtain ⟨C, hC⟩ : ∃ C, cmpI A 0 = C := ⟨_, rfl⟩
  have hC0 : 0 ≤ C := by rw [← hC]; unfold cmpI; rw [if_neg (by omega)]; split <;> omega
  have hC0b : decide (0 ≤ C) = true := by simp; omega
  have hCC : (C != C) = false := by simp
  have HC := Lib.hid hC
  obtain ⟨LB, hLB⟩ : ∃ LB : Int, ((hlv A).length : Int) = LB := ⟨_, rfl⟩
  have HLB := Lib.hid hLB
  have hLL : (LB == LB) = true := by simp
  have hL64 : LB ≤ 64 := by rw [← hLB]; have := len_fit (isLen_hlv A) hfit; omega
  have hL64b : decide (LB ≤ 64) = true := by simp; omega
  obtain ⟨T, hT⟩ : ∃ T : ByteArray, (⟨(Lib.decDigits A).toArray⟩ : ByteArray) = T := ⟨_, rfl⟩
  have HT := Lib.hid hT
  obtain ⟨ND, hND⟩ : ∃ ND : Int, ((Lib.nDigits A : Nat) : Int) = ND := ⟨_, rfl⟩
  have hTs : (T.size : Int) = ND := by rw [← hT, ← hND, ← Lib.decDigits_length]; rfl
  have HND := Lib.hid hND
  have hNN : (ND == ND) = true := by simp
  obtain ⟨zB, hzB⟩ : ∃ zB, decide (A = 0) = zB := ⟨_, rfl⟩
  have HzB := Lib.hid hzB
  have hzz : (zB == zB) = true := by simp
  clear hs ht htab htb hA hB hge hfit hC hLB hT hND hzB
  go_enter Tryd.func3, Tryd.ntmps3
  go_wp2_with fail
  refine HAl.out.mono ?_
  rintro ε w1 ⟨rfl, hb1⟩
  have HN1 := Lib.hid (HNats.out w1 hb1)
  have HB1 := Lib.hid hb1
  have HT1 := Lib.hid (HTab.out.below hb1 (Nat.le_refl _))
  have HTb1 := Lib.hid (HTb.out.below hb1 (Nat.le_refl _))
  clear hb1 HAl HNats
  go_wp2_with fail
  refine HN1.out.mono ?_
  rintro ε w2 ⟨ga, ca, gb, cb, xa, ya, za, xb, yb, zb, xc, yc, zc, xd, yd, zd, rfl, q1, q2, q3, q4, hNa, hNb, hRa, hRb, hbel, hca2, hcb2⟩
  have hxn := rn_form hRa
  obtain ⟨_, _, _, he1, _, hx0⟩ := hxn
  injection he1 with ee1 ee2 ee3
  subst ee2
  clear ee1 ee3
  have hyn := rn_form hRb
  obtain ⟨_, _, _, he2, _, hy0⟩ := hyn
  injection he2 with ff1 ff2 ff3
  subst ff2
  clear ff1 ff3
  have hxz : (((yc : Nat) : Int) == 0) = zB := zlen hx0 HzB.out
  have hyl : ¬ (0 : Int) < (yd : Int) := by have := hy0.2 rfl; omega
  have hylN : ¬ 0 < yd := by omega
  have hylN2 : decide (0 < yd) = false := by simp; omega
  have hxzN : (yc == 0) = zB := zlenN hx0 HzB.out
  have V0 : Ax w1 [] [(.agg #[.slice xa ya za], A), (.agg #[.slice xb yb zb], 0)] [(.slice xc yc zc, A), (.slice xd yd zd, 0)] w2 := ⟨hbel, fun k b v e => by simp at e, fun k v N e => by
      rcases k with _ | _ | k
      · simp at e; obtain ⟨rfl, rfl⟩ := e; exact ⟨hNa, H4.out.1⟩
      · simp at e; obtain ⟨rfl, rfl⟩ := e; exact ⟨hNb, H4.out.2⟩
      · simp at e, fun k v N e => by
      rcases k with _ | _ | k
      · simp at e; obtain ⟨rfl, rfl⟩ := e; exact ⟨hRa, H5.out.1⟩
      · simp at e; obtain ⟨rfl, rfl⟩ := e; exact ⟨hRb, H5.out.2⟩
      · simp at e⟩
  have HV0_ := Lib.hid V0
  have r1 : w2.drew.cell? ⟨ga, 0, none⟩ = some (.slice xa ya za) := q1
  have r2 : w2.drew.cell? ⟨ga, 1, none⟩ = some (.slice xb yb zb) := q2
  have r3 : w2.drew.cell? ⟨gb, 0, none⟩ = some (.slice xc yc zc) := q3
  have r4 : w2.drew.cell? ⟨gb, 1, none⟩ = some (.slice xd yd zd) := q4
  have HS : Hid (∀ W, Below w2.heap.size w2 W → W.cell? ⟨ga, 0, none⟩ = some (.slice xa ya za) ∧ W.cell? ⟨ga, 1, none⟩ = some (.slice xb yb zb) ∧ W.cell? ⟨gb, 0, none⟩ = some (.slice xc yc zc) ∧ W.cell? ⟨gb, 1, none⟩ = some (.slice xd yd zd)) := Lib.hid (fun W h => ⟨(h.cell (p := ⟨ga, 0, none⟩) (World.block_lt_of_cell? w2 ⟨ga, 0, none⟩ q1)).trans q1, (h.cell (p := ⟨ga, 1, none⟩) (World.block_lt_of_cell? w2 ⟨ga, 1, none⟩ q2)).trans q2, (h.cell (p := ⟨gb, 0, none⟩) (World.block_lt_of_cell? w2 ⟨gb, 0, none⟩ q3)).trans q3, (h.cell (p := ⟨gb, 1, none⟩) (World.block_lt_of_cell? w2 ⟨gb, 1, none⟩ q4)).trans q4⟩)
  have hsz1 := hbel.size
  clear hNa hNb hRa hRb hbel q1 q2 q3 q4 V0 HN1 hx0 hy0
  go_upto_region 6 with fail
  go_cut [8, 9, 10, 11] from 44 to 56 (fun p8 p9 s10 s11 wx => ∃ (ba bb : Nat), p8 = .pointer (some ⟨ba, 0, none⟩) ∧ p9 = .pointer (some ⟨bb, 0, none⟩) ∧ s10 = .slice xc yc zc ∧ s11 = .slice xd yd zd ∧ Hid (Ax w1 [(ba, .slice xa ya za), (bb, .slice xb yb zb)] [(.agg #[.slice xa ya za], A), (.agg #[.slice xb yb zb], 0)] [(.slice xc yc zc, A), (.slice xd yd zd, 0)] wx))
  case first =>
    have hd2 := below_drew2 w2
    go_wp2_with fail
    refine wp_region_held_drew (S := (fun w' => w'.cell? ⟨ga, 0, none⟩ = some (.slice xa ya za) ∧ w'.cell? ⟨ga, 1, none⟩ = some (.slice xb yb zb) ∧ w'.cell? ⟨gb, 0, none⟩ = some (.slice xc yc zc) ∧ w'.cell? ⟨gb, 1, none⟩ = some (.slice xd yd zd))) (by kernel_rfl) ?_ (fun hHeld => ?_)
    · exact ⟨r1, r2, r3, r4⟩
    refine wpAnyH_take (i := 0) (oi := { dst := some 44, op := Op.move (Operand.tmp 5), type := 23, pos := "law.go:62", after := #[], guard := none }) (v := ?_) rfl (by kernel_rfl) (by kernel_rfl) (by kernel_rfl) (fun _ _ _ h => h) (Or.inl ⟨by rfl, ?_⟩) (by assumption) ?_
    rotate_left
    · intro w hSw; (try dsimp only at hSw); go_simp; (try with_reducible rfl)
    try simp only [Act.put, List.setIfInBounds_toArray, List.set_cons_zero, List.set_cons_succ]
    refine wpAnyH_take (i := 1) (oi := { dst := some 45, op := Op.indexAddr 23 (Operand.tmp 44) (Operand.const (Value.int IntKind.i64 0)), type := 0, pos := "law.go:62", after := #[{ on := 0, ground := Ground.data }], guard := none }) (v := ?_) rfl (by kernel_rfl) (by kernel_rfl) (by kernel_rfl) (fun _ _ _ h => h) (Or.inl ⟨by rfl, ?_⟩) (by assumption) ?_
    rotate_left
    · intro w hSw; (try dsimp only at hSw); go_simp; (try with_reducible rfl)
    try simp only [Act.put, List.setIfInBounds_toArray, List.set_cons_zero, List.set_cons_succ]
    refine wpAnyH_take (i := 2) (oi := { dst := some 46, op := Op.load 30 (Operand.tmp 45), type := 30, pos := "law.go:62", after := #[{ on := 1, ground := Ground.data }], guard := none }) (v := ?_) rfl (by kernel_rfl) (by kernel_rfl) (by kernel_rfl) (fun _ _ _ h => h) (Or.inl ⟨by rfl, ?_⟩) (by assumption) ?_
    rotate_left
    · intro w hSw; (try dsimp only at hSw); go_simp; (try with_reducible rfl)
    try simp only [Act.put, List.setIfInBounds_toArray, List.set_cons_zero, List.set_cons_succ]
    refine wpAnyH_take (i := 3) (oi := { dst := some 47, op := Op.move (Operand.tmp 5), type := 23, pos := "law.go:62", after := #[{ on := 14, ground := Ground.gcOnly Departure.lateStores }], guard := none }) (v := ?_) rfl (by kernel_rfl) (by kernel_rfl) (by kernel_rfl) (fun _ _ _ h => h) (Or.inl ⟨by rfl, ?_⟩) (by assumption) ?_
    rotate_left
    · intro w hSw; (try dsimp only at hSw); go_simp; (try with_reducible rfl)
    try simp only [Act.put, List.setIfInBounds_toArray, List.set_cons_zero, List.set_cons_succ]
    refine wpAnyH_take (i := 4) (oi := { dst := some 48, op := Op.indexAddr 23 (Operand.tmp 47) (Operand.const (Value.int IntKind.i64 1)), type := 0, pos := "law.go:62", after := #[{ on := 3, ground := Ground.data }, { on := 14, ground := Ground.gcOnly Departure.lateStores }], guard := none }) (v := ?_) rfl (by kernel_rfl) (by kernel_rfl) (by kernel_rfl) (fun _ _ _ h => h) (Or.inl ⟨by rfl, ?_⟩) (by assumption) ?_
    rotate_left
    · intro w hSw; (try dsimp only at hSw); go_simp; (try with_reducible rfl)
    try simp only [Act.put, List.setIfInBounds_toArray, List.set_cons_zero, List.set_cons_succ]
    refine wpAnyH_take (i := 5) (oi := { dst := some 49, op := Op.load 30 (Operand.tmp 48), type := 30, pos := "law.go:62", after := #[{ on := 4, ground := Ground.data }, { on := 14, ground := Ground.gcOnly Departure.lateStores }], guard := none }) (v := ?_) rfl (by kernel_rfl) (by kernel_rfl) (by kernel_rfl) (fun _ _ _ h => h) (Or.inl ⟨by rfl, ?_⟩) (by assumption) ?_
    rotate_left
    · intro w hSw; (try dsimp only at hSw); go_simp; (try with_reducible rfl)
    try simp only [Act.put, List.setIfInBounds_toArray, List.set_cons_zero, List.set_cons_succ]
    refine wpAnyH_take (i := 6) (oi := { dst := some 50, op := Op.move (Operand.tmp 6), type := 24, pos := "law.go:62", after := #[{ on := 15, ground := Ground.gcOnly Departure.lateStores }], guard := none }) (v := ?_) rfl (by kernel_rfl) (by kernel_rfl) (by kernel_rfl) (fun _ _ _ h => h) (Or.inl ⟨by rfl, ?_⟩) (by assumption) ?_
    rotate_left
    · intro w hSw; (try dsimp only at hSw); go_simp; (try with_reducible rfl)
    try simp only [Act.put, List.setIfInBounds_toArray, List.set_cons_zero, List.set_cons_succ]
    refine wpAnyH_take (i := 7) (oi := { dst := some 51, op := Op.indexAddr 24 (Operand.tmp 50) (Operand.const (Value.int IntKind.i64 0)), type := 0, pos := "law.go:62", after := #[{ on := 6, ground := Ground.data }, { on := 15, ground := Ground.gcOnly Departure.lateStores }], guard := none }) (v := ?_) rfl (by kernel_rfl) (by kernel_rfl) (by kernel_rfl) (fun _ _ _ h => h) (Or.inl ⟨by rfl, ?_⟩) (by assumption) ?_
    rotate_left
    · intro w hSw; (try dsimp only at hSw); go_simp; (try with_reducible rfl)
    try simp only [Act.put, List.setIfInBounds_toArray, List.set_cons_zero, List.set_cons_succ]
    refine wpAnyH_take (i := 8) (oi := { dst := some 52, op := Op.load 32 (Operand.tmp 51), type := 32, pos := "law.go:62", after := #[{ on := 7, ground := Ground.data }, { on := 15, ground := Ground.gcOnly Departure.lateStores }], guard := none }) (v := ?_) rfl (by kernel_rfl) (by kernel_rfl) (by kernel_rfl) (fun _ _ _ h => h) (Or.inl ⟨by rfl, ?_⟩) (by assumption) ?_
    rotate_left
    · intro w hSw; (try dsimp only at hSw); go_simp; (try with_reducible rfl)
    try simp only [Act.put, List.setIfInBounds_toArray, List.set_cons_zero, List.set_cons_succ]
    refine wpAnyH_take (i := 9) (oi := { dst := some 53, op := Op.move (Operand.tmp 6), type := 24, pos := "law.go:62", after := #[{ on := 16, ground := Ground.gcOnly Departure.lateStores }], guard := none }) (v := ?_) rfl (by kernel_rfl) (by kernel_rfl) (by kernel_rfl) (fun _ _ _ h => h) (Or.inl ⟨by rfl, ?_⟩) (by assumption) ?_
    rotate_left
    · intro w hSw; (try dsimp only at hSw); go_simp; (try with_reducible rfl)
    try simp only [Act.put, List.setIfInBounds_toArray, List.set_cons_zero, List.set_cons_succ]
    refine wpAnyH_take (i := 10) (oi := { dst := some 54, op := Op.indexAddr 24 (Operand.tmp 53) (Operand.const (Value.int IntKind.i64 1)), type := 0, pos := "law.go:62", after := #[{ on := 9, ground := Ground.data }, { on := 16, ground := Ground.gcOnly Departure.lateStores }], guard := none }) (v := ?_) rfl (by kernel_rfl) (by kernel_rfl) (by kernel_rfl) (fun _ _ _ h => h) (Or.inl ⟨by rfl, ?_⟩) (by assumption) ?_
    rotate_left
    · intro w hSw; (try dsimp only at hSw); go_simp; (try with_reducible rfl)
    try simp only [Act.put, List.setIfInBounds_toArray, List.set_cons_zero, List.set_cons_succ]
    refine wpAnyH_take (i := 11) (oi := { dst := some 55, op := Op.load 32 (Operand.tmp 54), type := 32, pos := "law.go:62", after := #[{ on := 10, ground := Ground.data }, { on := 16, ground := Ground.gcOnly Departure.lateStores }], guard := none }) (v := ?_) rfl (by kernel_rfl) (by kernel_rfl) (by kernel_rfl) (fun _ _ _ h => h) (Or.inl ⟨by rfl, ?_⟩) (by assumption) ?_
    rotate_left
    · intro w hSw; (try dsimp only at hSw); go_simp; (try with_reducible rfl)
    try simp only [Act.put, List.setIfInBounds_toArray, List.set_cons_zero, List.set_cons_succ]
    refine wpAnyH_ready (rs := [12, 13]) (by kernel_rfl) (by simp) ?_
    refine (AllReadyH.cons (o := { dst := some 8, op := Op.alloc 30, type := 0, pos := "law.go:62", after := #[], guard := none }) rfl (fun K hK => ?_) (AllReadyH.cons (o := { dst := some 9, op := Op.alloc 30, type := 0, pos := "law.go:62", after := #[], guard := none }) rfl (fun K hK => ?_) AllReadyH.nil))
    · have R1 := HV0_.out.alloc (.slice none 0 0)
      have T1 := hd2.alloc hd2.size (.cells #[.slice none 0 0] 30)
      go_wp2_with fail
      refine hK.out _ _ ?_ (fun hHeld => ?_)
      · exact HS.out _ T1
      clear hK K
      try simp only [Act.put, List.setIfInBounds_toArray, List.set_cons_zero, List.set_cons_succ]
      refine wpAnyH_ready (rs := [13]) (by kernel_rfl) (by simp) ?_
      refine (AllReadyH.cons (o := { dst := some 9, op := Op.alloc 30, type := 0, pos := "law.go:62", after := #[], guard := none }) rfl (fun K hK => ?_) AllReadyH.nil)
      have R2 := (R1.alloc (.slice none 0 0)).below (below_drew2 _)
      rw [World.size_alloc] at R2
      have T2 := T1.alloc T1.size (.cells #[.slice none 0 0] 30)
      go_wp2_with fail
      refine hK.out _ _ ?_ (fun hHeld => ?_)
      · exact HS.out _ T2
      clear hK K
      try simp only [Act.put, List.setIfInBounds_toArray, List.set_cons_zero, List.set_cons_succ]
      refine wpAnyH_ready (rs := [14]) (by kernel_rfl) (by simp) ?_
      refine (AllReadyH.cons (o := { dst := none, op := Op.store 30 (Operand.tmp 8) (Operand.tmp 46), type := 0, pos := "law.go:62", after := #[{ on := 12, ground := Ground.data }, { on := 2, ground := Ground.data }, { on := 0, ground := Ground.phase }, { on := 1, ground := Ground.phase }, { on := 2, ground := Ground.phase }, { on := 3, ground := Ground.textOnly Departure.lateStores }, { on := 4, ground := Ground.textOnly Departure.lateStores }, { on := 5, ground := Ground.textOnly Departure.lateStores }, { on := 6, ground := Ground.textOnly Departure.lateStores }, { on := 7, ground := Ground.textOnly Departure.lateStores }, { on := 8, ground := Ground.textOnly Departure.lateStores }, { on := 9, ground := Ground.textOnly Departure.lateStores }, { on := 10, ground := Ground.textOnly Departure.lateStores }, { on := 11, ground := Ground.textOnly Departure.lateStores }, { on := 12, ground := Ground.phase }, { on := 13, ground := Ground.phase }], guard := none }) rfl (fun K hK => ?_) AllReadyH.nil)
      have R3 := R2.swap.set2 (by omega) (by omega) (.slice xa ya za)
      have T3 := T2.setCell (p := ⟨w2.heap.size, 0, none⟩) (by simp) (.slice xa ya za)
      have B3 := R2.swap.box 0 _ _ rfl
      refine if_wanted rfl ?_
      refine wp_store_box (Operand.tmp 8) (Operand.tmp 46) rfl rfl _ (.slice none 0 0) rfl rfl B3 ?_
      refine hK.out _ _ ?_ (fun hHeld => ?_)
      · exact HS.out _ T3
      clear hK K
      try simp only [Act.put, List.setIfInBounds_toArray, List.set_cons_zero, List.set_cons_succ]
      refine wpAnyH_ready (rs := [15]) (by kernel_rfl) (by simp) ?_
      refine (AllReadyH.cons (o := { dst := none, op := Op.store 30 (Operand.tmp 9) (Operand.tmp 49), type := 0, pos := "law.go:62", after := #[{ on := 13, ground := Ground.data }, { on := 5, ground := Ground.data }, { on := 14, ground := Ground.chain }, { on := 0, ground := Ground.phase }, { on := 1, ground := Ground.phase }, { on := 2, ground := Ground.phase }, { on := 3, ground := Ground.phase }, { on := 4, ground := Ground.phase }, { on := 5, ground := Ground.phase }, { on := 6, ground := Ground.textOnly Departure.lateStores }, { on := 7, ground := Ground.textOnly Departure.lateStores }, { on := 8, ground := Ground.textOnly Departure.lateStores }, { on := 9, ground := Ground.textOnly Departure.lateStores }, { on := 10, ground := Ground.textOnly Departure.lateStores }, { on := 11, ground := Ground.textOnly Departure.lateStores }, { on := 12, ground := Ground.phase }, { on := 13, ground := Ground.phase }, { on := 14, ground := Ground.phase }], guard := none }) rfl (fun K hK => ?_) AllReadyH.nil)
      have R4 := R3.swap.set2 (by omega) (by omega) (.slice xb yb zb)
      have T4 := T3.setCell (p := ⟨w2.heap.size + 1, 0, none⟩) (by simp) (.slice xb yb zb)
      have B4 := R3.swap.box 0 _ _ rfl
      refine if_wanted rfl ?_
      refine wp_store_box (Operand.tmp 9) (Operand.tmp 49) rfl rfl _ (.slice none 0 0) rfl rfl B4 ?_
      refine hK.out _ _ ?_ (fun hHeld => ?_)
      · exact HS.out _ T4
      clear hK K
      try simp only [Act.put, List.setIfInBounds_toArray, List.set_cons_zero, List.set_cons_succ]
      refine wpAnyH_take (i := 16) (oi := { dst := some 10, op := Op.assign (Operand.tmp 52), type := 32, pos := "law.go:62", after := #[{ on := 8, ground := Ground.data }, { on := 15, ground := Ground.chain }, { on := 0, ground := Ground.phase }, { on := 1, ground := Ground.phase }, { on := 2, ground := Ground.phase }, { on := 3, ground := Ground.phase }, { on := 4, ground := Ground.phase }, { on := 5, ground := Ground.phase }, { on := 6, ground := Ground.phase }, { on := 7, ground := Ground.phase }, { on := 8, ground := Ground.phase }, { on := 9, ground := Ground.textOnly Departure.lateStores }, { on := 10, ground := Ground.textOnly Departure.lateStores }, { on := 11, ground := Ground.textOnly Departure.lateStores }, { on := 12, ground := Ground.phase }, { on := 13, ground := Ground.phase }, { on := 14, ground := Ground.phase }, { on := 15, ground := Ground.phase }], guard := none }) (v := ?_) rfl (by kernel_rfl) (by kernel_rfl) (by kernel_rfl) (fun _ _ _ h => h) (Or.inl ⟨by rfl, ?_⟩) (by assumption) ?_
      rotate_left
      · intro w hSw; (try dsimp only at hSw); go_simp; (try with_reducible rfl)
      try simp only [Act.put, List.setIfInBounds_toArray, List.set_cons_zero, List.set_cons_succ]
      refine wpAnyH_take (i := 17) (oi := { dst := some 11, op := Op.assign (Operand.tmp 55), type := 32, pos := "law.go:62", after := #[{ on := 11, ground := Ground.data }, { on := 16, ground := Ground.chain }, { on := 0, ground := Ground.phase }, { on := 1, ground := Ground.phase }, { on := 2, ground := Ground.phase }, { on := 3, ground := Ground.phase }, { on := 4, ground := Ground.phase }, { on := 5, ground := Ground.phase }, { on := 6, ground := Ground.phase }, { on := 7, ground := Ground.phase }, { on := 8, ground := Ground.phase }, { on := 9, ground := Ground.phase }, { on := 10, ground := Ground.phase }, { on := 11, ground := Ground.phase }, { on := 12, ground := Ground.phase }, { on := 13, ground := Ground.phase }, { on := 14, ground := Ground.phase }, { on := 15, ground := Ground.phase }, { on := 16, ground := Ground.phase }], guard := none }) (v := ?_) rfl (by kernel_rfl) (by kernel_rfl) (by kernel_rfl) (fun _ _ _ h => h) (Or.inl ⟨by rfl, ?_⟩) (by assumption) ?_
      rotate_left
      · intro w hSw; (try dsimp only at hSw); go_simp; (try with_reducible rfl)
      try simp only [Act.put, List.setIfInBounds_toArray, List.set_cons_zero, List.set_cons_succ]
      refine wpAnyH_done (by kernel_rfl) ?_ _
      have HR := Lib.hid R4.swap
      clear R1 R2 R3 R4 T1 T2 T3 T4 HS
      go_wp2_with fail
      go_meet
      case rel => exact ⟨_, _, rfl, rfl, rfl, rfl, HR⟩
    · have R1 := HV0_.out.alloc (.slice none 0 0)
      have T1 := hd2.alloc hd2.size (.cells #[.slice none 0 0] 30)
      go_wp2_with fail
      refine hK.out _ _ ?_ (fun hHeld => ?_)
      · exact HS.out _ T1
      clear hK K
      try simp only [Act.put, List.setIfInBounds_toArray, List.set_cons_zero, List.set_cons_succ]
      refine wpAnyH_ready (rs := [12]) (by kernel_rfl) (by simp) ?_
      refine (AllReadyH.cons (o := { dst := some 8, op := Op.alloc 30, type := 0, pos := "law.go:62", after := #[], guard := none }) rfl (fun K hK => ?_) AllReadyH.nil)
      have R2 := (R1.alloc (.slice none 0 0)).below (below_drew2 _)
      rw [World.size_alloc] at R2
      have T2 := T1.alloc T1.size (.cells #[.slice none 0 0] 30)
      go_wp2_with fail
      refine hK.out _ _ ?_ (fun hHeld => ?_)
      · exact HS.out _ T2
      clear hK K
      try simp only [Act.put, List.setIfInBounds_toArray, List.set_cons_zero, List.set_cons_succ]
      refine wpAnyH_ready (rs := [14]) (by kernel_rfl) (by simp) ?_
      refine (AllReadyH.cons (o := { dst := none, op := Op.store 30 (Operand.tmp 8) (Operand.tmp 46), type := 0, pos := "law.go:62", after := #[{ on := 12, ground := Ground.data }, { on := 2, ground := Ground.data }, { on := 0, ground := Ground.phase }, { on := 1, ground := Ground.phase }, { on := 2, ground := Ground.phase }, { on := 3, ground := Ground.textOnly Departure.lateStores }, { on := 4, ground := Ground.textOnly Departure.lateStores }, { on := 5, ground := Ground.textOnly Departure.lateStores }, { on := 6, ground := Ground.textOnly Departure.lateStores }, { on := 7, ground := Ground.textOnly Departure.lateStores }, { on := 8, ground := Ground.textOnly Departure.lateStores }, { on := 9, ground := Ground.textOnly Departure.lateStores }, { on := 10, ground := Ground.textOnly Departure.lateStores }, { on := 11, ground := Ground.textOnly Departure.lateStores }, { on := 12, ground := Ground.phase }, { on := 13, ground := Ground.phase }], guard := none }) rfl (fun K hK => ?_) AllReadyH.nil)
      have R3 := R2.set2 (by omega) (by omega) (.slice xa ya za)
      have T3 := T2.setCell (p := ⟨w2.heap.size + 1, 0, none⟩) (by simp) (.slice xa ya za)
      have B3 := R2.box 0 _ _ rfl
      refine if_wanted rfl ?_
      refine wp_store_box (Operand.tmp 8) (Operand.tmp 46) rfl rfl _ (.slice none 0 0) rfl rfl B3 ?_
      refine hK.out _ _ ?_ (fun hHeld => ?_)
      · exact HS.out _ T3
      clear hK K
      try simp only [Act.put, List.setIfInBounds_toArray, List.set_cons_zero, List.set_cons_succ]
      refine wpAnyH_ready (rs := [15]) (by kernel_rfl) (by simp) ?_
      refine (AllReadyH.cons (o := { dst := none, op := Op.store 30 (Operand.tmp 9) (Operand.tmp 49), type := 0, pos := "law.go:62", after := #[{ on := 13, ground := Ground.data }, { on := 5, ground := Ground.data }, { on := 14, ground := Ground.chain }, { on := 0, ground := Ground.phase }, { on := 1, ground := Ground.phase }, { on := 2, ground := Ground.phase }, { on := 3, ground := Ground.phase }, { on := 4, ground := Ground.phase }, { on := 5, ground := Ground.phase }, { on := 6, ground := Ground.textOnly Departure.lateStores }, { on := 7, ground := Ground.textOnly Departure.lateStores }, { on := 8, ground := Ground.textOnly Departure.lateStores }, { on := 9, ground := Ground.textOnly Departure.lateStores }, { on := 10, ground := Ground.textOnly Departure.lateStores }, { on := 11, ground := Ground.textOnly Departure.lateStores }, { on := 12, ground := Ground.phase }, { on := 13, ground := Ground.phase }, { on := 14, ground := Ground.phase }], guard := none }) rfl (fun K hK => ?_) AllReadyH.nil)
      have R4 := R3.swap.set2 (by omega) (by omega) (.slice xb yb zb)
      have T4 := T3.setCell (p := ⟨w2.heap.size, 0, none⟩) (by simp) (.slice xb yb zb)
      have B4 := R3.swap.box 0 _ _ rfl
      refine if_wanted rfl ?_
      refine wp_store_box (Operand.tmp 9) (Operand.tmp 49) rfl rfl _ (.slice none 0 0) rfl rfl B4 ?_
      refine hK.out _ _ ?_ (fun hHeld => ?_)
      · exact HS.out _ T4
      clear hK K
      try simp only [Act.put, List.setIfInBounds_toArray, List.set_cons_zero, List.set_cons_succ]
      refine wpAnyH_take (i := 16) (oi := { dst := some 10, op := Op.assign (Operand.tmp 52), type := 32, pos := "law.go:62", after := #[{ on := 8, ground := Ground.data }, { on := 15, ground := Ground.chain }, { on := 0, ground := Ground.phase }, { on := 1, ground := Ground.phase }, { on := 2, ground := Ground.phase }, { on := 3, ground := Ground.phase }, { on := 4, ground := Ground.phase }, { on := 5, ground := Ground.phase }, { on := 6, ground := Ground.phase }, { on := 7, ground := Ground.phase }, { on := 8, ground := Ground.phase }, { on := 9, ground := Ground.textOnly Departure.lateStores }, { on := 10, ground := Ground.textOnly Departure.lateStores }, { on := 11, ground := Ground.textOnly Departure.lateStores }, { on := 12, ground := Ground.phase }, { on := 13, ground := Ground.phase }, { on := 14, ground := Ground.phase }, { on := 15, ground := Ground.phase }], guard := none }) (v := ?_) rfl (by kernel_rfl) (by kernel_rfl) (by kernel_rfl) (fun _ _ _ h => h) (Or.inl ⟨by rfl, ?_⟩) (by assumption) ?_
      rotate_left
      · intro w hSw; (try dsimp only at hSw); go_simp; (try with_reducible rfl)
      try simp only [Act.put, List.setIfInBounds_toArray, List.set_cons_zero, List.set_cons_succ]
      refine wpAnyH_take (i := 17) (oi := { dst := some 11, op := Op.assign (Operand.tmp 55), type := 32, pos := "law.go:62", after := #[{ on := 11, ground := Ground.data }, { on := 16, ground := Ground.chain }, { on := 0, ground := Ground.phase }, { on := 1, ground := Ground.phase }, { on := 2, ground := Ground.phase }, { on := 3, ground := Ground.phase }, { on := 4, ground := Ground.phase }, { on := 5, ground := Ground.phase }, { on := 6, ground := Ground.phase }, { on := 7, ground := Ground.phase }, { on := 8, ground := Ground.phase }, { on := 9, ground := Ground.phase }, { on := 10, ground := Ground.phase }, { on := 11, ground := Ground.phase }, { on := 12, ground := Ground.phase }, { on := 13, ground := Ground.phase }, { on := 14, ground := Ground.phase }, { on := 15, ground := Ground.phase }, { on := 16, ground := Ground.phase }], guard := none }) (v := ?_) rfl (by kernel_rfl) (by kernel_rfl) (by kernel_rfl) (fun _ _ _ h => h) (Or.inl ⟨by rfl, ?_⟩) (by assumption) ?_
      rotate_left
      · intro w hSw; (try dsimp only at hSw); go_simp; (try with_reducible rfl)
      try simp only [Act.put, List.setIfInBounds_toArray, List.set_cons_zero, List.set_cons_succ]
      refine wpAnyH_done (by kernel_rfl) ?_ _
      have HR := Lib.hid R4.swap
      clear R1 R2 R3 R4 T1 T2 T3 T4 HS
      go_wp2_with fail
      go_meet
      case rel => exact ⟨_, _, rfl, rfl, rfl, rfl, HR⟩
  case rest =>
    obtain ⟨ba, bb, rfl, rfl, rfl, rfl, HV0⟩ := hcut
    clear HV0_ HS r1 r2 r3 r4
    have K1 := Lib.hid (HV0.out.sub 0 1 rfl rfl Hge.out H1.out.d)
    have kba1 := HV0.out.cell 0 rfl
    have kbb1 := HV0.out.cell 1 rfl
    go_wp2_with fail
    refine K1.out.mono ?_
    rintro ε w11 ⟨xs, ys, zs, rfl, V⟩
    replace V := V.alloc (.slice xs ys zs)
    have HV1 := Lib.hid V
    clear V K1 HV0 kba1 kbb1
    have K2 := Lib.hid (HV1.out.dvm0 1 2 rfl rfl)
    have kba2 := HV1.out.cell 1 rfl
    have kbb2 := HV1.out.cell 2 rfl
    go_wp2_with fail
    refine K2.out.mono ?_
    rintro ε w12 ⟨rfl, V⟩
    replace V := V.alloc (.slice none 0 0)
    replace V := V.alloc (.slice none 0 0)
    rw [World.size_alloc] at V
    have HV2 := Lib.hid V
    clear V K2 HV1 kba2 kbb2
    have K3 := Lib.hid (HV2.out.cmp 3 4 rfl rfl HC.out)
    have kba3 := HV2.out.cell 3 rfl
    have kbb3 := HV2.out.cell 4 rfl
    go_wp2_with fail
    refine K3.out.mono ?_
    rintro ε w13 ⟨rfl, V⟩
    have HV3 := Lib.hid V
    clear V K3 HV2 kba3 kbb3
    have K4 := Lib.hid (HV3.out.rcmp 0 1 rfl rfl HC.out)
    go_wp2_with fail
    refine K4.out.mono ?_
    rintro ε w14 ⟨rfl, V⟩
    have HV4 := Lib.hid V
    clear V K4 HV3 
    have K5 := Lib.hid (HV4.out.add 3 4 rfl rfl H1.out.s)
    have kba5 := HV4.out.cell 3 rfl
    have kbb5 := HV4.out.cell 4 rfl
    go_wp2_with fail
    refine K5.out.mono ?_
    rintro ε w15 ⟨xs1, ys1, zs1, rfl, V⟩
    have HV5 := Lib.hid V
    clear V K5 HV4 kba5 kbb5
    have K6 := Lib.hid (HV5.out.radd 0 1 rfl rfl H2.out.s)
    go_wp2_with fail
    refine K6.out.mono ?_
    rintro ε w16 ⟨xs2, ys2, zs2, rfl, V⟩
    have HV6 := Lib.hid V
    clear V K6 HV5 
    have K7 := Lib.hid (HV6.out.same 0 0 rfl rfl HT1.out)
    go_wp2_with fail
    refine K7.out.mono ?_
    rintro ε w17 ⟨rfl, V⟩
    have HV7 := Lib.hid V
    clear V K7 HV6 
    have K8 := Lib.hid (HV7.out.mul 4 5 rfl rfl H1.out.p)
    have kba8 := HV7.out.cell 3 rfl
    have kbb8 := HV7.out.cell 4 rfl
    go_wp2_with fail
    refine K8.out.mono ?_
    rintro ε w18 ⟨xp1, yp1, zp1, rfl, V⟩
    have HV8 := Lib.hid V
    clear V K8 HV7 kba8 kbb8
    have K9 := Lib.hid (HV8.out.rmul 1 2 rfl rfl H2.out.p)
    go_wp2_with fail
    refine K9.out.mono ?_
    rintro ε w19 ⟨xp2, yp2, zp2, rfl, V⟩
    have HV9 := Lib.hid V
    clear V K9 HV8 
    have K10 := Lib.hid (HV9.out.same 0 0 rfl rfl HT1.out)
    go_wp2_with fail
    refine K10.out.mono ?_
    rintro ε w20 ⟨rfl, V⟩
    have HV10 := Lib.hid V
    clear V K10 HV9 
    have K11 := Lib.hid (HV10.out.gcd 5 6 rfl rfl H3.out.1 H3.out.2 HTb1.out H1.out.g)
    have kba11 := HV10.out.cell 3 rfl
    have kbb11 := HV10.out.cell 4 rfl
    go_wp2_with fail
    refine K11.out.mono ?_
    rintro ε w21 ⟨xg, yg, zg, rfl, V⟩
    have HV11 := Lib.hid V
    clear V K11 HV10 kba11 kbb11
    have K12 := Lib.hid (HV11.out.rgcd 2 3 rfl rfl H2.out.g)
    go_wp2_with fail
    refine K12.out.mono ?_
    rintro ε w22 ⟨xg2, yg2, zg2, rfl, V⟩
    have HV12 := Lib.hid V
    clear V K12 HV11 
    have K13 := Lib.hid (HV12.out.same 0 0 rfl rfl HT1.out)
    go_wp2_with fail
    refine K13.out.mono ?_
    rintro ε w23 ⟨rfl, V⟩
    have HV13 := Lib.hid V
    clear V K13 HV12 
    have K14 := Lib.hid (HV13.out.rcmp 3 4 rfl rfl HC.out)
    go_wp2_with fail
    refine K14.out.mono ?_
    rintro ε w24 ⟨rfl, V⟩
    have HV14 := Lib.hid V
    clear V K14 HV13 
    have V := HV14.out.below (below_drew2 _)
    go_wp2_with fail
    refine wp_region_held_drew (S := (fun w' => w'.cell? ⟨w11.heap.size, 0, none⟩ = some (.slice xs ys zs))) (by kernel_rfl) ?_ (fun hHeld => ?_)
    · exact V.cell 2 rfl
    refine wpAnyH_take (i := 0) (oi := { dst := some 121, op := Op.move (Operand.tmp 13), type := 4, pos := "law.go:68", after := #[], guard := none }) (v := ?_) rfl (by kernel_rfl) (by kernel_rfl) (by kernel_rfl) (fun _ _ _ h => h) (Or.inl ⟨by rfl, ?_⟩) (by assumption) ?_
    rotate_left
    · intro w hSw; (try dsimp only at hSw); go_simp; (try with_reducible rfl)
    try simp only [Act.put, List.setIfInBounds_toArray, List.set_cons_zero, List.set_cons_succ]
    refine wpAnyH_take (i := 1) (oi := { dst := some 122, op := Op.move (Operand.tmp 121), type := 4, pos := "law.go:68", after := #[{ on := 0, ground := Ground.data }], guard := none }) (v := ?_) rfl (by kernel_rfl) (by kernel_rfl) (by kernel_rfl) (fun _ _ _ h => h) (Or.inl ⟨by rfl, ?_⟩) (by assumption) ?_
    rotate_left
    · intro w hSw; (try dsimp only at hSw); go_simp; (try with_reducible rfl)
    try simp only [Act.put, List.setIfInBounds_toArray, List.set_cons_zero, List.set_cons_succ]
    refine wpAnyH_take (i := 2) (oi := { dst := some 123, op := Op.load 30 (Operand.tmp 12), type := 30, pos := "law.go:68", after := #[{ on := 1, ground := Ground.guard }], guard := some (1, true) }) (v := ?_) rfl (by kernel_rfl) (by kernel_rfl) (by kernel_rfl) (fun _ _ _ h => h) (Or.inl ⟨by rfl, ?_⟩) (by assumption) ?_
    rotate_left
    · intro w hSw; (try dsimp only at hSw); go_simp; (try with_reducible rfl)
    try simp only [Act.put, List.setIfInBounds_toArray, List.set_cons_zero, List.set_cons_succ]
    refine wpAnyH_take (i := 3) (oi := { dst := some 124, op := Op.move (Operand.tmp 10), type := 32, pos := "law.go:68", after := #[{ on := 1, ground := Ground.guard }], guard := some (1, true) }) (v := ?_) rfl (by kernel_rfl) (by kernel_rfl) (by kernel_rfl) (fun _ _ _ h => h) (Or.inl ⟨by rfl, ?_⟩) (by assumption) ?_
    rotate_left
    · intro w hSw; (try dsimp only at hSw); go_simp; (try with_reducible rfl)
    try simp only [Act.put, List.setIfInBounds_toArray, List.set_cons_zero, List.set_cons_succ]
    refine wpAnyH_take (i := 4) (oi := { dst := some 125, op := Op.move (Operand.tmp 11), type := 32, pos := "law.go:68", after := #[{ on := 1, ground := Ground.guard }], guard := some (1, true) }) (v := ?_) rfl (by kernel_rfl) (by kernel_rfl) (by kernel_rfl) (fun _ _ _ h => h) (Or.inl ⟨by rfl, ?_⟩) (by assumption) ?_
    rotate_left
    · intro w hSw; (try dsimp only at hSw); go_simp; (try with_reducible rfl)
    try simp only [Act.put, List.setIfInBounds_toArray, List.set_cons_zero, List.set_cons_succ]
    refine wpAnyH_ready (rs := [5]) (by kernel_rfl) (by simp) ?_
    refine AllReadyH.cons (o := { dst := some 126, op := Op.call { callee := Callee.value (Operand.func 19), args := #[Operand.tmp 124, Operand.tmp 125], argTypes := #[32, 32] }, type := 32, pos := "law.go:68", after := #[{ on := 3, ground := Ground.data }, { on := 4, ground := Ground.data }, { on := 1, ground := Ground.chain }, { on := 1, ground := Ground.guard }], guard := some (1, true) }) rfl (fun K hK => ?_) AllReadyH.nil
    go_simp
    go_at_call 19; refine (V.rsub 3 4 rfl rfl Hge.out H2.out.d).mono ?_; rintro ε wr5 ⟨xr, yr, zr, rfl, V5⟩; clear V
    refine hK.out _ _ ?_ (fun hHeld => ?_)
    · first | exact V6.cell 2 rfl | exact V5.cell 2 rfl
    clear hK K
    try simp only [Act.put, List.setIfInBounds_toArray, List.set_cons_zero, List.set_cons_succ]
    refine wpAnyH_ready (rs := [6]) (by kernel_rfl) (by simp) ?_
    refine AllReadyH.cons (o := { dst := some 127, op := Op.call { callee := Callee.value (Operand.func 12), args := #[Operand.tmp 123, Operand.tmp 126], argTypes := #[30, 32] }, type := 4, pos := "law.go:68", after := #[{ on := 2, ground := Ground.data }, { on := 5, ground := Ground.data }, { on := 5, ground := Ground.chain }, { on := 1, ground := Ground.guard }], guard := some (1, true) }) rfl (fun K hK => ?_) AllReadyH.nil
    go_simp
    go_at_call 12; refine (V5.same 5 0 rfl rfl HT1.out).mono ?_; rintro ε wr6 ⟨rfl, V6⟩; clear V5
    refine hK.out _ _ ?_ (fun hHeld => ?_)
    · first | exact V6.cell 2 rfl | exact V5.cell 2 rfl
    clear hK K
    try simp only [Act.put, List.setIfInBounds_toArray, List.set_cons_zero, List.set_cons_succ]
    refine wpAnyH_take (i := 7) (oi := { dst := some 128, op := Op.unOp UnOp.not 4 (Operand.tmp 127), type := 4, pos := "law.go:68", after := #[{ on := 6, ground := Ground.data }, { on := 1, ground := Ground.guard }], guard := some (1, true) }) (v := ?_) rfl (by kernel_rfl) (by kernel_rfl) (by kernel_rfl) (fun _ _ _ h => h) (Or.inl ⟨by rfl, ?_⟩) (by assumption) ?_
    rotate_left
    · intro w hSw; (try dsimp only at hSw); go_simp; (try with_reducible rfl)
    try simp only [Act.put, List.setIfInBounds_toArray, List.set_cons_zero, List.set_cons_succ]
    refine wpAnyH_take (i := 8) (oi := { dst := some 129, op := Op.pick (Operand.tmp 122) (Operand.tmp 128) (Operand.const (Value.bool false)), type := 4, pos := "law.go:68", after := #[{ on := 1, ground := Ground.data }, { on := 7, ground := Ground.data }], guard := none }) (v := ?_) rfl (by kernel_rfl) (by kernel_rfl) (by kernel_rfl) (fun _ _ _ h => h) (Or.inl ⟨by rfl, ?_⟩) (by assumption) ?_
    rotate_left
    · intro w hSw; (try dsimp only at hSw); go_simp; (try with_reducible rfl)
    try simp only [Act.put, List.setIfInBounds_toArray, List.set_cons_zero, List.set_cons_succ]
    refine wpAnyH_take (i := 9) (oi := { dst := some 130, op := Op.move (Operand.tmp 129), type := 4, pos := "law.go:68", after := #[{ on := 8, ground := Ground.data }, { on := 6, ground := Ground.chain }], guard := none }) (v := ?_) rfl (by kernel_rfl) (by kernel_rfl) (by kernel_rfl) (fun _ _ _ h => h) (Or.inl ⟨by rfl, ?_⟩) (by assumption) ?_
    rotate_left
    · intro w hSw; (try dsimp only at hSw); go_simp; (try with_reducible rfl)
    try simp only [Act.put, List.setIfInBounds_toArray, List.set_cons_zero, List.set_cons_succ]
    refine wpAnyH_take (i := 10) (oi := { dst := some 131, op := Op.move (Operand.tmp 13), type := 4, pos := "law.go:68", after := #[{ on := 9, ground := Ground.guard }], guard := some (9, false) }) (v := ?_) rfl (by kernel_rfl) (by kernel_rfl) (by kernel_rfl) (fun _ _ _ h => h) (Or.inl ⟨by rfl, ?_⟩) (by assumption) ?_
    rotate_left
    · intro w hSw; (try dsimp only at hSw); go_simp; (try with_reducible rfl)
    try simp only [Act.put, List.setIfInBounds_toArray, List.set_cons_zero, List.set_cons_succ]
    refine wpAnyH_take (i := 11) (oi := { dst := some 132, op := Op.unOp UnOp.not 4 (Operand.tmp 131), type := 4, pos := "law.go:68", after := #[{ on := 10, ground := Ground.data }, { on := 9, ground := Ground.guard }], guard := some (9, false) }) (v := ?_) rfl (by kernel_rfl) (by kernel_rfl) (by kernel_rfl) (fun _ _ _ h => h) (Or.inl ⟨by rfl, ?_⟩) (by assumption) ?_
    rotate_left
    · intro w hSw; (try dsimp only at hSw); go_simp; (try with_reducible rfl)
    try simp only [Act.put, List.setIfInBounds_toArray, List.set_cons_zero, List.set_cons_succ]
    refine wpAnyH_take (i := 12) (oi := { dst := some 133, op := Op.move (Operand.tmp 132), type := 4, pos := "law.go:68", after := #[{ on := 11, ground := Ground.data }, { on := 9, ground := Ground.chain }, { on := 9, ground := Ground.guard }], guard := some (9, false) }) (v := ?_) rfl (by kernel_rfl) (by kernel_rfl) (by kernel_rfl) (fun _ _ _ h => h) (Or.inl ⟨by rfl, ?_⟩) (by assumption) ?_
    rotate_left
    · intro w hSw; (try dsimp only at hSw); go_simp; (try with_reducible rfl)
    try simp only [Act.put, List.setIfInBounds_toArray, List.set_cons_zero, List.set_cons_succ]
    refine wpAnyH_take (i := 13) (oi := { dst := some 134, op := Op.load 30 (Operand.tmp 12), type := 30, pos := "law.go:68", after := #[{ on := 12, ground := Ground.guard }], guard := some (12, true) }) (v := undef) rfl (by kernel_rfl) (by kernel_rfl) (by kernel_rfl) (fun _ _ _ h => h) (Or.inr ⟨by rfl, rfl⟩) (by assumption) ?_
    try simp only [Act.put, List.setIfInBounds_toArray, List.set_cons_zero, List.set_cons_succ]
    refine wpAnyH_take (i := 14) (oi := { dst := some 135, op := Op.call { callee := Callee.value (Operand.func 20), args := #[Operand.tmp 134], argTypes := #[30] }, type := 4, pos := "law.go:68", after := #[{ on := 13, ground := Ground.data }, { on := 12, ground := Ground.chain }, { on := 12, ground := Ground.guard }], guard := some (12, true) }) (v := undef) rfl (by kernel_rfl) (by kernel_rfl) (by kernel_rfl) (fun _ _ _ h => h) (Or.inr ⟨by rfl, rfl⟩) (by assumption) ?_
    try simp only [Act.put, List.setIfInBounds_toArray, List.set_cons_zero, List.set_cons_succ]
    refine wpAnyH_take (i := 15) (oi := { dst := some 136, op := Op.unOp UnOp.not 4 (Operand.tmp 135), type := 4, pos := "law.go:68", after := #[{ on := 14, ground := Ground.data }, { on := 12, ground := Ground.guard }], guard := some (12, true) }) (v := undef) rfl (by kernel_rfl) (by kernel_rfl) (by kernel_rfl) (fun _ _ _ h => h) (Or.inr ⟨by rfl, rfl⟩) (by assumption) ?_
    try simp only [Act.put, List.setIfInBounds_toArray, List.set_cons_zero, List.set_cons_succ]
    refine wpAnyH_take (i := 16) (oi := { dst := some 137, op := Op.pick (Operand.tmp 133) (Operand.tmp 136) (Operand.const (Value.bool false)), type := 4, pos := "law.go:68", after := #[{ on := 12, ground := Ground.data }, { on := 15, ground := Ground.data }, { on := 9, ground := Ground.guard }], guard := some (9, false) }) (v := ?_) rfl (by kernel_rfl) (by kernel_rfl) (by kernel_rfl) (fun _ _ _ h => h) (Or.inl ⟨by rfl, ?_⟩) (by assumption) ?_
    rotate_left
    · intro w hSw; (try dsimp only at hSw); go_simp; (try with_reducible rfl)
    try simp only [Act.put, List.setIfInBounds_toArray, List.set_cons_zero, List.set_cons_succ]
    refine wpAnyH_take (i := 17) (oi := { dst := some 138, op := Op.pick (Operand.tmp 130) (Operand.const (Value.bool true)) (Operand.tmp 137), type := 4, pos := "law.go:68", after := #[{ on := 9, ground := Ground.data }, { on := 16, ground := Ground.data }], guard := none }) (v := ?_) rfl (by kernel_rfl) (by kernel_rfl) (by kernel_rfl) (fun _ _ _ h => h) (Or.inl ⟨by rfl, ?_⟩) (by assumption) ?_
    rotate_left
    · intro w hSw; (try dsimp only at hSw); go_simp; (try with_reducible rfl)
    try simp only [Act.put, List.setIfInBounds_toArray, List.set_cons_zero, List.set_cons_succ]
    refine wpAnyH_done (by kernel_rfl) ?_ _
    have HV14_ := Lib.hid V6
    clear V6 HV14
    have HV14 := HV14_
    clear HV14_
    have K15 := Lib.hid (HV14.out.zero 4 rfl)
    have kbq15 := HV14.out.cell 1 rfl
    go_wp2_with fail
    refine K15.out.mono ?_
    rintro ε w25 ⟨rfl, V⟩
    have HV15 := Lib.hid V
    clear V K15 HV14 kbq15
    have K16 := Lib.hid (HV15.out.zero 3 rfl)
    have kbm16 := HV15.out.cell 0 rfl
    go_wp2_with fail
    refine K16.out.mono ?_
    rintro ε w26 ⟨rfl, V⟩
    have HV16 := Lib.hid V
    clear V K16 HV15 kbm16
    have K17 := Lib.hid (HV16.out.small 6 rfl Hfit.out)
    have kba17 := HV16.out.cell 3 rfl
    go_wp2_with fail
    refine K17.out.mono ?_
    rintro ε w27 ⟨rfl, V⟩
    have HV17 := Lib.hid V
    clear V K17 HV16 kba17
    have K18 := Lib.hid (HV17.out.bits 6 rfl HLB.out)
    have kba18 := HV17.out.cell 3 rfl
    go_wp2_with fail
    refine K18.out.mono ?_
    rintro ε w28 ⟨rfl, V⟩
    have HV18 := Lib.hid V
    clear V K18 HV17 kba18
    have K19 := Lib.hid (HV18.out.rbits 4 rfl HLen.out HLB.out)
    go_wp2_with fail
    refine K19.out.mono ?_
    rintro ε w29 ⟨rfl, V⟩
    have HV19 := Lib.hid V
    clear V K19 HV18 
    have K20 := Lib.hid (HV19.out.digits 6 rfl HT1.out HND.out)
    have kba20 := HV19.out.cell 3 rfl
    go_wp2_with fail
    refine K20.out.mono ?_
    rintro ε w30 ⟨rfl, V⟩
    have HV20 := Lib.hid V
    clear V K20 HV19 kba20
    have K21 := Lib.hid (HV20.out.rtext 4 rfl HT.out)
    go_wp2_with fail
    refine K21.out.mono ?_
    rintro ε w31 ⟨rfl, V⟩
    have HV21 := Lib.hid V
    clear V K21 HV20 
    have K22 := Lib.hid (HV21.out.nz 6 rfl HzB.out)
    have kba22 := HV21.out.cell 3 rfl
    go_wp2_with fail
    refine K22.out.mono ?_
    rintro ε w32 ⟨rfl, V⟩
    have HV22 := Lib.hid V
    clear V K22 HV21 kba22
    have K23 := Lib.hid (HV22.out.rbits 4 rfl HLen.out HLB.out)
    go_wp2_with fail
    refine K23.out.mono ?_
    rintro ε w33 ⟨rfl, V⟩
    have HV23 := Lib.hid V
    clear V K23 HV22 
    have K24 := Lib.hid (HV23.out.of Hfit.out)
    go_wp2_with fail
    refine K24.out.mono ?_
    rintro ε w34 ⟨xo, yo, zo, rfl, V⟩
    have HV24 := Lib.hid V
    clear V K24 HV23 
    have K25 := Lib.hid (HV24.out.same 0 4 rfl rfl HT1.out)
    go_wp2_with fail
    refine K25.out.mono ?_
    rintro ε w35 ⟨rfl, V⟩
    have HV25 := Lib.hid V
    clear V K25 HV24 
    go_wp2_with fail
    go_ret
    exact ⟨rfl, HB1.out.trans (HV25.out.bel.mono HB1.out.size)⟩
set_option maxRecDepth 100000 in
set_option maxHeartbeats 8000000 in
theorem natTells.zgb (s t : ByteArray) (hs : s.size ≤ 250) (ht : t.size ≤ 250) (hz : nn t = 0) (hge : nn t ≤ nn s) (hfit : 18446744073709551616 ≤ nn s) (w : World) (htab : Tab w) (htb : TabB w) :
    Calls Tryd.prog 3 #[.string s, .string t] w fun e w' => e = .returned (.bool true) ∧ Below w.heap.size w w' := by
  have HAl := Lib.hid (alive_any w htab)
  have HTab := Lib.hid htab
  have HTb := Lib.hid htb
  have H1 := Lib.hid (tb_all 18446744073709551616 16 100 (by omega) (nn_w (s := s) (k := 16) (by omega)) (nn_w (s := t) (k := 16) (by omega)) (by omega) (by omega))
  have H2 := Lib.hid (tb_all 10000 63 200 (by omega) (nn_lt (s := s) (k := 63) (by omega)) (nn_lt (s := t) (k := 63) (by omega)) (by omega) (by omega))
  have H3 := Lib.hid (And.intro (nn_w (s := s) (k := 26) (by omega)) (nn_w (s := t) (k := 26) (by omega)))
  have H4 := Lib.hid (And.intro (nn_w (s := s) (k := 100) (by omega)) (nn_w (s := t) (k := 100) (by omega)))
  have H5 := Lib.hid (And.intro (pow_up 63 200 (nn_lt (s := s) (k := 63) (by omega)) (by omega)) (pow_up 63 200 (nn_lt (s := t) (k := 63) (by omega)) (by omega)))
  have HLen := Lib.hid (lenN (nn_w (s := s) (k := 16) (by omega)))
  have HNats : Hid (∀ w1, Below w.heap.size w w1 → _) := Lib.hid (fun w1 h => nats_two s t w1 (by omega) (by omega) (htab.below h (Nat.le_refl _)))
  obtain ⟨A, hA⟩ : ∃ A, nn s = A := ⟨_, rfl⟩
  obtain ⟨B, hB⟩ : ∃ B, nn t = B := ⟨_, rfl⟩
  rw [hA] at HLen hge hfit
  rw [hB] at hge hz
  rw [hA, hB] at H1 H2 H3 H4 H5
  simp only [hA, hB] at HNats
  obtain ⟨sz, hsz⟩ : ∃ sz, s.size = sz := ⟨_, rfl⟩
  obtain ⟨tz, htz⟩ : ∃ tz, t.size = tz := ⟨_, rfl⟩
  have c1 : ¬ (250 : Int) < (sz : Int) := by omega
  have c2 : ¬ (250 : Int) < (tz : Int) := by omega
  have c1b : decide ((250 : Int) < (sz : Int)) = false := by simp; omega
  have c2b : decide ((250 : Int) < (tz : Int)) = false := by simp; omega
  subst hz
  have Hge := Lib.hid hge
  have Hfit := Lib.hid hfit
  obtain ⟨C, hC⟩ : ∃ C, cmpI A 0 = C := ⟨_, rfl⟩
  have hC0 : 0 ≤ C := by rw [← hC]; unfold cmpI; rw [if_neg (by omega)]; split <;> omega
  have hC0b : decide (0 ≤ C) = true := by simp; omega
  have hCC : (C != C) = false := by simp
  have HC := Lib.hid hC
  obtain ⟨LB, hLB⟩ : ∃ LB : Int, ((hlv A).length : Int) = LB := ⟨_, rfl⟩
  have HLB := Lib.hid hLB
  have hLL : (LB == LB) = true := by simp
  have hL64 : ¬ LB ≤ 64 := by rw [← hLB]; have := len_big (isLen_hlv A) hfit; omega
  have hL64b : decide (LB ≤ 64) = false := by simp; omega
  obtain ⟨T, hT⟩ : ∃ T : ByteArray, (⟨(Lib.decDigits A).toArray⟩ : ByteArray) = T := ⟨_, rfl⟩
  have HT := Lib.hid hT
  obtain ⟨ND, hND⟩ : ∃ ND : Int, ((Lib.nDigits A : Nat) : Int) = ND := ⟨_, rfl⟩
  have hTs : (T.size : Int) = ND := by rw [← hT, ← hND, ← Lib.decDigits_length]; rfl
  have HND := Lib.hid hND
  have hNN : (ND == ND) = true := by simp
  obtain ⟨zB, hzB⟩ : ∃ zB, decide (A = 0) = zB := ⟨_, rfl⟩
  have HzB := Lib.hid hzB
  have hzz : (zB == zB) = true := by simp
  clear hs ht htab htb hA hB hge hfit hC hLB hT hND hzB
  go_enter Tryd.func3, Tryd.ntmps3
  go_wp2_with fail
  refine HAl.out.mono ?_
  rintro ε w1 ⟨rfl, hb1⟩
  have HN1 := Lib.hid (HNats.out w1 hb1)
  have HB1 := Lib.hid hb1
  have HT1 := Lib.hid (HTab.out.below hb1 (Nat.le_refl _))
  have HTb1 := Lib.hid (HTb.out.below hb1 (Nat.le_refl _))
  clear hb1 HAl HNats
  go_wp2_with fail
  refine HN1.out.mono ?_
  rintro ε w2 ⟨ga, ca, gb, cb, xa, ya, za, xb, yb, zb, xc, yc, zc, xd, yd, zd, rfl, q1, q2, q3, q4, hNa, hNb, hRa, hRb, hbel, hca2, hcb2⟩
  have hxn := rn_form hRa
  obtain ⟨_, _, _, he1, _, hx0⟩ := hxn
  injection he1 with ee1 ee2 ee3
  subst ee2
  clear ee1 ee3
  have hyn := rn_form hRb
  obtain ⟨_, _, _, he2, _, hy0⟩ := hyn
  injection he2 with ff1 ff2 ff3
  subst ff2
  clear ff1 ff3
  have hxz : (((yc : Nat) : Int) == 0) = zB := zlen hx0 HzB.out
  have hyl : ¬ (0 : Int) < (yd : Int) := by have := hy0.2 rfl; omega
  have hylN : ¬ 0 < yd := by omega
  have hylN2 : decide (0 < yd) = false := by simp; omega
  have hxzN : (yc == 0) = zB := zlenN hx0 HzB.out
  have V0 : Ax w1 [] [(.agg #[.slice xa ya za], A), (.agg #[.slice xb yb zb], 0)] [(.slice xc yc zc, A), (.slice xd yd zd, 0)] w2 := ⟨hbel, fun k b v e => by simp at e, fun k v N e => by
      rcases k with _ | _ | k
      · simp at e; obtain ⟨rfl, rfl⟩ := e; exact ⟨hNa, H4.out.1⟩
      · simp at e; obtain ⟨rfl, rfl⟩ := e; exact ⟨hNb, H4.out.2⟩
      · simp at e, fun k v N e => by
      rcases k with _ | _ | k
      · simp at e; obtain ⟨rfl, rfl⟩ := e; exact ⟨hRa, H5.out.1⟩
      · simp at e; obtain ⟨rfl, rfl⟩ := e; exact ⟨hRb, H5.out.2⟩
      · simp at e⟩
  have HV0_ := Lib.hid V0
  have r1 : w2.drew.cell? ⟨ga, 0, none⟩ = some (.slice xa ya za) := q1
  have r2 : w2.drew.cell? ⟨ga, 1, none⟩ = some (.slice xb yb zb) := q2
  have r3 : w2.drew.cell? ⟨gb, 0, none⟩ = some (.slice xc yc zc) := q3
  have r4 : w2.drew.cell? ⟨gb, 1, none⟩ = some (.slice xd yd zd) := q4
  have HS : Hid (∀ W, Below w2.heap.size w2 W → W.cell? ⟨ga, 0, none⟩ = some (.slice xa ya za) ∧ W.cell? ⟨ga, 1, none⟩ = some (.slice xb yb zb) ∧ W.cell? ⟨gb, 0, none⟩ = some (.slice xc yc zc) ∧ W.cell? ⟨gb, 1, none⟩ = some (.slice xd yd zd)) := Lib.hid (fun W h => ⟨(h.cell (p := ⟨ga, 0, none⟩) (World.block_lt_of_cell? w2 ⟨ga, 0, none⟩ q1)).trans q1, (h.cell (p := ⟨ga, 1, none⟩) (World.block_lt_of_cell? w2 ⟨ga, 1, none⟩ q2)).trans q2, (h.cell (p := ⟨gb, 0, none⟩) (World.block_lt_of_cell? w2 ⟨gb, 0, none⟩ q3)).trans q3, (h.cell (p := ⟨gb, 1, none⟩) (World.block_lt_of_cell? w2 ⟨gb, 1, none⟩ q4)).trans q4⟩)
  have hsz1 := hbel.size
  clear hNa hNb hRa hRb hbel q1 q2 q3 q4 V0 HN1 hx0 hy0
  go_upto_region 6 with fail
  go_cut [8, 9, 10, 11] from 44 to 56 (fun p8 p9 s10 s11 wx => ∃ (ba bb : Nat), p8 = .pointer (some ⟨ba, 0, none⟩) ∧ p9 = .pointer (some ⟨bb, 0, none⟩) ∧ s10 = .slice xc yc zc ∧ s11 = .slice xd yd zd ∧ Hid (Ax w1 [(ba, .slice xa ya za), (bb, .slice xb yb zb)] [(.agg #[.slice xa ya za], A), (.agg #[.slice xb yb zb], 0)] [(.slice xc yc zc, A), (.slice xd yd zd, 0)] wx))
  case first =>
    have hd2 := below_drew2 w2
    go_wp2_with fail
    refine wp_region_held_drew (S := (fun w' => w'.cell? ⟨ga, 0, none⟩ = some (.slice xa ya za) ∧ w'.cell? ⟨ga, 1, none⟩ = some (.slice xb yb zb) ∧ w'.cell? ⟨gb, 0, none⟩ = some (.slice xc yc zc) ∧ w'.cell? ⟨gb, 1, none⟩ = some (.slice xd yd zd))) (by kernel_rfl) ?_ (fun hHeld => ?_)
    · exact ⟨r1, r2, r3, r4⟩
    refine wpAnyH_take (i := 0) (oi := { dst := some 44, op := Op.move (Operand.tmp 5), type := 23, pos := "law.go:62", after := #[], guard := none }) (v := ?_) rfl (by kernel_rfl) (by kernel_rfl) (by kernel_rfl) (fun _ _ _ h => h) (Or.inl ⟨by rfl, ?_⟩) (by assumption) ?_
    rotate_left
    · intro w hSw; (try dsimp only at hSw); go_simp; (try with_reducible rfl)
    try simp only [Act.put, List.setIfInBounds_toArray, List.set_cons_zero, List.set_cons_succ]
    refine wpAnyH_take (i := 1) (oi := { dst := some 45, op := Op.indexAddr 23 (Operand.tmp 44) (Operand.const (Value.int IntKind.i64 0)), type := 0, pos := "law.go:62", after := #[{ on := 0, ground := Ground.data }], guard := none }) (v := ?_) rfl (by kernel_rfl) (by kernel_rfl) (by kernel_rfl) (fun _ _ _ h => h) (Or.inl ⟨by rfl, ?_⟩) (by assumption) ?_
    rotate_left
    · intro w hSw; (try dsimp only at hSw); go_simp; (try with_reducible rfl)
    try simp only [Act.put, List.setIfInBounds_toArray, List.set_cons_zero, List.set_cons_succ]
    refine wpAnyH_take (i := 2) (oi := { dst := some 46, op := Op.load 30 (Operand.tmp 45), type := 30, pos := "law.go:62", after := #[{ on := 1, ground := Ground.data }], guard := none }) (v := ?_) rfl (by kernel_rfl) (by kernel_rfl) (by kernel_rfl) (fun _ _ _ h => h) (Or.inl ⟨by rfl, ?_⟩) (by assumption) ?_
    rotate_left
    · intro w hSw; (try dsimp only at hSw); go_simp; (try with_reducible rfl)
    try simp only [Act.put, List.setIfInBounds_toArray, List.set_cons_zero, List.set_cons_succ]
    refine wpAnyH_take (i := 3) (oi := { dst := some 47, op := Op.move (Operand.tmp 5), type := 23, pos := "law.go:62", after := #[{ on := 14, ground := Ground.gcOnly Departure.lateStores }], guard := none }) (v := ?_) rfl (by kernel_rfl) (by kernel_rfl) (by kernel_rfl) (fun _ _ _ h => h) (Or.inl ⟨by rfl, ?_⟩) (by assumption) ?_
    rotate_left
    · intro w hSw; (try dsimp only at hSw); go_simp; (try with_reducible rfl)
    try simp only [Act.put, List.setIfInBounds_toArray, List.set_cons_zero, List.set_cons_succ]
    refine wpAnyH_take (i := 4) (oi := { dst := some 48, op := Op.indexAddr 23 (Operand.tmp 47) (Operand.const (Value.int IntKind.i64 1)), type := 0, pos := "law.go:62", after := #[{ on := 3, ground := Ground.data }, { on := 14, ground := Ground.gcOnly Departure.lateStores }], guard := none }) (v := ?_) rfl (by kernel_rfl) (by kernel_rfl) (by kernel_rfl) (fun _ _ _ h => h) (Or.inl ⟨by rfl, ?_⟩) (by assumption) ?_
    rotate_left
    · intro w hSw; (try dsimp only at hSw); go_simp; (try with_reducible rfl)
    try simp only [Act.put, List.setIfInBounds_toArray, List.set_cons_zero, List.set_cons_succ]
    refine wpAnyH_take (i := 5) (oi := { dst := some 49, op := Op.load 30 (Operand.tmp 48), type := 30, pos := "law.go:62", after := #[{ on := 4, ground := Ground.data }, { on := 14, ground := Ground.gcOnly Departure.lateStores }], guard := none }) (v := ?_) rfl (by kernel_rfl) (by kernel_rfl) (by kernel_rfl) (fun _ _ _ h => h) (Or.inl ⟨by rfl, ?_⟩) (by assumption) ?_
    rotate_left
    · intro w hSw; (try dsimp only at hSw); go_simp; (try with_reducible rfl)
    try simp only [Act.put, List.setIfInBounds_toArray, List.set_cons_zero, List.set_cons_succ]
    refine wpAnyH_take (i := 6) (oi := { dst := some 50, op := Op.move (Operand.tmp 6), type := 24, pos := "law.go:62", after := #[{ on := 15, ground := Ground.gcOnly Departure.lateStores }], guard := none }) (v := ?_) rfl (by kernel_rfl) (by kernel_rfl) (by kernel_rfl) (fun _ _ _ h => h) (Or.inl ⟨by rfl, ?_⟩) (by assumption) ?_
    rotate_left
    · intro w hSw; (try dsimp only at hSw); go_simp; (try with_reducible rfl)
    try simp only [Act.put, List.setIfInBounds_toArray, List.set_cons_zero, List.set_cons_succ]
    refine wpAnyH_take (i := 7) (oi := { dst := some 51, op := Op.indexAddr 24 (Operand.tmp 50) (Operand.const (Value.int IntKind.i64 0)), type := 0, pos := "law.go:62", after := #[{ on := 6, ground := Ground.data }, { on := 15, ground := Ground.gcOnly Departure.lateStores }], guard := none }) (v := ?_) rfl (by kernel_rfl) (by kernel_rfl) (by kernel_rfl) (fun _ _ _ h => h) (Or.inl ⟨by rfl, ?_⟩) (by assumption) ?_
    rotate_left
    · intro w hSw; (try dsimp only at hSw); go_simp; (try with_reducible rfl)
    try simp only [Act.put, List.setIfInBounds_toArray, List.set_cons_zero, List.set_cons_succ]
    refine wpAnyH_take (i := 8) (oi := { dst := some 52, op := Op.load 32 (Operand.tmp 51), type := 32, pos := "law.go:62", after := #[{ on := 7, ground := Ground.data }, { on := 15, ground := Ground.gcOnly Departure.lateStores }], guard := none }) (v := ?_) rfl (by kernel_rfl) (by kernel_rfl) (by kernel_rfl) (fun _ _ _ h => h) (Or.inl ⟨by rfl, ?_⟩) (by assumption) ?_
    rotate_left
    · intro w hSw; (try dsimp only at hSw); go_simp; (try with_reducible rfl)
    try simp only [Act.put, List.setIfInBounds_toArray, List.set_cons_zero, List.set_cons_succ]
    refine wpAnyH_take (i := 9) (oi := { dst := some 53, op := Op.move (Operand.tmp 6), type := 24, pos := "law.go:62", after := #[{ on := 16, ground := Ground.gcOnly Departure.lateStores }], guard := none }) (v := ?_) rfl (by kernel_rfl) (by kernel_rfl) (by kernel_rfl) (fun _ _ _ h => h) (Or.inl ⟨by rfl, ?_⟩) (by assumption) ?_
    rotate_left
    · intro w hSw; (try dsimp only at hSw); go_simp; (try with_reducible rfl)
    try simp only [Act.put, List.setIfInBounds_toArray, List.set_cons_zero, List.set_cons_succ]
    refine wpAnyH_take (i := 10) (oi := { dst := some 54, op := Op.indexAddr 24 (Operand.tmp 53) (Operand.const (Value.int IntKind.i64 1)), type := 0, pos := "law.go:62", after := #[{ on := 9, ground := Ground.data }, { on := 16, ground := Ground.gcOnly Departure.lateStores }], guard := none }) (v := ?_) rfl (by kernel_rfl) (by kernel_rfl) (by kernel_rfl) (fun _ _ _ h => h) (Or.inl ⟨by rfl, ?_⟩) (by assumption) ?_
    rotate_left
    · intro w hSw; (try dsimp only at hSw); go_simp; (try with_reducible rfl)
    try simp only [Act.put, List.setIfInBounds_toArray, List.set_cons_zero, List.set_cons_succ]
    refine wpAnyH_take (i := 11) (oi := { dst := some 55, op := Op.load 32 (Operand.tmp 54), type := 32, pos := "law.go:62", after := #[{ on := 10, ground := Ground.data }, { on := 16, ground := Ground.gcOnly Departure.lateStores }], guard := none }) (v := ?_) rfl (by kernel_rfl) (by kernel_rfl) (by kernel_rfl) (fun _ _ _ h => h) (Or.inl ⟨by rfl, ?_⟩) (by assumption) ?_
    rotate_left
    · intro w hSw; (try dsimp only at hSw); go_simp; (try with_reducible rfl)
    try simp only [Act.put, List.setIfInBounds_toArray, List.set_cons_zero, List.set_cons_succ]
    refine wpAnyH_ready (rs := [12, 13]) (by kernel_rfl) (by simp) ?_
    refine (AllReadyH.cons (o := { dst := some 8, op := Op.alloc 30, type := 0, pos := "law.go:62", after := #[], guard := none }) rfl (fun K hK => ?_) (AllReadyH.cons (o := { dst := some 9, op := Op.alloc 30, type := 0, pos := "law.go:62", after := #[], guard := none }) rfl (fun K hK => ?_) AllReadyH.nil))
    · have R1 := HV0_.out.alloc (.slice none 0 0)
      have T1 := hd2.alloc hd2.size (.cells #[.slice none 0 0] 30)
      go_wp2_with fail
      refine hK.out _ _ ?_ (fun hHeld => ?_)
      · exact HS.out _ T1
      clear hK K
      try simp only [Act.put, List.setIfInBounds_toArray, List.set_cons_zero, List.set_cons_succ]
      refine wpAnyH_ready (rs := [13]) (by kernel_rfl) (by simp) ?_
      refine (AllReadyH.cons (o := { dst := some 9, op := Op.alloc 30, type := 0, pos := "law.go:62", after := #[], guard := none }) rfl (fun K hK => ?_) AllReadyH.nil)
      have R2 := (R1.alloc (.slice none 0 0)).below (below_drew2 _)
      rw [World.size_alloc] at R2
      have T2 := T1.alloc T1.size (.cells #[.slice none 0 0] 30)
      go_wp2_with fail
      refine hK.out _ _ ?_ (fun hHeld => ?_)
      · exact HS.out _ T2
      clear hK K
      try simp only [Act.put, List.setIfInBounds_toArray, List.set_cons_zero, List.set_cons_succ]
      refine wpAnyH_ready (rs := [14]) (by kernel_rfl) (by simp) ?_
      refine (AllReadyH.cons (o := { dst := none, op := Op.store 30 (Operand.tmp 8) (Operand.tmp 46), type := 0, pos := "law.go:62", after := #[{ on := 12, ground := Ground.data }, { on := 2, ground := Ground.data }, { on := 0, ground := Ground.phase }, { on := 1, ground := Ground.phase }, { on := 2, ground := Ground.phase }, { on := 3, ground := Ground.textOnly Departure.lateStores }, { on := 4, ground := Ground.textOnly Departure.lateStores }, { on := 5, ground := Ground.textOnly Departure.lateStores }, { on := 6, ground := Ground.textOnly Departure.lateStores }, { on := 7, ground := Ground.textOnly Departure.lateStores }, { on := 8, ground := Ground.textOnly Departure.lateStores }, { on := 9, ground := Ground.textOnly Departure.lateStores }, { on := 10, ground := Ground.textOnly Departure.lateStores }, { on := 11, ground := Ground.textOnly Departure.lateStores }, { on := 12, ground := Ground.phase }, { on := 13, ground := Ground.phase }], guard := none }) rfl (fun K hK => ?_) AllReadyH.nil)
      have R3 := R2.swap.set2 (by omega) (by omega) (.slice xa ya za)
      have T3 := T2.setCell (p := ⟨w2.heap.size, 0, none⟩) (by simp) (.slice xa ya za)
      have B3 := R2.swap.box 0 _ _ rfl
      refine if_wanted rfl ?_
      refine wp_store_box (Operand.tmp 8) (Operand.tmp 46) rfl rfl _ (.slice none 0 0) rfl rfl B3 ?_
      refine hK.out _ _ ?_ (fun hHeld => ?_)
      · exact HS.out _ T3
      clear hK K
      try simp only [Act.put, List.setIfInBounds_toArray, List.set_cons_zero, List.set_cons_succ]
      refine wpAnyH_ready (rs := [15]) (by kernel_rfl) (by simp) ?_
      refine (AllReadyH.cons (o := { dst := none, op := Op.store 30 (Operand.tmp 9) (Operand.tmp 49), type := 0, pos := "law.go:62", after := #[{ on := 13, ground := Ground.data }, { on := 5, ground := Ground.data }, { on := 14, ground := Ground.chain }, { on := 0, ground := Ground.phase }, { on := 1, ground := Ground.phase }, { on := 2, ground := Ground.phase }, { on := 3, ground := Ground.phase }, { on := 4, ground := Ground.phase }, { on := 5, ground := Ground.phase }, { on := 6, ground := Ground.textOnly Departure.lateStores }, { on := 7, ground := Ground.textOnly Departure.lateStores }, { on := 8, ground := Ground.textOnly Departure.lateStores }, { on := 9, ground := Ground.textOnly Departure.lateStores }, { on := 10, ground := Ground.textOnly Departure.lateStores }, { on := 11, ground := Ground.textOnly Departure.lateStores }, { on := 12, ground := Ground.phase }, { on := 13, ground := Ground.phase }, { on := 14, ground := Ground.phase }], guard := none }) rfl (fun K hK => ?_) AllReadyH.nil)
      have R4 := R3.swap.set2 (by omega) (by omega) (.slice xb yb zb)
      have T4 := T3.setCell (p := ⟨w2.heap.size + 1, 0, none⟩) (by simp) (.slice xb yb zb)
      have B4 := R3.swap.box 0 _ _ rfl
      refine if_wanted rfl ?_
      refine wp_store_box (Operand.tmp 9) (Operand.tmp 49) rfl rfl _ (.slice none 0 0) rfl rfl B4 ?_
      refine hK.out _ _ ?_ (fun hHeld => ?_)
      · exact HS.out _ T4
      clear hK K
      try simp only [Act.put, List.setIfInBounds_toArray, List.set_cons_zero, List.set_cons_succ]
      refine wpAnyH_take (i := 16) (oi := { dst := some 10, op := Op.assign (Operand.tmp 52), type := 32, pos := "law.go:62", after := #[{ on := 8, ground := Ground.data }, { on := 15, ground := Ground.chain }, { on := 0, ground := Ground.phase }, { on := 1, ground := Ground.phase }, { on := 2, ground := Ground.phase }, { on := 3, ground := Ground.phase }, { on := 4, ground := Ground.phase }, { on := 5, ground := Ground.phase }, { on := 6, ground := Ground.phase }, { on := 7, ground := Ground.phase }, { on := 8, ground := Ground.phase }, { on := 9, ground := Ground.textOnly Departure.lateStores }, { on := 10, ground := Ground.textOnly Departure.lateStores }, { on := 11, ground := Ground.textOnly Departure.lateStores }, { on := 12, ground := Ground.phase }, { on := 13, ground := Ground.phase }, { on := 14, ground := Ground.phase }, { on := 15, ground := Ground.phase }], guard := none }) (v := ?_) rfl (by kernel_rfl) (by kernel_rfl) (by kernel_rfl) (fun _ _ _ h => h) (Or.inl ⟨by rfl, ?_⟩) (by assumption) ?_
      rotate_left
      · intro w hSw; (try dsimp only at hSw); go_simp; (try with_reducible rfl)
      try simp only [Act.put, List.setIfInBounds_toArray, List.set_cons_zero, List.set_cons_succ]
      refine wpAnyH_take (i := 17) (oi := { dst := some 11, op := Op.assign (Operand.tmp 55), type := 32, pos := "law.go:62", after := #[{ on := 11, ground := Ground.data }, { on := 16, ground := Ground.chain }, { on := 0, ground := Ground.phase }, { on := 1, ground := Ground.phase }, { on := 2, ground := Ground.phase }, { on := 3, ground := Ground.phase }, { on := 4, ground := Ground.phase }, { on := 5, ground := Ground.phase }, { on := 6, ground := Ground.phase }, { on := 7, ground := Ground.phase }, { on := 8, ground := Ground.phase }, { on := 9, ground := Ground.phase }, { on := 10, ground := Ground.phase }, { on := 11, ground := Ground.phase }, { on := 12, ground := Ground.phase }, { on := 13, ground := Ground.phase }, { on := 14, ground := Ground.phase }, { on := 15, ground := Ground.phase }, { on := 16, ground := Ground.phase }], guard := none }) (v := ?_) rfl (by kernel_rfl) (by kernel_rfl) (by kernel_rfl) (fun _ _ _ h => h) (Or.inl ⟨by rfl, ?_⟩) (by assumption) ?_
      rotate_left
      · intro w hSw; (try dsimp only at hSw); go_simp; (try with_reducible rfl)
      try simp only [Act.put, List.setIfInBounds_toArray, List.set_cons_zero, List.set_cons_succ]
      refine wpAnyH_done (by kernel_rfl) ?_ _
      have HR := Lib.hid R4.swap
      clear R1 R2 R3 R4 T1 T2 T3 T4 HS
      go_wp2_with fail
      go_meet
      case rel => exact ⟨_, _, rfl, rfl, rfl, rfl, HR⟩
    · have R1 := HV0_.out.alloc (.slice none 0 0)
      have T1 := hd2.alloc hd2.size (.cells #[.slice none 0 0] 30)
      go_wp2_with fail
      refine hK.out _ _ ?_ (fun hHeld => ?_)
      · exact HS.out _ T1
      clear hK K
      try simp only [Act.put, List.setIfInBounds_toArray, List.set_cons_zero, List.set_cons_succ]
      refine wpAnyH_ready (rs := [12]) (by kernel_rfl) (by simp) ?_
      refine (AllReadyH.cons (o := { dst := some 8, op := Op.alloc 30, type := 0, pos := "law.go:62", after := #[], guard := none }) rfl (fun K hK => ?_) AllReadyH.nil)
      have R2 := (R1.alloc (.slice none 0 0)).below (below_drew2 _)
      rw [World.size_alloc] at R2
      have T2 := T1.alloc T1.size (.cells #[.slice none 0 0] 30)
      go_wp2_with fail
      refine hK.out _ _ ?_ (fun hHeld => ?_)
      · exact HS.out _ T2
      clear hK K
      try simp only [Act.put, List.setIfInBounds_toArray, List.set_cons_zero, List.set_cons_succ]
      refine wpAnyH_ready (rs := [14]) (by kernel_rfl) (by simp) ?_
      refine (AllReadyH.cons (o := { dst := none, op := Op.store 30 (Operand.tmp 8) (Operand.tmp 46), type := 0, pos := "law.go:62", after := #[{ on := 12, ground := Ground.data }, { on := 2, ground := Ground.data }, { on := 0, ground := Ground.phase }, { on := 1, ground := Ground.phase }, { on := 2, ground := Ground.phase }, { on := 3, ground := Ground.textOnly Departure.lateStores }, { on := 4, ground := Ground.textOnly Departure.lateStores }, { on := 5, ground := Ground.textOnly Departure.lateStores }, { on := 6, ground := Ground.textOnly Departure.lateStores }, { on := 7, ground := Ground.textOnly Departure.lateStores }, { on := 8, ground := Ground.textOnly Departure.lateStores }, { on := 9, ground := Ground.textOnly Departure.lateStores }, { on := 10, ground := Ground.textOnly Departure.lateStores }, { on := 11, ground := Ground.textOnly Departure.lateStores }, { on := 12, ground := Ground.phase }, { on := 13, ground := Ground.phase }], guard := none }) rfl (fun K hK => ?_) AllReadyH.nil)
      have R3 := R2.set2 (by omega) (by omega) (.slice xa ya za)
      have T3 := T2.setCell (p := ⟨w2.heap.size + 1, 0, none⟩) (by simp) (.slice xa ya za)
      have B3 := R2.box 0 _ _ rfl
      refine if_wanted rfl ?_
      refine wp_store_box (Operand.tmp 8) (Operand.tmp 46) rfl rfl _ (.slice none 0 0) rfl rfl B3 ?_
      refine hK.out _ _ ?_ (fun hHeld => ?_)
      · exact HS.out _ T3
      clear hK K
      try simp only [Act.put, List.setIfInBounds_toArray, List.set_cons_zero, List.set_cons_succ]
      refine wpAnyH_ready (rs := [15]) (by kernel_rfl) (by simp) ?_
      refine (AllReadyH.cons (o := { dst := none, op := Op.store 30 (Operand.tmp 9) (Operand.tmp 49), type := 0, pos := "law.go:62", after := #[{ on := 13, ground := Ground.data }, { on := 5, ground := Ground.data }, { on := 14, ground := Ground.chain }, { on := 0, ground := Ground.phase }, { on := 1, ground := Ground.phase }, { on := 2, ground := Ground.phase }, { on := 3, ground := Ground.phase }, { on := 4, ground := Ground.phase }, { on := 5, ground := Ground.phase }, { on := 6, ground := Ground.textOnly Departure.lateStores }, { on := 7, ground := Ground.textOnly Departure.lateStores }, { on := 8, ground := Ground.textOnly Departure.lateStores }, { on := 9, ground := Ground.textOnly Departure.lateStores }, { on := 10, ground := Ground.textOnly Departure.lateStores }, { on := 11, ground := Ground.textOnly Departure.lateStores }, { on := 12, ground := Ground.phase }, { on := 13, ground := Ground.phase }, { on := 14, ground := Ground.phase }], guard := none }) rfl (fun K hK => ?_) AllReadyH.nil)
      have R4 := R3.swap.set2 (by omega) (by omega) (.slice xb yb zb)
      have T4 := T3.setCell (p := ⟨w2.heap.size, 0, none⟩) (by simp) (.slice xb yb zb)
      have B4 := R3.swap.box 0 _ _ rfl
      refine if_wanted rfl ?_
      refine wp_store_box (Operand.tmp 9) (Operand.tmp 49) rfl rfl _ (.slice none 0 0) rfl rfl B4 ?_
      refine hK.out _ _ ?_ (fun hHeld => ?_)
      · exact HS.out _ T4
      clear hK K
      try simp only [Act.put, List.setIfInBounds_toArray, List.set_cons_zero, List.set_cons_succ]
      refine wpAnyH_take (i := 16) (oi := { dst := some 10, op := Op.assign (Operand.tmp 52), type := 32, pos := "law.go:62", after := #[{ on := 8, ground := Ground.data }, { on := 15, ground := Ground.chain }, { on := 0, ground := Ground.phase }, { on := 1, ground := Ground.phase }, { on := 2, ground := Ground.phase }, { on := 3, ground := Ground.phase }, { on := 4, ground := Ground.phase }, { on := 5, ground := Ground.phase }, { on := 6, ground := Ground.phase }, { on := 7, ground := Ground.phase }, { on := 8, ground := Ground.phase }, { on := 9, ground := Ground.textOnly Departure.lateStores }, { on := 10, ground := Ground.textOnly Departure.lateStores }, { on := 11, ground := Ground.textOnly Departure.lateStores }, { on := 12, ground := Ground.phase }, { on := 13, ground := Ground.phase }, { on := 14, ground := Ground.phase }, { on := 15, ground := Ground.phase }], guard := none }) (v := ?_) rfl (by kernel_rfl) (by kernel_rfl) (by kernel_rfl) (fun _ _ _ h => h) (Or.inl ⟨by rfl, ?_⟩) (by assumption) ?_
      rotate_left
      · intro w hSw; (try dsimp only at hSw); go_simp; (try with_reducible rfl)
      try simp only [Act.put, List.setIfInBounds_toArray, List.set_cons_zero, List.set_cons_succ]
      refine wpAnyH_take (i := 17) (oi := { dst := some 11, op := Op.assign (Operand.tmp 55), type := 32, pos := "law.go:62", after := #[{ on := 11, ground := Ground.data }, { on := 16, ground := Ground.chain }, { on := 0, ground := Ground.phase }, { on := 1, ground := Ground.phase }, { on := 2, ground := Ground.phase }, { on := 3, ground := Ground.phase }, { on := 4, ground := Ground.phase }, { on := 5, ground := Ground.phase }, { on := 6, ground := Ground.phase }, { on := 7, ground := Ground.phase }, { on := 8, ground := Ground.phase }, { on := 9, ground := Ground.phase }, { on := 10, ground := Ground.phase }, { on := 11, ground := Ground.phase }, { on := 12, ground := Ground.phase }, { on := 13, ground := Ground.phase }, { on := 14, ground := Ground.phase }, { on := 15, ground := Ground.phase }, { on := 16, ground := Ground.phase }], guard := none }) (v := ?_) rfl (by kernel_rfl) (by kernel_rfl) (by kernel_rfl) (fun _ _ _ h => h) (Or.inl ⟨by rfl, ?_⟩) (by assumption) ?_
      rotate_left
      · intro w hSw; (try dsimp only at hSw); go_simp; (try with_reducible rfl)
      try simp only [Act.put, List.setIfInBounds_toArray, List.set_cons_zero, List.set_cons_succ]
      refine wpAnyH_done (by kernel_rfl) ?_ _
      have HR := Lib.hid R4.swap
      clear R1 R2 R3 R4 T1 T2 T3 T4 HS
      go_wp2_with fail
      go_meet
      case rel => exact ⟨_, _, rfl, rfl, rfl, rfl, HR⟩
  case rest =>
    obtain ⟨ba, bb, rfl, rfl, rfl, rfl, HV0⟩ := hcut
    clear HV0_ HS r1 r2 r3 r4
    have K1 := Lib.hid (HV0.out.sub 0 1 rfl rfl Hge.out H1.out.d)
    have kba1 := HV0.out.cell 0 rfl
    have kbb1 := HV0.out.cell 1 rfl
    go_wp2_with fail
    refine K1.out.mono ?_
    rintro ε w11 ⟨xs, ys, zs, rfl, V⟩
    replace V := V.alloc (.slice xs ys zs)
    have HV1 := Lib.hid V
    clear V K1 HV0 kba1 kbb1
    have K2 := Lib.hid (HV1.out.dvm0 1 2 rfl rfl)
    have kba2 := HV1.out.cell 1 rfl
    have kbb2 := HV1.out.cell 2 rfl
    go_wp2_with fail
    refine K2.out.mono ?_
    rintro ε w12 ⟨rfl, V⟩
    replace V := V.alloc (.slice none 0 0)
    replace V := V.alloc (.slice none 0 0)
    rw [World.size_alloc] at V
    have HV2 := Lib.hid V
    clear V K2 HV1 kba2 kbb2
    have K3 := Lib.hid (HV2.out.cmp 3 4 rfl rfl HC.out)
    have kba3 := HV2.out.cell 3 rfl
    have kbb3 := HV2.out.cell 4 rfl
    go_wp2_with fail
    refine K3.out.mono ?_
    rintro ε w13 ⟨rfl, V⟩
    have HV3 := Lib.hid V
    clear V K3 HV2 kba3 kbb3
    have K4 := Lib.hid (HV3.out.rcmp 0 1 rfl rfl HC.out)
    go_wp2_with fail
    refine K4.out.mono ?_
    rintro ε w14 ⟨rfl, V⟩
    have HV4 := Lib.hid V
    clear V K4 HV3 
    have K5 := Lib.hid (HV4.out.add 3 4 rfl rfl H1.out.s)
    have kba5 := HV4.out.cell 3 rfl
    have kbb5 := HV4.out.cell 4 rfl
    go_wp2_with fail
    refine K5.out.mono ?_
    rintro ε w15 ⟨xs1, ys1, zs1, rfl, V⟩
    have HV5 := Lib.hid V
    clear V K5 HV4 kba5 kbb5
    have K6 := Lib.hid (HV5.out.radd 0 1 rfl rfl H2.out.s)
    go_wp2_with fail
    refine K6.out.mono ?_
    rintro ε w16 ⟨xs2, ys2, zs2, rfl, V⟩
    have HV6 := Lib.hid V
    clear V K6 HV5 
    have K7 := Lib.hid (HV6.out.same 0 0 rfl rfl HT1.out)
    go_wp2_with fail
    refine K7.out.mono ?_
    rintro ε w17 ⟨rfl, V⟩
    have HV7 := Lib.hid V
    clear V K7 HV6 
    have K8 := Lib.hid (HV7.out.mul 4 5 rfl rfl H1.out.p)
    have kba8 := HV7.out.cell 3 rfl
    have kbb8 := HV7.out.cell 4 rfl
    go_wp2_with fail
    refine K8.out.mono ?_
    rintro ε w18 ⟨xp1, yp1, zp1, rfl, V⟩
    have HV8 := Lib.hid V
    clear V K8 HV7 kba8 kbb8
    have K9 := Lib.hid (HV8.out.rmul 1 2 rfl rfl H2.out.p)
    go_wp2_with fail
    refine K9.out.mono ?_
    rintro ε w19 ⟨xp2, yp2, zp2, rfl, V⟩
    have HV9 := Lib.hid V
    clear V K9 HV8 
    have K10 := Lib.hid (HV9.out.same 0 0 rfl rfl HT1.out)
    go_wp2_with fail
    refine K10.out.mono ?_
    rintro ε w20 ⟨rfl, V⟩
    have HV10 := Lib.hid V
    clear V K10 HV9 
    have K11 := Lib.hid (HV10.out.gcd 5 6 rfl rfl H3.out.1 H3.out.2 HTb1.out H1.out.g)
    have kba11 := HV10.out.cell 3 rfl
    have kbb11 := HV10.out.cell 4 rfl
    go_wp2_with fail
    refine K11.out.mono ?_
    rintro ε w21 ⟨xg, yg, zg, rfl, V⟩
    have HV11 := Lib.hid V
    clear V K11 HV10 kba11 kbb11
    have K12 := Lib.hid (HV11.out.rgcd 2 3 rfl rfl H2.out.g)
    go_wp2_with fail
    refine K12.out.mono ?_
    rintro ε w22 ⟨xg2, yg2, zg2, rfl, V⟩
    have HV12 := Lib.hid V
    clear V K12 HV11 
    have K13 := Lib.hid (HV12.out.same 0 0 rfl rfl HT1.out)
    go_wp2_with fail
    refine K13.out.mono ?_
    rintro ε w23 ⟨rfl, V⟩
    have HV13 := Lib.hid V
    clear V K13 HV12 
    have K14 := Lib.hid (HV13.out.rcmp 3 4 rfl rfl HC.out)
    go_wp2_with fail
    refine K14.out.mono ?_
    rintro ε w24 ⟨rfl, V⟩
    have HV14 := Lib.hid V
    clear V K14 HV13 
    have V := HV14.out.below (below_drew2 _)
    go_wp2_with fail
    refine wp_region_held_drew (S := (fun w' => w'.cell? ⟨w11.heap.size, 0, none⟩ = some (.slice xs ys zs))) (by kernel_rfl) ?_ (fun hHeld => ?_)
    · exact V.cell 2 rfl
    refine wpAnyH_take (i := 0) (oi := { dst := some 121, op := Op.move (Operand.tmp 13), type := 4, pos := "law.go:68", after := #[], guard := none }) (v := ?_) rfl (by kernel_rfl) (by kernel_rfl) (by kernel_rfl) (fun _ _ _ h => h) (Or.inl ⟨by rfl, ?_⟩) (by assumption) ?_
    rotate_left
    · intro w hSw; (try dsimp only at hSw); go_simp; (try with_reducible rfl)
    try simp only [Act.put, List.setIfInBounds_toArray, List.set_cons_zero, List.set_cons_succ]
    refine wpAnyH_take (i := 1) (oi := { dst := some 122, op := Op.move (Operand.tmp 121), type := 4, pos := "law.go:68", after := #[{ on := 0, ground := Ground.data }], guard := none }) (v := ?_) rfl (by kernel_rfl) (by kernel_rfl) (by kernel_rfl) (fun _ _ _ h => h) (Or.inl ⟨by rfl, ?_⟩) (by assumption) ?_
    rotate_left
    · intro w hSw; (try dsimp only at hSw); go_simp; (try with_reducible rfl)
    try simp only [Act.put, List.setIfInBounds_toArray, List.set_cons_zero, List.set_cons_succ]
    refine wpAnyH_take (i := 2) (oi := { dst := some 123, op := Op.load 30 (Operand.tmp 12), type := 30, pos := "law.go:68", after := #[{ on := 1, ground := Ground.guard }], guard := some (1, true) }) (v := ?_) rfl (by kernel_rfl) (by kernel_rfl) (by kernel_rfl) (fun _ _ _ h => h) (Or.inl ⟨by rfl, ?_⟩) (by assumption) ?_
    rotate_left
    · intro w hSw; (try dsimp only at hSw); go_simp; (try with_reducible rfl)
    try simp only [Act.put, List.setIfInBounds_toArray, List.set_cons_zero, List.set_cons_succ]
    refine wpAnyH_take (i := 3) (oi := { dst := some 124, op := Op.move (Operand.tmp 10), type := 32, pos := "law.go:68", after := #[{ on := 1, ground := Ground.guard }], guard := some (1, true) }) (v := ?_) rfl (by kernel_rfl) (by kernel_rfl) (by kernel_rfl) (fun _ _ _ h => h) (Or.inl ⟨by rfl, ?_⟩) (by assumption) ?_
    rotate_left
    · intro w hSw; (try dsimp only at hSw); go_simp; (try with_reducible rfl)
    try simp only [Act.put, List.setIfInBounds_toArray, List.set_cons_zero, List.set_cons_succ]
    refine wpAnyH_take (i := 4) (oi := { dst := some 125, op := Op.move (Operand.tmp 11), type := 32, pos := "law.go:68", after := #[{ on := 1, ground := Ground.guard }], guard := some (1, true) }) (v := ?_) rfl (by kernel_rfl) (by kernel_rfl) (by kernel_rfl) (fun _ _ _ h => h) (Or.inl ⟨by rfl, ?_⟩) (by assumption) ?_
    rotate_left
    · intro w hSw; (try dsimp only at hSw); go_simp; (try with_reducible rfl)
    try simp only [Act.put, List.setIfInBounds_toArray, List.set_cons_zero, List.set_cons_succ]
    refine wpAnyH_ready (rs := [5]) (by kernel_rfl) (by simp) ?_
    refine AllReadyH.cons (o := { dst := some 126, op := Op.call { callee := Callee.value (Operand.func 19), args := #[Operand.tmp 124, Operand.tmp 125], argTypes := #[32, 32] }, type := 32, pos := "law.go:68", after := #[{ on := 3, ground := Ground.data }, { on := 4, ground := Ground.data }, { on := 1, ground := Ground.chain }, { on := 1, ground := Ground.guard }], guard := some (1, true) }) rfl (fun K hK => ?_) AllReadyH.nil
    go_simp
    go_at_call 19; refine (V.rsub 3 4 rfl rfl Hge.out H2.out.d).mono ?_; rintro ε wr5 ⟨xr, yr, zr, rfl, V5⟩; clear V
    refine hK.out _ _ ?_ (fun hHeld => ?_)
    · first | exact V6.cell 2 rfl | exact V5.cell 2 rfl
    clear hK K
    try simp only [Act.put, List.setIfInBounds_toArray, List.set_cons_zero, List.set_cons_succ]
    refine wpAnyH_ready (rs := [6]) (by kernel_rfl) (by simp) ?_
    refine AllReadyH.cons (o := { dst := some 127, op := Op.call { callee := Callee.value (Operand.func 12), args := #[Operand.tmp 123, Operand.tmp 126], argTypes := #[30, 32] }, type := 4, pos := "law.go:68", after := #[{ on := 2, ground := Ground.data }, { on := 5, ground := Ground.data }, { on := 5, ground := Ground.chain }, { on := 1, ground := Ground.guard }], guard := some (1, true) }) rfl (fun K hK => ?_) AllReadyH.nil
    go_simp
    go_at_call 12; refine (V5.same 5 0 rfl rfl HT1.out).mono ?_; rintro ε wr6 ⟨rfl, V6⟩; clear V5
    refine hK.out _ _ ?_ (fun hHeld => ?_)
    · first | exact V6.cell 2 rfl | exact V5.cell 2 rfl
    clear hK K
    try simp only [Act.put, List.setIfInBounds_toArray, List.set_cons_zero, List.set_cons_succ]
    refine wpAnyH_take (i := 7) (oi := { dst := some 128, op := Op.unOp UnOp.not 4 (Operand.tmp 127), type := 4, pos := "law.go:68", after := #[{ on := 6, ground := Ground.data }, { on := 1, ground := Ground.guard }], guard := some (1, true) }) (v := ?_) rfl (by kernel_rfl) (by kernel_rfl) (by kernel_rfl) (fun _ _ _ h => h) (Or.inl ⟨by rfl, ?_⟩) (by assumption) ?_
    rotate_left
    · intro w hSw; (try dsimp only at hSw); go_simp; (try with_reducible rfl)
    try simp only [Act.put, List.setIfInBounds_toArray, List.set_cons_zero, List.set_cons_succ]
    refine wpAnyH_take (i := 8) (oi := { dst := some 129, op := Op.pick (Operand.tmp 122) (Operand.tmp 128) (Operand.const (Value.bool false)), type := 4, pos := "law.go:68", after := #[{ on := 1, ground := Ground.data }, { on := 7, ground := Ground.data }], guard := none }) (v := ?_) rfl (by kernel_rfl) (by kernel_rfl) (by kernel_rfl) (fun _ _ _ h => h) (Or.inl ⟨by rfl, ?_⟩) (by assumption) ?_
    rotate_left
    · intro w hSw; (try dsimp only at hSw); go_simp; (try with_reducible rfl)
    try simp only [Act.put, List.setIfInBounds_toArray, List.set_cons_zero, List.set_cons_succ]
    refine wpAnyH_take (i := 9) (oi := { dst := some 130, op := Op.move (Operand.tmp 129), type := 4, pos := "law.go:68", after := #[{ on := 8, ground := Ground.data }, { on := 6, ground := Ground.chain }], guard := none }) (v := ?_) rfl (by kernel_rfl) (by kernel_rfl) (by kernel_rfl) (fun _ _ _ h => h) (Or.inl ⟨by rfl, ?_⟩) (by assumption) ?_
    rotate_left
    · intro w hSw; (try dsimp only at hSw); go_simp; (try with_reducible rfl)
    try simp only [Act.put, List.setIfInBounds_toArray, List.set_cons_zero, List.set_cons_succ]
    refine wpAnyH_take (i := 10) (oi := { dst := some 131, op := Op.move (Operand.tmp 13), type := 4, pos := "law.go:68", after := #[{ on := 9, ground := Ground.guard }], guard := some (9, false) }) (v := ?_) rfl (by kernel_rfl) (by kernel_rfl) (by kernel_rfl) (fun _ _ _ h => h) (Or.inl ⟨by rfl, ?_⟩) (by assumption) ?_
    rotate_left
    · intro w hSw; (try dsimp only at hSw); go_simp; (try with_reducible rfl)
    try simp only [Act.put, List.setIfInBounds_toArray, List.set_cons_zero, List.set_cons_succ]
    refine wpAnyH_take (i := 11) (oi := { dst := some 132, op := Op.unOp UnOp.not 4 (Operand.tmp 131), type := 4, pos := "law.go:68", after := #[{ on := 10, ground := Ground.data }, { on := 9, ground := Ground.guard }], guard := some (9, false) }) (v := ?_) rfl (by kernel_rfl) (by kernel_rfl) (by kernel_rfl) (fun _ _ _ h => h) (Or.inl ⟨by rfl, ?_⟩) (by assumption) ?_
    rotate_left
    · intro w hSw; (try dsimp only at hSw); go_simp; (try with_reducible rfl)
    try simp only [Act.put, List.setIfInBounds_toArray, List.set_cons_zero, List.set_cons_succ]
    refine wpAnyH_take (i := 12) (oi := { dst := some 133, op := Op.move (Operand.tmp 132), type := 4, pos := "law.go:68", after := #[{ on := 11, ground := Ground.data }, { on := 9, ground := Ground.chain }, { on := 9, ground := Ground.guard }], guard := some (9, false) }) (v := ?_) rfl (by kernel_rfl) (by kernel_rfl) (by kernel_rfl) (fun _ _ _ h => h) (Or.inl ⟨by rfl, ?_⟩) (by assumption) ?_
    rotate_left
    · intro w hSw; (try dsimp only at hSw); go_simp; (try with_reducible rfl)
    try simp only [Act.put, List.setIfInBounds_toArray, List.set_cons_zero, List.set_cons_succ]
    refine wpAnyH_take (i := 13) (oi := { dst := some 134, op := Op.load 30 (Operand.tmp 12), type := 30, pos := "law.go:68", after := #[{ on := 12, ground := Ground.guard }], guard := some (12, true) }) (v := undef) rfl (by kernel_rfl) (by kernel_rfl) (by kernel_rfl) (fun _ _ _ h => h) (Or.inr ⟨by rfl, rfl⟩) (by assumption) ?_
    try simp only [Act.put, List.setIfInBounds_toArray, List.set_cons_zero, List.set_cons_succ]
    refine wpAnyH_take (i := 14) (oi := { dst := some 135, op := Op.call { callee := Callee.value (Operand.func 20), args := #[Operand.tmp 134], argTypes := #[30] }, type := 4, pos := "law.go:68", after := #[{ on := 13, ground := Ground.data }, { on := 12, ground := Ground.chain }, { on := 12, ground := Ground.guard }], guard := some (12, true) }) (v := undef) rfl (by kernel_rfl) (by kernel_rfl) (by kernel_rfl) (fun _ _ _ h => h) (Or.inr ⟨by rfl, rfl⟩) (by assumption) ?_
    try simp only [Act.put, List.setIfInBounds_toArray, List.set_cons_zero, List.set_cons_succ]
    refine wpAnyH_take (i := 15) (oi := { dst := some 136, op := Op.unOp UnOp.not 4 (Operand.tmp 135), type := 4, pos := "law.go:68", after := #[{ on := 14, ground := Ground.data }, { on := 12, ground := Ground.guard }], guard := some (12, true) }) (v := undef) rfl (by kernel_rfl) (by kernel_rfl) (by kernel_rfl) (fun _ _ _ h => h) (Or.inr ⟨by rfl, rfl⟩) (by assumption) ?_
    try simp only [Act.put, List.setIfInBounds_toArray, List.set_cons_zero, List.set_cons_succ]
    refine wpAnyH_take (i := 16) (oi := { dst := some 137, op := Op.pick (Operand.tmp 133) (Operand.tmp 136) (Operand.const (Value.bool false)), type := 4, pos := "law.go:68", after := #[{ on := 12, ground := Ground.data }, { on := 15, ground := Ground.data }, { on := 9, ground := Ground.guard }], guard := some (9, false) }) (v := ?_) rfl (by kernel_rfl) (by kernel_rfl) (by kernel_rfl) (fun _ _ _ h => h) (Or.inl ⟨by rfl, ?_⟩) (by assumption) ?_
    rotate_left
    · intro w hSw; (try dsimp only at hSw); go_simp; (try with_reducible rfl)
    try simp only [Act.put, List.setIfInBounds_toArray, List.set_cons_zero, List.set_cons_succ]
    refine wpAnyH_take (i := 17) (oi := { dst := some 138, op := Op.pick (Operand.tmp 130) (Operand.const (Value.bool true)) (Operand.tmp 137), type := 4, pos := "law.go:68", after := #[{ on := 9, ground := Ground.data }, { on := 16, ground := Ground.data }], guard := none }) (v := ?_) rfl (by kernel_rfl) (by kernel_rfl) (by kernel_rfl) (fun _ _ _ h => h) (Or.inl ⟨by rfl, ?_⟩) (by assumption) ?_
    rotate_left
    · intro w hSw; (try dsimp only at hSw); go_simp; (try with_reducible rfl)
    try simp only [Act.put, List.setIfInBounds_toArray, List.set_cons_zero, List.set_cons_succ]
    refine wpAnyH_done (by kernel_rfl) ?_ _
    have HV14_ := Lib.hid V6
    clear V6 HV14
    have HV14 := HV14_
    clear HV14_
    have K15 := Lib.hid (HV14.out.zero 4 rfl)
    have kbq15 := HV14.out.cell 1 rfl
    go_wp2_with fail
    refine K15.out.mono ?_
    rintro ε w25 ⟨rfl, V⟩
    have HV15 := Lib.hid V
    clear V K15 HV14 kbq15
    have K16 := Lib.hid (HV15.out.zero 3 rfl)
    have kbm16 := HV15.out.cell 0 rfl
    go_wp2_with fail
    refine K16.out.mono ?_
    rintro ε w26 ⟨rfl, V⟩
    have HV16 := Lib.hid V
    clear V K16 HV15 kbm16
    have K17 := Lib.hid (HV16.out.large 6 rfl Hfit.out)
    have kba17 := HV16.out.cell 3 rfl
    go_wp2_with fail
    refine K17.out.mono ?_
    rintro ε w27 ⟨rfl, V⟩
    have HV17 := Lib.hid V
    clear V K17 HV16 kba17
    have K18 := Lib.hid (HV17.out.bits 6 rfl HLB.out)
    have kba18 := HV17.out.cell 3 rfl
    go_wp2_with fail
    refine K18.out.mono ?_
    rintro ε w28 ⟨rfl, V⟩
    have HV18 := Lib.hid V
    clear V K18 HV17 kba18
    have K19 := Lib.hid (HV18.out.rbits 4 rfl HLen.out HLB.out)
    go_wp2_with fail
    refine K19.out.mono ?_
    rintro ε w29 ⟨rfl, V⟩
    have HV19 := Lib.hid V
    clear V K19 HV18 
    have K20 := Lib.hid (HV19.out.digits 6 rfl HT1.out HND.out)
    have kba20 := HV19.out.cell 3 rfl
    go_wp2_with fail
    refine K20.out.mono ?_
    rintro ε w30 ⟨rfl, V⟩
    have HV20 := Lib.hid V
    clear V K20 HV19 kba20
    have K21 := Lib.hid (HV20.out.rtext 4 rfl HT.out)
    go_wp2_with fail
    refine K21.out.mono ?_
    rintro ε w31 ⟨rfl, V⟩
    have HV21 := Lib.hid V
    clear V K21 HV20 
    have K22 := Lib.hid (HV21.out.nz 6 rfl HzB.out)
    have kba22 := HV21.out.cell 3 rfl
    go_wp2_with fail
    refine K22.out.mono ?_
    rintro ε w32 ⟨rfl, V⟩
    have HV22 := Lib.hid V
    clear V K22 HV21 kba22
    have K23 := Lib.hid (HV22.out.rbits 4 rfl HLen.out HLB.out)
    go_wp2_with fail
    refine K23.out.mono ?_
    rintro ε w33 ⟨rfl, V⟩
    have HV23 := Lib.hid V
    clear V K23 HV22 
    go_wp2_with fail
    go_ret
    exact ⟨rfl, HB1.out.trans (HV23.out.bel.mono HB1.out.size)⟩
set_option maxRecDepth 100000 in
set_option maxHeartbeats 8000000 in
theorem natTells.pgf (s t : ByteArray) (hs : s.size ≤ 250) (ht : t.size ≤ 250) (hz : 0 < nn t) (hge : nn t ≤ nn s) (hfit : nn s < 18446744073709551616) (w : World) (htab : Tab w) (htb : TabB w) :
    Calls Tryd.prog 3 #[.string s, .string t] w fun e w' => e = .returned (.bool true) ∧ Below w.heap.size w w' := by
  have HAl := Lib.hid (alive_any w htab)
  have HTab := Lib.hid htab
  have HTb := Lib.hid htb
  have H1 := Lib.hid (tb_all 18446744073709551616 16 100 (by omega) (nn_w (s := s) (k := 16) (by omega)) (nn_w (s := t) (k := 16) (by omega)) (by omega) (by omega))
  have H2 := Lib.hid (tb_all 10000 63 200 (by omega) (nn_lt (s := s) (k := 63) (by omega)) (nn_lt (s := t) (k := 63) (by omega)) (by omega) (by omega))
  have H3 := Lib.hid (And.intro (nn_w (s := s) (k := 26) (by omega)) (nn_w (s := t) (k := 26) (by omega)))
  have H4 := Lib.hid (And.intro (nn_w (s := s) (k := 100) (by omega)) (nn_w (s := t) (k := 100) (by omega)))
  have H5 := Lib.hid (And.intro (pow_up 63 200 (nn_lt (s := s) (k := 63) (by omega)) (by omega)) (pow_up 63 200 (nn_lt (s := t) (k := 63) (by omega)) (by omega)))
  have HLen := Lib.hid (lenN (nn_w (s := s) (k := 16) (by omega)))
  have HNats : Hid (∀ w1, Below w.heap.size w w1 → _) := Lib.hid (fun w1 h => nats_two s t w1 (by omega) (by omega) (htab.below h (Nat.le_refl _)))
  obtain ⟨A, hA⟩ : ∃ A, nn s = A := ⟨_, rfl⟩
  obtain ⟨B, hB⟩ : ∃ B, nn t = B := ⟨_, rfl⟩
  rw [hA] at HLen hge hfit
  rw [hB] at hge hz
  rw [hA, hB] at H1 H2 H3 H4 H5
  simp only [hA, hB] at HNats
  obtain ⟨sz, hsz⟩ : ∃ sz, s.size = sz := ⟨_, rfl⟩
  obtain ⟨tz, htz⟩ : ∃ tz, t.size = tz := ⟨_, rfl⟩
  have c1 : ¬ (250 : Int) < (sz : Int) := by omega
  have c2 : ¬ (250 : Int) < (tz : Int) := by omega
  have c1b : decide ((250 : Int) < (sz : Int)) = false := by simp; omega
  have c2b : decide ((250 : Int) < (tz : Int)) = false := by simp; omega
  have Hz := Lib.hid hz
  have Hge := Lib.hid hge
  have Hfit := Lib.hid hfit
  obtain ⟨C, hC⟩ : ∃ C, cmpI A B = C := ⟨_, rfl⟩
  have hC0 : 0 ≤ C := by rw [← hC]; unfold cmpI; rw [if_neg (by omega)]; split <;> omega
  have hC0b : decide (0 ≤ C) = true := by simp; omega
  have hCC : (C != C) = false := by simp
  have HC := Lib.hid hC
  obtain ⟨LB, hLB⟩ : ∃ LB : Int, ((hlv A).length : Int) = LB := ⟨_, rfl⟩
  have HLB := Lib.hid hLB
  have hLL : (LB == LB) = true := by simp
  have hL64 : LB ≤ 64 := by rw [← hLB]; have := len_fit (isLen_hlv A) hfit; omega
  have hL64b : decide (LB ≤ 64) = true := by simp; omega
  obtain ⟨T, hT⟩ : ∃ T : ByteArray, (⟨(Lib.decDigits A).toArray⟩ : ByteArray) = T := ⟨_, rfl⟩
  have HT := Lib.hid hT
  obtain ⟨ND, hND⟩ : ∃ ND : Int, ((Lib.nDigits A : Nat) : Int) = ND := ⟨_, rfl⟩
  have hTs : (T.size : Int) = ND := by rw [← hT, ← hND, ← Lib.decDigits_length]; rfl
  have HND := Lib.hid hND
  have hNN : (ND == ND) = true := by simp
  obtain ⟨zB, hzB⟩ : ∃ zB, decide (A = 0) = zB := ⟨_, rfl⟩
  have HzB := Lib.hid hzB
  have hzz : (zB == zB) = true := by simp
  clear hs ht htab htb hA hB hge hfit hC hLB hT hND hzB hz
  go_enter Tryd.func3, Tryd.ntmps3
  go_wp2_with fail
  refine HAl.out.mono ?_
  rintro ε w1 ⟨rfl, hb1⟩
  have HN1 := Lib.hid (HNats.out w1 hb1)
  have HB1 := Lib.hid hb1
  have HT1 := Lib.hid (HTab.out.below hb1 (Nat.le_refl _))
  have HTb1 := Lib.hid (HTb.out.below hb1 (Nat.le_refl _))
  clear hb1 HAl HNats
  go_wp2_with fail
  refine HN1.out.mono ?_
  rintro ε w2 ⟨ga, ca, gb, cb, xa, ya, za, xb, yb, zb, xc, yc, zc, xd, yd, zd, rfl, q1, q2, q3, q4, hNa, hNb, hRa, hRb, hbel, hca2, hcb2⟩
  have hxn := rn_form hRa
  obtain ⟨_, _, _, he1, _, hx0⟩ := hxn
  injection he1 with ee1 ee2 ee3
  subst ee2
  clear ee1 ee3
  have hyn := rn_form hRb
  obtain ⟨_, _, _, he2, _, hy0⟩ := hyn
  injection he2 with ff1 ff2 ff3
  subst ff2
  clear ff1 ff3
  have hxz : (((yc : Nat) : Int) == 0) = zB := zlen hx0 HzB.out
  have hyl : (0 : Int) < (yd : Int) := pos_of hy0 Hz.out
  have hylN : 0 < yd := by omega
  have hylN2 : decide (0 < yd) = true := by simp; omega
  have hxzN : (yc == 0) = zB := zlenN hx0 HzB.out
  have V0 : Ax w1 [] [(.agg #[.slice xa ya za], A), (.agg #[.slice xb yb zb], B)] [(.slice xc yc zc, A), (.slice xd yd zd, B)] w2 := ⟨hbel, fun k b v e => by simp at e, fun k v N e => by
      rcases k with _ | _ | k
      · simp at e; obtain ⟨rfl, rfl⟩ := e; exact ⟨hNa, H4.out.1⟩
      · simp at e; obtain ⟨rfl, rfl⟩ := e; exact ⟨hNb, H4.out.2⟩
      · simp at e, fun k v N e => by
      rcases k with _ | _ | k
      · simp at e; obtain ⟨rfl, rfl⟩ := e; exact ⟨hRa, H5.out.1⟩
      · simp at e; obtain ⟨rfl, rfl⟩ := e; exact ⟨hRb, H5.out.2⟩
      · simp at e⟩
  have HV0_ := Lib.hid V0
  have r1 : w2.drew.cell? ⟨ga, 0, none⟩ = some (.slice xa ya za) := q1
  have r2 : w2.drew.cell? ⟨ga, 1, none⟩ = some (.slice xb yb zb) := q2
  have r3 : w2.drew.cell? ⟨gb, 0, none⟩ = some (.slice xc yc zc) := q3
  have r4 : w2.drew.cell? ⟨gb, 1, none⟩ = some (.slice xd yd zd) := q4
  have HS : Hid (∀ W, Below w2.heap.size w2 W → W.cell? ⟨ga, 0, none⟩ = some (.slice xa ya za) ∧ W.cell? ⟨ga, 1, none⟩ = some (.slice xb yb zb) ∧ W.cell? ⟨gb, 0, none⟩ = some (.slice xc yc zc) ∧ W.cell? ⟨gb, 1, none⟩ = some (.slice xd yd zd)) := Lib.hid (fun W h => ⟨(h.cell (p := ⟨ga, 0, none⟩) (World.block_lt_of_cell? w2 ⟨ga, 0, none⟩ q1)).trans q1, (h.cell (p := ⟨ga, 1, none⟩) (World.block_lt_of_cell? w2 ⟨ga, 1, none⟩ q2)).trans q2, (h.cell (p := ⟨gb, 0, none⟩) (World.block_lt_of_cell? w2 ⟨gb, 0, none⟩ q3)).trans q3, (h.cell (p := ⟨gb, 1, none⟩) (World.block_lt_of_cell? w2 ⟨gb, 1, none⟩ q4)).trans q4⟩)
  have hsz1 := hbel.size
  clear hNa hNb hRa hRb hbel q1 q2 q3 q4 V0 HN1 hx0 hy0
  go_upto_region 6 with fail
  go_cut [8, 9, 10, 11] from 44 to 56 (fun p8 p9 s10 s11 wx => ∃ (ba bb : Nat), p8 = .pointer (some ⟨ba, 0, none⟩) ∧ p9 = .pointer (some ⟨bb, 0, none⟩) ∧ s10 = .slice xc yc zc ∧ s11 = .slice xd yd zd ∧ Hid (Ax w1 [(ba, .slice xa ya za), (bb, .slice xb yb zb)] [(.agg #[.slice xa ya za], A), (.agg #[.slice xb yb zb], B)] [(.slice xc yc zc, A), (.slice xd yd zd, B)] wx))
  case first =>
    have hd2 := below_drew2 w2
    go_wp2_with fail
    refine wp_region_held_drew (S := (fun w' => w'.cell? ⟨ga, 0, none⟩ = some (.slice xa ya za) ∧ w'.cell? ⟨ga, 1, none⟩ = some (.slice xb yb zb) ∧ w'.cell? ⟨gb, 0, none⟩ = some (.slice xc yc zc) ∧ w'.cell? ⟨gb, 1, none⟩ = some (.slice xd yd zd))) (by kernel_rfl) ?_ (fun hHeld => ?_)
    · exact ⟨r1, r2, r3, r4⟩
    refine wpAnyH_take (i := 0) (oi := { dst := some 44, op := Op.move (Operand.tmp 5), type := 23, pos := "law.go:62", after := #[], guard := none }) (v := ?_) rfl (by kernel_rfl) (by kernel_rfl) (by kernel_rfl) (fun _ _ _ h => h) (Or.inl ⟨by rfl, ?_⟩) (by assumption) ?_
    rotate_left
    · intro w hSw; (try dsimp only at hSw); go_simp; (try with_reducible rfl)
    try simp only [Act.put, List.setIfInBounds_toArray, List.set_cons_zero, List.set_cons_succ]
    refine wpAnyH_take (i := 1) (oi := { dst := some 45, op := Op.indexAddr 23 (Operand.tmp 44) (Operand.const (Value.int IntKind.i64 0)), type := 0, pos := "law.go:62", after := #[{ on := 0, ground := Ground.data }], guard := none }) (v := ?_) rfl (by kernel_rfl) (by kernel_rfl) (by kernel_rfl) (fun _ _ _ h => h) (Or.inl ⟨by rfl, ?_⟩) (by assumption) ?_
    rotate_left
    · intro w hSw; (try dsimp only at hSw); go_simp; (try with_reducible rfl)
    try simp only [Act.put, List.setIfInBounds_toArray, List.set_cons_zero, List.set_cons_succ]
    refine wpAnyH_take (i := 2) (oi := { dst := some 46, op := Op.load 30 (Operand.tmp 45), type := 30, pos := "law.go:62", after := #[{ on := 1, ground := Ground.data }], guard := none }) (v := ?_) rfl (by kernel_rfl) (by kernel_rfl) (by kernel_rfl) (fun _ _ _ h => h) (Or.inl ⟨by rfl, ?_⟩) (by assumption) ?_
    rotate_left
    · intro w hSw; (try dsimp only at hSw); go_simp; (try with_reducible rfl)
    try simp only [Act.put, List.setIfInBounds_toArray, List.set_cons_zero, List.set_cons_succ]
    refine wpAnyH_take (i := 3) (oi := { dst := some 47, op := Op.move (Operand.tmp 5), type := 23, pos := "law.go:62", after := #[{ on := 14, ground := Ground.gcOnly Departure.lateStores }], guard := none }) (v := ?_) rfl (by kernel_rfl) (by kernel_rfl) (by kernel_rfl) (fun _ _ _ h => h) (Or.inl ⟨by rfl, ?_⟩) (by assumption) ?_
    rotate_left
    · intro w hSw; (try dsimp only at hSw); go_simp; (try with_reducible rfl)
    try simp only [Act.put, List.setIfInBounds_toArray, List.set_cons_zero, List.set_cons_succ]
    refine wpAnyH_take (i := 4) (oi := { dst := some 48, op := Op.indexAddr 23 (Operand.tmp 47) (Operand.const (Value.int IntKind.i64 1)), type := 0, pos := "law.go:62", after := #[{ on := 3, ground := Ground.data }, { on := 14, ground := Ground.gcOnly Departure.lateStores }], guard := none }) (v := ?_) rfl (by kernel_rfl) (by kernel_rfl) (by kernel_rfl) (fun _ _ _ h => h) (Or.inl ⟨by rfl, ?_⟩) (by assumption) ?_
    rotate_left
    · intro w hSw; (try dsimp only at hSw); go_simp; (try with_reducible rfl)
    try simp only [Act.put, List.setIfInBounds_toArray, List.set_cons_zero, List.set_cons_succ]
    refine wpAnyH_take (i := 5) (oi := { dst := some 49, op := Op.load 30 (Operand.tmp 48), type := 30, pos := "law.go:62", after := #[{ on := 4, ground := Ground.data }, { on := 14, ground := Ground.gcOnly Departure.lateStores }], guard := none }) (v := ?_) rfl (by kernel_rfl) (by kernel_rfl) (by kernel_rfl) (fun _ _ _ h => h) (Or.inl ⟨by rfl, ?_⟩) (by assumption) ?_
    rotate_left
    · intro w hSw; (try dsimp only at hSw); go_simp; (try with_reducible rfl)
    try simp only [Act.put, List.setIfInBounds_toArray, List.set_cons_zero, List.set_cons_succ]
    refine wpAnyH_take (i := 6) (oi := { dst := some 50, op := Op.move (Operand.tmp 6), type := 24, pos := "law.go:62", after := #[{ on := 15, ground := Ground.gcOnly Departure.lateStores }], guard := none }) (v := ?_) rfl (by kernel_rfl) (by kernel_rfl) (by kernel_rfl) (fun _ _ _ h => h) (Or.inl ⟨by rfl, ?_⟩) (by assumption) ?_
    rotate_left
    · intro w hSw; (try dsimp only at hSw); go_simp; (try with_reducible rfl)
    try simp only [Act.put, List.setIfInBounds_toArray, List.set_cons_zero, List.set_cons_succ]
    refine wpAnyH_take (i := 7) (oi := { dst := some 51, op := Op.indexAddr 24 (Operand.tmp 50) (Operand.const (Value.int IntKind.i64 0)), type := 0, pos := "law.go:62", after := #[{ on := 6, ground := Ground.data }, { on := 15, ground := Ground.gcOnly Departure.lateStores }], guard := none }) (v := ?_) rfl (by kernel_rfl) (by kernel_rfl) (by kernel_rfl) (fun _ _ _ h => h) (Or.inl ⟨by rfl, ?_⟩) (by assumption) ?_
    rotate_left
    · intro w hSw; (try dsimp only at hSw); go_simp; (try with_reducible rfl)
    try simp only [Act.put, List.setIfInBounds_toArray, List.set_cons_zero, List.set_cons_succ]
    refine wpAnyH_take (i := 8) (oi := { dst := some 52, op := Op.load 32 (Operand.tmp 51), type := 32, pos := "law.go:62", after := #[{ on := 7, ground := Ground.data }, { on := 15, ground := Ground.gcOnly Departure.lateStores }], guard := none }) (v := ?_) rfl (by kernel_rfl) (by kernel_rfl) (by kernel_rfl) (fun _ _ _ h => h) (Or.inl ⟨by rfl, ?_⟩) (by assumption) ?_
    rotate_left
    · intro w hSw; (try dsimp only at hSw); go_simp; (try with_reducible rfl)
    try simp only [Act.put, List.setIfInBounds_toArray, List.set_cons_zero, List.set_cons_succ]
    refine wpAnyH_take (i := 9) (oi := { dst := some 53, op := Op.move (Operand.tmp 6), type := 24, pos := "law.go:62", after := #[{ on := 16, ground := Ground.gcOnly Departure.lateStores }], guard := none }) (v := ?_) rfl (by kernel_rfl) (by kernel_rfl) (by kernel_rfl) (fun _ _ _ h => h) (Or.inl ⟨by rfl, ?_⟩) (by assumption) ?_
    rotate_left
    · intro w hSw; (try dsimp only at hSw); go_simp; (try with_reducible rfl)
    try simp only [Act.put, List.setIfInBounds_toArray, List.set_cons_zero, List.set_cons_succ]
    refine wpAnyH_take (i := 10) (oi := { dst := some 54, op := Op.indexAddr 24 (Operand.tmp 53) (Operand.const (Value.int IntKind.i64 1)), type := 0, pos := "law.go:62", after := #[{ on := 9, ground := Ground.data }, { on := 16, ground := Ground.gcOnly Departure.lateStores }], guard := none }) (v := ?_) rfl (by kernel_rfl) (by kernel_rfl) (by kernel_rfl) (fun _ _ _ h => h) (Or.inl ⟨by rfl, ?_⟩) (by assumption) ?_
    rotate_left
    · intro w hSw; (try dsimp only at hSw); go_simp; (try with_reducible rfl)
    try simp only [Act.put, List.setIfInBounds_toArray, List.set_cons_zero, List.set_cons_succ]
    refine wpAnyH_take (i := 11) (oi := { dst := some 55, op := Op.load 32 (Operand.tmp 54), type := 32, pos := "law.go:62", after := #[{ on := 10, ground := Ground.data }, { on := 16, ground := Ground.gcOnly Departure.lateStores }], guard := none }) (v := ?_) rfl (by kernel_rfl) (by kernel_rfl) (by kernel_rfl) (fun _ _ _ h => h) (Or.inl ⟨by rfl, ?_⟩) (by assumption) ?_
    rotate_left
    · intro w hSw; (try dsimp only at hSw); go_simp; (try with_reducible rfl)
    try simp only [Act.put, List.setIfInBounds_toArray, List.set_cons_zero, List.set_cons_succ]
    refine wpAnyH_ready (rs := [12, 13]) (by kernel_rfl) (by simp) ?_
    refine (AllReadyH.cons (o := { dst := some 8, op := Op.alloc 30, type := 0, pos := "law.go:62", after := #[], guard := none }) rfl (fun K hK => ?_) (AllReadyH.cons (o := { dst := some 9, op := Op.alloc 30, type := 0, pos := "law.go:62", after := #[], guard := none }) rfl (fun K hK => ?_) AllReadyH.nil))
    · have R1 := HV0_.out.alloc (.slice none 0 0)
      have T1 := hd2.alloc hd2.size (.cells #[.slice none 0 0] 30)
      go_wp2_with fail
      refine hK.out _ _ ?_ (fun hHeld => ?_)
      · exact HS.out _ T1
      clear hK K
      try simp only [Act.put, List.setIfInBounds_toArray, List.set_cons_zero, List.set_cons_succ]
      refine wpAnyH_ready (rs := [13]) (by kernel_rfl) (by simp) ?_
      refine (AllReadyH.cons (o := { dst := some 9, op := Op.alloc 30, type := 0, pos := "law.go:62", after := #[], guard := none }) rfl (fun K hK => ?_) AllReadyH.nil)
      have R2 := (R1.alloc (.slice none 0 0)).below (below_drew2 _)
      rw [World.size_alloc] at R2
      have T2 := T1.alloc T1.size (.cells #[.slice none 0 0] 30)
      go_wp2_with fail
      refine hK.out _ _ ?_ (fun hHeld => ?_)
      · exact HS.out _ T2
      clear hK K
      try simp only [Act.put, List.setIfInBounds_toArray, List.set_cons_zero, List.set_cons_succ]
      refine wpAnyH_ready (rs := [14]) (by kernel_rfl) (by simp) ?_
      refine (AllReadyH.cons (o := { dst := none, op := Op.store 30 (Operand.tmp 8) (Operand.tmp 46), type := 0, pos := "law.go:62", after := #[{ on := 12, ground := Ground.data }, { on := 2, ground := Ground.data }, { on := 0, ground := Ground.phase }, { on := 1, ground := Ground.phase }, { on := 2, ground := Ground.phase }, { on := 3, ground := Ground.textOnly Departure.lateStores }, { on := 4, ground := Ground.textOnly Departure.lateStores }, { on := 5, ground := Ground.textOnly Departure.lateStores }, { on := 6, ground := Ground.textOnly Departure.lateStores }, { on := 7, ground := Ground.textOnly Departure.lateStores }, { on := 8, ground := Ground.textOnly Departure.lateStores }, { on := 9, ground := Ground.textOnly Departure.lateStores }, { on := 10, ground := Ground.textOnly Departure.lateStores }, { on := 11, ground := Ground.textOnly Departure.lateStores }, { on := 12, ground := Ground.phase }, { on := 13, ground := Ground.phase }], guard := none }) rfl (fun K hK => ?_) AllReadyH.nil)
      have R3 := R2.swap.set2 (by omega) (by omega) (.slice xa ya za)
      have T3 := T2.setCell (p := ⟨w2.heap.size, 0, none⟩) (by simp) (.slice xa ya za)
      have B3 := R2.swap.box 0 _ _ rfl
      refine if_wanted rfl ?_
      refine wp_store_box (Operand.tmp 8) (Operand.tmp 46) rfl rfl _ (.slice none 0 0) rfl rfl B3 ?_
      refine hK.out _ _ ?_ (fun hHeld => ?_)
      · exact HS.out _ T3
      clear hK K
      try simp only [Act.put, List.setIfInBounds_toArray, List.set_cons_zero, List.set_cons_succ]
      refine wpAnyH_ready (rs := [15]) (by kernel_rfl) (by simp) ?_
      refine (AllReadyH.cons (o := { dst := none, op := Op.store 30 (Operand.tmp 9) (Operand.tmp 49), type := 0, pos := "law.go:62", after := #[{ on := 13, ground := Ground.data }, { on := 5, ground := Ground.data }, { on := 14, ground := Ground.chain }, { on := 0, ground := Ground.phase }, { on := 1, ground := Ground.phase }, { on := 2, ground := Ground.phase }, { on := 3, ground := Ground.phase }, { on := 4, ground := Ground.phase }, { on := 5, ground := Ground.phase }, { on := 6, ground := Ground.textOnly Departure.lateStores }, { on := 7, ground := Ground.textOnly Departure.lateStores }, { on := 8, ground := Ground.textOnly Departure.lateStores }, { on := 9, ground := Ground.textOnly Departure.lateStores }, { on := 10, ground := Ground.textOnly Departure.lateStores }, { on := 11, ground := Ground.textOnly Departure.lateStores }, { on := 12, ground := Ground.phase }, { on := 13, ground := Ground.phase }, { on := 14, ground := Ground.phase }], guard := none }) rfl (fun K hK => ?_) AllReadyH.nil)
      have R4 := R3.swap.set2 (by omega) (by omega) (.slice xb yb zb)
      have T4 := T3.setCell (p := ⟨w2.heap.size + 1, 0, none⟩) (by simp) (.slice xb yb zb)
      have B4 := R3.swap.box 0 _ _ rfl
      refine if_wanted rfl ?_
      refine wp_store_box (Operand.tmp 9) (Operand.tmp 49) rfl rfl _ (.slice none 0 0) rfl rfl B4 ?_
      refine hK.out _ _ ?_ (fun hHeld => ?_)
      · exact HS.out _ T4
      clear hK K
      try simp only [Act.put, List.setIfInBounds_toArray, List.set_cons_zero, List.set_cons_succ]
      refine wpAnyH_take (i := 16) (oi := { dst := some 10, op := Op.assign (Operand.tmp 52), type := 32, pos := "law.go:62", after := #[{ on := 8, ground := Ground.data }, { on := 15, ground := Ground.chain }, { on := 0, ground := Ground.phase }, { on := 1, ground := Ground.phase }, { on := 2, ground := Ground.phase }, { on := 3, ground := Ground.phase }, { on := 4, ground := Ground.phase }, { on := 5, ground := Ground.phase }, { on := 6, ground := Ground.phase }, { on := 7, ground := Ground.phase }, { on := 8, ground := Ground.phase }, { on := 9, ground := Ground.textOnly Departure.lateStores }, { on := 10, ground := Ground.textOnly Departure.lateStores }, { on := 11, ground := Ground.textOnly Departure.lateStores }, { on := 12, ground := Ground.phase }, { on := 13, ground := Ground.phase }, { on := 14, ground := Ground.phase }, { on := 15, ground := Ground.phase }], guard := none }) (v := ?_) rfl (by kernel_rfl) (by kernel_rfl) (by kernel_rfl) (fun _ _ _ h => h) (Or.inl ⟨by rfl, ?_⟩) (by assumption) ?_
      rotate_left
      · intro w hSw; (try dsimp only at hSw); go_simp; (try with_reducible rfl)
      try simp only [Act.put, List.setIfInBounds_toArray, List.set_cons_zero, List.set_cons_succ]
      refine wpAnyH_take (i := 17) (oi := { dst := some 11, op := Op.assign (Operand.tmp 55), type := 32, pos := "law.go:62", after := #[{ on := 11, ground := Ground.data }, { on := 16, ground := Ground.chain }, { on := 0, ground := Ground.phase }, { on := 1, ground := Ground.phase }, { on := 2, ground := Ground.phase }, { on := 3, ground := Ground.phase }, { on := 4, ground := Ground.phase }, { on := 5, ground := Ground.phase }, { on := 6, ground := Ground.phase }, { on := 7, ground := Ground.phase }, { on := 8, ground := Ground.phase }, { on := 9, ground := Ground.phase }, { on := 10, ground := Ground.phase }, { on := 11, ground := Ground.phase }, { on := 12, ground := Ground.phase }, { on := 13, ground := Ground.phase }, { on := 14, ground := Ground.phase }, { on := 15, ground := Ground.phase }, { on := 16, ground := Ground.phase }], guard := none }) (v := ?_) rfl (by kernel_rfl) (by kernel_rfl) (by kernel_rfl) (fun _ _ _ h => h) (Or.inl ⟨by rfl, ?_⟩) (by assumption) ?_
      rotate_left
      · intro w hSw; (try dsimp only at hSw); go_simp; (try with_reducible rfl)
      try simp only [Act.put, List.setIfInBounds_toArray, List.set_cons_zero, List.set_cons_succ]
      refine wpAnyH_done (by kernel_rfl) ?_ _
      have HR := Lib.hid R4.swap
      clear R1 R2 R3 R4 T1 T2 T3 T4 HS
      go_wp2_with fail
      go_meet
      case rel => exact ⟨_, _, rfl, rfl, rfl, rfl, HR⟩
    · have R1 := HV0_.out.alloc (.slice none 0 0)
      have T1 := hd2.alloc hd2.size (.cells #[.slice none 0 0] 30)
      go_wp2_with fail
      refine hK.out _ _ ?_ (fun hHeld => ?_)
      · exact HS.out _ T1
      clear hK K
      try simp only [Act.put, List.setIfInBounds_toArray, List.set_cons_zero, List.set_cons_succ]
      refine wpAnyH_ready (rs := [12]) (by kernel_rfl) (by simp) ?_
      refine (AllReadyH.cons (o := { dst := some 8, op := Op.alloc 30, type := 0, pos := "law.go:62", after := #[], guard := none }) rfl (fun K hK => ?_) AllReadyH.nil)
      have R2 := (R1.alloc (.slice none 0 0)).below (below_drew2 _)
      rw [World.size_alloc] at R2
      have T2 := T1.alloc T1.size (.cells #[.slice none 0 0] 30)
      go_wp2_with fail
      refine hK.out _ _ ?_ (fun hHeld => ?_)
      · exact HS.out _ T2
      clear hK K
      try simp only [Act.put, List.setIfInBounds_toArray, List.set_cons_zero, List.set_cons_succ]
      refine wpAnyH_ready (rs := [14]) (by kernel_rfl) (by simp) ?_
      refine (AllReadyH.cons (o := { dst := none, op := Op.store 30 (Operand.tmp 8) (Operand.tmp 46), type := 0, pos := "law.go:62", after := #[{ on := 12, ground := Ground.data }, { on := 2, ground := Ground.data }, { on := 0, ground := Ground.phase }, { on := 1, ground := Ground.phase }, { on := 2, ground := Ground.phase }, { on := 3, ground := Ground.textOnly Departure.lateStores }, { on := 4, ground := Ground.textOnly Departure.lateStores }, { on := 5, ground := Ground.textOnly Departure.lateStores }, { on := 6, ground := Ground.textOnly Departure.lateStores }, { on := 7, ground := Ground.textOnly Departure.lateStores }, { on := 8, ground := Ground.textOnly Departure.lateStores }, { on := 9, ground := Ground.textOnly Departure.lateStores }, { on := 10, ground := Ground.textOnly Departure.lateStores }, { on := 11, ground := Ground.textOnly Departure.lateStores }, { on := 12, ground := Ground.phase }, { on := 13, ground := Ground.phase }], guard := none }) rfl (fun K hK => ?_) AllReadyH.nil)
      have R3 := R2.set2 (by omega) (by omega) (.slice xa ya za)
      have T3 := T2.setCell (p := ⟨w2.heap.size + 1, 0, none⟩) (by simp) (.slice xa ya za)
      have B3 := R2.box 0 _ _ rfl
      refine if_wanted rfl ?_
      refine wp_store_box (Operand.tmp 8) (Operand.tmp 46) rfl rfl _ (.slice none 0 0) rfl rfl B3 ?_
      refine hK.out _ _ ?_ (fun hHeld => ?_)
      · exact HS.out _ T3
      clear hK K
      try simp only [Act.put, List.setIfInBounds_toArray, List.set_cons_zero, List.set_cons_succ]
      refine wpAnyH_ready (rs := [15]) (by kernel_rfl) (by simp) ?_
      refine (AllReadyH.cons (o := { dst := none, op := Op.store 30 (Operand.tmp 9) (Operand.tmp 49), type := 0, pos := "law.go:62", after := #[{ on := 13, ground := Ground.data }, { on := 5, ground := Ground.data }, { on := 14, ground := Ground.chain }, { on := 0, ground := Ground.phase }, { on := 1, ground := Ground.phase }, { on := 2, ground := Ground.phase }, { on := 3, ground := Ground.phase }, { on := 4, ground := Ground.phase }, { on := 5, ground := Ground.phase }, { on := 6, ground := Ground.textOnly Departure.lateStores }, { on := 7, ground := Ground.textOnly Departure.lateStores }, { on := 8, ground := Ground.textOnly Departure.lateStores }, { on := 9, ground := Ground.textOnly Departure.lateStores }, { on := 10, ground := Ground.textOnly Departure.lateStores }, { on := 11, ground := Ground.textOnly Departure.lateStores }, { on := 12, ground := Ground.phase }, { on := 13, ground := Ground.phase }, { on := 14, ground := Ground.phase }], guard := none }) rfl (fun K hK => ?_) AllReadyH.nil)
      have R4 := R3.swap.set2 (by omega) (by omega) (.slice xb yb zb)
      have T4 := T3.setCell (p := ⟨w2.heap.size, 0, none⟩) (by simp) (.slice xb yb zb)
      have B4 := R3.swap.box 0 _ _ rfl
      refine if_wanted rfl ?_
      refine wp_store_box (Operand.tmp 9) (Operand.tmp 49) rfl rfl _ (.slice none 0 0) rfl rfl B4 ?_
      refine hK.out _ _ ?_ (fun hHeld => ?_)
      · exact HS.out _ T4
      clear hK K
      try simp only [Act.put, List.setIfInBounds_toArray, List.set_cons_zero, List.set_cons_succ]
      refine wpAnyH_take (i := 16) (oi := { dst := some 10, op := Op.assign (Operand.tmp 52), type := 32, pos := "law.go:62", after := #[{ on := 8, ground := Ground.data }, { on := 15, ground := Ground.chain }, { on := 0, ground := Ground.phase }, { on := 1, ground := Ground.phase }, { on := 2, ground := Ground.phase }, { on := 3, ground := Ground.phase }, { on := 4, ground := Ground.phase }, { on := 5, ground := Ground.phase }, { on := 6, ground := Ground.phase }, { on := 7, ground := Ground.phase }, { on := 8, ground := Ground.phase }, { on := 9, ground := Ground.textOnly Departure.lateStores }, { on := 10, ground := Ground.textOnly Departure.lateStores }, { on := 11, ground := Ground.textOnly Departure.lateStores }, { on := 12, ground := Ground.phase }, { on := 13, ground := Ground.phase }, { on := 14, ground := Ground.phase }, { on := 15, ground := Ground.phase }], guard := none }) (v := ?_) rfl (by kernel_rfl) (by kernel_rfl) (by kernel_rfl) (fun _ _ _ h => h) (Or.inl ⟨by rfl, ?_⟩) (by assumption) ?_
      rotate_left
      · intro w hSw; (try dsimp only at hSw); go_simp; (try with_reducible rfl)
      try simp only [Act.put, List.setIfInBounds_toArray, List.set_cons_zero, List.set_cons_succ]
      refine wpAnyH_take (i := 17) (oi := { dst := some 11, op := Op.assign (Operand.tmp 55), type := 32, pos := "law.go:62", after := #[{ on := 11, ground := Ground.data }, { on := 16, ground := Ground.chain }, { on := 0, ground := Ground.phase }, { on := 1, ground := Ground.phase }, { on := 2, ground := Ground.phase }, { on := 3, ground := Ground.phase }, { on := 4, ground := Ground.phase }, { on := 5, ground := Ground.phase }, { on := 6, ground := Ground.phase }, { on := 7, ground := Ground.phase }, { on := 8, ground := Ground.phase }, { on := 9, ground := Ground.phase }, { on := 10, ground := Ground.phase }, { on := 11, ground := Ground.phase }, { on := 12, ground := Ground.phase }, { on := 13, ground := Ground.phase }, { on := 14, ground := Ground.phase }, { on := 15, ground := Ground.phase }, { on := 16, ground := Ground.phase }], guard := none }) (v := ?_) rfl (by kernel_rfl) (by kernel_rfl) (by kernel_rfl) (fun _ _ _ h => h) (Or.inl ⟨by rfl, ?_⟩) (by assumption) ?_
      rotate_left
      · intro w hSw; (try dsimp only at hSw); go_simp; (try with_reducible rfl)
      try simp only [Act.put, List.setIfInBounds_toArray, List.set_cons_zero, List.set_cons_succ]
      refine wpAnyH_done (by kernel_rfl) ?_ _
      have HR := Lib.hid R4.swap
      clear R1 R2 R3 R4 T1 T2 T3 T4 HS
      go_wp2_with fail
      go_meet
      case rel => exact ⟨_, _, rfl, rfl, rfl, rfl, HR⟩
  case rest =>
    obtain ⟨ba, bb, rfl, rfl, rfl, rfl, HV0⟩ := hcut
    clear HV0_ HS r1 r2 r3 r4
    have K1 := Lib.hid (HV0.out.sub 0 1 rfl rfl Hge.out H1.out.d)
    have kba1 := HV0.out.cell 0 rfl
    have kbb1 := HV0.out.cell 1 rfl
    go_wp2_with fail
    refine K1.out.mono ?_
    rintro ε w11 ⟨xs, ys, zs, rfl, V⟩
    replace V := V.alloc (.slice xs ys zs)
    have HV1 := Lib.hid V
    clear V K1 HV0 kba1 kbb1
    have K2 := Lib.hid (HV1.out.dvm 1 2 rfl rfl Hz.out)
    have kba2 := HV1.out.cell 1 rfl
    have kbb2 := HV1.out.cell 2 rfl
    go_wp2_with fail
    refine K2.out.mono ?_
    rintro ε w12 ⟨xq, yq, zq, xm, ym, zm, rfl, V⟩
    replace V := V.alloc (.slice xq yq zq)
    replace V := V.alloc (.slice xm ym zm)
    rw [World.size_alloc] at V
    have HV2 := Lib.hid V
    clear V K2 HV1 kba2 kbb2
    have K3 := Lib.hid (HV2.out.cmp 3 4 rfl rfl HC.out)
    have kba3 := HV2.out.cell 3 rfl
    have kbb3 := HV2.out.cell 4 rfl
    go_wp2_with fail
    refine K3.out.mono ?_
    rintro ε w13 ⟨rfl, V⟩
    have HV3 := Lib.hid V
    clear V K3 HV2 kba3 kbb3
    have K4 := Lib.hid (HV3.out.rcmp 0 1 rfl rfl HC.out)
    go_wp2_with fail
    refine K4.out.mono ?_
    rintro ε w14 ⟨rfl, V⟩
    have HV4 := Lib.hid V
    clear V K4 HV3 
    have K5 := Lib.hid (HV4.out.add 3 4 rfl rfl H1.out.s)
    have kba5 := HV4.out.cell 3 rfl
    have kbb5 := HV4.out.cell 4 rfl
    go_wp2_with fail
    refine K5.out.mono ?_
    rintro ε w15 ⟨xs1, ys1, zs1, rfl, V⟩
    have HV5 := Lib.hid V
    clear V K5 HV4 kba5 kbb5
    have K6 := Lib.hid (HV5.out.radd 0 1 rfl rfl H2.out.s)
    go_wp2_with fail
    refine K6.out.mono ?_
    rintro ε w16 ⟨xs2, ys2, zs2, rfl, V⟩
    have HV6 := Lib.hid V
    clear V K6 HV5 
    have K7 := Lib.hid (HV6.out.same 0 0 rfl rfl HT1.out)
    go_wp2_with fail
    refine K7.out.mono ?_
    rintro ε w17 ⟨rfl, V⟩
    have HV7 := Lib.hid V
    clear V K7 HV6 
    have K8 := Lib.hid (HV7.out.mul 4 5 rfl rfl H1.out.p)
    have kba8 := HV7.out.cell 3 rfl
    have kbb8 := HV7.out.cell 4 rfl
    go_wp2_with fail
    refine K8.out.mono ?_
    rintro ε w18 ⟨xp1, yp1, zp1, rfl, V⟩
    have HV8 := Lib.hid V
    clear V K8 HV7 kba8 kbb8
    have K9 := Lib.hid (HV8.out.rmul 1 2 rfl rfl H2.out.p)
    go_wp2_with fail
    refine K9.out.mono ?_
    rintro ε w19 ⟨xp2, yp2, zp2, rfl, V⟩
    have HV9 := Lib.hid V
    clear V K9 HV8 
    have K10 := Lib.hid (HV9.out.same 0 0 rfl rfl HT1.out)
    go_wp2_with fail
    refine K10.out.mono ?_
    rintro ε w20 ⟨rfl, V⟩
    have HV10 := Lib.hid V
    clear V K10 HV9 
    have K11 := Lib.hid (HV10.out.gcd 5 6 rfl rfl H3.out.1 H3.out.2 HTb1.out H1.out.g)
    have kba11 := HV10.out.cell 3 rfl
    have kbb11 := HV10.out.cell 4 rfl
    go_wp2_with fail
    refine K11.out.mono ?_
    rintro ε w21 ⟨xg, yg, zg, rfl, V⟩
    have HV11 := Lib.hid V
    clear V K11 HV10 kba11 kbb11
    have K12 := Lib.hid (HV11.out.rgcd 2 3 rfl rfl H2.out.g)
    go_wp2_with fail
    refine K12.out.mono ?_
    rintro ε w22 ⟨xg2, yg2, zg2, rfl, V⟩
    have HV12 := Lib.hid V
    clear V K12 HV11 
    have K13 := Lib.hid (HV12.out.same 0 0 rfl rfl HT1.out)
    go_wp2_with fail
    refine K13.out.mono ?_
    rintro ε w23 ⟨rfl, V⟩
    have HV13 := Lib.hid V
    clear V K13 HV12 
    have K14 := Lib.hid (HV13.out.rcmp 3 4 rfl rfl HC.out)
    go_wp2_with fail
    refine K14.out.mono ?_
    rintro ε w24 ⟨rfl, V⟩
    have HV14 := Lib.hid V
    clear V K14 HV13 
    have V := HV14.out.below (below_drew2 _)
    go_wp2_with fail
    refine wp_region_held_drew (S := (fun w' => w'.cell? ⟨w11.heap.size, 0, none⟩ = some (.slice xs ys zs))) (by kernel_rfl) ?_ (fun hHeld => ?_)
    · exact V.cell 2 rfl
    refine wpAnyH_take (i := 0) (oi := { dst := some 121, op := Op.move (Operand.tmp 13), type := 4, pos := "law.go:68", after := #[], guard := none }) (v := ?_) rfl (by kernel_rfl) (by kernel_rfl) (by kernel_rfl) (fun _ _ _ h => h) (Or.inl ⟨by rfl, ?_⟩) (by assumption) ?_
    rotate_left
    · intro w hSw; (try dsimp only at hSw); go_simp; (try with_reducible rfl)
    try simp only [Act.put, List.setIfInBounds_toArray, List.set_cons_zero, List.set_cons_succ]
    refine wpAnyH_take (i := 1) (oi := { dst := some 122, op := Op.move (Operand.tmp 121), type := 4, pos := "law.go:68", after := #[{ on := 0, ground := Ground.data }], guard := none }) (v := ?_) rfl (by kernel_rfl) (by kernel_rfl) (by kernel_rfl) (fun _ _ _ h => h) (Or.inl ⟨by rfl, ?_⟩) (by assumption) ?_
    rotate_left
    · intro w hSw; (try dsimp only at hSw); go_simp; (try with_reducible rfl)
    try simp only [Act.put, List.setIfInBounds_toArray, List.set_cons_zero, List.set_cons_succ]
    refine wpAnyH_take (i := 2) (oi := { dst := some 123, op := Op.load 30 (Operand.tmp 12), type := 30, pos := "law.go:68", after := #[{ on := 1, ground := Ground.guard }], guard := some (1, true) }) (v := ?_) rfl (by kernel_rfl) (by kernel_rfl) (by kernel_rfl) (fun _ _ _ h => h) (Or.inl ⟨by rfl, ?_⟩) (by assumption) ?_
    rotate_left
    · intro w hSw; (try dsimp only at hSw); go_simp; (try with_reducible rfl)
    try simp only [Act.put, List.setIfInBounds_toArray, List.set_cons_zero, List.set_cons_succ]
    refine wpAnyH_take (i := 3) (oi := { dst := some 124, op := Op.move (Operand.tmp 10), type := 32, pos := "law.go:68", after := #[{ on := 1, ground := Ground.guard }], guard := some (1, true) }) (v := ?_) rfl (by kernel_rfl) (by kernel_rfl) (by kernel_rfl) (fun _ _ _ h => h) (Or.inl ⟨by rfl, ?_⟩) (by assumption) ?_
    rotate_left
    · intro w hSw; (try dsimp only at hSw); go_simp; (try with_reducible rfl)
    try simp only [Act.put, List.setIfInBounds_toArray, List.set_cons_zero, List.set_cons_succ]
    refine wpAnyH_take (i := 4) (oi := { dst := some 125, op := Op.move (Operand.tmp 11), type := 32, pos := "law.go:68", after := #[{ on := 1, ground := Ground.guard }], guard := some (1, true) }) (v := ?_) rfl (by kernel_rfl) (by kernel_rfl) (by kernel_rfl) (fun _ _ _ h => h) (Or.inl ⟨by rfl, ?_⟩) (by assumption) ?_
    rotate_left
    · intro w hSw; (try dsimp only at hSw); go_simp; (try with_reducible rfl)
    try simp only [Act.put, List.setIfInBounds_toArray, List.set_cons_zero, List.set_cons_succ]
    refine wpAnyH_ready (rs := [5]) (by kernel_rfl) (by simp) ?_
    refine AllReadyH.cons (o := { dst := some 126, op := Op.call { callee := Callee.value (Operand.func 19), args := #[Operand.tmp 124, Operand.tmp 125], argTypes := #[32, 32] }, type := 32, pos := "law.go:68", after := #[{ on := 3, ground := Ground.data }, { on := 4, ground := Ground.data }, { on := 1, ground := Ground.chain }, { on := 1, ground := Ground.guard }], guard := some (1, true) }) rfl (fun K hK => ?_) AllReadyH.nil
    go_simp
    go_at_call 19; refine (V.rsub 3 4 rfl rfl Hge.out H2.out.d).mono ?_; rintro ε wr5 ⟨xr, yr, zr, rfl, V5⟩; clear V
    refine hK.out _ _ ?_ (fun hHeld => ?_)
    · first | exact V6.cell 2 rfl | exact V5.cell 2 rfl
    clear hK K
    try simp only [Act.put, List.setIfInBounds_toArray, List.set_cons_zero, List.set_cons_succ]
    refine wpAnyH_ready (rs := [6]) (by kernel_rfl) (by simp) ?_
    refine AllReadyH.cons (o := { dst := some 127, op := Op.call { callee := Callee.value (Operand.func 12), args := #[Operand.tmp 123, Operand.tmp 126], argTypes := #[30, 32] }, type := 4, pos := "law.go:68", after := #[{ on := 2, ground := Ground.data }, { on := 5, ground := Ground.data }, { on := 5, ground := Ground.chain }, { on := 1, ground := Ground.guard }], guard := some (1, true) }) rfl (fun K hK => ?_) AllReadyH.nil
    go_simp
    go_at_call 12; refine (V5.same 5 0 rfl rfl HT1.out).mono ?_; rintro ε wr6 ⟨rfl, V6⟩; clear V5
    refine hK.out _ _ ?_ (fun hHeld => ?_)
    · first | exact V6.cell 2 rfl | exact V5.cell 2 rfl
    clear hK K
    try simp only [Act.put, List.setIfInBounds_toArray, List.set_cons_zero, List.set_cons_succ]
    refine wpAnyH_take (i := 7) (oi := { dst := some 128, op := Op.unOp UnOp.not 4 (Operand.tmp 127), type := 4, pos := "law.go:68", after := #[{ on := 6, ground := Ground.data }, { on := 1, ground := Ground.guard }], guard := some (1, true) }) (v := ?_) rfl (by kernel_rfl) (by kernel_rfl) (by kernel_rfl) (fun _ _ _ h => h) (Or.inl ⟨by rfl, ?_⟩) (by assumption) ?_
    rotate_left
    · intro w hSw; (try dsimp only at hSw); go_simp; (try with_reducible rfl)
    try simp only [Act.put, List.setIfInBounds_toArray, List.set_cons_zero, List.set_cons_succ]
    refine wpAnyH_take (i := 8) (oi := { dst := some 129, op := Op.pick (Operand.tmp 122) (Operand.tmp 128) (Operand.const (Value.bool false)), type := 4, pos := "law.go:68", after := #[{ on := 1, ground := Ground.data }, { on := 7, ground := Ground.data }], guard := none }) (v := ?_) rfl (by kernel_rfl) (by kernel_rfl) (by kernel_rfl) (fun _ _ _ h => h) (Or.inl ⟨by rfl, ?_⟩) (by assumption) ?_
    rotate_left
    · intro w hSw; (try dsimp only at hSw); go_simp; (try with_reducible rfl)
    try simp only [Act.put, List.setIfInBounds_toArray, List.set_cons_zero, List.set_cons_succ]
    refine wpAnyH_take (i := 9) (oi := { dst := some 130, op := Op.move (Operand.tmp 129), type := 4, pos := "law.go:68", after := #[{ on := 8, ground := Ground.data }, { on := 6, ground := Ground.chain }], guard := none }) (v := ?_) rfl (by kernel_rfl) (by kernel_rfl) (by kernel_rfl) (fun _ _ _ h => h) (Or.inl ⟨by rfl, ?_⟩) (by assumption) ?_
    rotate_left
    · intro w hSw; (try dsimp only at hSw); go_simp; (try with_reducible rfl)
    try simp only [Act.put, List.setIfInBounds_toArray, List.set_cons_zero, List.set_cons_succ]
    refine wpAnyH_take (i := 10) (oi := { dst := some 131, op := Op.move (Operand.tmp 13), type := 4, pos := "law.go:68", after := #[{ on := 9, ground := Ground.guard }], guard := some (9, false) }) (v := ?_) rfl (by kernel_rfl) (by kernel_rfl) (by kernel_rfl) (fun _ _ _ h => h) (Or.inl ⟨by rfl, ?_⟩) (by assumption) ?_
    rotate_left
    · intro w hSw; (try dsimp only at hSw); go_simp; (try with_reducible rfl)
    try simp only [Act.put, List.setIfInBounds_toArray, List.set_cons_zero, List.set_cons_succ]
    refine wpAnyH_take (i := 11) (oi := { dst := some 132, op := Op.unOp UnOp.not 4 (Operand.tmp 131), type := 4, pos := "law.go:68", after := #[{ on := 10, ground := Ground.data }, { on := 9, ground := Ground.guard }], guard := some (9, false) }) (v := ?_) rfl (by kernel_rfl) (by kernel_rfl) (by kernel_rfl) (fun _ _ _ h => h) (Or.inl ⟨by rfl, ?_⟩) (by assumption) ?_
    rotate_left
    · intro w hSw; (try dsimp only at hSw); go_simp; (try with_reducible rfl)
    try simp only [Act.put, List.setIfInBounds_toArray, List.set_cons_zero, List.set_cons_succ]
    refine wpAnyH_take (i := 12) (oi := { dst := some 133, op := Op.move (Operand.tmp 132), type := 4, pos := "law.go:68", after := #[{ on := 11, ground := Ground.data }, { on := 9, ground := Ground.chain }, { on := 9, ground := Ground.guard }], guard := some (9, false) }) (v := ?_) rfl (by kernel_rfl) (by kernel_rfl) (by kernel_rfl) (fun _ _ _ h => h) (Or.inl ⟨by rfl, ?_⟩) (by assumption) ?_
    rotate_left
    · intro w hSw; (try dsimp only at hSw); go_simp; (try with_reducible rfl)
    try simp only [Act.put, List.setIfInBounds_toArray, List.set_cons_zero, List.set_cons_succ]
    refine wpAnyH_take (i := 13) (oi := { dst := some 134, op := Op.load 30 (Operand.tmp 12), type := 30, pos := "law.go:68", after := #[{ on := 12, ground := Ground.guard }], guard := some (12, true) }) (v := undef) rfl (by kernel_rfl) (by kernel_rfl) (by kernel_rfl) (fun _ _ _ h => h) (Or.inr ⟨by rfl, rfl⟩) (by assumption) ?_
    try simp only [Act.put, List.setIfInBounds_toArray, List.set_cons_zero, List.set_cons_succ]
    refine wpAnyH_take (i := 14) (oi := { dst := some 135, op := Op.call { callee := Callee.value (Operand.func 20), args := #[Operand.tmp 134], argTypes := #[30] }, type := 4, pos := "law.go:68", after := #[{ on := 13, ground := Ground.data }, { on := 12, ground := Ground.chain }, { on := 12, ground := Ground.guard }], guard := some (12, true) }) (v := undef) rfl (by kernel_rfl) (by kernel_rfl) (by kernel_rfl) (fun _ _ _ h => h) (Or.inr ⟨by rfl, rfl⟩) (by assumption) ?_
    try simp only [Act.put, List.setIfInBounds_toArray, List.set_cons_zero, List.set_cons_succ]
    refine wpAnyH_take (i := 15) (oi := { dst := some 136, op := Op.unOp UnOp.not 4 (Operand.tmp 135), type := 4, pos := "law.go:68", after := #[{ on := 14, ground := Ground.data }, { on := 12, ground := Ground.guard }], guard := some (12, true) }) (v := undef) rfl (by kernel_rfl) (by kernel_rfl) (by kernel_rfl) (fun _ _ _ h => h) (Or.inr ⟨by rfl, rfl⟩) (by assumption) ?_
    try simp only [Act.put, List.setIfInBounds_toArray, List.set_cons_zero, List.set_cons_succ]
    refine wpAnyH_take (i := 16) (oi := { dst := some 137, op := Op.pick (Operand.tmp 133) (Operand.tmp 136) (Operand.const (Value.bool false)), type := 4, pos := "law.go:68", after := #[{ on := 12, ground := Ground.data }, { on := 15, ground := Ground.data }, { on := 9, ground := Ground.guard }], guard := some (9, false) }) (v := ?_) rfl (by kernel_rfl) (by kernel_rfl) (by kernel_rfl) (fun _ _ _ h => h) (Or.inl ⟨by rfl, ?_⟩) (by assumption) ?_
    rotate_left
    · intro w hSw; (try dsimp only at hSw); go_simp; (try with_reducible rfl)
    try simp only [Act.put, List.setIfInBounds_toArray, List.set_cons_zero, List.set_cons_succ]
    refine wpAnyH_take (i := 17) (oi := { dst := some 138, op := Op.pick (Operand.tmp 130) (Operand.const (Value.bool true)) (Operand.tmp 137), type := 4, pos := "law.go:68", after := #[{ on := 9, ground := Ground.data }, { on := 16, ground := Ground.data }], guard := none }) (v := ?_) rfl (by kernel_rfl) (by kernel_rfl) (by kernel_rfl) (fun _ _ _ h => h) (Or.inl ⟨by rfl, ?_⟩) (by assumption) ?_
    rotate_left
    · intro w hSw; (try dsimp only at hSw); go_simp; (try with_reducible rfl)
    try simp only [Act.put, List.setIfInBounds_toArray, List.set_cons_zero, List.set_cons_succ]
    refine wpAnyH_done (by kernel_rfl) ?_ _
    have HV14_ := Lib.hid V6
    clear V6 HV14
    have HV14 := HV14_
    clear HV14_
    have K15 := Lib.hid (HV14.out.rdvm 4 5 rfl rfl Hz.out)
    go_wp2_with fail
    refine K15.out.mono ?_
    rintro ε w25 ⟨xu, yu, zu, xv, yv, zv, rfl, V⟩
    have HV15 := Lib.hid V
    clear V K15 HV14 
    have K16 := Lib.hid (HV15.out.same 4 1 rfl rfl HT1.out)
    have kbq16 := HV15.out.cell 1 rfl
    go_wp2_with fail
    refine K16.out.mono ?_
    rintro ε w26 ⟨rfl, V⟩
    have HV16 := Lib.hid V
    clear V K16 HV15 kbq16
    have K17 := Lib.hid (HV16.out.same 3 0 rfl rfl HT1.out)
    have kbm17 := HV16.out.cell 0 rfl
    go_wp2_with fail
    refine K17.out.mono ?_
    rintro ε w27 ⟨rfl, V⟩
    have HV17 := Lib.hid V
    clear V K17 HV16 kbm17
    have K18 := Lib.hid (HV17.out.small 6 rfl Hfit.out)
    have kba18 := HV17.out.cell 3 rfl
    go_wp2_with fail
    refine K18.out.mono ?_
    rintro ε w28 ⟨rfl, V⟩
    have HV18 := Lib.hid V
    clear V K18 HV17 kba18
    have K19 := Lib.hid (HV18.out.bits 6 rfl HLB.out)
    have kba19 := HV18.out.cell 3 rfl
    go_wp2_with fail
    refine K19.out.mono ?_
    rintro ε w29 ⟨rfl, V⟩
    have HV19 := Lib.hid V
    clear V K19 HV18 kba19
    have K20 := Lib.hid (HV19.out.rbits 6 rfl HLen.out HLB.out)
    go_wp2_with fail
    refine K20.out.mono ?_
    rintro ε w30 ⟨rfl, V⟩
    have HV20 := Lib.hid V
    clear V K20 HV19 
    have K21 := Lib.hid (HV20.out.digits 6 rfl HT1.out HND.out)
    have kba21 := HV20.out.cell 3 rfl
    go_wp2_with fail
    refine K21.out.mono ?_
    rintro ε w31 ⟨rfl, V⟩
    have HV21 := Lib.hid V
    clear V K21 HV20 kba21
    have K22 := Lib.hid (HV21.out.rtext 6 rfl HT.out)
    go_wp2_with fail
    refine K22.out.mono ?_
    rintro ε w32 ⟨rfl, V⟩
    have HV22 := Lib.hid V
    clear V K22 HV21 
    have K23 := Lib.hid (HV22.out.nz 6 rfl HzB.out)
    have kba23 := HV22.out.cell 3 rfl
    go_wp2_with fail
    refine K23.out.mono ?_
    rintro ε w33 ⟨rfl, V⟩
    have HV23 := Lib.hid V
    clear V K23 HV22 kba23
    have K24 := Lib.hid (HV23.out.rbits 6 rfl HLen.out HLB.out)
    go_wp2_with fail
    refine K24.out.mono ?_
    rintro ε w34 ⟨rfl, V⟩
    have HV24 := Lib.hid V
    clear V K24 HV23 
    have K25 := Lib.hid (HV24.out.of Hfit.out)
    go_wp2_with fail
    refine K25.out.mono ?_
    rintro ε w35 ⟨xo, yo, zo, rfl, V⟩
    have HV25 := Lib.hid V
    clear V K25 HV24 
    have K26 := Lib.hid (HV25.out.same 0 6 rfl rfl HT1.out)
    go_wp2_with fail
    refine K26.out.mono ?_
    rintro ε w36 ⟨rfl, V⟩
    have HV26 := Lib.hid V
    clear V K26 HV25 
    go_wp2_with fail
    go_ret
    exact ⟨rfl, HB1.out.trans (HV26.out.bel.mono HB1.out.size)⟩
set_option maxRecDepth 100000 in
set_option maxHeartbeats 8000000 in
theorem natTells.pgb (s t : ByteArray) (hs : s.size ≤ 250) (ht : t.size ≤ 250) (hz : 0 < nn t) (hge : nn t ≤ nn s) (hfit : 18446744073709551616 ≤ nn s) (w : World) (htab : Tab w) (htb : TabB w) :
    Calls Tryd.prog 3 #[.string s, .string t] w fun e w' => e = .returned (.bool true) ∧ Below w.heap.size w w' := by
  have HAl := Lib.hid (alive_any w htab)
  have HTab := Lib.hid htab
  have HTb := Lib.hid htb
  have H1 := Lib.hid (tb_all 18446744073709551616 16 100 (by omega) (nn_w (s := s) (k := 16) (by omega)) (nn_w (s := t) (k := 16) (by omega)) (by omega) (by omega))
  have H2 := Lib.hid (tb_all 10000 63 200 (by omega) (nn_lt (s := s) (k := 63) (by omega)) (nn_lt (s := t) (k := 63) (by omega)) (by omega) (by omega))
  have H3 := Lib.hid (And.intro (nn_w (s := s) (k := 26) (by omega)) (nn_w (s := t) (k := 26) (by omega)))
  have H4 := Lib.hid (And.intro (nn_w (s := s) (k := 100) (by omega)) (nn_w (s := t) (k := 100) (by omega)))
  have H5 := Lib.hid (And.intro (pow_up 63 200 (nn_lt (s := s) (k := 63) (by omega)) (by omega)) (pow_up 63 200 (nn_lt (s := t) (k := 63) (by omega)) (by omega)))
  have HLen := Lib.hid (lenN (nn_w (s := s) (k := 16) (by omega)))
  have HNats : Hid (∀ w1, Below w.heap.size w w1 → _) := Lib.hid (fun w1 h => nats_two s t w1 (by omega) (by omega) (htab.below h (Nat.le_refl _)))
  obtain ⟨A, hA⟩ : ∃ A, nn s = A := ⟨_, rfl⟩
  obtain ⟨B, hB⟩ : ∃ B, nn t = B := ⟨_, rfl⟩
  rw [hA] at HLen hge hfit
  rw [hB] at hge hz
  rw [hA, hB] at H1 H2 H3 H4 H5
  simp only [hA, hB] at HNats
  obtain ⟨sz, hsz⟩ : ∃ sz, s.size = sz := ⟨_, rfl⟩
  obtain ⟨tz, htz⟩ : ∃ tz, t.size = tz := ⟨_, rfl⟩
  have c1 : ¬ (250 : Int) < (sz : Int) := by omega
  have c2 : ¬ (250 : Int) < (tz : Int) := by omega
  have c1b : decide ((250 : Int) < (sz : Int)) = false := by simp; omega
  have c2b : decide ((250 : Int) < (tz : Int)) = false := by simp; omega
  have Hz := Lib.hid hz
  have Hge := Lib.hid hge
  have Hfit := Lib.hid hfit
  obtain ⟨C, hC⟩ : ∃ C, cmpI A B = C := ⟨_, rfl⟩
  have hC0 : 0 ≤ C := by rw [← hC]; unfold cmpI; rw [if_neg (by omega)]; split <;> omega
  have hC0b : decide (0 ≤ C) = true := by simp; omega
  have hCC : (C != C) = false := by simp
  have HC := Lib.hid hC
  obtain ⟨LB, hLB⟩ : ∃ LB : Int, ((hlv A).length : Int) = LB := ⟨_, rfl⟩
  have HLB := Lib.hid hLB
  have hLL : (LB == LB) = true := by simp
  have hL64 : ¬ LB ≤ 64 := by rw [← hLB]; have := len_big (isLen_hlv A) hfit; omega
  have hL64b : decide (LB ≤ 64) = false := by simp; omega
  obtain ⟨T, hT⟩ : ∃ T : ByteArray, (⟨(Lib.decDigits A).toArray⟩ : ByteArray) = T := ⟨_, rfl⟩
  have HT := Lib.hid hT
  obtain ⟨ND, hND⟩ : ∃ ND : Int, ((Lib.nDigits A : Nat) : Int) = ND := ⟨_, rfl⟩
  have hTs : (T.size : Int) = ND := by rw [← hT, ← hND, ← Lib.decDigits_length]; rfl
  have HND := Lib.hid hND
  have hNN : (ND == ND) = true := by simp
  obtain ⟨zB, hzB⟩ : ∃ zB, decide (A = 0) = zB := ⟨_, rfl⟩
  have HzB := Lib.hid hzB
  have hzz : (zB == zB) = true := by simp
  clear hs ht htab htb hA hB hge hfit hC hLB hT hND hzB hz
  go_enter Tryd.func3, Tryd.ntmps3
  go_wp2_with fail
  refine HAl.out.mono ?_
  rintro ε w1 ⟨rfl, hb1⟩
  have HN1 := Lib.hid (HNats.out w1 hb1)
  have HB1 := Lib.hid hb1
  have HT1 := Lib.hid (HTab.out.below hb1 (Nat.le_refl _))
  have HTb1 := Lib.hid (HTb.out.below hb1 (Nat.le_refl _))
  clear hb1 HAl HNats
  go_wp2_with fail
  refine HN1.out.mono ?_
  rintro ε w2 ⟨ga, ca, gb, cb, xa, ya, za, xb, yb, zb, xc, yc, zc, xd, yd, zd, rfl, q1, q2, q3, q4, hNa, hNb, hRa, hRb, hbel, hca2, hcb2⟩
  have hxn := rn_form hRa
  obtain ⟨_, _, _, he1, _, hx0⟩ := hxn
  injection he1 with ee1 ee2 ee3
  subst ee2
  clear ee1 ee3
  have hyn := rn_form hRb
  obtain ⟨_, _, _, he2, _, hy0⟩ := hyn
  injection he2 with ff1 ff2 ff3
  subst ff2
  clear ff1 ff3
  have hxz : (((yc : Nat) : Int) == 0) = zB := zlen hx0 HzB.out
  have hyl : (0 : Int) < (yd : Int) := pos_of hy0 Hz.out
  have hylN : 0 < yd := by omega
  have hylN2 : decide (0 < yd) = true := by simp; omega
  have hxzN : (yc == 0) = zB := zlenN hx0 HzB.out
  have V0 : Ax w1 [] [(.agg #[.slice xa ya za], A), (.agg #[.slice xb yb zb], B)] [(.slice xc yc zc, A), (.slice xd yd zd, B)] w2 := ⟨hbel, fun k b v e => by simp at e, fun k v N e => by
      rcases k with _ | _ | k
      · simp at e; obtain ⟨rfl, rfl⟩ := e; exact ⟨hNa, H4.out.1⟩
      · simp at e; obtain ⟨rfl, rfl⟩ := e; exact ⟨hNb, H4.out.2⟩
      · simp at e, fun k v N e => by
      rcases k with _ | _ | k
      · simp at e; obtain ⟨rfl, rfl⟩ := e; exact ⟨hRa, H5.out.1⟩
      · simp at e; obtain ⟨rfl, rfl⟩ := e; exact ⟨hRb, H5.out.2⟩
      · simp at e⟩
  have HV0_ := Lib.hid V0
  have r1 : w2.drew.cell? ⟨ga, 0, none⟩ = some (.slice xa ya za) := q1
  have r2 : w2.drew.cell? ⟨ga, 1, none⟩ = some (.slice xb yb zb) := q2
  have r3 : w2.drew.cell? ⟨gb, 0, none⟩ = some (.slice xc yc zc) := q3
  have r4 : w2.drew.cell? ⟨gb, 1, none⟩ = some (.slice xd yd zd) := q4
  have HS : Hid (∀ W, Below w2.heap.size w2 W → W.cell? ⟨ga, 0, none⟩ = some (.slice xa ya za) ∧ W.cell? ⟨ga, 1, none⟩ = some (.slice xb yb zb) ∧ W.cell? ⟨gb, 0, none⟩ = some (.slice xc yc zc) ∧ W.cell? ⟨gb, 1, none⟩ = some (.slice xd yd zd)) := Lib.hid (fun W h => ⟨(h.cell (p := ⟨ga, 0, none⟩) (World.block_lt_of_cell? w2 ⟨ga, 0, none⟩ q1)).trans q1, (h.cell (p := ⟨ga, 1, none⟩) (World.block_lt_of_cell? w2 ⟨ga, 1, none⟩ q2)).trans q2, (h.cell (p := ⟨gb, 0, none⟩) (World.block_lt_of_cell? w2 ⟨gb, 0, none⟩ q3)).trans q3, (h.cell (p := ⟨gb, 1, none⟩) (World.block_lt_of_cell? w2 ⟨gb, 1, none⟩ q4)).trans q4⟩)
  have hsz1 := hbel.size
  clear hNa hNb hRa hRb hbel q1 q2 q3 q4 V0 HN1 hx0 hy0
  go_upto_region 6 with fail
  go_cut [8, 9, 10, 11] from 44 to 56 (fun p8 p9 s10 s11 wx => ∃ (ba bb : Nat), p8 = .pointer (some ⟨ba, 0, none⟩) ∧ p9 = .pointer (some ⟨bb, 0, none⟩) ∧ s10 = .slice xc yc zc ∧ s11 = .slice xd yd zd ∧ Hid (Ax w1 [(ba, .slice xa ya za), (bb, .slice xb yb zb)] [(.agg #[.slice xa ya za], A), (.agg #[.slice xb yb zb], B)] [(.slice xc yc zc, A), (.slice xd yd zd, B)] wx))
  case first =>
    have hd2 := below_drew2 w2
    go_wp2_with fail
    refine wp_region_held_drew (S := (fun w' => w'.cell? ⟨ga, 0, none⟩ = some (.slice xa ya za) ∧ w'.cell? ⟨ga, 1, none⟩ = some (.slice xb yb zb) ∧ w'.cell? ⟨gb, 0, none⟩ = some (.slice xc yc zc) ∧ w'.cell? ⟨gb, 1, none⟩ = some (.slice xd yd zd))) (by kernel_rfl) ?_ (fun hHeld => ?_)
    · exact ⟨r1, r2, r3, r4⟩
    refine wpAnyH_take (i := 0) (oi := { dst := some 44, op := Op.move (Operand.tmp 5), type := 23, pos := "law.go:62", after := #[], guard := none }) (v := ?_) rfl (by kernel_rfl) (by kernel_rfl) (by kernel_rfl) (fun _ _ _ h => h) (Or.inl ⟨by rfl, ?_⟩) (by assumption) ?_
    rotate_left
    · intro w hSw; (try dsimp only at hSw); go_simp; (try with_reducible rfl)
    try simp only [Act.put, List.setIfInBounds_toArray, List.set_cons_zero, List.set_cons_succ]
    refine wpAnyH_take (i := 1) (oi := { dst := some 45, op := Op.indexAddr 23 (Operand.tmp 44) (Operand.const (Value.int IntKind.i64 0)), type := 0, pos := "law.go:62", after := #[{ on := 0, ground := Ground.data }], guard := none }) (v := ?_) rfl (by kernel_rfl) (by kernel_rfl) (by kernel_rfl) (fun _ _ _ h => h) (Or.inl ⟨by rfl, ?_⟩) (by assumption) ?_
    rotate_left
    · intro w hSw; (try dsimp only at hSw); go_simp; (try with_reducible rfl)
    try simp only [Act.put, List.setIfInBounds_toArray, List.set_cons_zero, List.set_cons_succ]
    refine wpAnyH_take (i := 2) (oi := { dst := some 46, op := Op.load 30 (Operand.tmp 45), type := 30, pos := "law.go:62", after := #[{ on := 1, ground := Ground.data }], guard := none }) (v := ?_) rfl (by kernel_rfl) (by kernel_rfl) (by kernel_rfl) (fun _ _ _ h => h) (Or.inl ⟨by rfl, ?_⟩) (by assumption) ?_
    rotate_left
    · intro w hSw; (try dsimp only at hSw); go_simp; (try with_reducible rfl)
    try simp only [Act.put, List.setIfInBounds_toArray, List.set_cons_zero, List.set_cons_succ]
    refine wpAnyH_take (i := 3) (oi := { dst := some 47, op := Op.move (Operand.tmp 5), type := 23, pos := "law.go:62", after := #[{ on := 14, ground := Ground.gcOnly Departure.lateStores }], guard := none }) (v := ?_) rfl (by kernel_rfl) (by kernel_rfl) (by kernel_rfl) (fun _ _ _ h => h) (Or.inl ⟨by rfl, ?_⟩) (by assumption) ?_
    rotate_left
    · intro w hSw; (try dsimp only at hSw); go_simp; (try with_reducible rfl)
    try simp only [Act.put, List.setIfInBounds_toArray, List.set_cons_zero, List.set_cons_succ]
    refine wpAnyH_take (i := 4) (oi := { dst := some 48, op := Op.indexAddr 23 (Operand.tmp 47) (Operand.const (Value.int IntKind.i64 1)), type := 0, pos := "law.go:62", after := #[{ on := 3, ground := Ground.data }, { on := 14, ground := Ground.gcOnly Departure.lateStores }], guard := none }) (v := ?_) rfl (by kernel_rfl) (by kernel_rfl) (by kernel_rfl) (fun _ _ _ h => h) (Or.inl ⟨by rfl, ?_⟩) (by assumption) ?_
    rotate_left
    · intro w hSw; (try dsimp only at hSw); go_simp; (try with_reducible rfl)
    try simp only [Act.put, List.setIfInBounds_toArray, List.set_cons_zero, List.set_cons_succ]
    refine wpAnyH_take (i := 5) (oi := { dst := some 49, op := Op.load 30 (Operand.tmp 48), type := 30, pos := "law.go:62", after := #[{ on := 4, ground := Ground.data }, { on := 14, ground := Ground.gcOnly Departure.lateStores }], guard := none }) (v := ?_) rfl (by kernel_rfl) (by kernel_rfl) (by kernel_rfl) (fun _ _ _ h => h) (Or.inl ⟨by rfl, ?_⟩) (by assumption) ?_
    rotate_left
    · intro w hSw; (try dsimp only at hSw); go_simp; (try with_reducible rfl)
    try simp only [Act.put, List.setIfInBounds_toArray, List.set_cons_zero, List.set_cons_succ]
    refine wpAnyH_take (i := 6) (oi := { dst := some 50, op := Op.move (Operand.tmp 6), type := 24, pos := "law.go:62", after := #[{ on := 15, ground := Ground.gcOnly Departure.lateStores }], guard := none }) (v := ?_) rfl (by kernel_rfl) (by kernel_rfl) (by kernel_rfl) (fun _ _ _ h => h) (Or.inl ⟨by rfl, ?_⟩) (by assumption) ?_
    rotate_left
    · intro w hSw; (try dsimp only at hSw); go_simp; (try with_reducible rfl)
    try simp only [Act.put, List.setIfInBounds_toArray, List.set_cons_zero, List.set_cons_succ]
    refine wpAnyH_take (i := 7) (oi := { dst := some 51, op := Op.indexAddr 24 (Operand.tmp 50) (Operand.const (Value.int IntKind.i64 0)), type := 0, pos := "law.go:62", after := #[{ on := 6, ground := Ground.data }, { on := 15, ground := Ground.gcOnly Departure.lateStores }], guard := none }) (v := ?_) rfl (by kernel_rfl) (by kernel_rfl) (by kernel_rfl) (fun _ _ _ h => h) (Or.inl ⟨by rfl, ?_⟩) (by assumption) ?_
    rotate_left
    · intro w hSw; (try dsimp only at hSw); go_simp; (try with_reducible rfl)
    try simp only [Act.put, List.setIfInBounds_toArray, List.set_cons_zero, List.set_cons_succ]
    refine wpAnyH_take (i := 8) (oi := { dst := some 52, op := Op.load 32 (Operand.tmp 51), type := 32, pos := "law.go:62", after := #[{ on := 7, ground := Ground.data }, { on := 15, ground := Ground.gcOnly Departure.lateStores }], guard := none }) (v := ?_) rfl (by kernel_rfl) (by kernel_rfl) (by kernel_rfl) (fun _ _ _ h => h) (Or.inl ⟨by rfl, ?_⟩) (by assumption) ?_
    rotate_left
    · intro w hSw; (try dsimp only at hSw); go_simp; (try with_reducible rfl)
    try simp only [Act.put, List.setIfInBounds_toArray, List.set_cons_zero, List.set_cons_succ]
    refine wpAnyH_take (i := 9) (oi := { dst := some 53, op := Op.move (Operand.tmp 6), type := 24, pos := "law.go:62", after := #[{ on := 16, ground := Ground.gcOnly Departure.lateStores }], guard := none }) (v := ?_) rfl (by kernel_rfl) (by kernel_rfl) (by kernel_rfl) (fun _ _ _ h => h) (Or.inl ⟨by rfl, ?_⟩) (by assumption) ?_
    rotate_left
    · intro w hSw; (try dsimp only at hSw); go_simp; (try with_reducible rfl)
    try simp only [Act.put, List.setIfInBounds_toArray, List.set_cons_zero, List.set_cons_succ]
    refine wpAnyH_take (i := 10) (oi := { dst := some 54, op := Op.indexAddr 24 (Operand.tmp 53) (Operand.const (Value.int IntKind.i64 1)), type := 0, pos := "law.go:62", after := #[{ on := 9, ground := Ground.data }, { on := 16, ground := Ground.gcOnly Departure.lateStores }], guard := none }) (v := ?_) rfl (by kernel_rfl) (by kernel_rfl) (by kernel_rfl) (fun _ _ _ h => h) (Or.inl ⟨by rfl, ?_⟩) (by assumption) ?_
    rotate_left
    · intro w hSw; (try dsimp only at hSw); go_simp; (try with_reducible rfl)
    try simp only [Act.put, List.setIfInBounds_toArray, List.set_cons_zero, List.set_cons_succ]
    refine wpAnyH_take (i := 11) (oi := { dst := some 55, op := Op.load 32 (Operand.tmp 54), type := 32, pos := "law.go:62", after := #[{ on := 10, ground := Ground.data }, { on := 16, ground := Ground.gcOnly Departure.lateStores }], guard := none }) (v := ?_) rfl (by kernel_rfl) (by kernel_rfl) (by kernel_rfl) (fun _ _ _ h => h) (Or.inl ⟨by rfl, ?_⟩) (by assumption) ?_
    rotate_left
    · intro w hSw; (try dsimp only at hSw); go_simp; (try with_reducible rfl)
    try simp only [Act.put, List.setIfInBounds_toArray, List.set_cons_zero, List.set_cons_succ]
    refine wpAnyH_ready (rs := [12, 13]) (by kernel_rfl) (by simp) ?_
    refine (AllReadyH.cons (o := { dst := some 8, op := Op.alloc 30, type := 0, pos := "law.go:62", after := #[], guard := none }) rfl (fun K hK => ?_) (AllReadyH.cons (o := { dst := some 9, op := Op.alloc 30, type := 0, pos := "law.go:62", after := #[], guard := none }) rfl (fun K hK => ?_) AllReadyH.nil))
    · have R1 := HV0_.out.alloc (.slice none 0 0)
      have T1 := hd2.alloc hd2.size (.cells #[.slice none 0 0] 30)
      go_wp2_with fail
      refine hK.out _ _ ?_ (fun hHeld => ?_)
      · exact HS.out _ T1
      clear hK K
      try simp only [Act.put, List.setIfInBounds_toArray, List.set_cons_zero, List.set_cons_succ]
      refine wpAnyH_ready (rs := [13]) (by kernel_rfl) (by simp) ?_
      refine (AllReadyH.cons (o := { dst := some 9, op := Op.alloc 30, type := 0, pos := "law.go:62", after := #[], guard := none }) rfl (fun K hK => ?_) AllReadyH.nil)
      have R2 := (R1.alloc (.slice none 0 0)).below (below_drew2 _)
      rw [World.size_alloc] at R2
      have T2 := T1.alloc T1.size (.cells #[.slice none 0 0] 30)
      go_wp2_with fail
      refine hK.out _ _ ?_ (fun hHeld => ?_)
      · exact HS.out _ T2
      clear hK K
      try simp only [Act.put, List.setIfInBounds_toArray, List.set_cons_zero, List.set_cons_succ]
      refine wpAnyH_ready (rs := [14]) (by kernel_rfl) (by simp) ?_
      refine (AllReadyH.cons (o := { dst := none, op := Op.store 30 (Operand.tmp 8) (Operand.tmp 46), type := 0, pos := "law.go:62", after := #[{ on := 12, ground := Ground.data }, { on := 2, ground := Ground.data }, { on := 0, ground := Ground.phase }, { on := 1, ground := Ground.phase }, { on := 2, ground := Ground.phase }, { on := 3, ground := Ground.textOnly Departure.lateStores }, { on := 4, ground := Ground.textOnly Departure.lateStores }, { on := 5, ground := Ground.textOnly Departure.lateStores }, { on := 6, ground := Ground.textOnly Departure.lateStores }, { on := 7, ground := Ground.textOnly Departure.lateStores }, { on := 8, ground := Ground.textOnly Departure.lateStores }, { on := 9, ground := Ground.textOnly Departure.lateStores }, { on := 10, ground := Ground.textOnly Departure.lateStores }, { on := 11, ground := Ground.textOnly Departure.lateStores }, { on := 12, ground := Ground.phase }, { on := 13, ground := Ground.phase }], guard := none }) rfl (fun K hK => ?_) AllReadyH.nil)
      have R3 := R2.swap.set2 (by omega) (by omega) (.slice xa ya za)
      have T3 := T2.setCell (p := ⟨w2.heap.size, 0, none⟩) (by simp) (.slice xa ya za)
      have B3 := R2.swap.box 0 _ _ rfl
      refine if_wanted rfl ?_
      refine wp_store_box (Operand.tmp 8) (Operand.tmp 46) rfl rfl _ (.slice none 0 0) rfl rfl B3 ?_
      refine hK.out _ _ ?_ (fun hHeld => ?_)
      · exact HS.out _ T3
      clear hK K
      try simp only [Act.put, List.setIfInBounds_toArray, List.set_cons_zero, List.set_cons_succ]
      refine wpAnyH_ready (rs := [15]) (by kernel_rfl) (by simp) ?_
      refine (AllReadyH.cons (o := { dst := none, op := Op.store 30 (Operand.tmp 9) (Operand.tmp 49), type := 0, pos := "law.go:62", after := #[{ on := 13, ground := Ground.data }, { on := 5, ground := Ground.data }, { on := 14, ground := Ground.chain }, { on := 0, ground := Ground.phase }, { on := 1, ground := Ground.phase }, { on := 2, ground := Ground.phase }, { on := 3, ground := Ground.phase }, { on := 4, ground := Ground.phase }, { on := 5, ground := Ground.phase }, { on := 6, ground := Ground.textOnly Departure.lateStores }, { on := 7, ground := Ground.textOnly Departure.lateStores }, { on := 8, ground := Ground.textOnly Departure.lateStores }, { on := 9, ground := Ground.textOnly Departure.lateStores }, { on := 10, ground := Ground.textOnly Departure.lateStores }, { on := 11, ground := Ground.textOnly Departure.lateStores }, { on := 12, ground := Ground.phase }, { on := 13, ground := Ground.phase }, { on := 14, ground := Ground.phase }], guard := none }) rfl (fun K hK => ?_) AllReadyH.nil)
      have R4 := R3.swap.set2 (by omega) (by omega) (.slice xb yb zb)
      have T4 := T3.setCell (p := ⟨w2.heap.size + 1, 0, none⟩) (by simp) (.slice xb yb zb)
      have B4 := R3.swap.box 0 _ _ rfl
      refine if_wanted rfl ?_
      refine wp_store_box (Operand.tmp 9) (Operand.tmp 49) rfl rfl _ (.slice none 0 0) rfl rfl B4 ?_
      refine hK.out _ _ ?_ (fun hHeld => ?_)
      · exact HS.out _ T4
      clear hK K
      try simp only [Act.put, List.setIfInBounds_toArray, List.set_cons_zero, List.set_cons_succ]
      refine wpAnyH_take (i := 16) (oi := { dst := some 10, op := Op.assign (Operand.tmp 52), type := 32, pos := "law.go:62", after := #[{ on := 8, ground := Ground.data }, { on := 15, ground := Ground.chain }, { on := 0, ground := Ground.phase }, { on := 1, ground := Ground.phase }, { on := 2, ground := Ground.phase }, { on := 3, ground := Ground.phase }, { on := 4, ground := Ground.phase }, { on := 5, ground := Ground.phase }, { on := 6, ground := Ground.phase }, { on := 7, ground := Ground.phase }, { on := 8, ground := Ground.phase }, { on := 9, ground := Ground.textOnly Departure.lateStores }, { on := 10, ground := Ground.textOnly Departure.lateStores }, { on := 11, ground := Ground.textOnly Departure.lateStores }, { on := 12, ground := Ground.phase }, { on := 13, ground := Ground.phase }, { on := 14, ground := Ground.phase }, { on := 15, ground := Ground.phase }], guard := none }) (v := ?_) rfl (by kernel_rfl) (by kernel_rfl) (by kernel_rfl) (fun _ _ _ h => h) (Or.inl ⟨by rfl, ?_⟩) (by assumption) ?_
      rotate_left
      · intro w hSw; (try dsimp only at hSw); go_simp; (try with_reducible rfl)
      try simp only [Act.put, List.setIfInBounds_toArray, List.set_cons_zero, List.set_cons_succ]
      refine wpAnyH_take (i := 17) (oi := { dst := some 11, op := Op.assign (Operand.tmp 55), type := 32, pos := "law.go:62", after := #[{ on := 11, ground := Ground.data }, { on := 16, ground := Ground.chain }, { on := 0, ground := Ground.phase }, { on := 1, ground := Ground.phase }, { on := 2, ground := Ground.phase }, { on := 3, ground := Ground.phase }, { on := 4, ground := Ground.phase }, { on := 5, ground := Ground.phase }, { on := 6, ground := Ground.phase }, { on := 7, ground := Ground.phase }, { on := 8, ground := Ground.phase }, { on := 9, ground := Ground.phase }, { on := 10, ground := Ground.phase }, { on := 11, ground := Ground.phase }, { on := 12, ground := Ground.phase }, { on := 13, ground := Ground.phase }, { on := 14, ground := Ground.phase }, { on := 15, ground := Ground.phase }, { on := 16, ground := Ground.phase }], guard := none }) (v := ?_) rfl (by kernel_rfl) (by kernel_rfl) (by kernel_rfl) (fun _ _ _ h => h) (Or.inl ⟨by rfl, ?_⟩) (by assumption) ?_
      rotate_left
      · intro w hSw; (try dsimp only at hSw); go_simp; (try with_reducible rfl)
      try simp only [Act.put, List.setIfInBounds_toArray, List.set_cons_zero, List.set_cons_succ]
      refine wpAnyH_done (by kernel_rfl) ?_ _
      have HR := Lib.hid R4.swap
      clear R1 R2 R3 R4 T1 T2 T3 T4 HS
      go_wp2_with fail
      go_meet
      case rel => exact ⟨_, _, rfl, rfl, rfl, rfl, HR⟩
    · have R1 := HV0_.out.alloc (.slice none 0 0)
      have T1 := hd2.alloc hd2.size (.cells #[.slice none 0 0] 30)
      go_wp2_with fail
      refine hK.out _ _ ?_ (fun hHeld => ?_)
      · exact HS.out _ T1
      clear hK K
      try simp only [Act.put, List.setIfInBounds_toArray, List.set_cons_zero, List.set_cons_succ]
      refine wpAnyH_ready (rs := [12]) (by kernel_rfl) (by simp) ?_
      refine (AllReadyH.cons (o := { dst := some 8, op := Op.alloc 30, type := 0, pos := "law.go:62", after := #[], guard := none }) rfl (fun K hK => ?_) AllReadyH.nil)
      have R2 := (R1.alloc (.slice none 0 0)).below (below_drew2 _)
      rw [World.size_alloc] at R2
      have T2 := T1.alloc T1.size (.cells #[.slice none 0 0] 30)
      go_wp2_with fail
      refine hK.out _ _ ?_ (fun hHeld => ?_)
      · exact HS.out _ T2
      clear hK K
      try simp only [Act.put, List.setIfInBounds_toArray, List.set_cons_zero, List.set_cons_succ]
      refine wpAnyH_ready (rs := [14]) (by kernel_rfl) (by simp) ?_
      refine (AllReadyH.cons (o := { dst := none, op := Op.store 30 (Operand.tmp 8) (Operand.tmp 46), type := 0, pos := "law.go:62", after := #[{ on := 12, ground := Ground.data }, { on := 2, ground := Ground.data }, { on := 0, ground := Ground.phase }, { on := 1, ground := Ground.phase }, { on := 2, ground := Ground.phase }, { on := 3, ground := Ground.textOnly Departure.lateStores }, { on := 4, ground := Ground.textOnly Departure.lateStores }, { on := 5, ground := Ground.textOnly Departure.lateStores }, { on := 6, ground := Ground.textOnly Departure.lateStores }, { on := 7, ground := Ground.textOnly Departure.lateStores }, { on := 8, ground := Ground.textOnly Departure.lateStores }, { on := 9, ground := Ground.textOnly Departure.lateStores }, { on := 10, ground := Ground.textOnly Departure.lateStores }, { on := 11, ground := Ground.textOnly Departure.lateStores }, { on := 12, ground := Ground.phase }, { on := 13, ground := Ground.phase }], guard := none }) rfl (fun K hK => ?_) AllReadyH.nil)
      have R3 := R2.set2 (by omega) (by omega) (.slice xa ya za)
      have T3 := T2.setCell (p := ⟨w2.heap.size + 1, 0, none⟩) (by simp) (.slice xa ya za)
      have B3 := R2.box 0 _ _ rfl
      refine if_wanted rfl ?_
      refine wp_store_box (Operand.tmp 8) (Operand.tmp 46) rfl rfl _ (.slice none 0 0) rfl rfl B3 ?_
      refine hK.out _ _ ?_ (fun hHeld => ?_)
      · exact HS.out _ T3
      clear hK K
      try simp only [Act.put, List.setIfInBounds_toArray, List.set_cons_zero, List.set_cons_succ]
      refine wpAnyH_ready (rs := [15]) (by kernel_rfl) (by simp) ?_
      refine (AllReadyH.cons (o := { dst := none, op := Op.store 30 (Operand.tmp 9) (Operand.tmp 49), type := 0, pos := "law.go:62", after := #[{ on := 13, ground := Ground.data }, { on := 5, ground := Ground.data }, { on := 14, ground := Ground.chain }, { on := 0, ground := Ground.phase }, { on := 1, ground := Ground.phase }, { on := 2, ground := Ground.phase }, { on := 3, ground := Ground.phase }, { on := 4, ground := Ground.phase }, { on := 5, ground := Ground.phase }, { on := 6, ground := Ground.textOnly Departure.lateStores }, { on := 7, ground := Ground.textOnly Departure.lateStores }, { on := 8, ground := Ground.textOnly Departure.lateStores }, { on := 9, ground := Ground.textOnly Departure.lateStores }, { on := 10, ground := Ground.textOnly Departure.lateStores }, { on := 11, ground := Ground.textOnly Departure.lateStores }, { on := 12, ground := Ground.phase }, { on := 13, ground := Ground.phase }, { on := 14, ground := Ground.phase }], guard := none }) rfl (fun K hK => ?_) AllReadyH.nil)
      have R4 := R3.swap.set2 (by omega) (by omega) (.slice xb yb zb)
      have T4 := T3.setCell (p := ⟨w2.heap.size, 0, none⟩) (by simp) (.slice xb yb zb)
      have B4 := R3.swap.box 0 _ _ rfl
      refine if_wanted rfl ?_
      refine wp_store_box (Operand.tmp 9) (Operand.tmp 49) rfl rfl _ (.slice none 0 0) rfl rfl B4 ?_
      refine hK.out _ _ ?_ (fun hHeld => ?_)
      · exact HS.out _ T4
      clear hK K
      try simp only [Act.put, List.setIfInBounds_toArray, List.set_cons_zero, List.set_cons_succ]
      refine wpAnyH_take (i := 16) (oi := { dst := some 10, op := Op.assign (Operand.tmp 52), type := 32, pos := "law.go:62", after := #[{ on := 8, ground := Ground.data }, { on := 15, ground := Ground.chain }, { on := 0, ground := Ground.phase }, { on := 1, ground := Ground.phase }, { on := 2, ground := Ground.phase }, { on := 3, ground := Ground.phase }, { on := 4, ground := Ground.phase }, { on := 5, ground := Ground.phase }, { on := 6, ground := Ground.phase }, { on := 7, ground := Ground.phase }, { on := 8, ground := Ground.phase }, { on := 9, ground := Ground.textOnly Departure.lateStores }, { on := 10, ground := Ground.textOnly Departure.lateStores }, { on := 11, ground := Ground.textOnly Departure.lateStores }, { on := 12, ground := Ground.phase }, { on := 13, ground := Ground.phase }, { on := 14, ground := Ground.phase }, { on := 15, ground := Ground.phase }], guard := none }) (v := ?_) rfl (by kernel_rfl) (by kernel_rfl) (by kernel_rfl) (fun _ _ _ h => h) (Or.inl ⟨by rfl, ?_⟩) (by assumption) ?_
      rotate_left
      · intro w hSw; (try dsimp only at hSw); go_simp; (try with_reducible rfl)
      try simp only [Act.put, List.setIfInBounds_toArray, List.set_cons_zero, List.set_cons_succ]
      refine wpAnyH_take (i := 17) (oi := { dst := some 11, op := Op.assign (Operand.tmp 55), type := 32, pos := "law.go:62", after := #[{ on := 11, ground := Ground.data }, { on := 16, ground := Ground.chain }, { on := 0, ground := Ground.phase }, { on := 1, ground := Ground.phase }, { on := 2, ground := Ground.phase }, { on := 3, ground := Ground.phase }, { on := 4, ground := Ground.phase }, { on := 5, ground := Ground.phase }, { on := 6, ground := Ground.phase }, { on := 7, ground := Ground.phase }, { on := 8, ground := Ground.phase }, { on := 9, ground := Ground.phase }, { on := 10, ground := Ground.phase }, { on := 11, ground := Ground.phase }, { on := 12, ground := Ground.phase }, { on := 13, ground := Ground.phase }, { on := 14, ground := Ground.phase }, { on := 15, ground := Ground.phase }, { on := 16, ground := Ground.phase }], guard := none }) (v := ?_) rfl (by kernel_rfl) (by kernel_rfl) (by kernel_rfl) (fun _ _ _ h => h) (Or.inl ⟨by rfl, ?_⟩) (by assumption) ?_
      rotate_left
      · intro w hSw; (try dsimp only at hSw); go_simp; (try with_reducible rfl)
      try simp only [Act.put, List.setIfInBounds_toArray, List.set_cons_zero, List.set_cons_succ]
      refine wpAnyH_done (by kernel_rfl) ?_ _
      have HR := Lib.hid R4.swap
      clear R1 R2 R3 R4 T1 T2 T3 T4 HS
      go_wp2_with fail
      go_meet
      case rel => exact ⟨_, _, rfl, rfl, rfl, rfl, HR⟩
  case rest =>
    obtain ⟨ba, bb, rfl, rfl, rfl, rfl, HV0⟩ := hcut
    clear HV0_ HS r1 r2 r3 r4
    have K1 := Lib.hid (HV0.out.sub 0 1 rfl rfl Hge.out H1.out.d)
    have kba1 := HV0.out.cell 0 rfl
    have kbb1 := HV0.out.cell 1 rfl
    go_wp2_with fail
    refine K1.out.mono ?_
    rintro ε w11 ⟨xs, ys, zs, rfl, V⟩
    replace V := V.alloc (.slice xs ys zs)
    have HV1 := Lib.hid V
    clear V K1 HV0 kba1 kbb1
    have K2 := Lib.hid (HV1.out.dvm 1 2 rfl rfl Hz.out)
    have kba2 := HV1.out.cell 1 rfl
    have kbb2 := HV1.out.cell 2 rfl
    go_wp2_with fail
    refine K2.out.mono ?_
    rintro ε w12 ⟨xq, yq, zq, xm, ym, zm, rfl, V⟩
    replace V := V.alloc (.slice xq yq zq)
    replace V := V.alloc (.slice xm ym zm)
    rw [World.size_alloc] at V
    have HV2 := Lib.hid V
    clear V K2 HV1 kba2 kbb2
    have K3 := Lib.hid (HV2.out.cmp 3 4 rfl rfl HC.out)
    have kba3 := HV2.out.cell 3 rfl
    have kbb3 := HV2.out.cell 4 rfl
    go_wp2_with fail
    refine K3.out.mono ?_
    rintro ε w13 ⟨rfl, V⟩
    have HV3 := Lib.hid V
    clear V K3 HV2 kba3 kbb3
    have K4 := Lib.hid (HV3.out.rcmp 0 1 rfl rfl HC.out)
    go_wp2_with fail
    refine K4.out.mono ?_
    rintro ε w14 ⟨rfl, V⟩
    have HV4 := Lib.hid V
    clear V K4 HV3 
    have K5 := Lib.hid (HV4.out.add 3 4 rfl rfl H1.out.s)
    have kba5 := HV4.out.cell 3 rfl
    have kbb5 := HV4.out.cell 4 rfl
    go_wp2_with fail
    refine K5.out.mono ?_
    rintro ε w15 ⟨xs1, ys1, zs1, rfl, V⟩
    have HV5 := Lib.hid V
    clear V K5 HV4 kba5 kbb5
    have K6 := Lib.hid (HV5.out.radd 0 1 rfl rfl H2.out.s)
    go_wp2_with fail
    refine K6.out.mono ?_
    rintro ε w16 ⟨xs2, ys2, zs2, rfl, V⟩
    have HV6 := Lib.hid V
    clear V K6 HV5 
    have K7 := Lib.hid (HV6.out.same 0 0 rfl rfl HT1.out)
    go_wp2_with fail
    refine K7.out.mono ?_
    rintro ε w17 ⟨rfl, V⟩
    have HV7 := Lib.hid V
    clear V K7 HV6 
    have K8 := Lib.hid (HV7.out.mul 4 5 rfl rfl H1.out.p)
    have kba8 := HV7.out.cell 3 rfl
    have kbb8 := HV7.out.cell 4 rfl
    go_wp2_with fail
    refine K8.out.mono ?_
    rintro ε w18 ⟨xp1, yp1, zp1, rfl, V⟩
    have HV8 := Lib.hid V
    clear V K8 HV7 kba8 kbb8
    have K9 := Lib.hid (HV8.out.rmul 1 2 rfl rfl H2.out.p)
    go_wp2_with fail
    refine K9.out.mono ?_
    rintro ε w19 ⟨xp2, yp2, zp2, rfl, V⟩
    have HV9 := Lib.hid V
    clear V K9 HV8 
    have K10 := Lib.hid (HV9.out.same 0 0 rfl rfl HT1.out)
    go_wp2_with fail
    refine K10.out.mono ?_
    rintro ε w20 ⟨rfl, V⟩
    have HV10 := Lib.hid V
    clear V K10 HV9 
    have K11 := Lib.hid (HV10.out.gcd 5 6 rfl rfl H3.out.1 H3.out.2 HTb1.out H1.out.g)
    have kba11 := HV10.out.cell 3 rfl
    have kbb11 := HV10.out.cell 4 rfl
    go_wp2_with fail
    refine K11.out.mono ?_
    rintro ε w21 ⟨xg, yg, zg, rfl, V⟩
    have HV11 := Lib.hid V
    clear V K11 HV10 kba11 kbb11
    have K12 := Lib.hid (HV11.out.rgcd 2 3 rfl rfl H2.out.g)
    go_wp2_with fail
    refine K12.out.mono ?_
    rintro ε w22 ⟨xg2, yg2, zg2, rfl, V⟩
    have HV12 := Lib.hid V
    clear V K12 HV11 
    have K13 := Lib.hid (HV12.out.same 0 0 rfl rfl HT1.out)
    go_wp2_with fail
    refine K13.out.mono ?_
    rintro ε w23 ⟨rfl, V⟩
    have HV13 := Lib.hid V
    clear V K13 HV12 
    have K14 := Lib.hid (HV13.out.rcmp 3 4 rfl rfl HC.out)
    go_wp2_with fail
    refine K14.out.mono ?_
    rintro ε w24 ⟨rfl, V⟩
    have HV14 := Lib.hid V
    clear V K14 HV13 
    have V := HV14.out.below (below_drew2 _)
    go_wp2_with fail
    refine wp_region_held_drew (S := (fun w' => w'.cell? ⟨w11.heap.size, 0, none⟩ = some (.slice xs ys zs))) (by kernel_rfl) ?_ (fun hHeld => ?_)
    · exact V.cell 2 rfl
    refine wpAnyH_take (i := 0) (oi := { dst := some 121, op := Op.move (Operand.tmp 13), type := 4, pos := "law.go:68", after := #[], guard := none }) (v := ?_) rfl (by kernel_rfl) (by kernel_rfl) (by kernel_rfl) (fun _ _ _ h => h) (Or.inl ⟨by rfl, ?_⟩) (by assumption) ?_
    rotate_left
    · intro w hSw; (try dsimp only at hSw); go_simp; (try with_reducible rfl)
    try simp only [Act.put, List.setIfInBounds_toArray, List.set_cons_zero, List.set_cons_succ]
    refine wpAnyH_take (i := 1) (oi := { dst := some 122, op := Op.move (Operand.tmp 121), type := 4, pos := "law.go:68", after := #[{ on := 0, ground := Ground.data }], guard := none }) (v := ?_) rfl (by kernel_rfl) (by kernel_rfl) (by kernel_rfl) (fun _ _ _ h => h) (Or.inl ⟨by rfl, ?_⟩) (by assumption) ?_
    rotate_left
    · intro w hSw; (try dsimp only at hSw); go_simp; (try with_reducible rfl)
    try simp only [Act.put, List.setIfInBounds_toArray, List.set_cons_zero, List.set_cons_succ]
    refine wpAnyH_take (i := 2) (oi := { dst := some 123, op := Op.load 30 (Operand.tmp 12), type := 30, pos := "law.go:68", after := #[{ on := 1, ground := Ground.guard }], guard := some (1, true) }) (v := ?_) rfl (by kernel_rfl) (by kernel_rfl) (by kernel_rfl) (fun _ _ _ h => h) (Or.inl ⟨by rfl, ?_⟩) (by assumption) ?_
    rotate_left
    · intro w hSw; (try dsimp only at hSw); go_simp; (try with_reducible rfl)
    try simp only [Act.put, List.setIfInBounds_toArray, List.set_cons_zero, List.set_cons_succ]
    refine wpAnyH_take (i := 3) (oi := { dst := some 124, op := Op.move (Operand.tmp 10), type := 32, pos := "law.go:68", after := #[{ on := 1, ground := Ground.guard }], guard := some (1, true) }) (v := ?_) rfl (by kernel_rfl) (by kernel_rfl) (by kernel_rfl) (fun _ _ _ h => h) (Or.inl ⟨by rfl, ?_⟩) (by assumption) ?_
    rotate_left
    · intro w hSw; (try dsimp only at hSw); go_simp; (try with_reducible rfl)
    try simp only [Act.put, List.setIfInBounds_toArray, List.set_cons_zero, List.set_cons_succ]
    refine wpAnyH_take (i := 4) (oi := { dst := some 125, op := Op.move (Operand.tmp 11), type := 32, pos := "law.go:68", after := #[{ on := 1, ground := Ground.guard }], guard := some (1, true) }) (v := ?_) rfl (by kernel_rfl) (by kernel_rfl) (by kernel_rfl) (fun _ _ _ h => h) (Or.inl ⟨by rfl, ?_⟩) (by assumption) ?_
    rotate_left
    · intro w hSw; (try dsimp only at hSw); go_simp; (try with_reducible rfl)
    try simp only [Act.put, List.setIfInBounds_toArray, List.set_cons_zero, List.set_cons_succ]
    refine wpAnyH_ready (rs := [5]) (by kernel_rfl) (by simp) ?_
    refine AllReadyH.cons (o := { dst := some 126, op := Op.call { callee := Callee.value (Operand.func 19), args := #[Operand.tmp 124, Operand.tmp 125], argTypes := #[32, 32] }, type := 32, pos := "law.go:68", after := #[{ on := 3, ground := Ground.data }, { on := 4, ground := Ground.data }, { on := 1, ground := Ground.chain }, { on := 1, ground := Ground.guard }], guard := some (1, true) }) rfl (fun K hK => ?_) AllReadyH.nil
    go_simp
    go_at_call 19; refine (V.rsub 3 4 rfl rfl Hge.out H2.out.d).mono ?_; rintro ε wr5 ⟨xr, yr, zr, rfl, V5⟩; clear V
    refine hK.out _ _ ?_ (fun hHeld => ?_)
    · first | exact V6.cell 2 rfl | exact V5.cell 2 rfl
    clear hK K
    try simp only [Act.put, List.setIfInBounds_toArray, List.set_cons_zero, List.set_cons_succ]
    refine wpAnyH_ready (rs := [6]) (by kernel_rfl) (by simp) ?_
    refine AllReadyH.cons (o := { dst := some 127, op := Op.call { callee := Callee.value (Operand.func 12), args := #[Operand.tmp 123, Operand.tmp 126], argTypes := #[30, 32] }, type := 4, pos := "law.go:68", after := #[{ on := 2, ground := Ground.data }, { on := 5, ground := Ground.data }, { on := 5, ground := Ground.chain }, { on := 1, ground := Ground.guard }], guard := some (1, true) }) rfl (fun K hK => ?_) AllReadyH.nil
    go_simp
    go_at_call 12; refine (V5.same 5 0 rfl rfl HT1.out).mono ?_; rintro ε wr6 ⟨rfl, V6⟩; clear V5
    refine hK.out _ _ ?_ (fun hHeld => ?_)
    · first | exact V6.cell 2 rfl | exact V5.cell 2 rfl
    clear hK K
    try simp only [Act.put, List.setIfInBounds_toArray, List.set_cons_zero, List.set_cons_succ]
    refine wpAnyH_take (i := 7) (oi := { dst := some 128, op := Op.unOp UnOp.not 4 (Operand.tmp 127), type := 4, pos := "law.go:68", after := #[{ on := 6, ground := Ground.data }, { on := 1, ground := Ground.guard }], guard := some (1, true) }) (v := ?_) rfl (by kernel_rfl) (by kernel_rfl) (by kernel_rfl) (fun _ _ _ h => h) (Or.inl ⟨by rfl, ?_⟩) (by assumption) ?_
    rotate_left
    · intro w hSw; (try dsimp only at hSw); go_simp; (try with_reducible rfl)
    try simp only [Act.put, List.setIfInBounds_toArray, List.set_cons_zero, List.set_cons_succ]
    refine wpAnyH_take (i := 8) (oi := { dst := some 129, op := Op.pick (Operand.tmp 122) (Operand.tmp 128) (Operand.const (Value.bool false)), type := 4, pos := "law.go:68", after := #[{ on := 1, ground := Ground.data }, { on := 7, ground := Ground.data }], guard := none }) (v := ?_) rfl (by kernel_rfl) (by kernel_rfl) (by kernel_rfl) (fun _ _ _ h => h) (Or.inl ⟨by rfl, ?_⟩) (by assumption) ?_
    rotate_left
    · intro w hSw; (try dsimp only at hSw); go_simp; (try with_reducible rfl)
    try simp only [Act.put, List.setIfInBounds_toArray, List.set_cons_zero, List.set_cons_succ]
    refine wpAnyH_take (i := 9) (oi := { dst := some 130, op := Op.move (Operand.tmp 129), type := 4, pos := "law.go:68", after := #[{ on := 8, ground := Ground.data }, { on := 6, ground := Ground.chain }], guard := none }) (v := ?_) rfl (by kernel_rfl) (by kernel_rfl) (by kernel_rfl) (fun _ _ _ h => h) (Or.inl ⟨by rfl, ?_⟩) (by assumption) ?_
    rotate_left
    · intro w hSw; (try dsimp only at hSw); go_simp; (try with_reducible rfl)
    try simp only [Act.put, List.setIfInBounds_toArray, List.set_cons_zero, List.set_cons_succ]
    refine wpAnyH_take (i := 10) (oi := { dst := some 131, op := Op.move (Operand.tmp 13), type := 4, pos := "law.go:68", after := #[{ on := 9, ground := Ground.guard }], guard := some (9, false) }) (v := ?_) rfl (by kernel_rfl) (by kernel_rfl) (by kernel_rfl) (fun _ _ _ h => h) (Or.inl ⟨by rfl, ?_⟩) (by assumption) ?_
    rotate_left
    · intro w hSw; (try dsimp only at hSw); go_simp; (try with_reducible rfl)
    try simp only [Act.put, List.setIfInBounds_toArray, List.set_cons_zero, List.set_cons_succ]
    refine wpAnyH_take (i := 11) (oi := { dst := some 132, op := Op.unOp UnOp.not 4 (Operand.tmp 131), type := 4, pos := "law.go:68", after := #[{ on := 10, ground := Ground.data }, { on := 9, ground := Ground.guard }], guard := some (9, false) }) (v := ?_) rfl (by kernel_rfl) (by kernel_rfl) (by kernel_rfl) (fun _ _ _ h => h) (Or.inl ⟨by rfl, ?_⟩) (by assumption) ?_
    rotate_left
    · intro w hSw; (try dsimp only at hSw); go_simp; (try with_reducible rfl)
    try simp only [Act.put, List.setIfInBounds_toArray, List.set_cons_zero, List.set_cons_succ]
    refine wpAnyH_take (i := 12) (oi := { dst := some 133, op := Op.move (Operand.tmp 132), type := 4, pos := "law.go:68", after := #[{ on := 11, ground := Ground.data }, { on := 9, ground := Ground.chain }, { on := 9, ground := Ground.guard }], guard := some (9, false) }) (v := ?_) rfl (by kernel_rfl) (by kernel_rfl) (by kernel_rfl) (fun _ _ _ h => h) (Or.inl ⟨by rfl, ?_⟩) (by assumption) ?_
    rotate_left
    · intro w hSw; (try dsimp only at hSw); go_simp; (try with_reducible rfl)
    try simp only [Act.put, List.setIfInBounds_toArray, List.set_cons_zero, List.set_cons_succ]
    refine wpAnyH_take (i := 13) (oi := { dst := some 134, op := Op.load 30 (Operand.tmp 12), type := 30, pos := "law.go:68", after := #[{ on := 12, ground := Ground.guard }], guard := some (12, true) }) (v := undef) rfl (by kernel_rfl) (by kernel_rfl) (by kernel_rfl) (fun _ _ _ h => h) (Or.inr ⟨by rfl, rfl⟩) (by assumption) ?_
    try simp only [Act.put, List.setIfInBounds_toArray, List.set_cons_zero, List.set_cons_succ]
    refine wpAnyH_take (i := 14) (oi := { dst := some 135, op := Op.call { callee := Callee.value (Operand.func 20), args := #[Operand.tmp 134], argTypes := #[30] }, type := 4, pos := "law.go:68", after := #[{ on := 13, ground := Ground.data }, { on := 12, ground := Ground.chain }, { on := 12, ground := Ground.guard }], guard := some (12, true) }) (v := undef) rfl (by kernel_rfl) (by kernel_rfl) (by kernel_rfl) (fun _ _ _ h => h) (Or.inr ⟨by rfl, rfl⟩) (by assumption) ?_
    try simp only [Act.put, List.setIfInBounds_toArray, List.set_cons_zero, List.set_cons_succ]
    refine wpAnyH_take (i := 15) (oi := { dst := some 136, op := Op.unOp UnOp.not 4 (Operand.tmp 135), type := 4, pos := "law.go:68", after := #[{ on := 14, ground := Ground.data }, { on := 12, ground := Ground.guard }], guard := some (12, true) }) (v := undef) rfl (by kernel_rfl) (by kernel_rfl) (by kernel_rfl) (fun _ _ _ h => h) (Or.inr ⟨by rfl, rfl⟩) (by assumption) ?_
    try simp only [Act.put, List.setIfInBounds_toArray, List.set_cons_zero, List.set_cons_succ]
    refine wpAnyH_take (i := 16) (oi := { dst := some 137, op := Op.pick (Operand.tmp 133) (Operand.tmp 136) (Operand.const (Value.bool false)), type := 4, pos := "law.go:68", after := #[{ on := 12, ground := Ground.data }, { on := 15, ground := Ground.data }, { on := 9, ground := Ground.guard }], guard := some (9, false) }) (v := ?_) rfl (by kernel_rfl) (by kernel_rfl) (by kernel_rfl) (fun _ _ _ h => h) (Or.inl ⟨by rfl, ?_⟩) (by assumption) ?_
    rotate_left
    · intro w hSw; (try dsimp only at hSw); go_simp; (try with_reducible rfl)
    try simp only [Act.put, List.setIfInBounds_toArray, List.set_cons_zero, List.set_cons_succ]
    refine wpAnyH_take (i := 17) (oi := { dst := some 138, op := Op.pick (Operand.tmp 130) (Operand.const (Value.bool true)) (Operand.tmp 137), type := 4, pos := "law.go:68", after := #[{ on := 9, ground := Ground.data }, { on := 16, ground := Ground.data }], guard := none }) (v := ?_) rfl (by kernel_rfl) (by kernel_rfl) (by kernel_rfl) (fun _ _ _ h => h) (Or.inl ⟨by rfl, ?_⟩) (by assumption) ?_
    rotate_left
    · intro w hSw; (try dsimp only at hSw); go_simp; (try with_reducible rfl)
    try simp only [Act.put, List.setIfInBounds_toArray, List.set_cons_zero, List.set_cons_succ]
    refine wpAnyH_done (by kernel_rfl) ?_ _
    have HV14_ := Lib.hid V6
    clear V6 HV14
    have HV14 := HV14_
    clear HV14_
    have K15 := Lib.hid (HV14.out.rdvm 4 5 rfl rfl Hz.out)
    go_wp2_with fail
    refine K15.out.mono ?_
    rintro ε w25 ⟨xu, yu, zu, xv, yv, zv, rfl, V⟩
    have HV15 := Lib.hid V
    clear V K15 HV14 
    have K16 := Lib.hid (HV15.out.same 4 1 rfl rfl HT1.out)
    have kbq16 := HV15.out.cell 1 rfl
    go_wp2_with fail
    refine K16.out.mono ?_
    rintro ε w26 ⟨rfl, V⟩
    have HV16 := Lib.hid V
    clear V K16 HV15 kbq16
    have K17 := Lib.hid (HV16.out.same 3 0 rfl rfl HT1.out)
    have kbm17 := HV16.out.cell 0 rfl
    go_wp2_with fail
    refine K17.out.mono ?_
    rintro ε w27 ⟨rfl, V⟩
    have HV17 := Lib.hid V
    clear V K17 HV16 kbm17
    have K18 := Lib.hid (HV17.out.large 6 rfl Hfit.out)
    have kba18 := HV17.out.cell 3 rfl
    go_wp2_with fail
    refine K18.out.mono ?_
    rintro ε w28 ⟨rfl, V⟩
    have HV18 := Lib.hid V
    clear V K18 HV17 kba18
    have K19 := Lib.hid (HV18.out.bits 6 rfl HLB.out)
    have kba19 := HV18.out.cell 3 rfl
    go_wp2_with fail
    refine K19.out.mono ?_
    rintro ε w29 ⟨rfl, V⟩
    have HV19 := Lib.hid V
    clear V K19 HV18 kba19
    have K20 := Lib.hid (HV19.out.rbits 6 rfl HLen.out HLB.out)
    go_wp2_with fail
    refine K20.out.mono ?_
    rintro ε w30 ⟨rfl, V⟩
    have HV20 := Lib.hid V
    clear V K20 HV19 
    have K21 := Lib.hid (HV20.out.digits 6 rfl HT1.out HND.out)
    have kba21 := HV20.out.cell 3 rfl
    go_wp2_with fail
    refine K21.out.mono ?_
    rintro ε w31 ⟨rfl, V⟩
    have HV21 := Lib.hid V
    clear V K21 HV20 kba21
    have K22 := Lib.hid (HV21.out.rtext 6 rfl HT.out)
    go_wp2_with fail
    refine K22.out.mono ?_
    rintro ε w32 ⟨rfl, V⟩
    have HV22 := Lib.hid V
    clear V K22 HV21 
    have K23 := Lib.hid (HV22.out.nz 6 rfl HzB.out)
    have kba23 := HV22.out.cell 3 rfl
    go_wp2_with fail
    refine K23.out.mono ?_
    rintro ε w33 ⟨rfl, V⟩
    have HV23 := Lib.hid V
    clear V K23 HV22 kba23
    have K24 := Lib.hid (HV23.out.rbits 6 rfl HLen.out HLB.out)
    go_wp2_with fail
    refine K24.out.mono ?_
    rintro ε w34 ⟨rfl, V⟩
    have HV24 := Lib.hid V
    clear V K24 HV23 
    go_wp2_with fail
    go_ret
    exact ⟨rfl, HB1.out.trans (HV24.out.bel.mono HB1.out.size)⟩
set_option maxRecDepth 100000 in
set_option maxHeartbeats 8000000 in
theorem natTells.plf (s t : ByteArray) (hs : s.size ≤ 250) (ht : t.size ≤ 250) (hz : 0 < nn t) (hge : nn s < nn t) (hfit : nn s < 18446744073709551616) (w : World) (htab : Tab w) (htb : TabB w) :
    Calls Tryd.prog 3 #[.string s, .string t] w fun e w' => e = .returned (.bool true) ∧ Below w.heap.size w w' := by
  have HAl := Lib.hid (alive_any w htab)
  have HTab := Lib.hid htab
  have HTb := Lib.hid htb
  have H1 := Lib.hid (tb_all 18446744073709551616 16 100 (by omega) (nn_w (s := s) (k := 16) (by omega)) (nn_w (s := t) (k := 16) (by omega)) (by omega) (by omega))
  have H2 := Lib.hid (tb_all 10000 63 200 (by omega) (nn_lt (s := s) (k := 63) (by omega)) (nn_lt (s := t) (k := 63) (by omega)) (by omega) (by omega))
  have H3 := Lib.hid (And.intro (nn_w (s := s) (k := 26) (by omega)) (nn_w (s := t) (k := 26) (by omega)))
  have H4 := Lib.hid (And.intro (nn_w (s := s) (k := 100) (by omega)) (nn_w (s := t) (k := 100) (by omega)))
  have H5 := Lib.hid (And.intro (pow_up 63 200 (nn_lt (s := s) (k := 63) (by omega)) (by omega)) (pow_up 63 200 (nn_lt (s := t) (k := 63) (by omega)) (by omega)))
  have HLen := Lib.hid (lenN (nn_w (s := s) (k := 16) (by omega)))
  have HNats : Hid (∀ w1, Below w.heap.size w w1 → _) := Lib.hid (fun w1 h => nats_two s t w1 (by omega) (by omega) (htab.below h (Nat.le_refl _)))
  obtain ⟨A, hA⟩ : ∃ A, nn s = A := ⟨_, rfl⟩
  obtain ⟨B, hB⟩ : ∃ B, nn t = B := ⟨_, rfl⟩
  rw [hA] at HLen hge hfit
  rw [hB] at hge hz
  rw [hA, hB] at H1 H2 H3 H4 H5
  simp only [hA, hB] at HNats
  obtain ⟨sz, hsz⟩ : ∃ sz, s.size = sz := ⟨_, rfl⟩
  obtain ⟨tz, htz⟩ : ∃ tz, t.size = tz := ⟨_, rfl⟩
  have c1 : ¬ (250 : Int) < (sz : Int) := by omega
  have c2 : ¬ (250 : Int) < (tz : Int) := by omega
  have c1b : decide ((250 : Int) < (sz : Int)) = false := by simp; omega
  have c2b : decide ((250 : Int) < (tz : Int)) = false := by simp; omega
  have Hz := Lib.hid hz
  have Hge := Lib.hid hge
  have Hfit := Lib.hid hfit
  obtain ⟨C, hC⟩ : ∃ C, cmpI A B = C := ⟨_, rfl⟩
  have hC0 : ¬ 0 ≤ C := by rw [← hC, cmpI_lt hge]; omega
  have hC0b : decide (0 ≤ C) = false := by simp; omega
  have hCC : (C != C) = false := by simp
  have HC := Lib.hid hC
  obtain ⟨LB, hLB⟩ : ∃ LB : Int, ((hlv A).length : Int) = LB := ⟨_, rfl⟩
  have HLB := Lib.hid hLB
  have hLL : (LB == LB) = true := by simp
  have hL64 : LB ≤ 64 := by rw [← hLB]; have := len_fit (isLen_hlv A) hfit; omega
  have hL64b : decide (LB ≤ 64) = true := by simp; omega
  obtain ⟨T, hT⟩ : ∃ T : ByteArray, (⟨(Lib.decDigits A).toArray⟩ : ByteArray) = T := ⟨_, rfl⟩
  have HT := Lib.hid hT
  obtain ⟨ND, hND⟩ : ∃ ND : Int, ((Lib.nDigits A : Nat) : Int) = ND := ⟨_, rfl⟩
  have hTs : (T.size : Int) = ND := by rw [← hT, ← hND, ← Lib.decDigits_length]; rfl
  have HND := Lib.hid hND
  have hNN : (ND == ND) = true := by simp
  obtain ⟨zB, hzB⟩ : ∃ zB, decide (A = 0) = zB := ⟨_, rfl⟩
  have HzB := Lib.hid hzB
  have hzz : (zB == zB) = true := by simp
  clear hs ht htab htb hA hB hge hfit hC hLB hT hND hzB hz
  go_enter Tryd.func3, Tryd.ntmps3
  go_wp2_with fail
  refine HAl.out.mono ?_
  rintro ε w1 ⟨rfl, hb1⟩
  have HN1 := Lib.hid (HNats.out w1 hb1)
  have HB1 := Lib.hid hb1
  have HT1 := Lib.hid (HTab.out.below hb1 (Nat.le_refl _))
  have HTb1 := Lib.hid (HTb.out.below hb1 (Nat.le_refl _))
  clear hb1 HAl HNats
  go_wp2_with fail
  refine HN1.out.mono ?_
  rintro ε w2 ⟨ga, ca, gb, cb, xa, ya, za, xb, yb, zb, xc, yc, zc, xd, yd, zd, rfl, q1, q2, q3, q4, hNa, hNb, hRa, hRb, hbel, hca2, hcb2⟩
  have hxn := rn_form hRa
  obtain ⟨_, _, _, he1, _, hx0⟩ := hxn
  injection he1 with ee1 ee2 ee3
  subst ee2
  clear ee1 ee3
  have hyn := rn_form hRb
  obtain ⟨_, _, _, he2, _, hy0⟩ := hyn
  injection he2 with ff1 ff2 ff3
  subst ff2
  clear ff1 ff3
  have hxz : (((yc : Nat) : Int) == 0) = zB := zlen hx0 HzB.out
  have hyl : (0 : Int) < (yd : Int) := pos_of hy0 Hz.out
  have hylN : 0 < yd := by omega
  have hylN2 : decide (0 < yd) = true := by simp; omega
  have hxzN : (yc == 0) = zB := zlenN hx0 HzB.out
  have V0 : Ax w1 [] [(.agg #[.slice xa ya za], A), (.agg #[.slice xb yb zb], B)] [(.slice xc yc zc, A), (.slice xd yd zd, B)] w2 := ⟨hbel, fun k b v e => by simp at e, fun k v N e => by
      rcases k with _ | _ | k
      · simp at e; obtain ⟨rfl, rfl⟩ := e; exact ⟨hNa, H4.out.1⟩
      · simp at e; obtain ⟨rfl, rfl⟩ := e; exact ⟨hNb, H4.out.2⟩
      · simp at e, fun k v N e => by
      rcases k with _ | _ | k
      · simp at e; obtain ⟨rfl, rfl⟩ := e; exact ⟨hRa, H5.out.1⟩
      · simp at e; obtain ⟨rfl, rfl⟩ := e; exact ⟨hRb, H5.out.2⟩
      · simp at e⟩
  have HV0_ := Lib.hid V0
  have r1 : w2.drew.cell? ⟨ga, 0, none⟩ = some (.slice xa ya za) := q1
  have r2 : w2.drew.cell? ⟨ga, 1, none⟩ = some (.slice xb yb zb) := q2
  have r3 : w2.drew.cell? ⟨gb, 0, none⟩ = some (.slice xc yc zc) := q3
  have r4 : w2.drew.cell? ⟨gb, 1, none⟩ = some (.slice xd yd zd) := q4
  have HS : Hid (∀ W, Below w2.heap.size w2 W → W.cell? ⟨ga, 0, none⟩ = some (.slice xa ya za) ∧ W.cell? ⟨ga, 1, none⟩ = some (.slice xb yb zb) ∧ W.cell? ⟨gb, 0, none⟩ = some (.slice xc yc zc) ∧ W.cell? ⟨gb, 1, none⟩ = some (.slice xd yd zd)) := Lib.hid (fun W h => ⟨(h.cell (p := ⟨ga, 0, none⟩) (World.block_lt_of_cell? w2 ⟨ga, 0, none⟩ q1)).trans q1, (h.cell (p := ⟨ga, 1, none⟩) (World.block_lt_of_cell? w2 ⟨ga, 1, none⟩ q2)).trans q2, (h.cell (p := ⟨gb, 0, none⟩) (World.block_lt_of_cell? w2 ⟨gb, 0, none⟩ q3)).trans q3, (h.cell (p := ⟨gb, 1, none⟩) (World.block_lt_of_cell? w2 ⟨gb, 1, none⟩ q4)).trans q4⟩)
  have hsz1 := hbel.size
  clear hNa hNb hRa hRb hbel q1 q2 q3 q4 V0 HN1 hx0 hy0
  go_upto_region 6 with fail
  go_cut [8, 9, 10, 11] from 44 to 56 (fun p8 p9 s10 s11 wx => ∃ (ba bb : Nat), p8 = .pointer (some ⟨ba, 0, none⟩) ∧ p9 = .pointer (some ⟨bb, 0, none⟩) ∧ s10 = .slice xc yc zc ∧ s11 = .slice xd yd zd ∧ Hid (Ax w1 [(ba, .slice xa ya za), (bb, .slice xb yb zb)] [(.agg #[.slice xa ya za], A), (.agg #[.slice xb yb zb], B)] [(.slice xc yc zc, A), (.slice xd yd zd, B)] wx))
  case first =>
    have hd2 := below_drew2 w2
    go_wp2_with fail
    refine wp_region_held_drew (S := (fun w' => w'.cell? ⟨ga, 0, none⟩ = some (.slice xa ya za) ∧ w'.cell? ⟨ga, 1, none⟩ = some (.slice xb yb zb) ∧ w'.cell? ⟨gb, 0, none⟩ = some (.slice xc yc zc) ∧ w'.cell? ⟨gb, 1, none⟩ = some (.slice xd yd zd))) (by kernel_rfl) ?_ (fun hHeld => ?_)
    · exact ⟨r1, r2, r3, r4⟩
    refine wpAnyH_take (i := 0) (oi := { dst := some 44, op := Op.move (Operand.tmp 5), type := 23, pos := "law.go:62", after := #[], guard := none }) (v := ?_) rfl (by kernel_rfl) (by kernel_rfl) (by kernel_rfl) (fun _ _ _ h => h) (Or.inl ⟨by rfl, ?_⟩) (by assumption) ?_
    rotate_left
    · intro w hSw; (try dsimp only at hSw); go_simp; (try with_reducible rfl)
    try simp only [Act.put, List.setIfInBounds_toArray, List.set_cons_zero, List.set_cons_succ]
    refine wpAnyH_take (i := 1) (oi := { dst := some 45, op := Op.indexAddr 23 (Operand.tmp 44) (Operand.const (Value.int IntKind.i64 0)), type := 0, pos := "law.go:62", after := #[{ on := 0, ground := Ground.data }], guard := none }) (v := ?_) rfl (by kernel_rfl) (by kernel_rfl) (by kernel_rfl) (fun _ _ _ h => h) (Or.inl ⟨by rfl, ?_⟩) (by assumption) ?_
    rotate_left
    · intro w hSw; (try dsimp only at hSw); go_simp; (try with_reducible rfl)
    try simp only [Act.put, List.setIfInBounds_toArray, List.set_cons_zero, List.set_cons_succ]
    refine wpAnyH_take (i := 2) (oi := { dst := some 46, op := Op.load 30 (Operand.tmp 45), type := 30, pos := "law.go:62", after := #[{ on := 1, ground := Ground.data }], guard := none }) (v := ?_) rfl (by kernel_rfl) (by kernel_rfl) (by kernel_rfl) (fun _ _ _ h => h) (Or.inl ⟨by rfl, ?_⟩) (by assumption) ?_
    rotate_left
    · intro w hSw; (try dsimp only at hSw); go_simp; (try with_reducible rfl)
    try simp only [Act.put, List.setIfInBounds_toArray, List.set_cons_zero, List.set_cons_succ]
    refine wpAnyH_take (i := 3) (oi := { dst := some 47, op := Op.move (Operand.tmp 5), type := 23, pos := "law.go:62", after := #[{ on := 14, ground := Ground.gcOnly Departure.lateStores }], guard := none }) (v := ?_) rfl (by kernel_rfl) (by kernel_rfl) (by kernel_rfl) (fun _ _ _ h => h) (Or.inl ⟨by rfl, ?_⟩) (by assumption) ?_
    rotate_left
    · intro w hSw; (try dsimp only at hSw); go_simp; (try with_reducible rfl)
    try simp only [Act.put, List.setIfInBounds_toArray, List.set_cons_zero, List.set_cons_succ]
    refine wpAnyH_take (i := 4) (oi := { dst := some 48, op := Op.indexAddr 23 (Operand.tmp 47) (Operand.const (Value.int IntKind.i64 1)), type := 0, pos := "law.go:62", after := #[{ on := 3, ground := Ground.data }, { on := 14, ground := Ground.gcOnly Departure.lateStores }], guard := none }) (v := ?_) rfl (by kernel_rfl) (by kernel_rfl) (by kernel_rfl) (fun _ _ _ h => h) (Or.inl ⟨by rfl, ?_⟩) (by assumption) ?_
    rotate_left
    · intro w hSw; (try dsimp only at hSw); go_simp; (try with_reducible rfl)
    try simp only [Act.put, List.setIfInBounds_toArray, List.set_cons_zero, List.set_cons_succ]
    refine wpAnyH_take (i := 5) (oi := { dst := some 49, op := Op.load 30 (Operand.tmp 48), type := 30, pos := "law.go:62", after := #[{ on := 4, ground := Ground.data }, { on := 14, ground := Ground.gcOnly Departure.lateStores }], guard := none }) (v := ?_) rfl (by kernel_rfl) (by kernel_rfl) (by kernel_rfl) (fun _ _ _ h => h) (Or.inl ⟨by rfl, ?_⟩) (by assumption) ?_
    rotate_left
    · intro w hSw; (try dsimp only at hSw); go_simp; (try with_reducible rfl)
    try simp only [Act.put, List.setIfInBounds_toArray, List.set_cons_zero, List.set_cons_succ]
    refine wpAnyH_take (i := 6) (oi := { dst := some 50, op := Op.move (Operand.tmp 6), type := 24, pos := "law.go:62", after := #[{ on := 15, ground := Ground.gcOnly Departure.lateStores }], guard := none }) (v := ?_) rfl (by kernel_rfl) (by kernel_rfl) (by kernel_rfl) (fun _ _ _ h => h) (Or.inl ⟨by rfl, ?_⟩) (by assumption) ?_
    rotate_left
    · intro w hSw; (try dsimp only at hSw); go_simp; (try with_reducible rfl)
    try simp only [Act.put, List.setIfInBounds_toArray, List.set_cons_zero, List.set_cons_succ]
    refine wpAnyH_take (i := 7) (oi := { dst := some 51, op := Op.indexAddr 24 (Operand.tmp 50) (Operand.const (Value.int IntKind.i64 0)), type := 0, pos := "law.go:62", after := #[{ on := 6, ground := Ground.data }, { on := 15, ground := Ground.gcOnly Departure.lateStores }], guard := none }) (v := ?_) rfl (by kernel_rfl) (by kernel_rfl) (by kernel_rfl) (fun _ _ _ h => h) (Or.inl ⟨by rfl, ?_⟩) (by assumption) ?_
    rotate_left
    · intro w hSw; (try dsimp only at hSw); go_simp; (try with_reducible rfl)
    try simp only [Act.put, List.setIfInBounds_toArray, List.set_cons_zero, List.set_cons_succ]
    refine wpAnyH_take (i := 8) (oi := { dst := some 52, op := Op.load 32 (Operand.tmp 51), type := 32, pos := "law.go:62", after := #[{ on := 7, ground := Ground.data }, { on := 15, ground := Ground.gcOnly Departure.lateStores }], guard := none }) (v := ?_) rfl (by kernel_rfl) (by kernel_rfl) (by kernel_rfl) (fun _ _ _ h => h) (Or.inl ⟨by rfl, ?_⟩) (by assumption) ?_
    rotate_left
    · intro w hSw; (try dsimp only at hSw); go_simp; (try with_reducible rfl)
    try simp only [Act.put, List.setIfInBounds_toArray, List.set_cons_zero, List.set_cons_succ]
    refine wpAnyH_take (i := 9) (oi := { dst := some 53, op := Op.move (Operand.tmp 6), type := 24, pos := "law.go:62", after := #[{ on := 16, ground := Ground.gcOnly Departure.lateStores }], guard := none }) (v := ?_) rfl (by kernel_rfl) (by kernel_rfl) (by kernel_rfl) (fun _ _ _ h => h) (Or.inl ⟨by rfl, ?_⟩) (by assumption) ?_
    rotate_left
    · intro w hSw; (try dsimp only at hSw); go_simp; (try with_reducible rfl)
    try simp only [Act.put, List.setIfInBounds_toArray, List.set_cons_zero, List.set_cons_succ]
    refine wpAnyH_take (i := 10) (oi := { dst := some 54, op := Op.indexAddr 24 (Operand.tmp 53) (Operand.const (Value.int IntKind.i64 1)), type := 0, pos := "law.go:62", after := #[{ on := 9, ground := Ground.data }, { on := 16, ground := Ground.gcOnly Departure.lateStores }], guard := none }) (v := ?_) rfl (by kernel_rfl) (by kernel_rfl) (by kernel_rfl) (fun _ _ _ h => h) (Or.inl ⟨by rfl, ?_⟩) (by assumption) ?_
    rotate_left
    · intro w hSw; (try dsimp only at hSw); go_simp; (try with_reducible rfl)
    try simp only [Act.put, List.setIfInBounds_toArray, List.set_cons_zero, List.set_cons_succ]
    refine wpAnyH_take (i := 11) (oi := { dst := some 55, op := Op.load 32 (Operand.tmp 54), type := 32, pos := "law.go:62", after := #[{ on := 10, ground := Ground.data }, { on := 16, ground := Ground.gcOnly Departure.lateStores }], guard := none }) (v := ?_) rfl (by kernel_rfl) (by kernel_rfl) (by kernel_rfl) (fun _ _ _ h => h) (Or.inl ⟨by rfl, ?_⟩) (by assumption) ?_
    rotate_left
    · intro w hSw; (try dsimp only at hSw); go_simp; (try with_reducible rfl)
    try simp only [Act.put, List.setIfInBounds_toArray, List.set_cons_zero, List.set_cons_succ]
    refine wpAnyH_ready (rs := [12, 13]) (by kernel_rfl) (by simp) ?_
    refine (AllReadyH.cons (o := { dst := some 8, op := Op.alloc 30, type := 0, pos := "law.go:62", after := #[], guard := none }) rfl (fun K hK => ?_) (AllReadyH.cons (o := { dst := some 9, op := Op.alloc 30, type := 0, pos := "law.go:62", after := #[], guard := none }) rfl (fun K hK => ?_) AllReadyH.nil))
    · have R1 := HV0_.out.alloc (.slice none 0 0)
      have T1 := hd2.alloc hd2.size (.cells #[.slice none 0 0] 30)
      go_wp2_with fail
      refine hK.out _ _ ?_ (fun hHeld => ?_)
      · exact HS.out _ T1
      clear hK K
      try simp only [Act.put, List.setIfInBounds_toArray, List.set_cons_zero, List.set_cons_succ]
      refine wpAnyH_ready (rs := [13]) (by kernel_rfl) (by simp) ?_
      refine (AllReadyH.cons (o := { dst := some 9, op := Op.alloc 30, type := 0, pos := "law.go:62", after := #[], guard := none }) rfl (fun K hK => ?_) AllReadyH.nil)
      have R2 := (R1.alloc (.slice none 0 0)).below (below_drew2 _)
      rw [World.size_alloc] at R2
      have T2 := T1.alloc T1.size (.cells #[.slice none 0 0] 30)
      go_wp2_with fail
      refine hK.out _ _ ?_ (fun hHeld => ?_)
      · exact HS.out _ T2
      clear hK K
      try simp only [Act.put, List.setIfInBounds_toArray, List.set_cons_zero, List.set_cons_succ]
      refine wpAnyH_ready (rs := [14]) (by kernel_rfl) (by simp) ?_
      refine (AllReadyH.cons (o := { dst := none, op := Op.store 30 (Operand.tmp 8) (Operand.tmp 46), type := 0, pos := "law.go:62", after := #[{ on := 12, ground := Ground.data }, { on := 2, ground := Ground.data }, { on := 0, ground := Ground.phase }, { on := 1, ground := Ground.phase }, { on := 2, ground := Ground.phase }, { on := 3, ground := Ground.textOnly Departure.lateStores }, { on := 4, ground := Ground.textOnly Departure.lateStores }, { on := 5, ground := Ground.textOnly Departure.lateStores }, { on := 6, ground := Ground.textOnly Departure.lateStores }, { on := 7, ground := Ground.textOnly Departure.lateStores }, { on := 8, ground := Ground.textOnly Departure.lateStores }, { on := 9, ground := Ground.textOnly Departure.lateStores }, { on := 10, ground := Ground.textOnly Departure.lateStores }, { on := 11, ground := Ground.textOnly Departure.lateStores }, { on := 12, ground := Ground.phase }, { on := 13, ground := Ground.phase }], guard := none }) rfl (fun K hK => ?_) AllReadyH.nil)
      have R3 := R2.swap.set2 (by omega) (by omega) (.slice xa ya za)
      have T3 := T2.setCell (p := ⟨w2.heap.size, 0, none⟩) (by simp) (.slice xa ya za)
      have B3 := R2.swap.box 0 _ _ rfl
      refine if_wanted rfl ?_
      refine wp_store_box (Operand.tmp 8) (Operand.tmp 46) rfl rfl _ (.slice none 0 0) rfl rfl B3 ?_
      refine hK.out _ _ ?_ (fun hHeld => ?_)
      · exact HS.out _ T3
      clear hK K
      try simp only [Act.put, List.setIfInBounds_toArray, List.set_cons_zero, List.set_cons_succ]
      refine wpAnyH_ready (rs := [15]) (by kernel_rfl) (by simp) ?_
      refine (AllReadyH.cons (o := { dst := none, op := Op.store 30 (Operand.tmp 9) (Operand.tmp 49), type := 0, pos := "law.go:62", after := #[{ on := 13, ground := Ground.data }, { on := 5, ground := Ground.data }, { on := 14, ground := Ground.chain }, { on := 0, ground := Ground.phase }, { on := 1, ground := Ground.phase }, { on := 2, ground := Ground.phase }, { on := 3, ground := Ground.phase }, { on := 4, ground := Ground.phase }, { on := 5, ground := Ground.phase }, { on := 6, ground := Ground.textOnly Departure.lateStores }, { on := 7, ground := Ground.textOnly Departure.lateStores }, { on := 8, ground := Ground.textOnly Departure.lateStores }, { on := 9, ground := Ground.textOnly Departure.lateStores }, { on := 10, ground := Ground.textOnly Departure.lateStores }, { on := 11, ground := Ground.textOnly Departure.lateStores }, { on := 12, ground := Ground.phase }, { on := 13, ground := Ground.phase }, { on := 14, ground := Ground.phase }], guard := none }) rfl (fun K hK => ?_) AllReadyH.nil)
      have R4 := R3.swap.set2 (by omega) (by omega) (.slice xb yb zb)
      have T4 := T3.setCell (p := ⟨w2.heap.size + 1, 0, none⟩) (by simp) (.slice xb yb zb)
      have B4 := R3.swap.box 0 _ _ rfl
      refine if_wanted rfl ?_
      refine wp_store_box (Operand.tmp 9) (Operand.tmp 49) rfl rfl _ (.slice none 0 0) rfl rfl B4 ?_
      refine hK.out _ _ ?_ (fun hHeld => ?_)
      · exact HS.out _ T4
      clear hK K
      try simp only [Act.put, List.setIfInBounds_toArray, List.set_cons_zero, List.set_cons_succ]
      refine wpAnyH_take (i := 16) (oi := { dst := some 10, op := Op.assign (Operand.tmp 52), type := 32, pos := "law.go:62", after := #[{ on := 8, ground := Ground.data }, { on := 15, ground := Ground.chain }, { on := 0, ground := Ground.phase }, { on := 1, ground := Ground.phase }, { on := 2, ground := Ground.phase }, { on := 3, ground := Ground.phase }, { on := 4, ground := Ground.phase }, { on := 5, ground := Ground.phase }, { on := 6, ground := Ground.phase }, { on := 7, ground := Ground.phase }, { on := 8, ground := Ground.phase }, { on := 9, ground := Ground.textOnly Departure.lateStores }, { on := 10, ground := Ground.textOnly Departure.lateStores }, { on := 11, ground := Ground.textOnly Departure.lateStores }, { on := 12, ground := Ground.phase }, { on := 13, ground := Ground.phase }, { on := 14, ground := Ground.phase }, { on := 15, ground := Ground.phase }], guard := none }) (v := ?_) rfl (by kernel_rfl) (by kernel_rfl) (by kernel_rfl) (fun _ _ _ h => h) (Or.inl ⟨by rfl, ?_⟩) (by assumption) ?_
      rotate_left
      · intro w hSw; (try dsimp only at hSw); go_simp; (try with_reducible rfl)
      try simp only [Act.put, List.setIfInBounds_toArray, List.set_cons_zero, List.set_cons_succ]
      refine wpAnyH_take (i := 17) (oi := { dst := some 11, op := Op.assign (Operand.tmp 55), type := 32, pos := "law.go:62", after := #[{ on := 11, ground := Ground.data }, { on := 16, ground := Ground.chain }, { on := 0, ground := Ground.phase }, { on := 1, ground := Ground.phase }, { on := 2, ground := Ground.phase }, { on := 3, ground := Ground.phase }, { on := 4, ground := Ground.phase }, { on := 5, ground := Ground.phase }, { on := 6, ground := Ground.phase }, { on := 7, ground := Ground.phase }, { on := 8, ground := Ground.phase }, { on := 9, ground := Ground.phase }, { on := 10, ground := Ground.phase }, { on := 11, ground := Ground.phase }, { on := 12, ground := Ground.phase }, { on := 13, ground := Ground.phase }, { on := 14, ground := Ground.phase }, { on := 15, ground := Ground.phase }, { on := 16, ground := Ground.phase }], guard := none }) (v := ?_) rfl (by kernel_rfl) (by kernel_rfl) (by kernel_rfl) (fun _ _ _ h => h) (Or.inl ⟨by rfl, ?_⟩) (by assumption) ?_
      rotate_left
      · intro w hSw; (try dsimp only at hSw); go_simp; (try with_reducible rfl)
      try simp only [Act.put, List.setIfInBounds_toArray, List.set_cons_zero, List.set_cons_succ]
      refine wpAnyH_done (by kernel_rfl) ?_ _
      have HR := Lib.hid R4.swap
      clear R1 R2 R3 R4 T1 T2 T3 T4 HS
      go_wp2_with fail
      go_meet
      case rel => exact ⟨_, _, rfl, rfl, rfl, rfl, HR⟩
    · have R1 := HV0_.out.alloc (.slice none 0 0)
      have T1 := hd2.alloc hd2.size (.cells #[.slice none 0 0] 30)
      go_wp2_with fail
      refine hK.out _ _ ?_ (fun hHeld => ?_)
      · exact HS.out _ T1
      clear hK K
      try simp only [Act.put, List.setIfInBounds_toArray, List.set_cons_zero, List.set_cons_succ]
      refine wpAnyH_ready (rs := [12]) (by kernel_rfl) (by simp) ?_
      refine (AllReadyH.cons (o := { dst := some 8, op := Op.alloc 30, type := 0, pos := "law.go:62", after := #[], guard := none }) rfl (fun K hK => ?_) AllReadyH.nil)
      have R2 := (R1.alloc (.slice none 0 0)).below (below_drew2 _)
      rw [World.size_alloc] at R2
      have T2 := T1.alloc T1.size (.cells #[.slice none 0 0] 30)
      go_wp2_with fail
      refine hK.out _ _ ?_ (fun hHeld => ?_)
      · exact HS.out _ T2
      clear hK K
      try simp only [Act.put, List.setIfInBounds_toArray, List.set_cons_zero, List.set_cons_succ]
      refine wpAnyH_ready (rs := [14]) (by kernel_rfl) (by simp) ?_
      refine (AllReadyH.cons (o := { dst := none, op := Op.store 30 (Operand.tmp 8) (Operand.tmp 46), type := 0, pos := "law.go:62", after := #[{ on := 12, ground := Ground.data }, { on := 2, ground := Ground.data }, { on := 0, ground := Ground.phase }, { on := 1, ground := Ground.phase }, { on := 2, ground := Ground.phase }, { on := 3, ground := Ground.textOnly Departure.lateStores }, { on := 4, ground := Ground.textOnly Departure.lateStores }, { on := 5, ground := Ground.textOnly Departure.lateStores }, { on := 6, ground := Ground.textOnly Departure.lateStores }, { on := 7, ground := Ground.textOnly Departure.lateStores }, { on := 8, ground := Ground.textOnly Departure.lateStores }, { on := 9, ground := Ground.textOnly Departure.lateStores }, { on := 10, ground := Ground.textOnly Departure.lateStores }, { on := 11, ground := Ground.textOnly Departure.lateStores }, { on := 12, ground := Ground.phase }, { on := 13, ground := Ground.phase }], guard := none }) rfl (fun K hK => ?_) AllReadyH.nil)
      have R3 := R2.set2 (by omega) (by omega) (.slice xa ya za)
      have T3 := T2.setCell (p := ⟨w2.heap.size + 1, 0, none⟩) (by simp) (.slice xa ya za)
      have B3 := R2.box 0 _ _ rfl
      refine if_wanted rfl ?_
      refine wp_store_box (Operand.tmp 8) (Operand.tmp 46) rfl rfl _ (.slice none 0 0) rfl rfl B3 ?_
      refine hK.out _ _ ?_ (fun hHeld => ?_)
      · exact HS.out _ T3
      clear hK K
      try simp only [Act.put, List.setIfInBounds_toArray, List.set_cons_zero, List.set_cons_succ]
      refine wpAnyH_ready (rs := [15]) (by kernel_rfl) (by simp) ?_
      refine (AllReadyH.cons (o := { dst := none, op := Op.store 30 (Operand.tmp 9) (Operand.tmp 49), type := 0, pos := "law.go:62", after := #[{ on := 13, ground := Ground.data }, { on := 5, ground := Ground.data }, { on := 14, ground := Ground.chain }, { on := 0, ground := Ground.phase }, { on := 1, ground := Ground.phase }, { on := 2, ground := Ground.phase }, { on := 3, ground := Ground.phase }, { on := 4, ground := Ground.phase }, { on := 5, ground := Ground.phase }, { on := 6, ground := Ground.textOnly Departure.lateStores }, { on := 7, ground := Ground.textOnly Departure.lateStores }, { on := 8, ground := Ground.textOnly Departure.lateStores }, { on := 9, ground := Ground.textOnly Departure.lateStores }, { on := 10, ground := Ground.textOnly Departure.lateStores }, { on := 11, ground := Ground.textOnly Departure.lateStores }, { on := 12, ground := Ground.phase }, { on := 13, ground := Ground.phase }, { on := 14, ground := Ground.phase }], guard := none }) rfl (fun K hK => ?_) AllReadyH.nil)
      have R4 := R3.swap.set2 (by omega) (by omega) (.slice xb yb zb)
      have T4 := T3.setCell (p := ⟨w2.heap.size, 0, none⟩) (by simp) (.slice xb yb zb)
      have B4 := R3.swap.box 0 _ _ rfl
      refine if_wanted rfl ?_
      refine wp_store_box (Operand.tmp 9) (Operand.tmp 49) rfl rfl _ (.slice none 0 0) rfl rfl B4 ?_
      refine hK.out _ _ ?_ (fun hHeld => ?_)
      · exact HS.out _ T4
      clear hK K
      try simp only [Act.put, List.setIfInBounds_toArray, List.set_cons_zero, List.set_cons_succ]
      refine wpAnyH_take (i := 16) (oi := { dst := some 10, op := Op.assign (Operand.tmp 52), type := 32, pos := "law.go:62", after := #[{ on := 8, ground := Ground.data }, { on := 15, ground := Ground.chain }, { on := 0, ground := Ground.phase }, { on := 1, ground := Ground.phase }, { on := 2, ground := Ground.phase }, { on := 3, ground := Ground.phase }, { on := 4, ground := Ground.phase }, { on := 5, ground := Ground.phase }, { on := 6, ground := Ground.phase }, { on := 7, ground := Ground.phase }, { on := 8, ground := Ground.phase }, { on := 9, ground := Ground.textOnly Departure.lateStores }, { on := 10, ground := Ground.textOnly Departure.lateStores }, { on := 11, ground := Ground.textOnly Departure.lateStores }, { on := 12, ground := Ground.phase }, { on := 13, ground := Ground.phase }, { on := 14, ground := Ground.phase }, { on := 15, ground := Ground.phase }], guard := none }) (v := ?_) rfl (by kernel_rfl) (by kernel_rfl) (by kernel_rfl) (fun _ _ _ h => h) (Or.inl ⟨by rfl, ?_⟩) (by assumption) ?_
      rotate_left
      · intro w hSw; (try dsimp only at hSw); go_simp; (try with_reducible rfl)
      try simp only [Act.put, List.setIfInBounds_toArray, List.set_cons_zero, List.set_cons_succ]
      refine wpAnyH_take (i := 17) (oi := { dst := some 11, op := Op.assign (Operand.tmp 55), type := 32, pos := "law.go:62", after := #[{ on := 11, ground := Ground.data }, { on := 16, ground := Ground.chain }, { on := 0, ground := Ground.phase }, { on := 1, ground := Ground.phase }, { on := 2, ground := Ground.phase }, { on := 3, ground := Ground.phase }, { on := 4, ground := Ground.phase }, { on := 5, ground := Ground.phase }, { on := 6, ground := Ground.phase }, { on := 7, ground := Ground.phase }, { on := 8, ground := Ground.phase }, { on := 9, ground := Ground.phase }, { on := 10, ground := Ground.phase }, { on := 11, ground := Ground.phase }, { on := 12, ground := Ground.phase }, { on := 13, ground := Ground.phase }, { on := 14, ground := Ground.phase }, { on := 15, ground := Ground.phase }, { on := 16, ground := Ground.phase }], guard := none }) (v := ?_) rfl (by kernel_rfl) (by kernel_rfl) (by kernel_rfl) (fun _ _ _ h => h) (Or.inl ⟨by rfl, ?_⟩) (by assumption) ?_
      rotate_left
      · intro w hSw; (try dsimp only at hSw); go_simp; (try with_reducible rfl)
      try simp only [Act.put, List.setIfInBounds_toArray, List.set_cons_zero, List.set_cons_succ]
      refine wpAnyH_done (by kernel_rfl) ?_ _
      have HR := Lib.hid R4.swap
      clear R1 R2 R3 R4 T1 T2 T3 T4 HS
      go_wp2_with fail
      go_meet
      case rel => exact ⟨_, _, rfl, rfl, rfl, rfl, HR⟩
  case rest =>
    obtain ⟨ba, bb, rfl, rfl, rfl, rfl, HV0⟩ := hcut
    clear HV0_ HS r1 r2 r3 r4
    have K1 := Lib.hid (HV0.out.subl 0 1 rfl rfl Hge.out)
    have kba1 := HV0.out.cell 0 rfl
    have kbb1 := HV0.out.cell 1 rfl
    go_wp2_with fail
    refine K1.out.mono ?_
    rintro ε w11 ⟨rfl, V⟩
    replace V := V.alloc (.slice none 0 0)
    have HV1 := Lib.hid V
    clear V K1 HV0 kba1 kbb1
    have K2 := Lib.hid (HV1.out.dvm 1 2 rfl rfl Hz.out)
    have kba2 := HV1.out.cell 1 rfl
    have kbb2 := HV1.out.cell 2 rfl
    go_wp2_with fail
    refine K2.out.mono ?_
    rintro ε w12 ⟨xq, yq, zq, xm, ym, zm, rfl, V⟩
    replace V := V.alloc (.slice xq yq zq)
    replace V := V.alloc (.slice xm ym zm)
    rw [World.size_alloc] at V
    have HV2 := Lib.hid V
    clear V K2 HV1 kba2 kbb2
    have K3 := Lib.hid (HV2.out.cmp 3 4 rfl rfl HC.out)
    have kba3 := HV2.out.cell 3 rfl
    have kbb3 := HV2.out.cell 4 rfl
    go_wp2_with fail
    refine K3.out.mono ?_
    rintro ε w13 ⟨rfl, V⟩
    have HV3 := Lib.hid V
    clear V K3 HV2 kba3 kbb3
    have K4 := Lib.hid (HV3.out.rcmp 0 1 rfl rfl HC.out)
    go_wp2_with fail
    refine K4.out.mono ?_
    rintro ε w14 ⟨rfl, V⟩
    have HV4 := Lib.hid V
    clear V K4 HV3 
    have K5 := Lib.hid (HV4.out.add 3 4 rfl rfl H1.out.s)
    have kba5 := HV4.out.cell 3 rfl
    have kbb5 := HV4.out.cell 4 rfl
    go_wp2_with fail
    refine K5.out.mono ?_
    rintro ε w15 ⟨xs1, ys1, zs1, rfl, V⟩
    have HV5 := Lib.hid V
    clear V K5 HV4 kba5 kbb5
    have K6 := Lib.hid (HV5.out.radd 0 1 rfl rfl H2.out.s)
    go_wp2_with fail
    refine K6.out.mono ?_
    rintro ε w16 ⟨xs2, ys2, zs2, rfl, V⟩
    have HV6 := Lib.hid V
    clear V K6 HV5 
    have K7 := Lib.hid (HV6.out.same 0 0 rfl rfl HT1.out)
    go_wp2_with fail
    refine K7.out.mono ?_
    rintro ε w17 ⟨rfl, V⟩
    have HV7 := Lib.hid V
    clear V K7 HV6 
    have K8 := Lib.hid (HV7.out.mul 4 5 rfl rfl H1.out.p)
    have kba8 := HV7.out.cell 3 rfl
    have kbb8 := HV7.out.cell 4 rfl
    go_wp2_with fail
    refine K8.out.mono ?_
    rintro ε w18 ⟨xp1, yp1, zp1, rfl, V⟩
    have HV8 := Lib.hid V
    clear V K8 HV7 kba8 kbb8
    have K9 := Lib.hid (HV8.out.rmul 1 2 rfl rfl H2.out.p)
    go_wp2_with fail
    refine K9.out.mono ?_
    rintro ε w19 ⟨xp2, yp2, zp2, rfl, V⟩
    have HV9 := Lib.hid V
    clear V K9 HV8 
    have K10 := Lib.hid (HV9.out.same 0 0 rfl rfl HT1.out)
    go_wp2_with fail
    refine K10.out.mono ?_
    rintro ε w20 ⟨rfl, V⟩
    have HV10 := Lib.hid V
    clear V K10 HV9 
    have K11 := Lib.hid (HV10.out.gcd 5 6 rfl rfl H3.out.1 H3.out.2 HTb1.out H1.out.g)
    have kba11 := HV10.out.cell 3 rfl
    have kbb11 := HV10.out.cell 4 rfl
    go_wp2_with fail
    refine K11.out.mono ?_
    rintro ε w21 ⟨xg, yg, zg, rfl, V⟩
    have HV11 := Lib.hid V
    clear V K11 HV10 kba11 kbb11
    have K12 := Lib.hid (HV11.out.rgcd 2 3 rfl rfl H2.out.g)
    go_wp2_with fail
    refine K12.out.mono ?_
    rintro ε w22 ⟨xg2, yg2, zg2, rfl, V⟩
    have HV12 := Lib.hid V
    clear V K12 HV11 
    have K13 := Lib.hid (HV12.out.same 0 0 rfl rfl HT1.out)
    go_wp2_with fail
    refine K13.out.mono ?_
    rintro ε w23 ⟨rfl, V⟩
    have HV13 := Lib.hid V
    clear V K13 HV12 
    have K14 := Lib.hid (HV13.out.rcmp 3 4 rfl rfl HC.out)
    go_wp2_with fail
    refine K14.out.mono ?_
    rintro ε w24 ⟨rfl, V⟩
    have HV14 := Lib.hid V
    clear V K14 HV13 
    have V := HV14.out.below (below_drew2 _)
    go_wp2_with fail
    refine wp_region_held_drew (S := (fun w' => w'.cell? ⟨w11.heap.size, 0, none⟩ = some (.slice none 0 0))) (by kernel_rfl) ?_ (fun hHeld => ?_)
    · exact V.cell 2 rfl
    refine wpAnyH_take (i := 0) (oi := { dst := some 121, op := Op.move (Operand.tmp 13), type := 4, pos := "law.go:68", after := #[], guard := none }) (v := ?_) rfl (by kernel_rfl) (by kernel_rfl) (by kernel_rfl) (fun _ _ _ h => h) (Or.inl ⟨by rfl, ?_⟩) (by assumption) ?_
    rotate_left
    · intro w hSw; (try dsimp only at hSw); go_simp; (try with_reducible rfl)
    try simp only [Act.put, List.setIfInBounds_toArray, List.set_cons_zero, List.set_cons_succ]
    refine wpAnyH_take (i := 1) (oi := { dst := some 122, op := Op.move (Operand.tmp 121), type := 4, pos := "law.go:68", after := #[{ on := 0, ground := Ground.data }], guard := none }) (v := ?_) rfl (by kernel_rfl) (by kernel_rfl) (by kernel_rfl) (fun _ _ _ h => h) (Or.inl ⟨by rfl, ?_⟩) (by assumption) ?_
    rotate_left
    · intro w hSw; (try dsimp only at hSw); go_simp; (try with_reducible rfl)
    try simp only [Act.put, List.setIfInBounds_toArray, List.set_cons_zero, List.set_cons_succ]
    refine wpAnyH_take (i := 2) (oi := { dst := some 123, op := Op.load 30 (Operand.tmp 12), type := 30, pos := "law.go:68", after := #[{ on := 1, ground := Ground.guard }], guard := some (1, true) }) (v := undef) rfl (by kernel_rfl) (by kernel_rfl) (by kernel_rfl) (fun _ _ _ h => h) (Or.inr ⟨by rfl, rfl⟩) (by assumption) ?_
    try simp only [Act.put, List.setIfInBounds_toArray, List.set_cons_zero, List.set_cons_succ]
    refine wpAnyH_take (i := 3) (oi := { dst := some 124, op := Op.move (Operand.tmp 10), type := 32, pos := "law.go:68", after := #[{ on := 1, ground := Ground.guard }], guard := some (1, true) }) (v := undef) rfl (by kernel_rfl) (by kernel_rfl) (by kernel_rfl) (fun _ _ _ h => h) (Or.inr ⟨by rfl, rfl⟩) (by assumption) ?_
    try simp only [Act.put, List.setIfInBounds_toArray, List.set_cons_zero, List.set_cons_succ]
    refine wpAnyH_take (i := 4) (oi := { dst := some 125, op := Op.move (Operand.tmp 11), type := 32, pos := "law.go:68", after := #[{ on := 1, ground := Ground.guard }], guard := some (1, true) }) (v := undef) rfl (by kernel_rfl) (by kernel_rfl) (by kernel_rfl) (fun _ _ _ h => h) (Or.inr ⟨by rfl, rfl⟩) (by assumption) ?_
    try simp only [Act.put, List.setIfInBounds_toArray, List.set_cons_zero, List.set_cons_succ]
    refine wpAnyH_take (i := 5) (oi := { dst := some 126, op := Op.call { callee := Callee.value (Operand.func 19), args := #[Operand.tmp 124, Operand.tmp 125], argTypes := #[32, 32] }, type := 32, pos := "law.go:68", after := #[{ on := 3, ground := Ground.data }, { on := 4, ground := Ground.data }, { on := 1, ground := Ground.chain }, { on := 1, ground := Ground.guard }], guard := some (1, true) }) (v := undef) rfl (by kernel_rfl) (by kernel_rfl) (by kernel_rfl) (fun _ _ _ h => h) (Or.inr ⟨by rfl, rfl⟩) (by assumption) ?_
    try simp only [Act.put, List.setIfInBounds_toArray, List.set_cons_zero, List.set_cons_succ]
    refine wpAnyH_take (i := 6) (oi := { dst := some 127, op := Op.call { callee := Callee.value (Operand.func 12), args := #[Operand.tmp 123, Operand.tmp 126], argTypes := #[30, 32] }, type := 4, pos := "law.go:68", after := #[{ on := 2, ground := Ground.data }, { on := 5, ground := Ground.data }, { on := 5, ground := Ground.chain }, { on := 1, ground := Ground.guard }], guard := some (1, true) }) (v := undef) rfl (by kernel_rfl) (by kernel_rfl) (by kernel_rfl) (fun _ _ _ h => h) (Or.inr ⟨by rfl, rfl⟩) (by assumption) ?_
    try simp only [Act.put, List.setIfInBounds_toArray, List.set_cons_zero, List.set_cons_succ]
    refine wpAnyH_take (i := 7) (oi := { dst := some 128, op := Op.unOp UnOp.not 4 (Operand.tmp 127), type := 4, pos := "law.go:68", after := #[{ on := 6, ground := Ground.data }, { on := 1, ground := Ground.guard }], guard := some (1, true) }) (v := undef) rfl (by kernel_rfl) (by kernel_rfl) (by kernel_rfl) (fun _ _ _ h => h) (Or.inr ⟨by rfl, rfl⟩) (by assumption) ?_
    try simp only [Act.put, List.setIfInBounds_toArray, List.set_cons_zero, List.set_cons_succ]
    refine wpAnyH_take (i := 8) (oi := { dst := some 129, op := Op.pick (Operand.tmp 122) (Operand.tmp 128) (Operand.const (Value.bool false)), type := 4, pos := "law.go:68", after := #[{ on := 1, ground := Ground.data }, { on := 7, ground := Ground.data }], guard := none }) (v := ?_) rfl (by kernel_rfl) (by kernel_rfl) (by kernel_rfl) (fun _ _ _ h => h) (Or.inl ⟨by rfl, ?_⟩) (by assumption) ?_
    rotate_left
    · intro w hSw; (try dsimp only at hSw); go_simp; (try with_reducible rfl)
    try simp only [Act.put, List.setIfInBounds_toArray, List.set_cons_zero, List.set_cons_succ]
    refine wpAnyH_take (i := 9) (oi := { dst := some 130, op := Op.move (Operand.tmp 129), type := 4, pos := "law.go:68", after := #[{ on := 8, ground := Ground.data }, { on := 6, ground := Ground.chain }], guard := none }) (v := ?_) rfl (by kernel_rfl) (by kernel_rfl) (by kernel_rfl) (fun _ _ _ h => h) (Or.inl ⟨by rfl, ?_⟩) (by assumption) ?_
    rotate_left
    · intro w hSw; (try dsimp only at hSw); go_simp; (try with_reducible rfl)
    try simp only [Act.put, List.setIfInBounds_toArray, List.set_cons_zero, List.set_cons_succ]
    refine wpAnyH_take (i := 10) (oi := { dst := some 131, op := Op.move (Operand.tmp 13), type := 4, pos := "law.go:68", after := #[{ on := 9, ground := Ground.guard }], guard := some (9, false) }) (v := ?_) rfl (by kernel_rfl) (by kernel_rfl) (by kernel_rfl) (fun _ _ _ h => h) (Or.inl ⟨by rfl, ?_⟩) (by assumption) ?_
    rotate_left
    · intro w hSw; (try dsimp only at hSw); go_simp; (try with_reducible rfl)
    try simp only [Act.put, List.setIfInBounds_toArray, List.set_cons_zero, List.set_cons_succ]
    refine wpAnyH_take (i := 11) (oi := { dst := some 132, op := Op.unOp UnOp.not 4 (Operand.tmp 131), type := 4, pos := "law.go:68", after := #[{ on := 10, ground := Ground.data }, { on := 9, ground := Ground.guard }], guard := some (9, false) }) (v := ?_) rfl (by kernel_rfl) (by kernel_rfl) (by kernel_rfl) (fun _ _ _ h => h) (Or.inl ⟨by rfl, ?_⟩) (by assumption) ?_
    rotate_left
    · intro w hSw; (try dsimp only at hSw); go_simp; (try with_reducible rfl)
    try simp only [Act.put, List.setIfInBounds_toArray, List.set_cons_zero, List.set_cons_succ]
    refine wpAnyH_take (i := 12) (oi := { dst := some 133, op := Op.move (Operand.tmp 132), type := 4, pos := "law.go:68", after := #[{ on := 11, ground := Ground.data }, { on := 9, ground := Ground.chain }, { on := 9, ground := Ground.guard }], guard := some (9, false) }) (v := ?_) rfl (by kernel_rfl) (by kernel_rfl) (by kernel_rfl) (fun _ _ _ h => h) (Or.inl ⟨by rfl, ?_⟩) (by assumption) ?_
    rotate_left
    · intro w hSw; (try dsimp only at hSw); go_simp; (try with_reducible rfl)
    try simp only [Act.put, List.setIfInBounds_toArray, List.set_cons_zero, List.set_cons_succ]
    refine wpAnyH_take (i := 13) (oi := { dst := some 134, op := Op.load 30 (Operand.tmp 12), type := 30, pos := "law.go:68", after := #[{ on := 12, ground := Ground.guard }], guard := some (12, true) }) (v := ?_) rfl (by kernel_rfl) (by kernel_rfl) (by kernel_rfl) (fun _ _ _ h => h) (Or.inl ⟨by rfl, ?_⟩) (by assumption) ?_
    rotate_left
    · intro w hSw; (try dsimp only at hSw); go_simp; (try with_reducible rfl)
    try simp only [Act.put, List.setIfInBounds_toArray, List.set_cons_zero, List.set_cons_succ]
    refine wpAnyH_ready (rs := [14]) (by kernel_rfl) (by simp) ?_
    refine AllReadyH.cons (o := { dst := some 135, op := Op.call { callee := Callee.value (Operand.func 20), args := #[Operand.tmp 134], argTypes := #[30] }, type := 4, pos := "law.go:68", after := #[{ on := 13, ground := Ground.data }, { on := 12, ground := Ground.chain }, { on := 12, ground := Ground.guard }], guard := some (12, true) }) rfl (fun K hK => ?_) AllReadyH.nil
    go_simp
    go_at_call 20; refine (V.zero 5 rfl).mono ?_; rintro ε wr6 ⟨rfl, V6⟩; clear V
    refine hK.out _ _ ?_ (fun hHeld => ?_)
    · first | exact V6.cell 2 rfl | exact V5.cell 2 rfl
    clear hK K
    try simp only [Act.put, List.setIfInBounds_toArray, List.set_cons_zero, List.set_cons_succ]
    refine wpAnyH_take (i := 15) (oi := { dst := some 136, op := Op.unOp UnOp.not 4 (Operand.tmp 135), type := 4, pos := "law.go:68", after := #[{ on := 14, ground := Ground.data }, { on := 12, ground := Ground.guard }], guard := some (12, true) }) (v := ?_) rfl (by kernel_rfl) (by kernel_rfl) (by kernel_rfl) (fun _ _ _ h => h) (Or.inl ⟨by rfl, ?_⟩) (by assumption) ?_
    rotate_left
    · intro w hSw; (try dsimp only at hSw); go_simp; (try with_reducible rfl)
    try simp only [Act.put, List.setIfInBounds_toArray, List.set_cons_zero, List.set_cons_succ]
    refine wpAnyH_take (i := 16) (oi := { dst := some 137, op := Op.pick (Operand.tmp 133) (Operand.tmp 136) (Operand.const (Value.bool false)), type := 4, pos := "law.go:68", after := #[{ on := 12, ground := Ground.data }, { on := 15, ground := Ground.data }, { on := 9, ground := Ground.guard }], guard := some (9, false) }) (v := ?_) rfl (by kernel_rfl) (by kernel_rfl) (by kernel_rfl) (fun _ _ _ h => h) (Or.inl ⟨by rfl, ?_⟩) (by assumption) ?_
    rotate_left
    · intro w hSw; (try dsimp only at hSw); go_simp; (try with_reducible rfl)
    try simp only [Act.put, List.setIfInBounds_toArray, List.set_cons_zero, List.set_cons_succ]
    refine wpAnyH_take (i := 17) (oi := { dst := some 138, op := Op.pick (Operand.tmp 130) (Operand.const (Value.bool true)) (Operand.tmp 137), type := 4, pos := "law.go:68", after := #[{ on := 9, ground := Ground.data }, { on := 16, ground := Ground.data }], guard := none }) (v := ?_) rfl (by kernel_rfl) (by kernel_rfl) (by kernel_rfl) (fun _ _ _ h => h) (Or.inl ⟨by rfl, ?_⟩) (by assumption) ?_
    rotate_left
    · intro w hSw; (try dsimp only at hSw); go_simp; (try with_reducible rfl)
    try simp only [Act.put, List.setIfInBounds_toArray, List.set_cons_zero, List.set_cons_succ]
    refine wpAnyH_done (by kernel_rfl) ?_ _
    have HV14_ := Lib.hid V6
    clear V6 HV14
    have HV14 := HV14_
    clear HV14_
    have K15 := Lib.hid (HV14.out.rdvm 3 4 rfl rfl Hz.out)
    go_wp2_with fail
    refine K15.out.mono ?_
    rintro ε w25 ⟨xu, yu, zu, xv, yv, zv, rfl, V⟩
    have HV15 := Lib.hid V
    clear V K15 HV14 
    have K16 := Lib.hid (HV15.out.same 4 1 rfl rfl HT1.out)
    have kbq16 := HV15.out.cell 1 rfl
    go_wp2_with fail
    refine K16.out.mono ?_
    rintro ε w26 ⟨rfl, V⟩
    have HV16 := Lib.hid V
    clear V K16 HV15 kbq16
    have K17 := Lib.hid (HV16.out.same 3 0 rfl rfl HT1.out)
    have kbm17 := HV16.out.cell 0 rfl
    go_wp2_with fail
    refine K17.out.mono ?_
    rintro ε w27 ⟨rfl, V⟩
    have HV17 := Lib.hid V
    clear V K17 HV16 kbm17
    have K18 := Lib.hid (HV17.out.small 6 rfl Hfit.out)
    have kba18 := HV17.out.cell 3 rfl
    go_wp2_with fail
    refine K18.out.mono ?_
    rintro ε w28 ⟨rfl, V⟩
    have HV18 := Lib.hid V
    clear V K18 HV17 kba18
    have K19 := Lib.hid (HV18.out.bits 6 rfl HLB.out)
    have kba19 := HV18.out.cell 3 rfl
    go_wp2_with fail
    refine K19.out.mono ?_
    rintro ε w29 ⟨rfl, V⟩
    have HV19 := Lib.hid V
    clear V K19 HV18 kba19
    have K20 := Lib.hid (HV19.out.rbits 5 rfl HLen.out HLB.out)
    go_wp2_with fail
    refine K20.out.mono ?_
    rintro ε w30 ⟨rfl, V⟩
    have HV20 := Lib.hid V
    clear V K20 HV19 
    have K21 := Lib.hid (HV20.out.digits 6 rfl HT1.out HND.out)
    have kba21 := HV20.out.cell 3 rfl
    go_wp2_with fail
    refine K21.out.mono ?_
    rintro ε w31 ⟨rfl, V⟩
    have HV21 := Lib.hid V
    clear V K21 HV20 kba21
    have K22 := Lib.hid (HV21.out.rtext 5 rfl HT.out)
    go_wp2_with fail
    refine K22.out.mono ?_
    rintro ε w32 ⟨rfl, V⟩
    have HV22 := Lib.hid V
    clear V K22 HV21 
    have K23 := Lib.hid (HV22.out.nz 6 rfl HzB.out)
    have kba23 := HV22.out.cell 3 rfl
    go_wp2_with fail
    refine K23.out.mono ?_
    rintro ε w33 ⟨rfl, V⟩
    have HV23 := Lib.hid V
    clear V K23 HV22 kba23
    have K24 := Lib.hid (HV23.out.rbits 5 rfl HLen.out HLB.out)
    go_wp2_with fail
    refine K24.out.mono ?_
    rintro ε w34 ⟨rfl, V⟩
    have HV24 := Lib.hid V
    clear V K24 HV23 
    have K25 := Lib.hid (HV24.out.of Hfit.out)
    go_wp2_with fail
    refine K25.out.mono ?_
    rintro ε w35 ⟨xo, yo, zo, rfl, V⟩
    have HV25 := Lib.hid V
    clear V K25 HV24 
    have K26 := Lib.hid (HV25.out.same 0 5 rfl rfl HT1.out)
    go_wp2_with fail
    refine K26.out.mono ?_
    rintro ε w36 ⟨rfl, V⟩
    have HV26 := Lib.hid V
    clear V K26 HV25 
    go_wp2_with fail
    go_ret
    exact ⟨rfl, HB1.out.trans (HV26.out.bel.mono HB1.out.size)⟩
set_option maxRecDepth 100000 in
set_option maxHeartbeats 8000000 in
theorem natTells.plb (s t : ByteArray) (hs : s.size ≤ 250) (ht : t.size ≤ 250) (hz : 0 < nn t) (hge : nn s < nn t) (hfit : 18446744073709551616 ≤ nn s) (w : World) (htab : Tab w) (htb : TabB w) :
    Calls Tryd.prog 3 #[.string s, .string t] w fun e w' => e = .returned (.bool true) ∧ Below w.heap.size w w' := by
  have HAl := Lib.hid (alive_any w htab)
  have HTab := Lib.hid htab
  have HTb := Lib.hid htb
  have H1 := Lib.hid (tb_all 18446744073709551616 16 100 (by omega) (nn_w (s := s) (k := 16) (by omega)) (nn_w (s := t) (k := 16) (by omega)) (by omega) (by omega))
  have H2 := Lib.hid (tb_all 10000 63 200 (by omega) (nn_lt (s := s) (k := 63) (by omega)) (nn_lt (s := t) (k := 63) (by omega)) (by omega) (by omega))
  have H3 := Lib.hid (And.intro (nn_w (s := s) (k := 26) (by omega)) (nn_w (s := t) (k := 26) (by omega)))
  have H4 := Lib.hid (And.intro (nn_w (s := s) (k := 100) (by omega)) (nn_w (s := t) (k := 100) (by omega)))
  have H5 := Lib.hid (And.intro (pow_up 63 200 (nn_lt (s := s) (k := 63) (by omega)) (by omega)) (pow_up 63 200 (nn_lt (s := t) (k := 63) (by omega)) (by omega)))
  have HLen := Lib.hid (lenN (nn_w (s := s) (k := 16) (by omega)))
  have HNats : Hid (∀ w1, Below w.heap.size w w1 → _) := Lib.hid (fun w1 h => nats_two s t w1 (by omega) (by omega) (htab.below h (Nat.le_refl _)))
  obtain ⟨A, hA⟩ : ∃ A, nn s = A := ⟨_, rfl⟩
  obtain ⟨B, hB⟩ : ∃ B, nn t = B := ⟨_, rfl⟩
  rw [hA] at HLen hge hfit
  rw [hB] at hge hz
  rw [hA, hB] at H1 H2 H3 H4 H5
  simp only [hA, hB] at HNats
  obtain ⟨sz, hsz⟩ : ∃ sz, s.size = sz := ⟨_, rfl⟩
  obtain ⟨tz, htz⟩ : ∃ tz, t.size = tz := ⟨_, rfl⟩
  have c1 : ¬ (250 : Int) < (sz : Int) := by omega
  have c2 : ¬ (250 : Int) < (tz : Int) := by omega
  have c1b : decide ((250 : Int) < (sz : Int)) = false := by simp; omega
  have c2b : decide ((250 : Int) < (tz : Int)) = false := by simp; omega
  have Hz := Lib.hid hz
  have Hge := Lib.hid hge
  have Hfit := Lib.hid hfit
  obtain ⟨C, hC⟩ : ∃ C, cmpI A B = C := ⟨_, rfl⟩
  have hC0 : ¬ 0 ≤ C := by rw [← hC, cmpI_lt hge]; omega
  have hC0b : decide (0 ≤ C) = false := by simp; omega
  have hCC : (C != C) = false := by simp
  have HC := Lib.hid hC
  obtain ⟨LB, hLB⟩ : ∃ LB : Int, ((hlv A).length : Int) = LB := ⟨_, rfl⟩
  have HLB := Lib.hid hLB
  have hLL : (LB == LB) = true := by simp
  have hL64 : ¬ LB ≤ 64 := by rw [← hLB]; have := len_big (isLen_hlv A) hfit; omega
  have hL64b : decide (LB ≤ 64) = false := by simp; omega
  obtain ⟨T, hT⟩ : ∃ T : ByteArray, (⟨(Lib.decDigits A).toArray⟩ : ByteArray) = T := ⟨_, rfl⟩
  have HT := Lib.hid hT
  obtain ⟨ND, hND⟩ : ∃ ND : Int, ((Lib.nDigits A : Nat) : Int) = ND := ⟨_, rfl⟩
  have hTs : (T.size : Int) = ND := by rw [← hT, ← hND, ← Lib.decDigits_length]; rfl
  have HND := Lib.hid hND
  have hNN : (ND == ND) = true := by simp
  obtain ⟨zB, hzB⟩ : ∃ zB, decide (A = 0) = zB := ⟨_, rfl⟩
  have HzB := Lib.hid hzB
  have hzz : (zB == zB) = true := by simp
  clear hs ht htab htb hA hB hge hfit hC hLB hT hND hzB hz
  go_enter Tryd.func3, Tryd.ntmps3
  go_wp2_with fail
  refine HAl.out.mono ?_
  rintro ε w1 ⟨rfl, hb1⟩
  have HN1 := Lib.hid (HNats.out w1 hb1)
  have HB1 := Lib.hid hb1
  have HT1 := Lib.hid (HTab.out.below hb1 (Nat.le_refl _))
  have HTb1 := Lib.hid (HTb.out.below hb1 (Nat.le_refl _))
  clear hb1 HAl HNats
  go_wp2_with fail
  refine HN1.out.mono ?_
  rintro ε w2 ⟨ga, ca, gb, cb, xa, ya, za, xb, yb, zb, xc, yc, zc, xd, yd, zd, rfl, q1, q2, q3, q4, hNa, hNb, hRa, hRb, hbel, hca2, hcb2⟩
  have hxn := rn_form hRa
  obtain ⟨_, _, _, he1, _, hx0⟩ := hxn
  injection he1 with ee1 ee2 ee3
  subst ee2
  clear ee1 ee3
  have hyn := rn_form hRb
  obtain ⟨_, _, _, he2, _, hy0⟩ := hyn
  injection he2 with ff1 ff2 ff3
  subst ff2
  clear ff1 ff3
  have hxz : (((yc : Nat) : Int) == 0) = zB := zlen hx0 HzB.out
  have hyl : (0 : Int) < (yd : Int) := pos_of hy0 Hz.out
  have hylN : 0 < yd := by omega
  have hylN2 : decide (0 < yd) = true := by simp; omega
  have hxzN : (yc == 0) = zB := zlenN hx0 HzB.out
  have V0 : Ax w1 [] [(.agg #[.slice xa ya za], A), (.agg #[.slice xb yb zb], B)] [(.slice xc yc zc, A), (.slice xd yd zd, B)] w2 := ⟨hbel, fun k b v e => by simp at e, fun k v N e => by
      rcases k with _ | _ | k
      · simp at e; obtain ⟨rfl, rfl⟩ := e; exact ⟨hNa, H4.out.1⟩
      · simp at e; obtain ⟨rfl, rfl⟩ := e; exact ⟨hNb, H4.out.2⟩
      · simp at e, fun k v N e => by
      rcases k with _ | _ | k
      · simp at e; obtain ⟨rfl, rfl⟩ := e; exact ⟨hRa, H5.out.1⟩
      · simp at e; obtain ⟨rfl, rfl⟩ := e; exact ⟨hRb, H5.out.2⟩
      · simp at e⟩
  have HV0_ := Lib.hid V0
  have r1 : w2.drew.cell? ⟨ga, 0, none⟩ = some (.slice xa ya za) := q1
  have r2 : w2.drew.cell? ⟨ga, 1, none⟩ = some (.slice xb yb zb) := q2
  have r3 : w2.drew.cell? ⟨gb, 0, none⟩ = some (.slice xc yc zc) := q3
  have r4 : w2.drew.cell? ⟨gb, 1, none⟩ = some (.slice xd yd zd) := q4
  have HS : Hid (∀ W, Below w2.heap.size w2 W → W.cell? ⟨ga, 0, none⟩ = some (.slice xa ya za) ∧ W.cell? ⟨ga, 1, none⟩ = some (.slice xb yb zb) ∧ W.cell? ⟨gb, 0, none⟩ = some (.slice xc yc zc) ∧ W.cell? ⟨gb, 1, none⟩ = some (.slice xd yd zd)) := Lib.hid (fun W h => ⟨(h.cell (p := ⟨ga, 0, none⟩) (World.block_lt_of_cell? w2 ⟨ga, 0, none⟩ q1)).trans q1, (h.cell (p := ⟨ga, 1, none⟩) (World.block_lt_of_cell? w2 ⟨ga, 1, none⟩ q2)).trans q2, (h.cell (p := ⟨gb, 0, none⟩) (World.block_lt_of_cell? w2 ⟨gb, 0, none⟩ q3)).trans q3, (h.cell (p := ⟨gb, 1, none⟩) (World.block_lt_of_cell? w2 ⟨gb, 1, none⟩ q4)).trans q4⟩)
  have hsz1 := hbel.size
  clear hNa hNb hRa hRb hbel q1 q2 q3 q4 V0 HN1 hx0 hy0
  go_upto_region 6 with fail
  go_cut [8, 9, 10, 11] from 44 to 56 (fun p8 p9 s10 s11 wx => ∃ (ba bb : Nat), p8 = .pointer (some ⟨ba, 0, none⟩) ∧ p9 = .pointer (some ⟨bb, 0, none⟩) ∧ s10 = .slice xc yc zc ∧ s11 = .slice xd yd zd ∧ Hid (Ax w1 [(ba, .slice xa ya za), (bb, .slice xb yb zb)] [(.agg #[.slice xa ya za], A), (.agg #[.slice xb yb zb], B)] [(.slice xc yc zc, A), (.slice xd yd zd, B)] wx))
  case first =>
    have hd2 := below_drew2 w2
    go_wp2_with fail
    refine wp_region_held_drew (S := (fun w' => w'.cell? ⟨ga, 0, none⟩ = some (.slice xa ya za) ∧ w'.cell? ⟨ga, 1, none⟩ = some (.slice xb yb zb) ∧ w'.cell? ⟨gb, 0, none⟩ = some (.slice xc yc zc) ∧ w'.cell? ⟨gb, 1, none⟩ = some (.slice xd yd zd))) (by kernel_rfl) ?_ (fun hHeld => ?_)
    · exact ⟨r1, r2, r3, r4⟩
    refine wpAnyH_take (i := 0) (oi := { dst := some 44, op := Op.move (Operand.tmp 5), type := 23, pos := "law.go:62", after := #[], guard := none }) (v := ?_) rfl (by kernel_rfl) (by kernel_rfl) (by kernel_rfl) (fun _ _ _ h => h) (Or.inl ⟨by rfl, ?_⟩) (by assumption) ?_
    rotate_left
    · intro w hSw; (try dsimp only at hSw); go_simp; (try with_reducible rfl)
    try simp only [Act.put, List.setIfInBounds_toArray, List.set_cons_zero, List.set_cons_succ]
    refine wpAnyH_take (i := 1) (oi := { dst := some 45, op := Op.indexAddr 23 (Operand.tmp 44) (Operand.const (Value.int IntKind.i64 0)), type := 0, pos := "law.go:62", after := #[{ on := 0, ground := Ground.data }], guard := none }) (v := ?_) rfl (by kernel_rfl) (by kernel_rfl) (by kernel_rfl) (fun _ _ _ h => h) (Or.inl ⟨by rfl, ?_⟩) (by assumption) ?_
    rotate_left
    · intro w hSw; (try dsimp only at hSw); go_simp; (try with_reducible rfl)
    try simp only [Act.put, List.setIfInBounds_toArray, List.set_cons_zero, List.set_cons_succ]
    refine wpAnyH_take (i := 2) (oi := { dst := some 46, op := Op.load 30 (Operand.tmp 45), type := 30, pos := "law.go:62", after := #[{ on := 1, ground := Ground.data }], guard := none }) (v := ?_) rfl (by kernel_rfl) (by kernel_rfl) (by kernel_rfl) (fun _ _ _ h => h) (Or.inl ⟨by rfl, ?_⟩) (by assumption) ?_
    rotate_left
    · intro w hSw; (try dsimp only at hSw); go_simp; (try with_reducible rfl)
    try simp only [Act.put, List.setIfInBounds_toArray, List.set_cons_zero, List.set_cons_succ]
    refine wpAnyH_take (i := 3) (oi := { dst := some 47, op := Op.move (Operand.tmp 5), type := 23, pos := "law.go:62", after := #[{ on := 14, ground := Ground.gcOnly Departure.lateStores }], guard := none }) (v := ?_) rfl (by kernel_rfl) (by kernel_rfl) (by kernel_rfl) (fun _ _ _ h => h) (Or.inl ⟨by rfl, ?_⟩) (by assumption) ?_
    rotate_left
    · intro w hSw; (try dsimp only at hSw); go_simp; (try with_reducible rfl)
    try simp only [Act.put, List.setIfInBounds_toArray, List.set_cons_zero, List.set_cons_succ]
    refine wpAnyH_take (i := 4) (oi := { dst := some 48, op := Op.indexAddr 23 (Operand.tmp 47) (Operand.const (Value.int IntKind.i64 1)), type := 0, pos := "law.go:62", after := #[{ on := 3, ground := Ground.data }, { on := 14, ground := Ground.gcOnly Departure.lateStores }], guard := none }) (v := ?_) rfl (by kernel_rfl) (by kernel_rfl) (by kernel_rfl) (fun _ _ _ h => h) (Or.inl ⟨by rfl, ?_⟩) (by assumption) ?_
    rotate_left
    · intro w hSw; (try dsimp only at hSw); go_simp; (try with_reducible rfl)
    try simp only [Act.put, List.setIfInBounds_toArray, List.set_cons_zero, List.set_cons_succ]
    refine wpAnyH_take (i := 5) (oi := { dst := some 49, op := Op.load 30 (Operand.tmp 48), type := 30, pos := "law.go:62", after := #[{ on := 4, ground := Ground.data }, { on := 14, ground := Ground.gcOnly Departure.lateStores }], guard := none }) (v := ?_) rfl (by kernel_rfl) (by kernel_rfl) (by kernel_rfl) (fun _ _ _ h => h) (Or.inl ⟨by rfl, ?_⟩) (by assumption) ?_
    rotate_left
    · intro w hSw; (try dsimp only at hSw); go_simp; (try with_reducible rfl)
    try simp only [Act.put, List.setIfInBounds_toArray, List.set_cons_zero, List.set_cons_succ]
    refine wpAnyH_take (i := 6) (oi := { dst := some 50, op := Op.move (Operand.tmp 6), type := 24, pos := "law.go:62", after := #[{ on := 15, ground := Ground.gcOnly Departure.lateStores }], guard := none }) (v := ?_) rfl (by kernel_rfl) (by kernel_rfl) (by kernel_rfl) (fun _ _ _ h => h) (Or.inl ⟨by rfl, ?_⟩) (by assumption) ?_
    rotate_left
    · intro w hSw; (try dsimp only at hSw); go_simp; (try with_reducible rfl)
    try simp only [Act.put, List.setIfInBounds_toArray, List.set_cons_zero, List.set_cons_succ]
    refine wpAnyH_take (i := 7) (oi := { dst := some 51, op := Op.indexAddr 24 (Operand.tmp 50) (Operand.const (Value.int IntKind.i64 0)), type := 0, pos := "law.go:62", after := #[{ on := 6, ground := Ground.data }, { on := 15, ground := Ground.gcOnly Departure.lateStores }], guard := none }) (v := ?_) rfl (by kernel_rfl) (by kernel_rfl) (by kernel_rfl) (fun _ _ _ h => h) (Or.inl ⟨by rfl, ?_⟩) (by assumption) ?_
    rotate_left
    · intro w hSw; (try dsimp only at hSw); go_simp; (try with_reducible rfl)
    try simp only [Act.put, List.setIfInBounds_toArray, List.set_cons_zero, List.set_cons_succ]
    refine wpAnyH_take (i := 8) (oi := { dst := some 52, op := Op.load 32 (Operand.tmp 51), type := 32, pos := "law.go:62", after := #[{ on := 7, ground := Ground.data }, { on := 15, ground := Ground.gcOnly Departure.lateStores }], guard := none }) (v := ?_) rfl (by kernel_rfl) (by kernel_rfl) (by kernel_rfl) (fun _ _ _ h => h) (Or.inl ⟨by rfl, ?_⟩) (by assumption) ?_
    rotate_left
    · intro w hSw; (try dsimp only at hSw); go_simp; (try with_reducible rfl)
    try simp only [Act.put, List.setIfInBounds_toArray, List.set_cons_zero, List.set_cons_succ]
    refine wpAnyH_take (i := 9) (oi := { dst := some 53, op := Op.move (Operand.tmp 6), type := 24, pos := "law.go:62", after := #[{ on := 16, ground := Ground.gcOnly Departure.lateStores }], guard := none }) (v := ?_) rfl (by kernel_rfl) (by kernel_rfl) (by kernel_rfl) (fun _ _ _ h => h) (Or.inl ⟨by rfl, ?_⟩) (by assumption) ?_
    rotate_left
    · intro w hSw; (try dsimp only at hSw); go_simp; (try with_reducible rfl)
    try simp only [Act.put, List.setIfInBounds_toArray, List.set_cons_zero, List.set_cons_succ]
    refine wpAnyH_take (i := 10) (oi := { dst := some 54, op := Op.indexAddr 24 (Operand.tmp 53) (Operand.const (Value.int IntKind.i64 1)), type := 0, pos := "law.go:62", after := #[{ on := 9, ground := Ground.data }, { on := 16, ground := Ground.gcOnly Departure.lateStores }], guard := none }) (v := ?_) rfl (by kernel_rfl) (by kernel_rfl) (by kernel_rfl) (fun _ _ _ h => h) (Or.inl ⟨by rfl, ?_⟩) (by assumption) ?_
    rotate_left
    · intro w hSw; (try dsimp only at hSw); go_simp; (try with_reducible rfl)
    try simp only [Act.put, List.setIfInBounds_toArray, List.set_cons_zero, List.set_cons_succ]
    refine wpAnyH_take (i := 11) (oi := { dst := some 55, op := Op.load 32 (Operand.tmp 54), type := 32, pos := "law.go:62", after := #[{ on := 10, ground := Ground.data }, { on := 16, ground := Ground.gcOnly Departure.lateStores }], guard := none }) (v := ?_) rfl (by kernel_rfl) (by kernel_rfl) (by kernel_rfl) (fun _ _ _ h => h) (Or.inl ⟨by rfl, ?_⟩) (by assumption) ?_
    rotate_left
    · intro w hSw; (try dsimp only at hSw); go_simp; (try with_reducible rfl)
    try simp only [Act.put, List.setIfInBounds_toArray, List.set_cons_zero, List.set_cons_succ]
    refine wpAnyH_ready (rs := [12, 13]) (by kernel_rfl) (by simp) ?_
    refine (AllReadyH.cons (o := { dst := some 8, op := Op.alloc 30, type := 0, pos := "law.go:62", after := #[], guard := none }) rfl (fun K hK => ?_) (AllReadyH.cons (o := { dst := some 9, op := Op.alloc 30, type := 0, pos := "law.go:62", after := #[], guard := none }) rfl (fun K hK => ?_) AllReadyH.nil))
    · have R1 := HV0_.out.alloc (.slice none 0 0)
      have T1 := hd2.alloc hd2.size (.cells #[.slice none 0 0] 30)
      go_wp2_with fail
      refine hK.out _ _ ?_ (fun hHeld => ?_)
      · exact HS.out _ T1
      clear hK K
      try simp only [Act.put, List.setIfInBounds_toArray, List.set_cons_zero, List.set_cons_succ]
      refine wpAnyH_ready (rs := [13]) (by kernel_rfl) (by simp) ?_
      refine (AllReadyH.cons (o := { dst := some 9, op := Op.alloc 30, type := 0, pos := "law.go:62", after := #[], guard := none }) rfl (fun K hK => ?_) AllReadyH.nil)
      have R2 := (R1.alloc (.slice none 0 0)).below (below_drew2 _)
      rw [World.size_alloc] at R2
      have T2 := T1.alloc T1.size (.cells #[.slice none 0 0] 30)
      go_wp2_with fail
      refine hK.out _ _ ?_ (fun hHeld => ?_)
      · exact HS.out _ T2
      clear hK K
      try simp only [Act.put, List.setIfInBounds_toArray, List.set_cons_zero, List.set_cons_succ]
      refine wpAnyH_ready (rs := [14]) (by kernel_rfl) (by simp) ?_
      refine (AllReadyH.cons (o := { dst := none, op := Op.store 30 (Operand.tmp 8) (Operand.tmp 46), type := 0, pos := "law.go:62", after := #[{ on := 12, ground := Ground.data }, { on := 2, ground := Ground.data }, { on := 0, ground := Ground.phase }, { on := 1, ground := Ground.phase }, { on := 2, ground := Ground.phase }, { on := 3, ground := Ground.textOnly Departure.lateStores }, { on := 4, ground := Ground.textOnly Departure.lateStores }, { on := 5, ground := Ground.textOnly Departure.lateStores }, { on := 6, ground := Ground.textOnly Departure.lateStores }, { on := 7, ground := Ground.textOnly Departure.lateStores }, { on := 8, ground := Ground.textOnly Departure.lateStores }, { on := 9, ground := Ground.textOnly Departure.lateStores }, { on := 10, ground := Ground.textOnly Departure.lateStores }, { on := 11, ground := Ground.textOnly Departure.lateStores }, { on := 12, ground := Ground.phase }, { on := 13, ground := Ground.phase }], guard := none }) rfl (fun K hK => ?_) AllReadyH.nil)
      have R3 := R2.swap.set2 (by omega) (by omega) (.slice xa ya za)
      have T3 := T2.setCell (p := ⟨w2.heap.size, 0, none⟩) (by simp) (.slice xa ya za)
      have B3 := R2.swap.box 0 _ _ rfl
      refine if_wanted rfl ?_
      refine wp_store_box (Operand.tmp 8) (Operand.tmp 46) rfl rfl _ (.slice none 0 0) rfl rfl B3 ?_
      refine hK.out _ _ ?_ (fun hHeld => ?_)
      · exact HS.out _ T3
      clear hK K
      try simp only [Act.put, List.setIfInBounds_toArray, List.set_cons_zero, List.set_cons_succ]
      refine wpAnyH_ready (rs := [15]) (by kernel_rfl) (by simp) ?_
      refine (AllReadyH.cons (o := { dst := none, op := Op.store 30 (Operand.tmp 9) (Operand.tmp 49), type := 0, pos := "law.go:62", after := #[{ on := 13, ground := Ground.data }, { on := 5, ground := Ground.data }, { on := 14, ground := Ground.chain }, { on := 0, ground := Ground.phase }, { on := 1, ground := Ground.phase }, { on := 2, ground := Ground.phase }, { on := 3, ground := Ground.phase }, { on := 4, ground := Ground.phase }, { on := 5, ground := Ground.phase }, { on := 6, ground := Ground.textOnly Departure.lateStores }, { on := 7, ground := Ground.textOnly Departure.lateStores }, { on := 8, ground := Ground.textOnly Departure.lateStores }, { on := 9, ground := Ground.textOnly Departure.lateStores }, { on := 10, ground := Ground.textOnly Departure.lateStores }, { on := 11, ground := Ground.textOnly Departure.lateStores }, { on := 12, ground := Ground.phase }, { on := 13, ground := Ground.phase }, { on := 14, ground := Ground.phase }], guard := none }) rfl (fun K hK => ?_) AllReadyH.nil)
      have R4 := R3.swap.set2 (by omega) (by omega) (.slice xb yb zb)
      have T4 := T3.setCell (p := ⟨w2.heap.size + 1, 0, none⟩) (by simp) (.slice xb yb zb)
      have B4 := R3.swap.box 0 _ _ rfl
      refine if_wanted rfl ?_
      refine wp_store_box (Operand.tmp 9) (Operand.tmp 49) rfl rfl _ (.slice none 0 0) rfl rfl B4 ?_
      refine hK.out _ _ ?_ (fun hHeld => ?_)
      · exact HS.out _ T4
      clear hK K
      try simp only [Act.put, List.setIfInBounds_toArray, List.set_cons_zero, List.set_cons_succ]
      refine wpAnyH_take (i := 16) (oi := { dst := some 10, op := Op.assign (Operand.tmp 52), type := 32, pos := "law.go:62", after := #[{ on := 8, ground := Ground.data }, { on := 15, ground := Ground.chain }, { on := 0, ground := Ground.phase }, { on := 1, ground := Ground.phase }, { on := 2, ground := Ground.phase }, { on := 3, ground := Ground.phase }, { on := 4, ground := Ground.phase }, { on := 5, ground := Ground.phase }, { on := 6, ground := Ground.phase }, { on := 7, ground := Ground.phase }, { on := 8, ground := Ground.phase }, { on := 9, ground := Ground.textOnly Departure.lateStores }, { on := 10, ground := Ground.textOnly Departure.lateStores }, { on := 11, ground := Ground.textOnly Departure.lateStores }, { on := 12, ground := Ground.phase }, { on := 13, ground := Ground.phase }, { on := 14, ground := Ground.phase }, { on := 15, ground := Ground.phase }], guard := none }) (v := ?_) rfl (by kernel_rfl) (by kernel_rfl) (by kernel_rfl) (fun _ _ _ h => h) (Or.inl ⟨by rfl, ?_⟩) (by assumption) ?_
      rotate_left
      · intro w hSw; (try dsimp only at hSw); go_simp; (try with_reducible rfl)
      try simp only [Act.put, List.setIfInBounds_toArray, List.set_cons_zero, List.set_cons_succ]
      refine wpAnyH_take (i := 17) (oi := { dst := some 11, op := Op.assign (Operand.tmp 55), type := 32, pos := "law.go:62", after := #[{ on := 11, ground := Ground.data }, { on := 16, ground := Ground.chain }, { on := 0, ground := Ground.phase }, { on := 1, ground := Ground.phase }, { on := 2, ground := Ground.phase }, { on := 3, ground := Ground.phase }, { on := 4, ground := Ground.phase }, { on := 5, ground := Ground.phase }, { on := 6, ground := Ground.phase }, { on := 7, ground := Ground.phase }, { on := 8, ground := Ground.phase }, { on := 9, ground := Ground.phase }, { on := 10, ground := Ground.phase }, { on := 11, ground := Ground.phase }, { on := 12, ground := Ground.phase }, { on := 13, ground := Ground.phase }, { on := 14, ground := Ground.phase }, { on := 15, ground := Ground.phase }, { on := 16, ground := Ground.phase }], guard := none }) (v := ?_) rfl (by kernel_rfl) (by kernel_rfl) (by kernel_rfl) (fun _ _ _ h => h) (Or.inl ⟨by rfl, ?_⟩) (by assumption) ?_
      rotate_left
      · intro w hSw; (try dsimp only at hSw); go_simp; (try with_reducible rfl)
      try simp only [Act.put, List.setIfInBounds_toArray, List.set_cons_zero, List.set_cons_succ]
      refine wpAnyH_done (by kernel_rfl) ?_ _
      have HR := Lib.hid R4.swap
      clear R1 R2 R3 R4 T1 T2 T3 T4 HS
      go_wp2_with fail
      go_meet
      case rel => exact ⟨_, _, rfl, rfl, rfl, rfl, HR⟩
    · have R1 := HV0_.out.alloc (.slice none 0 0)
      have T1 := hd2.alloc hd2.size (.cells #[.slice none 0 0] 30)
      go_wp2_with fail
      refine hK.out _ _ ?_ (fun hHeld => ?_)
      · exact HS.out _ T1
      clear hK K
      try simp only [Act.put, List.setIfInBounds_toArray, List.set_cons_zero, List.set_cons_succ]
      refine wpAnyH_ready (rs := [12]) (by kernel_rfl) (by simp) ?_
      refine (AllReadyH.cons (o := { dst := some 8, op := Op.alloc 30, type := 0, pos := "law.go:62", after := #[], guard := none }) rfl (fun K hK => ?_) AllReadyH.nil)
      have R2 := (R1.alloc (.slice none 0 0)).below (below_drew2 _)
      rw [World.size_alloc] at R2
      have T2 := T1.alloc T1.size (.cells #[.slice none 0 0] 30)
      go_wp2_with fail
      refine hK.out _ _ ?_ (fun hHeld => ?_)
      · exact HS.out _ T2
      clear hK K
      try simp only [Act.put, List.setIfInBounds_toArray, List.set_cons_zero, List.set_cons_succ]
      refine wpAnyH_ready (rs := [14]) (by kernel_rfl) (by simp) ?_
      refine (AllReadyH.cons (o := { dst := none, op := Op.store 30 (Operand.tmp 8) (Operand.tmp 46), type := 0, pos := "law.go:62", after := #[{ on := 12, ground := Ground.data }, { on := 2, ground := Ground.data }, { on := 0, ground := Ground.phase }, { on := 1, ground := Ground.phase }, { on := 2, ground := Ground.phase }, { on := 3, ground := Ground.textOnly Departure.lateStores }, { on := 4, ground := Ground.textOnly Departure.lateStores }, { on := 5, ground := Ground.textOnly Departure.lateStores }, { on := 6, ground := Ground.textOnly Departure.lateStores }, { on := 7, ground := Ground.textOnly Departure.lateStores }, { on := 8, ground := Ground.textOnly Departure.lateStores }, { on := 9, ground := Ground.textOnly Departure.lateStores }, { on := 10, ground := Ground.textOnly Departure.lateStores }, { on := 11, ground := Ground.textOnly Departure.lateStores }, { on := 12, ground := Ground.phase }, { on := 13, ground := Ground.phase }], guard := none }) rfl (fun K hK => ?_) AllReadyH.nil)
      have R3 := R2.set2 (by omega) (by omega) (.slice xa ya za)
      have T3 := T2.setCell (p := ⟨w2.heap.size + 1, 0, none⟩) (by simp) (.slice xa ya za)
      have B3 := R2.box 0 _ _ rfl
      refine if_wanted rfl ?_
      refine wp_store_box (Operand.tmp 8) (Operand.tmp 46) rfl rfl _ (.slice none 0 0) rfl rfl B3 ?_
      refine hK.out _ _ ?_ (fun hHeld => ?_)
      · exact HS.out _ T3
      clear hK K
      try simp only [Act.put, List.setIfInBounds_toArray, List.set_cons_zero, List.set_cons_succ]
      refine wpAnyH_ready (rs := [15]) (by kernel_rfl) (by simp) ?_
      refine (AllReadyH.cons (o := { dst := none, op := Op.store 30 (Operand.tmp 9) (Operand.tmp 49), type := 0, pos := "law.go:62", after := #[{ on := 13, ground := Ground.data }, { on := 5, ground := Ground.data }, { on := 14, ground := Ground.chain }, { on := 0, ground := Ground.phase }, { on := 1, ground := Ground.phase }, { on := 2, ground := Ground.phase }, { on := 3, ground := Ground.phase }, { on := 4, ground := Ground.phase }, { on := 5, ground := Ground.phase }, { on := 6, ground := Ground.textOnly Departure.lateStores }, { on := 7, ground := Ground.textOnly Departure.lateStores }, { on := 8, ground := Ground.textOnly Departure.lateStores }, { on := 9, ground := Ground.textOnly Departure.lateStores }, { on := 10, ground := Ground.textOnly Departure.lateStores }, { on := 11, ground := Ground.textOnly Departure.lateStores }, { on := 12, ground := Ground.phase }, { on := 13, ground := Ground.phase }, { on := 14, ground := Ground.phase }], guard := none }) rfl (fun K hK => ?_) AllReadyH.nil)
      have R4 := R3.swap.set2 (by omega) (by omega) (.slice xb yb zb)
      have T4 := T3.setCell (p := ⟨w2.heap.size, 0, none⟩) (by simp) (.slice xb yb zb)
      have B4 := R3.swap.box 0 _ _ rfl
      refine if_wanted rfl ?_
      refine wp_store_box (Operand.tmp 9) (Operand.tmp 49) rfl rfl _ (.slice none 0 0) rfl rfl B4 ?_
      refine hK.out _ _ ?_ (fun hHeld => ?_)
      · exact HS.out _ T4
      clear hK K
      try simp only [Act.put, List.setIfInBounds_toArray, List.set_cons_zero, List.set_cons_succ]
      refine wpAnyH_take (i := 16) (oi := { dst := some 10, op := Op.assign (Operand.tmp 52), type := 32, pos := "law.go:62", after := #[{ on := 8, ground := Ground.data }, { on := 15, ground := Ground.chain }, { on := 0, ground := Ground.phase }, { on := 1, ground := Ground.phase }, { on := 2, ground := Ground.phase }, { on := 3, ground := Ground.phase }, { on := 4, ground := Ground.phase }, { on := 5, ground := Ground.phase }, { on := 6, ground := Ground.phase }, { on := 7, ground := Ground.phase }, { on := 8, ground := Ground.phase }, { on := 9, ground := Ground.textOnly Departure.lateStores }, { on := 10, ground := Ground.textOnly Departure.lateStores }, { on := 11, ground := Ground.textOnly Departure.lateStores }, { on := 12, ground := Ground.phase }, { on := 13, ground := Ground.phase }, { on := 14, ground := Ground.phase }, { on := 15, ground := Ground.phase }], guard := none }) (v := ?_) rfl (by kernel_rfl) (by kernel_rfl) (by kernel_rfl) (fun _ _ _ h => h) (Or.inl ⟨by rfl, ?_⟩) (by assumption) ?_
      rotate_left
      · intro w hSw; (try dsimp only at hSw); go_simp; (try with_reducible rfl)
      try simp only [Act.put, List.setIfInBounds_toArray, List.set_cons_zero, List.set_cons_succ]
      refine wpAnyH_take (i := 17) (oi := { dst := some 11, op := Op.assign (Operand.tmp 55), type := 32, pos := "law.go:62", after := #[{ on := 11, ground := Ground.data }, { on := 16, ground := Ground.chain }, { on := 0, ground := Ground.phase }, { on := 1, ground := Ground.phase }, { on := 2, ground := Ground.phase }, { on := 3, ground := Ground.phase }, { on := 4, ground := Ground.phase }, { on := 5, ground := Ground.phase }, { on := 6, ground := Ground.phase }, { on := 7, ground := Ground.phase }, { on := 8, ground := Ground.phase }, { on := 9, ground := Ground.phase }, { on := 10, ground := Ground.phase }, { on := 11, ground := Ground.phase }, { on := 12, ground := Ground.phase }, { on := 13, ground := Ground.phase }, { on := 14, ground := Ground.phase }, { on := 15, ground := Ground.phase }, { on := 16, ground := Ground.phase }], guard := none }) (v := ?_) rfl (by kernel_rfl) (by kernel_rfl) (by kernel_rfl) (fun _ _ _ h => h) (Or.inl ⟨by rfl, ?_⟩) (by assumption) ?_
      rotate_left
      · intro w hSw; (try dsimp only at hSw); go_simp; (try with_reducible rfl)
      try simp only [Act.put, List.setIfInBounds_toArray, List.set_cons_zero, List.set_cons_succ]
      refine wpAnyH_done (by kernel_rfl) ?_ _
      have HR := Lib.hid R4.swap
      clear R1 R2 R3 R4 T1 T2 T3 T4 HS
      go_wp2_with fail
      go_meet
      case rel => exact ⟨_, _, rfl, rfl, rfl, rfl, HR⟩
  case rest =>
    obtain ⟨ba, bb, rfl, rfl, rfl, rfl, HV0⟩ := hcut
    clear HV0_ HS r1 r2 r3 r4
    have K1 := Lib.hid (HV0.out.subl 0 1 rfl rfl Hge.out)
    have kba1 := HV0.out.cell 0 rfl
    have kbb1 := HV0.out.cell 1 rfl
    go_wp2_with fail
    refine K1.out.mono ?_
    rintro ε w11 ⟨rfl, V⟩
    replace V := V.alloc (.slice none 0 0)
    have HV1 := Lib.hid V
    clear V K1 HV0 kba1 kbb1
    have K2 := Lib.hid (HV1.out.dvm 1 2 rfl rfl Hz.out)
    have kba2 := HV1.out.cell 1 rfl
    have kbb2 := HV1.out.cell 2 rfl
    go_wp2_with fail
    refine K2.out.mono ?_
    rintro ε w12 ⟨xq, yq, zq, xm, ym, zm, rfl, V⟩
    replace V := V.alloc (.slice xq yq zq)
    replace V := V.alloc (.slice xm ym zm)
    rw [World.size_alloc] at V
    have HV2 := Lib.hid V
    clear V K2 HV1 kba2 kbb2
    have K3 := Lib.hid (HV2.out.cmp 3 4 rfl rfl HC.out)
    have kba3 := HV2.out.cell 3 rfl
    have kbb3 := HV2.out.cell 4 rfl
    go_wp2_with fail
    refine K3.out.mono ?_
    rintro ε w13 ⟨rfl, V⟩
    have HV3 := Lib.hid V
    clear V K3 HV2 kba3 kbb3
    have K4 := Lib.hid (HV3.out.rcmp 0 1 rfl rfl HC.out)
    go_wp2_with fail
    refine K4.out.mono ?_
    rintro ε w14 ⟨rfl, V⟩
    have HV4 := Lib.hid V
    clear V K4 HV3 
    have K5 := Lib.hid (HV4.out.add 3 4 rfl rfl H1.out.s)
    have kba5 := HV4.out.cell 3 rfl
    have kbb5 := HV4.out.cell 4 rfl
    go_wp2_with fail
    refine K5.out.mono ?_
    rintro ε w15 ⟨xs1, ys1, zs1, rfl, V⟩
    have HV5 := Lib.hid V
    clear V K5 HV4 kba5 kbb5
    have K6 := Lib.hid (HV5.out.radd 0 1 rfl rfl H2.out.s)
    go_wp2_with fail
    refine K6.out.mono ?_
    rintro ε w16 ⟨xs2, ys2, zs2, rfl, V⟩
    have HV6 := Lib.hid V
    clear V K6 HV5 
    have K7 := Lib.hid (HV6.out.same 0 0 rfl rfl HT1.out)
    go_wp2_with fail
    refine K7.out.mono ?_
    rintro ε w17 ⟨rfl, V⟩
    have HV7 := Lib.hid V
    clear V K7 HV6 
    have K8 := Lib.hid (HV7.out.mul 4 5 rfl rfl H1.out.p)
    have kba8 := HV7.out.cell 3 rfl
    have kbb8 := HV7.out.cell 4 rfl
    go_wp2_with fail
    refine K8.out.mono ?_
    rintro ε w18 ⟨xp1, yp1, zp1, rfl, V⟩
    have HV8 := Lib.hid V
    clear V K8 HV7 kba8 kbb8
    have K9 := Lib.hid (HV8.out.rmul 1 2 rfl rfl H2.out.p)
    go_wp2_with fail
    refine K9.out.mono ?_
    rintro ε w19 ⟨xp2, yp2, zp2, rfl, V⟩
    have HV9 := Lib.hid V
    clear V K9 HV8 
    have K10 := Lib.hid (HV9.out.same 0 0 rfl rfl HT1.out)
    go_wp2_with fail
    refine K10.out.mono ?_
    rintro ε w20 ⟨rfl, V⟩
    have HV10 := Lib.hid V
    clear V K10 HV9 
    have K11 := Lib.hid (HV10.out.gcd 5 6 rfl rfl H3.out.1 H3.out.2 HTb1.out H1.out.g)
    have kba11 := HV10.out.cell 3 rfl
    have kbb11 := HV10.out.cell 4 rfl
    go_wp2_with fail
    refine K11.out.mono ?_
    rintro ε w21 ⟨xg, yg, zg, rfl, V⟩
    have HV11 := Lib.hid V
    clear V K11 HV10 kba11 kbb11
    have K12 := Lib.hid (HV11.out.rgcd 2 3 rfl rfl H2.out.g)
    go_wp2_with fail
    refine K12.out.mono ?_
    rintro ε w22 ⟨xg2, yg2, zg2, rfl, V⟩
    have HV12 := Lib.hid V
    clear V K12 HV11 
    have K13 := Lib.hid (HV12.out.same 0 0 rfl rfl HT1.out)
    go_wp2_with fail
    refine K13.out.mono ?_
    rintro ε w23 ⟨rfl, V⟩
    have HV13 := Lib.hid V
    clear V K13 HV12 
    have K14 := Lib.hid (HV13.out.rcmp 3 4 rfl rfl HC.out)
    go_wp2_with fail
    refine K14.out.mono ?_
    rintro ε w24 ⟨rfl, V⟩
    have HV14 := Lib.hid V
    clear V K14 HV13 
    have V := HV14.out.below (below_drew2 _)
    go_wp2_with fail
    refine wp_region_held_drew (S := (fun w' => w'.cell? ⟨w11.heap.size, 0, none⟩ = some (.slice none 0 0))) (by kernel_rfl) ?_ (fun hHeld => ?_)
    · exact V.cell 2 rfl
    refine wpAnyH_take (i := 0) (oi := { dst := some 121, op := Op.move (Operand.tmp 13), type := 4, pos := "law.go:68", after := #[], guard := none }) (v := ?_) rfl (by kernel_rfl) (by kernel_rfl) (by kernel_rfl) (fun _ _ _ h => h) (Or.inl ⟨by rfl, ?_⟩) (by assumption) ?_
    rotate_left
    · intro w hSw; (try dsimp only at hSw); go_simp; (try with_reducible rfl)
    try simp only [Act.put, List.setIfInBounds_toArray, List.set_cons_zero, List.set_cons_succ]
    refine wpAnyH_take (i := 1) (oi := { dst := some 122, op := Op.move (Operand.tmp 121), type := 4, pos := "law.go:68", after := #[{ on := 0, ground := Ground.data }], guard := none }) (v := ?_) rfl (by kernel_rfl) (by kernel_rfl) (by kernel_rfl) (fun _ _ _ h => h) (Or.inl ⟨by rfl, ?_⟩) (by assumption) ?_
    rotate_left
    · intro w hSw; (try dsimp only at hSw); go_simp; (try with_reducible rfl)
    try simp only [Act.put, List.setIfInBounds_toArray, List.set_cons_zero, List.set_cons_succ]
    refine wpAnyH_take (i := 2) (oi := { dst := some 123, op := Op.load 30 (Operand.tmp 12), type := 30, pos := "law.go:68", after := #[{ on := 1, ground := Ground.guard }], guard := some (1, true) }) (v := undef) rfl (by kernel_rfl) (by kernel_rfl) (by kernel_rfl) (fun _ _ _ h => h) (Or.inr ⟨by rfl, rfl⟩) (by assumption) ?_
    try simp only [Act.put, List.setIfInBounds_toArray, List.set_cons_zero, List.set_cons_succ]
    refine wpAnyH_take (i := 3) (oi := { dst := some 124, op := Op.move (Operand.tmp 10), type := 32, pos := "law.go:68", after := #[{ on := 1, ground := Ground.guard }], guard := some (1, true) }) (v := undef) rfl (by kernel_rfl) (by kernel_rfl) (by kernel_rfl) (fun _ _ _ h => h) (Or.inr ⟨by rfl, rfl⟩) (by assumption) ?_
    try simp only [Act.put, List.setIfInBounds_toArray, List.set_cons_zero, List.set_cons_succ]
    refine wpAnyH_take (i := 4) (oi := { dst := some 125, op := Op.move (Operand.tmp 11), type := 32, pos := "law.go:68", after := #[{ on := 1, ground := Ground.guard }], guard := some (1, true) }) (v := undef) rfl (by kernel_rfl) (by kernel_rfl) (by kernel_rfl) (fun _ _ _ h => h) (Or.inr ⟨by rfl, rfl⟩) (by assumption) ?_
    try simp only [Act.put, List.setIfInBounds_toArray, List.set_cons_zero, List.set_cons_succ]
    refine wpAnyH_take (i := 5) (oi := { dst := some 126, op := Op.call { callee := Callee.value (Operand.func 19), args := #[Operand.tmp 124, Operand.tmp 125], argTypes := #[32, 32] }, type := 32, pos := "law.go:68", after := #[{ on := 3, ground := Ground.data }, { on := 4, ground := Ground.data }, { on := 1, ground := Ground.chain }, { on := 1, ground := Ground.guard }], guard := some (1, true) }) (v := undef) rfl (by kernel_rfl) (by kernel_rfl) (by kernel_rfl) (fun _ _ _ h => h) (Or.inr ⟨by rfl, rfl⟩) (by assumption) ?_
    try simp only [Act.put, List.setIfInBounds_toArray, List.set_cons_zero, List.set_cons_succ]
    refine wpAnyH_take (i := 6) (oi := { dst := some 127, op := Op.call { callee := Callee.value (Operand.func 12), args := #[Operand.tmp 123, Operand.tmp 126], argTypes := #[30, 32] }, type := 4, pos := "law.go:68", after := #[{ on := 2, ground := Ground.data }, { on := 5, ground := Ground.data }, { on := 5, ground := Ground.chain }, { on := 1, ground := Ground.guard }], guard := some (1, true) }) (v := undef) rfl (by kernel_rfl) (by kernel_rfl) (by kernel_rfl) (fun _ _ _ h => h) (Or.inr ⟨by rfl, rfl⟩) (by assumption) ?_
    try simp only [Act.put, List.setIfInBounds_toArray, List.set_cons_zero, List.set_cons_succ]
    refine wpAnyH_take (i := 7) (oi := { dst := some 128, op := Op.unOp UnOp.not 4 (Operand.tmp 127), type := 4, pos := "law.go:68", after := #[{ on := 6, ground := Ground.data }, { on := 1, ground := Ground.guard }], guard := some (1, true) }) (v := undef) rfl (by kernel_rfl) (by kernel_rfl) (by kernel_rfl) (fun _ _ _ h => h) (Or.inr ⟨by rfl, rfl⟩) (by assumption) ?_
    try simp only [Act.put, List.setIfInBounds_toArray, List.set_cons_zero, List.set_cons_succ]
    refine wpAnyH_take (i := 8) (oi := { dst := some 129, op := Op.pick (Operand.tmp 122) (Operand.tmp 128) (Operand.const (Value.bool false)), type := 4, pos := "law.go:68", after := #[{ on := 1, ground := Ground.data }, { on := 7, ground := Ground.data }], guard := none }) (v := ?_) rfl (by kernel_rfl) (by kernel_rfl) (by kernel_rfl) (fun _ _ _ h => h) (Or.inl ⟨by rfl, ?_⟩) (by assumption) ?_
    rotate_left
    · intro w hSw; (try dsimp only at hSw); go_simp; (try with_reducible rfl)
    try simp only [Act.put, List.setIfInBounds_toArray, List.set_cons_zero, List.set_cons_succ]
    refine wpAnyH_take (i := 9) (oi := { dst := some 130, op := Op.move (Operand.tmp 129), type := 4, pos := "law.go:68", after := #[{ on := 8, ground := Ground.data }, { on := 6, ground := Ground.chain }], guard := none }) (v := ?_) rfl (by kernel_rfl) (by kernel_rfl) (by kernel_rfl) (fun _ _ _ h => h) (Or.inl ⟨by rfl, ?_⟩) (by assumption) ?_
    rotate_left
    · intro w hSw; (try dsimp only at hSw); go_simp; (try with_reducible rfl)
    try simp only [Act.put, List.setIfInBounds_toArray, List.set_cons_zero, List.set_cons_succ]
    refine wpAnyH_take (i := 10) (oi := { dst := some 131, op := Op.move (Operand.tmp 13), type := 4, pos := "law.go:68", after := #[{ on := 9, ground := Ground.guard }], guard := some (9, false) }) (v := ?_) rfl (by kernel_rfl) (by kernel_rfl) (by kernel_rfl) (fun _ _ _ h => h) (Or.inl ⟨by rfl, ?_⟩) (by assumption) ?_
    rotate_left
    · intro w hSw; (try dsimp only at hSw); go_simp; (try with_reducible rfl)
    try simp only [Act.put, List.setIfInBounds_toArray, List.set_cons_zero, List.set_cons_succ]
    refine wpAnyH_take (i := 11) (oi := { dst := some 132, op := Op.unOp UnOp.not 4 (Operand.tmp 131), type := 4, pos := "law.go:68", after := #[{ on := 10, ground := Ground.data }, { on := 9, ground := Ground.guard }], guard := some (9, false) }) (v := ?_) rfl (by kernel_rfl) (by kernel_rfl) (by kernel_rfl) (fun _ _ _ h => h) (Or.inl ⟨by rfl, ?_⟩) (by assumption) ?_
    rotate_left
    · intro w hSw; (try dsimp only at hSw); go_simp; (try with_reducible rfl)
    try simp only [Act.put, List.setIfInBounds_toArray, List.set_cons_zero, List.set_cons_succ]
    refine wpAnyH_take (i := 12) (oi := { dst := some 133, op := Op.move (Operand.tmp 132), type := 4, pos := "law.go:68", after := #[{ on := 11, ground := Ground.data }, { on := 9, ground := Ground.chain }, { on := 9, ground := Ground.guard }], guard := some (9, false) }) (v := ?_) rfl (by kernel_rfl) (by kernel_rfl) (by kernel_rfl) (fun _ _ _ h => h) (Or.inl ⟨by rfl, ?_⟩) (by assumption) ?_
    rotate_left
    · intro w hSw; (try dsimp only at hSw); go_simp; (try with_reducible rfl)
    try simp only [Act.put, List.setIfInBounds_toArray, List.set_cons_zero, List.set_cons_succ]
    refine wpAnyH_take (i := 13) (oi := { dst := some 134, op := Op.load 30 (Operand.tmp 12), type := 30, pos := "law.go:68", after := #[{ on := 12, ground := Ground.guard }], guard := some (12, true) }) (v := ?_) rfl (by kernel_rfl) (by kernel_rfl) (by kernel_rfl) (fun _ _ _ h => h) (Or.inl ⟨by rfl, ?_⟩) (by assumption) ?_
    rotate_left
    · intro w hSw; (try dsimp only at hSw); go_simp; (try with_reducible rfl)
    try simp only [Act.put, List.setIfInBounds_toArray, List.set_cons_zero, List.set_cons_succ]
    refine wpAnyH_ready (rs := [14]) (by kernel_rfl) (by simp) ?_
    refine AllReadyH.cons (o := { dst := some 135, op := Op.call { callee := Callee.value (Operand.func 20), args := #[Operand.tmp 134], argTypes := #[30] }, type := 4, pos := "law.go:68", after := #[{ on := 13, ground := Ground.data }, { on := 12, ground := Ground.chain }, { on := 12, ground := Ground.guard }], guard := some (12, true) }) rfl (fun K hK => ?_) AllReadyH.nil
    go_simp
    go_at_call 20; refine (V.zero 5 rfl).mono ?_; rintro ε wr6 ⟨rfl, V6⟩; clear V
    refine hK.out _ _ ?_ (fun hHeld => ?_)
    · first | exact V6.cell 2 rfl | exact V5.cell 2 rfl
    clear hK K
    try simp only [Act.put, List.setIfInBounds_toArray, List.set_cons_zero, List.set_cons_succ]
    refine wpAnyH_take (i := 15) (oi := { dst := some 136, op := Op.unOp UnOp.not 4 (Operand.tmp 135), type := 4, pos := "law.go:68", after := #[{ on := 14, ground := Ground.data }, { on := 12, ground := Ground.guard }], guard := some (12, true) }) (v := ?_) rfl (by kernel_rfl) (by kernel_rfl) (by kernel_rfl) (fun _ _ _ h => h) (Or.inl ⟨by rfl, ?_⟩) (by assumption) ?_
    rotate_left
    · intro w hSw; (try dsimp only at hSw); go_simp; (try with_reducible rfl)
    try simp only [Act.put, List.setIfInBounds_toArray, List.set_cons_zero, List.set_cons_succ]
    refine wpAnyH_take (i := 16) (oi := { dst := some 137, op := Op.pick (Operand.tmp 133) (Operand.tmp 136) (Operand.const (Value.bool false)), type := 4, pos := "law.go:68", after := #[{ on := 12, ground := Ground.data }, { on := 15, ground := Ground.data }, { on := 9, ground := Ground.guard }], guard := some (9, false) }) (v := ?_) rfl (by kernel_rfl) (by kernel_rfl) (by kernel_rfl) (fun _ _ _ h => h) (Or.inl ⟨by rfl, ?_⟩) (by assumption) ?_
    rotate_left
    · intro w hSw; (try dsimp only at hSw); go_simp; (try with_reducible rfl)
    try simp only [Act.put, List.setIfInBounds_toArray, List.set_cons_zero, List.set_cons_succ]
    refine wpAnyH_take (i := 17) (oi := { dst := some 138, op := Op.pick (Operand.tmp 130) (Operand.const (Value.bool true)) (Operand.tmp 137), type := 4, pos := "law.go:68", after := #[{ on := 9, ground := Ground.data }, { on := 16, ground := Ground.data }], guard := none }) (v := ?_) rfl (by kernel_rfl) (by kernel_rfl) (by kernel_rfl) (fun _ _ _ h => h) (Or.inl ⟨by rfl, ?_⟩) (by assumption) ?_
    rotate_left
    · intro w hSw; (try dsimp only at hSw); go_simp; (try with_reducible rfl)
    try simp only [Act.put, List.setIfInBounds_toArray, List.set_cons_zero, List.set_cons_succ]
    refine wpAnyH_done (by kernel_rfl) ?_ _
    have HV14_ := Lib.hid V6
    clear V6 HV14
    have HV14 := HV14_
    clear HV14_
    have K15 := Lib.hid (HV14.out.rdvm 3 4 rfl rfl Hz.out)
    go_wp2_with fail
    refine K15.out.mono ?_
    rintro ε w25 ⟨xu, yu, zu, xv, yv, zv, rfl, V⟩
    have HV15 := Lib.hid V
    clear V K15 HV14 
    have K16 := Lib.hid (HV15.out.same 4 1 rfl rfl HT1.out)
    have kbq16 := HV15.out.cell 1 rfl
    go_wp2_with fail
    refine K16.out.mono ?_
    rintro ε w26 ⟨rfl, V⟩
    have HV16 := Lib.hid V
    clear V K16 HV15 kbq16
    have K17 := Lib.hid (HV16.out.same 3 0 rfl rfl HT1.out)
    have kbm17 := HV16.out.cell 0 rfl
    go_wp2_with fail
    refine K17.out.mono ?_
    rintro ε w27 ⟨rfl, V⟩
    have HV17 := Lib.hid V
    clear V K17 HV16 kbm17
    have K18 := Lib.hid (HV17.out.large 6 rfl Hfit.out)
    have kba18 := HV17.out.cell 3 rfl
    go_wp2_with fail
    refine K18.out.mono ?_
    rintro ε w28 ⟨rfl, V⟩
    have HV18 := Lib.hid V
    clear V K18 HV17 kba18
    have K19 := Lib.hid (HV18.out.bits 6 rfl HLB.out)
    have kba19 := HV18.out.cell 3 rfl
    go_wp2_with fail
    refine K19.out.mono ?_
    rintro ε w29 ⟨rfl, V⟩
    have HV19 := Lib.hid V
    clear V K19 HV18 kba19
    have K20 := Lib.hid (HV19.out.rbits 5 rfl HLen.out HLB.out)
    go_wp2_with fail
    refine K20.out.mono ?_
    rintro ε w30 ⟨rfl, V⟩
    have HV20 := Lib.hid V
    clear V K20 HV19 
    have K21 := Lib.hid (HV20.out.digits 6 rfl HT1.out HND.out)
    have kba21 := HV20.out.cell 3 rfl
    go_wp2_with fail
    refine K21.out.mono ?_
    rintro ε w31 ⟨rfl, V⟩
    have HV21 := Lib.hid V
    clear V K21 HV20 kba21
    have K22 := Lib.hid (HV21.out.rtext 5 rfl HT.out)
    go_wp2_with fail
    refine K22.out.mono ?_
    rintro ε w32 ⟨rfl, V⟩
    have HV22 := Lib.hid V
    clear V K22 HV21 
    have K23 := Lib.hid (HV22.out.nz 6 rfl HzB.out)
    have kba23 := HV22.out.cell 3 rfl
    go_wp2_with fail
    refine K23.out.mono ?_
    rintro ε w33 ⟨rfl, V⟩
    have HV23 := Lib.hid V
    clear V K23 HV22 kba23
    have K24 := Lib.hid (HV23.out.rbits 5 rfl HLen.out HLB.out)
    go_wp2_with fail
    refine K24.out.mono ?_
    rintro ε w34 ⟨rfl, V⟩
    have HV24 := Lib.hid V
    clear V K24 HV23 
    go_wp2_with fail
    go_ret
    exact ⟨rfl, HB1.out.trans (HV24.out.bel.mono HB1.out.size)⟩
end Go.Proofs.YtikbhcndgmanmaaDoor
