/-
  The walk of NatDigits: for every input it returns true, and leaves what lay in memory as it was.
-/
import Derived.Test.YtckllmlkhlaboaaDoorNNines
namespace Go.Proofs.YtckllmlkhlaboaaDoor
open Go.RowKit
set_option linter.unusedVariables false
theorem cat_list (b : UInt8) (s : ByteArray) : ((⟨#[b]⟩ : ByteArray) ++ s).data.toList = b :: s.data.toList := by
  rw [ByteArray.toList_data_append]; rfl
theorem parse_bad (s : ByteArray) (w : World) (hs : s.size ≤ maxLen) (h : ¬ WF s) : Calls Tryd.prog 7 #[.string s] w fun e w' => e = .returned (.tuple #[.agg #[.slice none 0 0], .int .i64 3]) ∧ Below w.heap.size w w' :=
  (parse_any s w hs).mono fun e w' ⟨h1, hb⟩ => ⟨by
    rcases h1 with ⟨h2, _⟩ | ⟨_, h2⟩ | ⟨h2, _⟩
    · exact absurd h2 h
    · exact h2
    · exact absurd h2 h, hb⟩
theorem parse_long (s : ByteArray) (w : World) (hs : s.size ≤ maxLen) (h : WF s) (hl : 1200 < s.size) : Calls Tryd.prog 7 #[.string s] w fun e w' => e = .returned (.tuple #[.agg #[.slice none 0 0], .int .i64 2]) ∧ Below w.heap.size w w' :=
  (parse_any s w hs).mono fun e w' ⟨h1, hb⟩ => ⟨by
    rcases h1 with ⟨_, h2, _⟩ | ⟨h2, _⟩ | ⟨_, _, h2⟩
    · omega
    · exact absurd h h2
    · exact h2, hb⟩
theorem parse_ok (s : ByteArray) (w : World) (h : WF s) (hl : s.size ≤ 1200) : Calls Tryd.prog 7 #[.string s] w fun e w' => ∃ x y z, e = .returned (.tuple #[.agg #[.slice x y z], .int .i64 0]) ∧ IsN w' (.agg #[.slice x y z]) (dv s.data.toList) ∧ Below w.heap.size w w' :=
  (parse_any s w (by unfold maxLen; omega)).mono fun e w' ⟨h1, hb⟩ => by
    rcases h1 with ⟨_, _, v, rfl, hN⟩ | ⟨h2, _⟩ | ⟨_, h2, _⟩
    · obtain ⟨x, y, z, rfl⟩ := isN_form hN
      exact ⟨x, y, z, rfl, hN, hb⟩
    · exact absurd h h2
    · omega
/-- The value v is a number of D digits. -/
def DigN (W : World) (v : Value) (D : Int) : Prop := ∃ N : Nat, IsN W v N ∧ ((Lib.nDigits N : Nat) : Int) = D
/-- What holds on throughout the last test: a, b are numbers of so many digits. -/
structure AtD (w w9 : World) (a b : Value) (A Bn : Nat) (Da Db : Int) (W : World) : Prop where
  na : IsN W a A
  nb : IsN W b Bn
  da : DigN W a Da
  db : DigN W b Db
  b0 : Below w.heap.size w W
  b9 : Below w9.heap.size w9 W
theorem AtD.below {w w9 : World} {a b : Value} {A Bn : Nat} {Da Db : Int} {W W' : World} (h : AtD w w9 a b A Bn Da Db W) (hb : Below W.heap.size W W') : AtD w w9 a b A Bn Da Db W' := by
  obtain ⟨h1, h2, ⟨N, h3, h3'⟩, ⟨M, h4, h4'⟩, h5, h6⟩ := h
  exact ⟨h1.below hb (Nat.le_refl _), h2.below hb (Nat.le_refl _), ⟨N, h3.below hb (Nat.le_refl _), h3'⟩, ⟨M, h4.below hb (Nat.le_refl _), h4'⟩, h5.trans (hb.mono h5.size), h6.trans (hb.mono h6.size)⟩
/-- The calls of the last test. -/
structure DigCalls (w w9 : World) (a b : Value) (A Bn : Nat) (Da Db : Int) (s : ByteArray) : Prop where
  text : ∀ W, AtD w w9 a b A Bn Da Db W → Calls Tryd.prog 9 #[a] W fun e w' => e = .returned (.string s) ∧ AtD w w9 a b A Bn Da Db w' ∧ DigN w' a Da ∧ DigN w' b Db
  digits : ∀ W v D, DigN W v D → AtD w w9 a b A Bn Da Db W → Calls Tryd.prog 10 #[v] W fun e w' => e = .returned (.int .i64 D) ∧ AtD w w9 a b A Bn Da Db w' ∧ DigN w' a Da ∧ DigN w' b Db
  one : ∀ W, AtD w w9 a b A Bn Da Db W → Calls Tryd.prog 12 #[.int .u64 1] W fun e w' => ∃ x y z, e = .returned (.agg #[.slice x y z]) ∧ IsN w' (.agg #[.slice x y z]) 1 ∧ AtD w w9 a b A Bn Da Db w' ∧ DigN w' a Da ∧ DigN w' b Db
  add : ∀ W v, IsN W v 1 → AtD w w9 a b A Bn Da Db W → Bn ≠ 0 → Bn < 18446744073709551616 ^ 9000 → Calls Tryd.prog 11 #[b, v] W fun e w' => ∃ x y z, e = .returned (.agg #[.slice x y z]) ∧ DigN w' (.agg #[.slice x y z]) ((Lib.nDigits (Bn + 1) : Nat) : Int) ∧ AtD w w9 a b A Bn Da Db w' ∧ DigN w' a Da ∧ DigN w' b Db
theorem big9 {k x : Nat} (h : k ≤ 1200) (hx : x ≤ 10 ^ k) : 10 ^ k - 1 < 18446744073709551616 ^ 9000 := by
  have h1 := ten_pow (n := k) (k := 75) (by omega)
  have h3 : 0 < 10 ^ k := Nat.pow_pos (by decide)
  exact Nat.lt_of_lt_of_le (Nat.sub_lt h3 (by decide)) (Nat.le_trans h1 (w64_mono (j := 75) (k := 9000) (by omega)))
theorem digCalls (w w9 : World) (a b : Value) (A Bn : Nat) (Da Db : Int) (s : ByteArray) (htab : Tab w) (hA : (⟨(Lib.decDigits A).toArray⟩ : ByteArray) = s) : DigCalls w w9 a b A Bn Da Db s where
  text W h := (text_any A a W h.na (htab.below h.b0 (Nat.le_refl _))).mono fun e w' h' => by
    have := h.below h'.2
    exact ⟨by rw [h'.1, hA], this, this.da, this.db⟩
  digits W v D hv h := by
    obtain ⟨N, hN, rfl⟩ := hv
    exact (digits_any N v W hN (htab.below h.b0 (Nat.le_refl _))).mono fun e w' h' => by
      have := h.below h'.2
      exact ⟨h'.1, this, this.da, this.db⟩
  one W h := (of_any 1 (by decide) W).mono fun e w' h' => by
    obtain ⟨x, y, z, h1, h2, h3⟩ := gaveV h'
    have := h.below h3
    exact ⟨x, y, z, h1, h2, this, this.da, this.db⟩
  add W v hv h hB hB2 := (add_big Bn 1 b v W h.nb hv hB2 (by decide) (by decide) hB).mono fun e w' h' => by
    obtain ⟨x, y, z, h1, h2, h3⟩ := gaveV h'
    have := h.below h3
    exact ⟨x, y, z, h1, ⟨_, h2, rfl⟩, this, this.da, this.db⟩
set_option maxRecDepth 100000 in
set_option maxHeartbeats 2000000 in
theorem natDigits.good (s : ByteArray) (m : Nat) (hwf : WF s) (hs3 : s.size ≤ 300) (hm : m ≤ 1300) (w : World) (htab : Tab w) :
    Calls Tryd.prog 3 #[.string s, .int .i64 (m : Int)] w fun e w' => e = .returned (.bool true) ∧ Below w.heap.size w w' := by
  have HAl := Lib.hid (alive_any w htab)
  have HT := Lib.hid htab
  have HWF := Lib.hid hwf
  obtain ⟨sz, hsz⟩ : ∃ sz, s.size = sz := ⟨_, rfl⟩
  have Hsz := Lib.hid hsz
  have c1 : ¬ (300 : Int) < (sz : Int) := by omega
  have c2 : ¬ (m : Int) < 0 := by omega
  have c3 : ¬ (1300 : Int) < (m : Int) := by omega
  have hs9 : sz ≤ 300 := by omega
  have HP0 : Hid (∀ W, Calls Tryd.prog 7 #[.string ({ data := #[48] } ++ s)] W fun e w' => e = .returned (.tuple #[.agg #[.slice none 0 0], .int .i64 3]) ∧ Below W.heap.size W w') := Lib.hid (fun W => parse_bad _ W (by rw [ByteArray.size_append, hsz]; unfold maxLen; show 1 + sz ≤ _; omega) (wf_zero s _ hwf (cat_list 48 s)))
  have HP1 : Hid (∀ W, Calls Tryd.prog 7 #[.string ({ data := #[45] } ++ s)] W fun e w' => e = .returned (.tuple #[.agg #[.slice none 0 0], .int .i64 3]) ∧ Below W.heap.size W w') := Lib.hid (fun W => parse_bad _ W (by rw [ByteArray.size_append, hsz]; unfold maxLen; show 1 + sz ≤ _; omega) (wf_sign s _ (cat_list 45 s)))
  clear hwf htab hs3
  go_enter Tryd.func3, Tryd.ntmps3
  go_wp2_with fail
  refine HAl.out.mono ?_
  rintro e w1 ⟨rfl, hb1⟩
  have HB1 := Lib.hid hb1
  clear hb1 HAl
  go_wp2_with fail
  refine (parse_ok s w1 HWF.out (by rw [Hsz.out]; omega)).mono ?_
  rintro e w2 ⟨x, y, z, rfl, hN2, hb2⟩
  obtain ⟨A, hA⟩ : ∃ A, dv s.data.toList = A := ⟨_, rfl⟩
  have HA := Lib.hid hA
  rw [hA] at hN2
  obtain ⟨W3, hW3⟩ : ∃ W3, w2.alloc (.cells #[.slice x y z] 25) = W3 := ⟨_, rfl⟩
  have hb3 : Below w2.heap.size w2 W3 := by rw [← hW3]; exact (Below.refl _ w2).alloc (Nat.le_refl _) _
  obtain ⟨ba, hba⟩ : ∃ ba, w2.heap.size = ba := ⟨_, rfl⟩
  have HK3 : Hid (Blk W3 ba 25 #[.slice x y z]) := Lib.hid (by rw [← hW3, ← hba]; exact Blk.new w2 _ _)
  have hb2' := HB1.out.trans (hb2.mono HB1.out.size)
  have HB3 := Lib.hid (hb2'.trans (hb3.mono hb2'.size))
  have HN3 := Lib.hid (hN2.below hb3 (Nat.le_refl _))
  clear hA hb2 hb3 hb2' hN2 HB1
  go_wp2_with fail
  refine (HP0.out W3).mono ?_
  rintro e w4 ⟨rfl, hb4⟩
  have hb5 : Below W3.heap.size W3 (w4.alloc (.cells #[.slice none 0 0] 25)) := hb4.alloc hb4.size _
  have HK5 := Lib.hid (HK3.out.below hb5 HK3.out.lt)
  have HN5 := Lib.hid (HN3.out.below hb5 (Nat.le_refl _))
  have HB5 := Lib.hid (HB3.out.trans (hb5.mono HB3.out.size))
  clear hb4 hb5 HB3 HN3 HK3 hW3
  go_wp2_with fail
  refine (HP1.out _).mono ?_
  rintro e w6 ⟨rfl, hb6⟩
  obtain ⟨W7, hW7⟩ : ∃ W7, w6.alloc (.cells #[.slice none 0 0] 25) = W7 := ⟨_, rfl⟩
  have hb7 := hb6.alloc hb6.size (.cells #[.slice none 0 0] 25)
  rw [hW7] at hb7
  have HK7 := Lib.hid (HK5.out.below hb7 HK5.out.lt)
  have HN7 := Lib.hid (HN5.out.below hb7 (Nat.le_refl _))
  have HB7 := Lib.hid (HB5.out.trans (hb7.mono HB5.out.size))
  have hs7 : W7.heap.size = w6.heap.size + 1 := by rw [← hW7]; simp
  have HW7 := Lib.hid hW7
  clear hb6 hb7 HB5 HN5 HK5 hW7
  go_wp2_with (at_make; rw [HW7.out]; refine make_b rfl (.tmp 58) rfl W7.heap.size _ _ m rfl rfl (by omega) (Nat.le_refl _) _ rfl ?_)
  intro W8 hr8 hb8
  obtain ⟨g, hg⟩ : ∃ g, w6.heap.size + 1 = g := ⟨_, rfl⟩
  rw [hg] at hr8 hb8
  try rw [hg]
  have HR8 := Lib.hid hr8
  have HB8 := Lib.hid hb8
  clear hr8 hb8
  go_wp2_with fail
  go_loopw [12] (fun iv wr => ∃ k : Nat, k ≤ m ∧ iv = .int .i64 (k : Int) ∧ Hid (wr.ownsRow g 5 1 (.slice (some ⟨g, 0, none⟩) m m) m (nin m k)) ∧ Hid (Below g W7 wr)) (fun iv _ => m - (intOf iv).toNat)
  case atStart => exact ⟨0, by omega, rfl, HR8, HB8⟩
  case round =>
    clear HR8 HB8
    obtain ⟨k, hk, rfl, hrow, hbel⟩ := hrel
    by_cases hlt : k < m
    · obtain ⟨hc, hf, hbg⟩ := rw_at hrow.out k hlt
      obtain ⟨cv, hcv⟩ : ∃ cv, (nin m k)[k]? = some cv := ⟨.int .u8 0, by
        unfold nin
        rw [List.getElem?_append_right (by rw [List.length_replicate]; exact Nat.le_refl _), List.length_replicate, Nat.sub_self, List.getElem?_replicate, if_pos (by omega)]⟩
      rw [hcv] at hc
      have hrow2 := Lib.hid (rw_set hrow.out k (.int .u8 57) hlt)
      rw [nin_step hlt] at hrow2
      have hbel2 := Lib.hid (hbel.out.setCell (p := ⟨g, k, none⟩) hbg (.int .u8 57))
      have hi0 : (0 : Int) ≤ (k : Int) := by omega
      have hi1 : (k : Int) < (m : Int) := by omega
      clear hrow hbel hcv
      go_wp2_with fail
      go_roundw
      case rel => exact ⟨k + 1, by omega, by go_num, hrow2, hbel2⟩
      case measure => simp [intOf]; omega
    · obtain rfl : k = m := by omega
      have hconv := nines_conv hrow.out
      have HA8 := Lib.hid hbel.out
      clear hrow hbel
      have hg7 : W7.heap.size ≤ g := by omega
      have hgw : w.heap.size ≤ g := Nat.le_trans HB7.out.size hg7
      have HB8' : Below w.heap.size w wr := HB7.out.trans (HA8.out.mono hgw)
      have HN8' := HN7.out.below HA8.out hg7
      have HK8' := HK7.out.below HA8.out (Nat.lt_of_lt_of_le HK7.out.lt hg7)
      by_cases hk0 : k = 0
      · subst hk0
        have hwf9 : ¬ WF (ninesB 0) := fun h => absurd h.ne (by decide)
        go_wp2_with fail
        refine (parse_bad _ wr (by decide) hwf9).mono ?_
        rintro e wq ⟨rfl, hbq⟩
        have hb9 : Below wr.heap.size wr (wq.alloc (.cells #[.slice none 0 0] 25)) := hbq.alloc hbq.size _
        have HB9 := Lib.hid (HB8'.trans (hb9.mono HB8'.size))
        have HA0 : AtD w (wq.alloc (.cells #[.slice none 0 0] 25)) (.agg #[.slice x y z]) (.agg #[.slice none 0 0]) A 0 (sz : Int) 1 (wq.alloc (.cells #[.slice none 0 0] 25)).drew := ⟨(HN8'.below hb9 (Nat.le_refl _)).drew, isN_zero _, ⟨A, (HN8'.below hb9 (Nat.le_refl _)).drew, by rw [← HA.out, HWF.out.digits, Hsz.out]⟩, ⟨0, isN_zero _, by rw [Lib.nDigits_small (by decide)]; rfl⟩, HB9.out.drew, (Below.refl _ _).drew⟩
        have q1 : (wq.alloc (.cells #[.slice none 0 0] 25)).drew.cell? ⟨ba, 0, none⟩ = some (.slice x y z) := (HK8'.below hb9 HK8'.lt).cell 0
        have HS : Hid (∀ W, AtD w (wq.alloc (.cells #[.slice none 0 0] 25)) (.agg #[.slice x y z]) (.agg #[.slice none 0 0]) A 0 (sz : Int) 1 W → W.cell? ⟨ba, 0, none⟩ = some (.slice x y z)) := Lib.hid (fun W h => ((HK8'.below hb9 HK8'.lt).below h.b9 (HK8'.below hb9 HK8'.lt).lt).cell 0)
        have HC := Lib.hid (digCalls w (wq.alloc (.cells #[.slice none 0 0] 25)) (.agg #[.slice x y z]) (.agg #[.slice none 0 0]) A 0 (sz : Int) 1 s HT.out (by rw [← HA.out, HWF.out.text]))
        have hda := HA0.da
        have hdb := HA0.db
        clear hbq hb9 HA8 hwf9
        go_wp2_with fail
        refine wp_region_held_drew (S := (fun w' => w'.cell? ⟨ba, 0, none⟩ = some (.slice x y z))) (by kernel_rfl) ?_ (fun hHeld => ?_)
        · exact q1
        refine wpAnyH_take (i := 0) (oi := { dst := some 78, op := Op.load 25 (Operand.tmp 5), type := 25, pos := "more.go:32", after := #[], guard := none }) (v := ?_) rfl (by kernel_rfl) (by kernel_rfl) (by kernel_rfl) (fun _ _ _ h => h) (Or.inl ⟨by rfl, ?_⟩) (by assumption) ?_
        rotate_left
        · intro w hSw; (try dsimp only at hSw); go_simp; (try with_reducible rfl)
        try simp only [Act.put, List.setIfInBounds_toArray, List.set_cons_zero, List.set_cons_succ]
        refine wpAnyH_take (i := 2) (oi := { dst := some 80, op := Op.move (Operand.tmp 0), type := 9, pos := "more.go:32", after := #[], guard := none }) (v := ?_) rfl (by kernel_rfl) (by kernel_rfl) (by kernel_rfl) (fun _ _ _ h => h) (Or.inl ⟨by rfl, ?_⟩) (by assumption) ?_
        rotate_left
        · intro w hSw; (try dsimp only at hSw); go_simp; (try with_reducible rfl)
        try simp only [Act.put, List.setIfInBounds_toArray, List.set_cons_zero, List.set_cons_succ]
        refine wpAnyH_ready (rs := [1]) (by kernel_rfl) (by simp) ?_
        refine AllReadyH.cons (o := { dst := some 79, op := Op.call { callee := Callee.value (Operand.func 9), args := #[Operand.tmp 78], argTypes := #[25] }, type := 9, pos := "more.go:32", after := #[{ on := 0, ground := Ground.data }], guard := none }) rfl (fun K hK => ?_) AllReadyH.nil
        go_simp
        (first| (go_at_call 9; refine (HC.out.text _ (by assumption)).mono ?_; rintro e w10 ⟨rfl, hA10, hda10, hdb10⟩) | (go_at_call 10; refine (HC.out.digits _ _ _ (by assumption) (by assumption)).mono ?_; rintro e w10 ⟨rfl, hA10, hda10, hdb10⟩) | (go_at_call 12; refine (HC.out.one _ (by assumption)).mono ?_; rintro e w10 ⟨x10, y10, z10, rfl, hN10, hA10, hda10, hdb10⟩) | (go_at_call 11; refine (HC.out.add _ _ (by assumption) (by assumption) HBn.out HBl.out).mono ?_; rintro e w10 ⟨x10, y10, z10, rfl, hD10, hA10, hda10, hdb10⟩))
        refine hK.out _ _ ?_ (fun hHeld => ?_)
        · exact HS.out _ ‹_›
        clear hK K
        try simp only [Act.put, List.setIfInBounds_toArray, List.set_cons_zero, List.set_cons_succ]
        refine wpAnyH_take (i := 3) (oi := { dst := some 81, op := Op.binOp BinOp.eql 9 (Operand.tmp 79) (Operand.tmp 80) 9, type := 4, pos := "more.go:32", after := #[{ on := 1, ground := Ground.data }, { on := 2, ground := Ground.data }], guard := none }) (v := ?_) rfl (by kernel_rfl) (by kernel_rfl) (by kernel_rfl) (fun _ _ _ h => h) (Or.inl ⟨by rfl, ?_⟩) (by assumption) ?_
        rotate_left
        · intro w hSw; (try dsimp only at hSw); go_simp; (try with_reducible rfl)
        try simp only [Act.put, List.setIfInBounds_toArray, List.set_cons_zero, List.set_cons_succ]
        refine wpAnyH_take (i := 4) (oi := { dst := some 82, op := Op.move (Operand.tmp 81), type := 4, pos := "more.go:32", after := #[{ on := 3, ground := Ground.data }, { on := 1, ground := Ground.chain }], guard := none }) (v := ?_) rfl (by kernel_rfl) (by kernel_rfl) (by kernel_rfl) (fun _ _ _ h => h) (Or.inl ⟨by rfl, ?_⟩) (by assumption) ?_
        rotate_left
        · intro w hSw; (try dsimp only at hSw); go_simp; (try with_reducible rfl)
        try simp only [Act.put, List.setIfInBounds_toArray, List.set_cons_zero, List.set_cons_succ]
        refine wpAnyH_take (i := 5) (oi := { dst := some 83, op := Op.load 25 (Operand.tmp 5), type := 25, pos := "more.go:32", after := #[{ on := 4, ground := Ground.guard }], guard := some (4, true) }) (v := ?_) rfl (by kernel_rfl) (by kernel_rfl) (by kernel_rfl) (fun _ _ _ h => h) (Or.inl ⟨by rfl, ?_⟩) (by assumption) ?_
        rotate_left
        · intro w hSw; (try dsimp only at hSw); go_simp; (try with_reducible rfl)
        try simp only [Act.put, List.setIfInBounds_toArray, List.set_cons_zero, List.set_cons_succ]
        refine wpAnyH_take (i := 7) (oi := { dst := some 85, op := Op.move (Operand.tmp 0), type := 9, pos := "more.go:32", after := #[{ on := 4, ground := Ground.guard }], guard := some (4, true) }) (v := ?_) rfl (by kernel_rfl) (by kernel_rfl) (by kernel_rfl) (fun _ _ _ h => h) (Or.inl ⟨by rfl, ?_⟩) (by assumption) ?_
        rotate_left
        · intro w hSw; (try dsimp only at hSw); go_simp; (try with_reducible rfl)
        try simp only [Act.put, List.setIfInBounds_toArray, List.set_cons_zero, List.set_cons_succ]
        refine wpAnyH_take (i := 8) (oi := { dst := some 86, op := Op.call { callee := Callee.builtin Builtin.len, args := #[Operand.tmp 85], argTypes := #[9] }, type := 3, pos := "more.go:32", after := #[{ on := 7, ground := Ground.data }, { on := 4, ground := Ground.guard }], guard := some (4, true) }) (v := ?_) rfl (by kernel_rfl) (by kernel_rfl) (by kernel_rfl) (fun _ _ _ h => h) (Or.inl ⟨by rfl, ?_⟩) (by assumption) ?_
        rotate_left
        · intro w hSw; (try dsimp only at hSw); go_simp; (try with_reducible rfl)
        try simp only [Act.put, List.setIfInBounds_toArray, List.set_cons_zero, List.set_cons_succ]
        refine wpAnyH_ready (rs := [6]) (by kernel_rfl) (by simp) ?_
        refine AllReadyH.cons (o := { dst := some 84, op := Op.call { callee := Callee.value (Operand.func 10), args := #[Operand.tmp 83], argTypes := #[25] }, type := 3, pos := "more.go:32", after := #[{ on := 5, ground := Ground.data }, { on := 4, ground := Ground.chain }, { on := 4, ground := Ground.guard }], guard := some (4, true) }) rfl (fun K hK => ?_) AllReadyH.nil
        go_simp
        (first| (go_at_call 9; refine (HC.out.text _ (by assumption)).mono ?_; rintro e w10 ⟨rfl, hA10, hda10, hdb10⟩) | (go_at_call 10; refine (HC.out.digits _ _ _ (by assumption) (by assumption)).mono ?_; rintro e w10 ⟨rfl, hA10, hda10, hdb10⟩) | (go_at_call 12; refine (HC.out.one _ (by assumption)).mono ?_; rintro e w10 ⟨x10, y10, z10, rfl, hN10, hA10, hda10, hdb10⟩) | (go_at_call 11; refine (HC.out.add _ _ (by assumption) (by assumption) HBn.out HBl.out).mono ?_; rintro e w10 ⟨x10, y10, z10, rfl, hD10, hA10, hda10, hdb10⟩))
        refine hK.out _ _ ?_ (fun hHeld => ?_)
        · exact HS.out _ ‹_›
        clear hK K
        try simp only [Act.put, List.setIfInBounds_toArray, List.set_cons_zero, List.set_cons_succ]
        refine wpAnyH_take (i := 9) (oi := { dst := some 87, op := Op.binOp BinOp.eql 3 (Operand.tmp 84) (Operand.tmp 86) 3, type := 4, pos := "more.go:32", after := #[{ on := 6, ground := Ground.data }, { on := 8, ground := Ground.data }, { on := 4, ground := Ground.guard }], guard := some (4, true) }) (v := ?_) rfl (by kernel_rfl) (by kernel_rfl) (by kernel_rfl) (fun _ _ _ h => h) (Or.inl ⟨by rfl, ?_⟩) (by assumption) ?_
        rotate_left
        · intro w hSw; (try dsimp only at hSw); go_simp; (try with_reducible rfl)
        try simp only [Act.put, List.setIfInBounds_toArray, List.set_cons_zero, List.set_cons_succ]
        refine wpAnyH_take (i := 10) (oi := { dst := some 88, op := Op.pick (Operand.tmp 82) (Operand.tmp 87) (Operand.const (Value.bool false)), type := 4, pos := "more.go:32", after := #[{ on := 4, ground := Ground.data }, { on := 9, ground := Ground.data }], guard := none }) (v := ?_) rfl (by kernel_rfl) (by kernel_rfl) (by kernel_rfl) (fun _ _ _ h => h) (Or.inl ⟨by rfl, ?_⟩) (by assumption) ?_
        rotate_left
        · intro w hSw; (try dsimp only at hSw); go_simp; (try with_reducible rfl)
        try simp only [Act.put, List.setIfInBounds_toArray, List.set_cons_zero, List.set_cons_succ]
        refine wpAnyH_take (i := 11) (oi := { dst := some 89, op := Op.move (Operand.tmp 88), type := 4, pos := "more.go:32", after := #[{ on := 10, ground := Ground.data }, { on := 6, ground := Ground.chain }], guard := none }) (v := ?_) rfl (by kernel_rfl) (by kernel_rfl) (by kernel_rfl) (fun _ _ _ h => h) (Or.inl ⟨by rfl, ?_⟩) (by assumption) ?_
        rotate_left
        · intro w hSw; (try dsimp only at hSw); go_simp; (try with_reducible rfl)
        try simp only [Act.put, List.setIfInBounds_toArray, List.set_cons_zero, List.set_cons_succ]
        refine wpAnyH_take (i := 12) (oi := { dst := some 90, op := Op.move (Operand.tmp 8), type := 26, pos := "more.go:32", after := #[{ on := 11, ground := Ground.guard }], guard := some (11, true) }) (v := ?_) rfl (by kernel_rfl) (by kernel_rfl) (by kernel_rfl) (fun _ _ _ h => h) (Or.inl ⟨by rfl, ?_⟩) (by assumption) ?_
        rotate_left
        · intro w hSw; (try dsimp only at hSw); go_simp; (try with_reducible rfl)
        try simp only [Act.put, List.setIfInBounds_toArray, List.set_cons_zero, List.set_cons_succ]
        refine wpAnyH_take (i := 13) (oi := { dst := some 91, op := Op.binOp BinOp.eql 26 (Operand.tmp 90) (Operand.const (Value.int IntKind.i64 3)) 26, type := 4, pos := "more.go:32", after := #[{ on := 12, ground := Ground.data }, { on := 11, ground := Ground.guard }], guard := some (11, true) }) (v := ?_) rfl (by kernel_rfl) (by kernel_rfl) (by kernel_rfl) (fun _ _ _ h => h) (Or.inl ⟨by rfl, ?_⟩) (by assumption) ?_
        rotate_left
        · intro w hSw; (try dsimp only at hSw); go_simp; (try with_reducible rfl)
        try simp only [Act.put, List.setIfInBounds_toArray, List.set_cons_zero, List.set_cons_succ]
        refine wpAnyH_take (i := 14) (oi := { dst := some 92, op := Op.pick (Operand.tmp 89) (Operand.tmp 91) (Operand.const (Value.bool false)), type := 4, pos := "more.go:32", after := #[{ on := 11, ground := Ground.data }, { on := 13, ground := Ground.data }], guard := none }) (v := ?_) rfl (by kernel_rfl) (by kernel_rfl) (by kernel_rfl) (fun _ _ _ h => h) (Or.inl ⟨by rfl, ?_⟩) (by assumption) ?_
        rotate_left
        · intro w hSw; (try dsimp only at hSw); go_simp; (try with_reducible rfl)
        try simp only [Act.put, List.setIfInBounds_toArray, List.set_cons_zero, List.set_cons_succ]
        refine wpAnyH_take (i := 15) (oi := { dst := some 93, op := Op.move (Operand.tmp 92), type := 4, pos := "more.go:32", after := #[{ on := 14, ground := Ground.data }, { on := 11, ground := Ground.chain }], guard := none }) (v := ?_) rfl (by kernel_rfl) (by kernel_rfl) (by kernel_rfl) (fun _ _ _ h => h) (Or.inl ⟨by rfl, ?_⟩) (by assumption) ?_
        rotate_left
        · intro w hSw; (try dsimp only at hSw); go_simp; (try with_reducible rfl)
        try simp only [Act.put, List.setIfInBounds_toArray, List.set_cons_zero, List.set_cons_succ]
        refine wpAnyH_take (i := 16) (oi := { dst := some 94, op := Op.move (Operand.tmp 10), type := 26, pos := "more.go:32", after := #[{ on := 15, ground := Ground.guard }], guard := some (15, true) }) (v := ?_) rfl (by kernel_rfl) (by kernel_rfl) (by kernel_rfl) (fun _ _ _ h => h) (Or.inl ⟨by rfl, ?_⟩) (by assumption) ?_
        rotate_left
        · intro w hSw; (try dsimp only at hSw); go_simp; (try with_reducible rfl)
        try simp only [Act.put, List.setIfInBounds_toArray, List.set_cons_zero, List.set_cons_succ]
        refine wpAnyH_take (i := 17) (oi := { dst := some 95, op := Op.binOp BinOp.eql 26 (Operand.tmp 94) (Operand.const (Value.int IntKind.i64 3)) 26, type := 4, pos := "more.go:32", after := #[{ on := 16, ground := Ground.data }, { on := 15, ground := Ground.guard }], guard := some (15, true) }) (v := ?_) rfl (by kernel_rfl) (by kernel_rfl) (by kernel_rfl) (fun _ _ _ h => h) (Or.inl ⟨by rfl, ?_⟩) (by assumption) ?_
        rotate_left
        · intro w hSw; (try dsimp only at hSw); go_simp; (try with_reducible rfl)
        try simp only [Act.put, List.setIfInBounds_toArray, List.set_cons_zero, List.set_cons_succ]
        refine wpAnyH_take (i := 18) (oi := { dst := some 96, op := Op.pick (Operand.tmp 93) (Operand.tmp 95) (Operand.const (Value.bool false)), type := 4, pos := "more.go:32", after := #[{ on := 15, ground := Ground.data }, { on := 17, ground := Ground.data }], guard := none }) (v := ?_) rfl (by kernel_rfl) (by kernel_rfl) (by kernel_rfl) (fun _ _ _ h => h) (Or.inl ⟨by rfl, ?_⟩) (by assumption) ?_
        rotate_left
        · intro w hSw; (try dsimp only at hSw); go_simp; (try with_reducible rfl)
        try simp only [Act.put, List.setIfInBounds_toArray, List.set_cons_zero, List.set_cons_succ]
        refine wpAnyH_take (i := 19) (oi := { dst := some 97, op := Op.move (Operand.tmp 96), type := 4, pos := "more.go:32", after := #[{ on := 18, ground := Ground.data }, { on := 15, ground := Ground.chain }], guard := none }) (v := ?_) rfl (by kernel_rfl) (by kernel_rfl) (by kernel_rfl) (fun _ _ _ h => h) (Or.inl ⟨by rfl, ?_⟩) (by assumption) ?_
        rotate_left
        · intro w hSw; (try dsimp only at hSw); go_simp; (try with_reducible rfl)
        try simp only [Act.put, List.setIfInBounds_toArray, List.set_cons_zero, List.set_cons_succ]
        refine wpAnyH_take (i := 20) (oi := { dst := some 98, op := Op.move (Operand.tmp 14), type := 26, pos := "more.go:32", after := #[{ on := 19, ground := Ground.guard }], guard := some (19, true) }) (v := ?_) rfl (by kernel_rfl) (by kernel_rfl) (by kernel_rfl) (fun _ _ _ h => h) (Or.inl ⟨by rfl, ?_⟩) (by assumption) ?_
        rotate_left
        · intro w hSw; (try dsimp only at hSw); go_simp; (try with_reducible rfl)
        try simp only [Act.put, List.setIfInBounds_toArray, List.set_cons_zero, List.set_cons_succ]
        refine wpAnyH_take (i := 21) (oi := { dst := some 99, op := Op.move (Operand.tmp 15), type := 26, pos := "more.go:32", after := #[{ on := 19, ground := Ground.guard }], guard := some (19, true) }) (v := ?_) rfl (by kernel_rfl) (by kernel_rfl) (by kernel_rfl) (fun _ _ _ h => h) (Or.inl ⟨by rfl, ?_⟩) (by assumption) ?_
        rotate_left
        · intro w hSw; (try dsimp only at hSw); go_simp; (try with_reducible rfl)
        try simp only [Act.put, List.setIfInBounds_toArray, List.set_cons_zero, List.set_cons_succ]
        refine wpAnyH_take (i := 22) (oi := { dst := some 100, op := Op.binOp BinOp.eql 26 (Operand.tmp 98) (Operand.tmp 99) 26, type := 4, pos := "more.go:32", after := #[{ on := 20, ground := Ground.data }, { on := 21, ground := Ground.data }, { on := 19, ground := Ground.guard }], guard := some (19, true) }) (v := ?_) rfl (by kernel_rfl) (by kernel_rfl) (by kernel_rfl) (fun _ _ _ h => h) (Or.inl ⟨by rfl, ?_⟩) (by assumption) ?_
        rotate_left
        · intro w hSw; (try dsimp only at hSw); go_simp; (try with_reducible rfl)
        try simp only [Act.put, List.setIfInBounds_toArray, List.set_cons_zero, List.set_cons_succ]
        refine wpAnyH_take (i := 23) (oi := { dst := some 101, op := Op.pick (Operand.tmp 97) (Operand.tmp 100) (Operand.const (Value.bool false)), type := 4, pos := "more.go:32", after := #[{ on := 19, ground := Ground.data }, { on := 22, ground := Ground.data }], guard := none }) (v := ?_) rfl (by kernel_rfl) (by kernel_rfl) (by kernel_rfl) (fun _ _ _ h => h) (Or.inl ⟨by rfl, ?_⟩) (by assumption) ?_
        rotate_left
        · intro w hSw; (try dsimp only at hSw); go_simp; (try with_reducible rfl)
        try simp only [Act.put, List.setIfInBounds_toArray, List.set_cons_zero, List.set_cons_succ]
        refine wpAnyH_take (i := 24) (oi := { dst := some 102, op := Op.move (Operand.tmp 101), type := 4, pos := "more.go:32", after := #[{ on := 23, ground := Ground.data }, { on := 19, ground := Ground.chain }], guard := none }) (v := ?_) rfl (by kernel_rfl) (by kernel_rfl) (by kernel_rfl) (fun _ _ _ h => h) (Or.inl ⟨by rfl, ?_⟩) (by assumption) ?_
        rotate_left
        · intro w hSw; (try dsimp only at hSw); go_simp; (try with_reducible rfl)
        try simp only [Act.put, List.setIfInBounds_toArray, List.set_cons_zero, List.set_cons_succ]
        refine wpAnyH_take (i := 25) (oi := { dst := some 103, op := Op.move (Operand.tmp 14), type := 26, pos := "more.go:32", after := #[{ on := 24, ground := Ground.guard }], guard := some (24, true) }) (v := ?_) rfl (by kernel_rfl) (by kernel_rfl) (by kernel_rfl) (fun _ _ _ h => h) (Or.inl ⟨by rfl, ?_⟩) (by assumption) ?_
        rotate_left
        · intro w hSw; (try dsimp only at hSw); go_simp; (try with_reducible rfl)
        try simp only [Act.put, List.setIfInBounds_toArray, List.set_cons_zero, List.set_cons_succ]
        refine wpAnyH_take (i := 26) (oi := { dst := some 104, op := Op.binOp BinOp.neq 26 (Operand.tmp 103) (Operand.const (Value.int IntKind.i64 0)) 26, type := 4, pos := "more.go:32", after := #[{ on := 25, ground := Ground.data }, { on := 24, ground := Ground.guard }], guard := some (24, true) }) (v := ?_) rfl (by kernel_rfl) (by kernel_rfl) (by kernel_rfl) (fun _ _ _ h => h) (Or.inl ⟨by rfl, ?_⟩) (by assumption) ?_
        rotate_left
        · intro w hSw; (try dsimp only at hSw); go_simp; (try with_reducible rfl)
        try simp only [Act.put, List.setIfInBounds_toArray, List.set_cons_zero, List.set_cons_succ]
        refine wpAnyH_take (i := 27) (oi := { dst := some 105, op := Op.move (Operand.tmp 104), type := 4, pos := "more.go:32", after := #[{ on := 26, ground := Ground.data }, { on := 24, ground := Ground.chain }, { on := 24, ground := Ground.guard }], guard := some (24, true) }) (v := ?_) rfl (by kernel_rfl) (by kernel_rfl) (by kernel_rfl) (fun _ _ _ h => h) (Or.inl ⟨by rfl, ?_⟩) (by assumption) ?_
        rotate_left
        · intro w hSw; (try dsimp only at hSw); go_simp; (try with_reducible rfl)
        try simp only [Act.put, List.setIfInBounds_toArray, List.set_cons_zero, List.set_cons_succ]
        refine wpAnyH_take (i := 28) (oi := { dst := some 106, op := Op.load 25 (Operand.tmp 13), type := 25, pos := "more.go:32", after := #[{ on := 27, ground := Ground.guard }], guard := some (27, false) }) (v := undef) rfl (by kernel_rfl) (by kernel_rfl) (by kernel_rfl) (fun _ _ _ h => h) (Or.inr ⟨by rfl, rfl⟩) (by assumption) ?_
        try simp only [Act.put, List.setIfInBounds_toArray, List.set_cons_zero, List.set_cons_succ]
        refine wpAnyH_take (i := 29) (oi := { dst := some 107, op := Op.call { callee := Callee.value (Operand.func 10), args := #[Operand.tmp 106], argTypes := #[25] }, type := 3, pos := "more.go:32", after := #[{ on := 28, ground := Ground.data }, { on := 27, ground := Ground.chain }, { on := 27, ground := Ground.guard }], guard := some (27, false) }) (v := undef) rfl (by kernel_rfl) (by kernel_rfl) (by kernel_rfl) (fun _ _ _ h => h) (Or.inr ⟨by rfl, rfl⟩) (by assumption) ?_
        try simp only [Act.put, List.setIfInBounds_toArray, List.set_cons_zero, List.set_cons_succ]
        refine wpAnyH_take (i := 30) (oi := { dst := some 108, op := Op.move (Operand.tmp 1), type := 3, pos := "more.go:32", after := #[{ on := 27, ground := Ground.guard }], guard := some (27, false) }) (v := undef) rfl (by kernel_rfl) (by kernel_rfl) (by kernel_rfl) (fun _ _ _ h => h) (Or.inr ⟨by rfl, rfl⟩) (by assumption) ?_
        try simp only [Act.put, List.setIfInBounds_toArray, List.set_cons_zero, List.set_cons_succ]
        refine wpAnyH_take (i := 31) (oi := { dst := some 109, op := Op.binOp BinOp.eql 3 (Operand.tmp 107) (Operand.tmp 108) 3, type := 4, pos := "more.go:32", after := #[{ on := 29, ground := Ground.data }, { on := 30, ground := Ground.data }, { on := 27, ground := Ground.guard }], guard := some (27, false) }) (v := undef) rfl (by kernel_rfl) (by kernel_rfl) (by kernel_rfl) (fun _ _ _ h => h) (Or.inr ⟨by rfl, rfl⟩) (by assumption) ?_
        try simp only [Act.put, List.setIfInBounds_toArray, List.set_cons_zero, List.set_cons_succ]
        refine wpAnyH_take (i := 32) (oi := { dst := some 110, op := Op.move (Operand.tmp 109), type := 4, pos := "more.go:32", after := #[{ on := 31, ground := Ground.data }, { on := 29, ground := Ground.chain }, { on := 27, ground := Ground.guard }], guard := some (27, false) }) (v := undef) rfl (by kernel_rfl) (by kernel_rfl) (by kernel_rfl) (fun _ _ _ h => h) (Or.inr ⟨by rfl, rfl⟩) (by assumption) ?_
        try simp only [Act.put, List.setIfInBounds_toArray, List.set_cons_zero, List.set_cons_succ]
        refine wpAnyH_take (i := 33) (oi := { dst := some 111, op := Op.load 25 (Operand.tmp 13), type := 25, pos := "more.go:32", after := #[{ on := 32, ground := Ground.guard }], guard := some (32, true) }) (v := undef) rfl (by kernel_rfl) (by kernel_rfl) (by kernel_rfl) (fun _ _ _ h => h) (Or.inr ⟨by rfl, rfl⟩) (by assumption) ?_
        try simp only [Act.put, List.setIfInBounds_toArray, List.set_cons_zero, List.set_cons_succ]
        refine wpAnyH_take (i := 34) (oi := { dst := some 112, op := Op.call { callee := Callee.value (Operand.func 12), args := #[Operand.const (Value.int IntKind.u64 1)], argTypes := #[34] }, type := 25, pos := "more.go:32", after := #[{ on := 32, ground := Ground.chain }, { on := 32, ground := Ground.guard }], guard := some (32, true) }) (v := undef) rfl (by kernel_rfl) (by kernel_rfl) (by kernel_rfl) (fun _ _ _ h => h) (Or.inr ⟨by rfl, rfl⟩) (by assumption) ?_
        try simp only [Act.put, List.setIfInBounds_toArray, List.set_cons_zero, List.set_cons_succ]
        refine wpAnyH_take (i := 35) (oi := { dst := some 113, op := Op.call { callee := Callee.value (Operand.func 11), args := #[Operand.tmp 111, Operand.tmp 112], argTypes := #[25, 25] }, type := 25, pos := "more.go:32", after := #[{ on := 33, ground := Ground.data }, { on := 34, ground := Ground.data }, { on := 34, ground := Ground.chain }, { on := 32, ground := Ground.guard }], guard := some (32, true) }) (v := undef) rfl (by kernel_rfl) (by kernel_rfl) (by kernel_rfl) (fun _ _ _ h => h) (Or.inr ⟨by rfl, rfl⟩) (by assumption) ?_
        try simp only [Act.put, List.setIfInBounds_toArray, List.set_cons_zero, List.set_cons_succ]
        refine wpAnyH_take (i := 36) (oi := { dst := some 114, op := Op.call { callee := Callee.value (Operand.func 10), args := #[Operand.tmp 113], argTypes := #[25] }, type := 3, pos := "more.go:32", after := #[{ on := 35, ground := Ground.data }, { on := 35, ground := Ground.chain }, { on := 32, ground := Ground.guard }], guard := some (32, true) }) (v := undef) rfl (by kernel_rfl) (by kernel_rfl) (by kernel_rfl) (fun _ _ _ h => h) (Or.inr ⟨by rfl, rfl⟩) (by assumption) ?_
        try simp only [Act.put, List.setIfInBounds_toArray, List.set_cons_zero, List.set_cons_succ]
        refine wpAnyH_take (i := 37) (oi := { dst := some 115, op := Op.move (Operand.tmp 1), type := 3, pos := "more.go:32", after := #[{ on := 32, ground := Ground.guard }], guard := some (32, true) }) (v := undef) rfl (by kernel_rfl) (by kernel_rfl) (by kernel_rfl) (fun _ _ _ h => h) (Or.inr ⟨by rfl, rfl⟩) (by assumption) ?_
        try simp only [Act.put, List.setIfInBounds_toArray, List.set_cons_zero, List.set_cons_succ]
        refine wpAnyH_take (i := 38) (oi := { dst := some 116, op := Op.binOp BinOp.add 3 (Operand.tmp 115) (Operand.const (Value.int IntKind.i64 1)) 3, type := 3, pos := "more.go:32", after := #[{ on := 37, ground := Ground.data }, { on := 32, ground := Ground.guard }], guard := some (32, true) }) (v := undef) rfl (by kernel_rfl) (by kernel_rfl) (by kernel_rfl) (fun _ _ _ h => h) (Or.inr ⟨by rfl, rfl⟩) (by assumption) ?_
        try simp only [Act.put, List.setIfInBounds_toArray, List.set_cons_zero, List.set_cons_succ]
        refine wpAnyH_take (i := 39) (oi := { dst := some 117, op := Op.binOp BinOp.eql 3 (Operand.tmp 114) (Operand.tmp 116) 3, type := 4, pos := "more.go:32", after := #[{ on := 36, ground := Ground.data }, { on := 38, ground := Ground.data }, { on := 32, ground := Ground.guard }], guard := some (32, true) }) (v := undef) rfl (by kernel_rfl) (by kernel_rfl) (by kernel_rfl) (fun _ _ _ h => h) (Or.inr ⟨by rfl, rfl⟩) (by assumption) ?_
        try simp only [Act.put, List.setIfInBounds_toArray, List.set_cons_zero, List.set_cons_succ]
        refine wpAnyH_take (i := 40) (oi := { dst := some 118, op := Op.pick (Operand.tmp 110) (Operand.tmp 117) (Operand.const (Value.bool false)), type := 4, pos := "more.go:32", after := #[{ on := 32, ground := Ground.data }, { on := 39, ground := Ground.data }, { on := 27, ground := Ground.guard }], guard := some (27, false) }) (v := undef) rfl (by kernel_rfl) (by kernel_rfl) (by kernel_rfl) (fun _ _ _ h => h) (Or.inr ⟨by rfl, rfl⟩) (by assumption) ?_
        try simp only [Act.put, List.setIfInBounds_toArray, List.set_cons_zero, List.set_cons_succ]
        refine wpAnyH_take (i := 41) (oi := { dst := some 119, op := Op.pick (Operand.tmp 105) (Operand.const (Value.bool true)) (Operand.tmp 118), type := 4, pos := "more.go:32", after := #[{ on := 27, ground := Ground.data }, { on := 40, ground := Ground.data }, { on := 24, ground := Ground.guard }], guard := some (24, true) }) (v := ?_) rfl (by kernel_rfl) (by kernel_rfl) (by kernel_rfl) (fun _ _ _ h => h) (Or.inl ⟨by rfl, ?_⟩) (by assumption) ?_
        rotate_left
        · intro w hSw; (try dsimp only at hSw); go_simp; (try with_reducible rfl)
        try simp only [Act.put, List.setIfInBounds_toArray, List.set_cons_zero, List.set_cons_succ]
        refine wpAnyH_take (i := 42) (oi := { dst := some 120, op := Op.pick (Operand.tmp 102) (Operand.tmp 119) (Operand.const (Value.bool false)), type := 4, pos := "more.go:32", after := #[{ on := 24, ground := Ground.data }, { on := 41, ground := Ground.data }], guard := none }) (v := ?_) rfl (by kernel_rfl) (by kernel_rfl) (by kernel_rfl) (fun _ _ _ h => h) (Or.inl ⟨by rfl, ?_⟩) (by assumption) ?_
        rotate_left
        · intro w hSw; (try dsimp only at hSw); go_simp; (try with_reducible rfl)
        try simp only [Act.put, List.setIfInBounds_toArray, List.set_cons_zero, List.set_cons_succ]
        refine wpAnyH_take (i := 43) (oi := { dst := some 4, op := Op.assign (Operand.tmp 120), type := 4, pos := "more.go:32", after := #[{ on := 42, ground := Ground.data }, { on := 36, ground := Ground.chain }, { on := 0, ground := Ground.phase }, { on := 1, ground := Ground.phase }, { on := 2, ground := Ground.phase }, { on := 3, ground := Ground.phase }, { on := 4, ground := Ground.phase }, { on := 5, ground := Ground.phase }, { on := 6, ground := Ground.phase }, { on := 7, ground := Ground.phase }, { on := 8, ground := Ground.phase }, { on := 9, ground := Ground.phase }, { on := 10, ground := Ground.phase }, { on := 11, ground := Ground.phase }, { on := 12, ground := Ground.phase }, { on := 13, ground := Ground.phase }, { on := 14, ground := Ground.phase }, { on := 15, ground := Ground.phase }, { on := 16, ground := Ground.phase }, { on := 17, ground := Ground.phase }, { on := 18, ground := Ground.phase }, { on := 19, ground := Ground.phase }, { on := 20, ground := Ground.phase }, { on := 21, ground := Ground.phase }, { on := 22, ground := Ground.phase }, { on := 23, ground := Ground.phase }, { on := 24, ground := Ground.phase }, { on := 25, ground := Ground.phase }, { on := 26, ground := Ground.phase }, { on := 27, ground := Ground.phase }, { on := 28, ground := Ground.phase }, { on := 29, ground := Ground.phase }, { on := 30, ground := Ground.phase }, { on := 31, ground := Ground.phase }, { on := 32, ground := Ground.phase }, { on := 33, ground := Ground.phase }, { on := 34, ground := Ground.phase }, { on := 35, ground := Ground.phase }, { on := 36, ground := Ground.phase }, { on := 37, ground := Ground.phase }, { on := 38, ground := Ground.phase }, { on := 39, ground := Ground.phase }, { on := 40, ground := Ground.phase }, { on := 41, ground := Ground.phase }, { on := 42, ground := Ground.phase }], guard := none }) (v := ?_) rfl (by kernel_rfl) (by kernel_rfl) (by kernel_rfl) (fun _ _ _ h => h) (Or.inl ⟨by rfl, ?_⟩) (by assumption) ?_
        rotate_left
        · intro w hSw; (try dsimp only at hSw); go_simp; (try with_reducible rfl)
        try simp only [Act.put, List.setIfInBounds_toArray, List.set_cons_zero, List.set_cons_succ]
        refine wpAnyH_done (by kernel_rfl) ?_ _
        have HA11 := Lib.hid hA10
        go_wp2_with fail
        go_ret
        exact ⟨rfl, HA11.out.b0⟩
      by_cases hk1 : 1200 < k
      · have hwf9 : WF (ninesB k) := wf_nines rfl (by omega)
        have hsz9 : (ninesB k).size = k := by show (List.replicate k (57 : UInt8)).toArray.size = k; simp
        have hk0i : ((k : Int) == 0) = false := by simp; omega
        have hk1i : (1200 : Int) < (k : Int) := by omega
        go_wp2_with fail
        refine (parse_long _ wr (by rw [hsz9]; unfold maxLen; omega) hwf9 (by rw [hsz9]; exact hk1)).mono ?_
        rintro e wq ⟨rfl, hbq⟩
        have hb9 : Below wr.heap.size wr (wq.alloc (.cells #[.slice none 0 0] 25)) := hbq.alloc hbq.size _
        have HB9 := Lib.hid (HB8'.trans (hb9.mono HB8'.size))
        have HA0 : AtD w (wq.alloc (.cells #[.slice none 0 0] 25)) (.agg #[.slice x y z]) (.agg #[.slice none 0 0]) A 0 (sz : Int) 1 (wq.alloc (.cells #[.slice none 0 0] 25)).drew := ⟨(HN8'.below hb9 (Nat.le_refl _)).drew, isN_zero _, ⟨A, (HN8'.below hb9 (Nat.le_refl _)).drew, by rw [← HA.out, HWF.out.digits, Hsz.out]⟩, ⟨0, isN_zero _, by rw [Lib.nDigits_small (by decide)]; rfl⟩, HB9.out.drew, (Below.refl _ _).drew⟩
        have q1 : (wq.alloc (.cells #[.slice none 0 0] 25)).drew.cell? ⟨ba, 0, none⟩ = some (.slice x y z) := (HK8'.below hb9 HK8'.lt).cell 0
        have HS : Hid (∀ W, AtD w (wq.alloc (.cells #[.slice none 0 0] 25)) (.agg #[.slice x y z]) (.agg #[.slice none 0 0]) A 0 (sz : Int) 1 W → W.cell? ⟨ba, 0, none⟩ = some (.slice x y z)) := Lib.hid (fun W h => ((HK8'.below hb9 HK8'.lt).below h.b9 (HK8'.below hb9 HK8'.lt).lt).cell 0)
        have HC := Lib.hid (digCalls w (wq.alloc (.cells #[.slice none 0 0] 25)) (.agg #[.slice x y z]) (.agg #[.slice none 0 0]) A 0 (sz : Int) 1 s HT.out (by rw [← HA.out, HWF.out.text]))
        have hda := HA0.da
        have hdb := HA0.db
        clear hbq hb9 HA8 hwf9
        go_wp2_with fail
        refine wp_region_held_drew (S := (fun w' => w'.cell? ⟨ba, 0, none⟩ = some (.slice x y z))) (by kernel_rfl) ?_ (fun hHeld => ?_)
        · exact q1
        refine wpAnyH_take (i := 0) (oi := { dst := some 78, op := Op.load 25 (Operand.tmp 5), type := 25, pos := "more.go:32", after := #[], guard := none }) (v := ?_) rfl (by kernel_rfl) (by kernel_rfl) (by kernel_rfl) (fun _ _ _ h => h) (Or.inl ⟨by rfl, ?_⟩) (by assumption) ?_
        rotate_left
        · intro w hSw; (try dsimp only at hSw); go_simp; (try with_reducible rfl)
        try simp only [Act.put, List.setIfInBounds_toArray, List.set_cons_zero, List.set_cons_succ]
        refine wpAnyH_take (i := 2) (oi := { dst := some 80, op := Op.move (Operand.tmp 0), type := 9, pos := "more.go:32", after := #[], guard := none }) (v := ?_) rfl (by kernel_rfl) (by kernel_rfl) (by kernel_rfl) (fun _ _ _ h => h) (Or.inl ⟨by rfl, ?_⟩) (by assumption) ?_
        rotate_left
        · intro w hSw; (try dsimp only at hSw); go_simp; (try with_reducible rfl)
        try simp only [Act.put, List.setIfInBounds_toArray, List.set_cons_zero, List.set_cons_succ]
        refine wpAnyH_ready (rs := [1]) (by kernel_rfl) (by simp) ?_
        refine AllReadyH.cons (o := { dst := some 79, op := Op.call { callee := Callee.value (Operand.func 9), args := #[Operand.tmp 78], argTypes := #[25] }, type := 9, pos := "more.go:32", after := #[{ on := 0, ground := Ground.data }], guard := none }) rfl (fun K hK => ?_) AllReadyH.nil
        go_simp
        (first| (go_at_call 9; refine (HC.out.text _ (by assumption)).mono ?_; rintro e w10 ⟨rfl, hA10, hda10, hdb10⟩) | (go_at_call 10; refine (HC.out.digits _ _ _ (by assumption) (by assumption)).mono ?_; rintro e w10 ⟨rfl, hA10, hda10, hdb10⟩) | (go_at_call 12; refine (HC.out.one _ (by assumption)).mono ?_; rintro e w10 ⟨x10, y10, z10, rfl, hN10, hA10, hda10, hdb10⟩) | (go_at_call 11; refine (HC.out.add _ _ (by assumption) (by assumption) HBn.out HBl.out).mono ?_; rintro e w10 ⟨x10, y10, z10, rfl, hD10, hA10, hda10, hdb10⟩))
        refine hK.out _ _ ?_ (fun hHeld => ?_)
        · exact HS.out _ ‹_›
        clear hK K
        try simp only [Act.put, List.setIfInBounds_toArray, List.set_cons_zero, List.set_cons_succ]
        refine wpAnyH_take (i := 3) (oi := { dst := some 81, op := Op.binOp BinOp.eql 9 (Operand.tmp 79) (Operand.tmp 80) 9, type := 4, pos := "more.go:32", after := #[{ on := 1, ground := Ground.data }, { on := 2, ground := Ground.data }], guard := none }) (v := ?_) rfl (by kernel_rfl) (by kernel_rfl) (by kernel_rfl) (fun _ _ _ h => h) (Or.inl ⟨by rfl, ?_⟩) (by assumption) ?_
        rotate_left
        · intro w hSw; (try dsimp only at hSw); go_simp; (try with_reducible rfl)
        try simp only [Act.put, List.setIfInBounds_toArray, List.set_cons_zero, List.set_cons_succ]
        refine wpAnyH_take (i := 4) (oi := { dst := some 82, op := Op.move (Operand.tmp 81), type := 4, pos := "more.go:32", after := #[{ on := 3, ground := Ground.data }, { on := 1, ground := Ground.chain }], guard := none }) (v := ?_) rfl (by kernel_rfl) (by kernel_rfl) (by kernel_rfl) (fun _ _ _ h => h) (Or.inl ⟨by rfl, ?_⟩) (by assumption) ?_
        rotate_left
        · intro w hSw; (try dsimp only at hSw); go_simp; (try with_reducible rfl)
        try simp only [Act.put, List.setIfInBounds_toArray, List.set_cons_zero, List.set_cons_succ]
        refine wpAnyH_take (i := 5) (oi := { dst := some 83, op := Op.load 25 (Operand.tmp 5), type := 25, pos := "more.go:32", after := #[{ on := 4, ground := Ground.guard }], guard := some (4, true) }) (v := ?_) rfl (by kernel_rfl) (by kernel_rfl) (by kernel_rfl) (fun _ _ _ h => h) (Or.inl ⟨by rfl, ?_⟩) (by assumption) ?_
        rotate_left
        · intro w hSw; (try dsimp only at hSw); go_simp; (try with_reducible rfl)
        try simp only [Act.put, List.setIfInBounds_toArray, List.set_cons_zero, List.set_cons_succ]
        refine wpAnyH_take (i := 7) (oi := { dst := some 85, op := Op.move (Operand.tmp 0), type := 9, pos := "more.go:32", after := #[{ on := 4, ground := Ground.guard }], guard := some (4, true) }) (v := ?_) rfl (by kernel_rfl) (by kernel_rfl) (by kernel_rfl) (fun _ _ _ h => h) (Or.inl ⟨by rfl, ?_⟩) (by assumption) ?_
        rotate_left
        · intro w hSw; (try dsimp only at hSw); go_simp; (try with_reducible rfl)
        try simp only [Act.put, List.setIfInBounds_toArray, List.set_cons_zero, List.set_cons_succ]
        refine wpAnyH_take (i := 8) (oi := { dst := some 86, op := Op.call { callee := Callee.builtin Builtin.len, args := #[Operand.tmp 85], argTypes := #[9] }, type := 3, pos := "more.go:32", after := #[{ on := 7, ground := Ground.data }, { on := 4, ground := Ground.guard }], guard := some (4, true) }) (v := ?_) rfl (by kernel_rfl) (by kernel_rfl) (by kernel_rfl) (fun _ _ _ h => h) (Or.inl ⟨by rfl, ?_⟩) (by assumption) ?_
        rotate_left
        · intro w hSw; (try dsimp only at hSw); go_simp; (try with_reducible rfl)
        try simp only [Act.put, List.setIfInBounds_toArray, List.set_cons_zero, List.set_cons_succ]
        refine wpAnyH_ready (rs := [6]) (by kernel_rfl) (by simp) ?_
        refine AllReadyH.cons (o := { dst := some 84, op := Op.call { callee := Callee.value (Operand.func 10), args := #[Operand.tmp 83], argTypes := #[25] }, type := 3, pos := "more.go:32", after := #[{ on := 5, ground := Ground.data }, { on := 4, ground := Ground.chain }, { on := 4, ground := Ground.guard }], guard := some (4, true) }) rfl (fun K hK => ?_) AllReadyH.nil
        go_simp
        (first| (go_at_call 9; refine (HC.out.text _ (by assumption)).mono ?_; rintro e w10 ⟨rfl, hA10, hda10, hdb10⟩) | (go_at_call 10; refine (HC.out.digits _ _ _ (by assumption) (by assumption)).mono ?_; rintro e w10 ⟨rfl, hA10, hda10, hdb10⟩) | (go_at_call 12; refine (HC.out.one _ (by assumption)).mono ?_; rintro e w10 ⟨x10, y10, z10, rfl, hN10, hA10, hda10, hdb10⟩) | (go_at_call 11; refine (HC.out.add _ _ (by assumption) (by assumption) HBn.out HBl.out).mono ?_; rintro e w10 ⟨x10, y10, z10, rfl, hD10, hA10, hda10, hdb10⟩))
        refine hK.out _ _ ?_ (fun hHeld => ?_)
        · exact HS.out _ ‹_›
        clear hK K
        try simp only [Act.put, List.setIfInBounds_toArray, List.set_cons_zero, List.set_cons_succ]
        refine wpAnyH_take (i := 9) (oi := { dst := some 87, op := Op.binOp BinOp.eql 3 (Operand.tmp 84) (Operand.tmp 86) 3, type := 4, pos := "more.go:32", after := #[{ on := 6, ground := Ground.data }, { on := 8, ground := Ground.data }, { on := 4, ground := Ground.guard }], guard := some (4, true) }) (v := ?_) rfl (by kernel_rfl) (by kernel_rfl) (by kernel_rfl) (fun _ _ _ h => h) (Or.inl ⟨by rfl, ?_⟩) (by assumption) ?_
        rotate_left
        · intro w hSw; (try dsimp only at hSw); go_simp; (try with_reducible rfl)
        try simp only [Act.put, List.setIfInBounds_toArray, List.set_cons_zero, List.set_cons_succ]
        refine wpAnyH_take (i := 10) (oi := { dst := some 88, op := Op.pick (Operand.tmp 82) (Operand.tmp 87) (Operand.const (Value.bool false)), type := 4, pos := "more.go:32", after := #[{ on := 4, ground := Ground.data }, { on := 9, ground := Ground.data }], guard := none }) (v := ?_) rfl (by kernel_rfl) (by kernel_rfl) (by kernel_rfl) (fun _ _ _ h => h) (Or.inl ⟨by rfl, ?_⟩) (by assumption) ?_
        rotate_left
        · intro w hSw; (try dsimp only at hSw); go_simp; (try with_reducible rfl)
        try simp only [Act.put, List.setIfInBounds_toArray, List.set_cons_zero, List.set_cons_succ]
        refine wpAnyH_take (i := 11) (oi := { dst := some 89, op := Op.move (Operand.tmp 88), type := 4, pos := "more.go:32", after := #[{ on := 10, ground := Ground.data }, { on := 6, ground := Ground.chain }], guard := none }) (v := ?_) rfl (by kernel_rfl) (by kernel_rfl) (by kernel_rfl) (fun _ _ _ h => h) (Or.inl ⟨by rfl, ?_⟩) (by assumption) ?_
        rotate_left
        · intro w hSw; (try dsimp only at hSw); go_simp; (try with_reducible rfl)
        try simp only [Act.put, List.setIfInBounds_toArray, List.set_cons_zero, List.set_cons_succ]
        refine wpAnyH_take (i := 12) (oi := { dst := some 90, op := Op.move (Operand.tmp 8), type := 26, pos := "more.go:32", after := #[{ on := 11, ground := Ground.guard }], guard := some (11, true) }) (v := ?_) rfl (by kernel_rfl) (by kernel_rfl) (by kernel_rfl) (fun _ _ _ h => h) (Or.inl ⟨by rfl, ?_⟩) (by assumption) ?_
        rotate_left
        · intro w hSw; (try dsimp only at hSw); go_simp; (try with_reducible rfl)
        try simp only [Act.put, List.setIfInBounds_toArray, List.set_cons_zero, List.set_cons_succ]
        refine wpAnyH_take (i := 13) (oi := { dst := some 91, op := Op.binOp BinOp.eql 26 (Operand.tmp 90) (Operand.const (Value.int IntKind.i64 3)) 26, type := 4, pos := "more.go:32", after := #[{ on := 12, ground := Ground.data }, { on := 11, ground := Ground.guard }], guard := some (11, true) }) (v := ?_) rfl (by kernel_rfl) (by kernel_rfl) (by kernel_rfl) (fun _ _ _ h => h) (Or.inl ⟨by rfl, ?_⟩) (by assumption) ?_
        rotate_left
        · intro w hSw; (try dsimp only at hSw); go_simp; (try with_reducible rfl)
        try simp only [Act.put, List.setIfInBounds_toArray, List.set_cons_zero, List.set_cons_succ]
        refine wpAnyH_take (i := 14) (oi := { dst := some 92, op := Op.pick (Operand.tmp 89) (Operand.tmp 91) (Operand.const (Value.bool false)), type := 4, pos := "more.go:32", after := #[{ on := 11, ground := Ground.data }, { on := 13, ground := Ground.data }], guard := none }) (v := ?_) rfl (by kernel_rfl) (by kernel_rfl) (by kernel_rfl) (fun _ _ _ h => h) (Or.inl ⟨by rfl, ?_⟩) (by assumption) ?_
        rotate_left
        · intro w hSw; (try dsimp only at hSw); go_simp; (try with_reducible rfl)
        try simp only [Act.put, List.setIfInBounds_toArray, List.set_cons_zero, List.set_cons_succ]
        refine wpAnyH_take (i := 15) (oi := { dst := some 93, op := Op.move (Operand.tmp 92), type := 4, pos := "more.go:32", after := #[{ on := 14, ground := Ground.data }, { on := 11, ground := Ground.chain }], guard := none }) (v := ?_) rfl (by kernel_rfl) (by kernel_rfl) (by kernel_rfl) (fun _ _ _ h => h) (Or.inl ⟨by rfl, ?_⟩) (by assumption) ?_
        rotate_left
        · intro w hSw; (try dsimp only at hSw); go_simp; (try with_reducible rfl)
        try simp only [Act.put, List.setIfInBounds_toArray, List.set_cons_zero, List.set_cons_succ]
        refine wpAnyH_take (i := 16) (oi := { dst := some 94, op := Op.move (Operand.tmp 10), type := 26, pos := "more.go:32", after := #[{ on := 15, ground := Ground.guard }], guard := some (15, true) }) (v := ?_) rfl (by kernel_rfl) (by kernel_rfl) (by kernel_rfl) (fun _ _ _ h => h) (Or.inl ⟨by rfl, ?_⟩) (by assumption) ?_
        rotate_left
        · intro w hSw; (try dsimp only at hSw); go_simp; (try with_reducible rfl)
        try simp only [Act.put, List.setIfInBounds_toArray, List.set_cons_zero, List.set_cons_succ]
        refine wpAnyH_take (i := 17) (oi := { dst := some 95, op := Op.binOp BinOp.eql 26 (Operand.tmp 94) (Operand.const (Value.int IntKind.i64 3)) 26, type := 4, pos := "more.go:32", after := #[{ on := 16, ground := Ground.data }, { on := 15, ground := Ground.guard }], guard := some (15, true) }) (v := ?_) rfl (by kernel_rfl) (by kernel_rfl) (by kernel_rfl) (fun _ _ _ h => h) (Or.inl ⟨by rfl, ?_⟩) (by assumption) ?_
        rotate_left
        · intro w hSw; (try dsimp only at hSw); go_simp; (try with_reducible rfl)
        try simp only [Act.put, List.setIfInBounds_toArray, List.set_cons_zero, List.set_cons_succ]
        refine wpAnyH_take (i := 18) (oi := { dst := some 96, op := Op.pick (Operand.tmp 93) (Operand.tmp 95) (Operand.const (Value.bool false)), type := 4, pos := "more.go:32", after := #[{ on := 15, ground := Ground.data }, { on := 17, ground := Ground.data }], guard := none }) (v := ?_) rfl (by kernel_rfl) (by kernel_rfl) (by kernel_rfl) (fun _ _ _ h => h) (Or.inl ⟨by rfl, ?_⟩) (by assumption) ?_
        rotate_left
        · intro w hSw; (try dsimp only at hSw); go_simp; (try with_reducible rfl)
        try simp only [Act.put, List.setIfInBounds_toArray, List.set_cons_zero, List.set_cons_succ]
        refine wpAnyH_take (i := 19) (oi := { dst := some 97, op := Op.move (Operand.tmp 96), type := 4, pos := "more.go:32", after := #[{ on := 18, ground := Ground.data }, { on := 15, ground := Ground.chain }], guard := none }) (v := ?_) rfl (by kernel_rfl) (by kernel_rfl) (by kernel_rfl) (fun _ _ _ h => h) (Or.inl ⟨by rfl, ?_⟩) (by assumption) ?_
        rotate_left
        · intro w hSw; (try dsimp only at hSw); go_simp; (try with_reducible rfl)
        try simp only [Act.put, List.setIfInBounds_toArray, List.set_cons_zero, List.set_cons_succ]
        refine wpAnyH_take (i := 20) (oi := { dst := some 98, op := Op.move (Operand.tmp 14), type := 26, pos := "more.go:32", after := #[{ on := 19, ground := Ground.guard }], guard := some (19, true) }) (v := ?_) rfl (by kernel_rfl) (by kernel_rfl) (by kernel_rfl) (fun _ _ _ h => h) (Or.inl ⟨by rfl, ?_⟩) (by assumption) ?_
        rotate_left
        · intro w hSw; (try dsimp only at hSw); go_simp; (try with_reducible rfl)
        try simp only [Act.put, List.setIfInBounds_toArray, List.set_cons_zero, List.set_cons_succ]
        refine wpAnyH_take (i := 21) (oi := { dst := some 99, op := Op.move (Operand.tmp 15), type := 26, pos := "more.go:32", after := #[{ on := 19, ground := Ground.guard }], guard := some (19, true) }) (v := ?_) rfl (by kernel_rfl) (by kernel_rfl) (by kernel_rfl) (fun _ _ _ h => h) (Or.inl ⟨by rfl, ?_⟩) (by assumption) ?_
        rotate_left
        · intro w hSw; (try dsimp only at hSw); go_simp; (try with_reducible rfl)
        try simp only [Act.put, List.setIfInBounds_toArray, List.set_cons_zero, List.set_cons_succ]
        refine wpAnyH_take (i := 22) (oi := { dst := some 100, op := Op.binOp BinOp.eql 26 (Operand.tmp 98) (Operand.tmp 99) 26, type := 4, pos := "more.go:32", after := #[{ on := 20, ground := Ground.data }, { on := 21, ground := Ground.data }, { on := 19, ground := Ground.guard }], guard := some (19, true) }) (v := ?_) rfl (by kernel_rfl) (by kernel_rfl) (by kernel_rfl) (fun _ _ _ h => h) (Or.inl ⟨by rfl, ?_⟩) (by assumption) ?_
        rotate_left
        · intro w hSw; (try dsimp only at hSw); go_simp; (try with_reducible rfl)
        try simp only [Act.put, List.setIfInBounds_toArray, List.set_cons_zero, List.set_cons_succ]
        refine wpAnyH_take (i := 23) (oi := { dst := some 101, op := Op.pick (Operand.tmp 97) (Operand.tmp 100) (Operand.const (Value.bool false)), type := 4, pos := "more.go:32", after := #[{ on := 19, ground := Ground.data }, { on := 22, ground := Ground.data }], guard := none }) (v := ?_) rfl (by kernel_rfl) (by kernel_rfl) (by kernel_rfl) (fun _ _ _ h => h) (Or.inl ⟨by rfl, ?_⟩) (by assumption) ?_
        rotate_left
        · intro w hSw; (try dsimp only at hSw); go_simp; (try with_reducible rfl)
        try simp only [Act.put, List.setIfInBounds_toArray, List.set_cons_zero, List.set_cons_succ]
        refine wpAnyH_take (i := 24) (oi := { dst := some 102, op := Op.move (Operand.tmp 101), type := 4, pos := "more.go:32", after := #[{ on := 23, ground := Ground.data }, { on := 19, ground := Ground.chain }], guard := none }) (v := ?_) rfl (by kernel_rfl) (by kernel_rfl) (by kernel_rfl) (fun _ _ _ h => h) (Or.inl ⟨by rfl, ?_⟩) (by assumption) ?_
        rotate_left
        · intro w hSw; (try dsimp only at hSw); go_simp; (try with_reducible rfl)
        try simp only [Act.put, List.setIfInBounds_toArray, List.set_cons_zero, List.set_cons_succ]
        refine wpAnyH_take (i := 25) (oi := { dst := some 103, op := Op.move (Operand.tmp 14), type := 26, pos := "more.go:32", after := #[{ on := 24, ground := Ground.guard }], guard := some (24, true) }) (v := ?_) rfl (by kernel_rfl) (by kernel_rfl) (by kernel_rfl) (fun _ _ _ h => h) (Or.inl ⟨by rfl, ?_⟩) (by assumption) ?_
        rotate_left
        · intro w hSw; (try dsimp only at hSw); go_simp; (try with_reducible rfl)
        try simp only [Act.put, List.setIfInBounds_toArray, List.set_cons_zero, List.set_cons_succ]
        refine wpAnyH_take (i := 26) (oi := { dst := some 104, op := Op.binOp BinOp.neq 26 (Operand.tmp 103) (Operand.const (Value.int IntKind.i64 0)) 26, type := 4, pos := "more.go:32", after := #[{ on := 25, ground := Ground.data }, { on := 24, ground := Ground.guard }], guard := some (24, true) }) (v := ?_) rfl (by kernel_rfl) (by kernel_rfl) (by kernel_rfl) (fun _ _ _ h => h) (Or.inl ⟨by rfl, ?_⟩) (by assumption) ?_
        rotate_left
        · intro w hSw; (try dsimp only at hSw); go_simp; (try with_reducible rfl)
        try simp only [Act.put, List.setIfInBounds_toArray, List.set_cons_zero, List.set_cons_succ]
        refine wpAnyH_take (i := 27) (oi := { dst := some 105, op := Op.move (Operand.tmp 104), type := 4, pos := "more.go:32", after := #[{ on := 26, ground := Ground.data }, { on := 24, ground := Ground.chain }, { on := 24, ground := Ground.guard }], guard := some (24, true) }) (v := ?_) rfl (by kernel_rfl) (by kernel_rfl) (by kernel_rfl) (fun _ _ _ h => h) (Or.inl ⟨by rfl, ?_⟩) (by assumption) ?_
        rotate_left
        · intro w hSw; (try dsimp only at hSw); go_simp; (try with_reducible rfl)
        try simp only [Act.put, List.setIfInBounds_toArray, List.set_cons_zero, List.set_cons_succ]
        refine wpAnyH_take (i := 28) (oi := { dst := some 106, op := Op.load 25 (Operand.tmp 13), type := 25, pos := "more.go:32", after := #[{ on := 27, ground := Ground.guard }], guard := some (27, false) }) (v := undef) rfl (by kernel_rfl) (by kernel_rfl) (by kernel_rfl) (fun _ _ _ h => h) (Or.inr ⟨by rfl, rfl⟩) (by assumption) ?_
        try simp only [Act.put, List.setIfInBounds_toArray, List.set_cons_zero, List.set_cons_succ]
        refine wpAnyH_take (i := 29) (oi := { dst := some 107, op := Op.call { callee := Callee.value (Operand.func 10), args := #[Operand.tmp 106], argTypes := #[25] }, type := 3, pos := "more.go:32", after := #[{ on := 28, ground := Ground.data }, { on := 27, ground := Ground.chain }, { on := 27, ground := Ground.guard }], guard := some (27, false) }) (v := undef) rfl (by kernel_rfl) (by kernel_rfl) (by kernel_rfl) (fun _ _ _ h => h) (Or.inr ⟨by rfl, rfl⟩) (by assumption) ?_
        try simp only [Act.put, List.setIfInBounds_toArray, List.set_cons_zero, List.set_cons_succ]
        refine wpAnyH_take (i := 30) (oi := { dst := some 108, op := Op.move (Operand.tmp 1), type := 3, pos := "more.go:32", after := #[{ on := 27, ground := Ground.guard }], guard := some (27, false) }) (v := undef) rfl (by kernel_rfl) (by kernel_rfl) (by kernel_rfl) (fun _ _ _ h => h) (Or.inr ⟨by rfl, rfl⟩) (by assumption) ?_
        try simp only [Act.put, List.setIfInBounds_toArray, List.set_cons_zero, List.set_cons_succ]
        refine wpAnyH_take (i := 31) (oi := { dst := some 109, op := Op.binOp BinOp.eql 3 (Operand.tmp 107) (Operand.tmp 108) 3, type := 4, pos := "more.go:32", after := #[{ on := 29, ground := Ground.data }, { on := 30, ground := Ground.data }, { on := 27, ground := Ground.guard }], guard := some (27, false) }) (v := undef) rfl (by kernel_rfl) (by kernel_rfl) (by kernel_rfl) (fun _ _ _ h => h) (Or.inr ⟨by rfl, rfl⟩) (by assumption) ?_
        try simp only [Act.put, List.setIfInBounds_toArray, List.set_cons_zero, List.set_cons_succ]
        refine wpAnyH_take (i := 32) (oi := { dst := some 110, op := Op.move (Operand.tmp 109), type := 4, pos := "more.go:32", after := #[{ on := 31, ground := Ground.data }, { on := 29, ground := Ground.chain }, { on := 27, ground := Ground.guard }], guard := some (27, false) }) (v := undef) rfl (by kernel_rfl) (by kernel_rfl) (by kernel_rfl) (fun _ _ _ h => h) (Or.inr ⟨by rfl, rfl⟩) (by assumption) ?_
        try simp only [Act.put, List.setIfInBounds_toArray, List.set_cons_zero, List.set_cons_succ]
        refine wpAnyH_take (i := 33) (oi := { dst := some 111, op := Op.load 25 (Operand.tmp 13), type := 25, pos := "more.go:32", after := #[{ on := 32, ground := Ground.guard }], guard := some (32, true) }) (v := undef) rfl (by kernel_rfl) (by kernel_rfl) (by kernel_rfl) (fun _ _ _ h => h) (Or.inr ⟨by rfl, rfl⟩) (by assumption) ?_
        try simp only [Act.put, List.setIfInBounds_toArray, List.set_cons_zero, List.set_cons_succ]
        refine wpAnyH_take (i := 34) (oi := { dst := some 112, op := Op.call { callee := Callee.value (Operand.func 12), args := #[Operand.const (Value.int IntKind.u64 1)], argTypes := #[34] }, type := 25, pos := "more.go:32", after := #[{ on := 32, ground := Ground.chain }, { on := 32, ground := Ground.guard }], guard := some (32, true) }) (v := undef) rfl (by kernel_rfl) (by kernel_rfl) (by kernel_rfl) (fun _ _ _ h => h) (Or.inr ⟨by rfl, rfl⟩) (by assumption) ?_
        try simp only [Act.put, List.setIfInBounds_toArray, List.set_cons_zero, List.set_cons_succ]
        refine wpAnyH_take (i := 35) (oi := { dst := some 113, op := Op.call { callee := Callee.value (Operand.func 11), args := #[Operand.tmp 111, Operand.tmp 112], argTypes := #[25, 25] }, type := 25, pos := "more.go:32", after := #[{ on := 33, ground := Ground.data }, { on := 34, ground := Ground.data }, { on := 34, ground := Ground.chain }, { on := 32, ground := Ground.guard }], guard := some (32, true) }) (v := undef) rfl (by kernel_rfl) (by kernel_rfl) (by kernel_rfl) (fun _ _ _ h => h) (Or.inr ⟨by rfl, rfl⟩) (by assumption) ?_
        try simp only [Act.put, List.setIfInBounds_toArray, List.set_cons_zero, List.set_cons_succ]
        refine wpAnyH_take (i := 36) (oi := { dst := some 114, op := Op.call { callee := Callee.value (Operand.func 10), args := #[Operand.tmp 113], argTypes := #[25] }, type := 3, pos := "more.go:32", after := #[{ on := 35, ground := Ground.data }, { on := 35, ground := Ground.chain }, { on := 32, ground := Ground.guard }], guard := some (32, true) }) (v := undef) rfl (by kernel_rfl) (by kernel_rfl) (by kernel_rfl) (fun _ _ _ h => h) (Or.inr ⟨by rfl, rfl⟩) (by assumption) ?_
        try simp only [Act.put, List.setIfInBounds_toArray, List.set_cons_zero, List.set_cons_succ]
        refine wpAnyH_take (i := 37) (oi := { dst := some 115, op := Op.move (Operand.tmp 1), type := 3, pos := "more.go:32", after := #[{ on := 32, ground := Ground.guard }], guard := some (32, true) }) (v := undef) rfl (by kernel_rfl) (by kernel_rfl) (by kernel_rfl) (fun _ _ _ h => h) (Or.inr ⟨by rfl, rfl⟩) (by assumption) ?_
        try simp only [Act.put, List.setIfInBounds_toArray, List.set_cons_zero, List.set_cons_succ]
        refine wpAnyH_take (i := 38) (oi := { dst := some 116, op := Op.binOp BinOp.add 3 (Operand.tmp 115) (Operand.const (Value.int IntKind.i64 1)) 3, type := 3, pos := "more.go:32", after := #[{ on := 37, ground := Ground.data }, { on := 32, ground := Ground.guard }], guard := some (32, true) }) (v := undef) rfl (by kernel_rfl) (by kernel_rfl) (by kernel_rfl) (fun _ _ _ h => h) (Or.inr ⟨by rfl, rfl⟩) (by assumption) ?_
        try simp only [Act.put, List.setIfInBounds_toArray, List.set_cons_zero, List.set_cons_succ]
        refine wpAnyH_take (i := 39) (oi := { dst := some 117, op := Op.binOp BinOp.eql 3 (Operand.tmp 114) (Operand.tmp 116) 3, type := 4, pos := "more.go:32", after := #[{ on := 36, ground := Ground.data }, { on := 38, ground := Ground.data }, { on := 32, ground := Ground.guard }], guard := some (32, true) }) (v := undef) rfl (by kernel_rfl) (by kernel_rfl) (by kernel_rfl) (fun _ _ _ h => h) (Or.inr ⟨by rfl, rfl⟩) (by assumption) ?_
        try simp only [Act.put, List.setIfInBounds_toArray, List.set_cons_zero, List.set_cons_succ]
        refine wpAnyH_take (i := 40) (oi := { dst := some 118, op := Op.pick (Operand.tmp 110) (Operand.tmp 117) (Operand.const (Value.bool false)), type := 4, pos := "more.go:32", after := #[{ on := 32, ground := Ground.data }, { on := 39, ground := Ground.data }, { on := 27, ground := Ground.guard }], guard := some (27, false) }) (v := undef) rfl (by kernel_rfl) (by kernel_rfl) (by kernel_rfl) (fun _ _ _ h => h) (Or.inr ⟨by rfl, rfl⟩) (by assumption) ?_
        try simp only [Act.put, List.setIfInBounds_toArray, List.set_cons_zero, List.set_cons_succ]
        refine wpAnyH_take (i := 41) (oi := { dst := some 119, op := Op.pick (Operand.tmp 105) (Operand.const (Value.bool true)) (Operand.tmp 118), type := 4, pos := "more.go:32", after := #[{ on := 27, ground := Ground.data }, { on := 40, ground := Ground.data }, { on := 24, ground := Ground.guard }], guard := some (24, true) }) (v := ?_) rfl (by kernel_rfl) (by kernel_rfl) (by kernel_rfl) (fun _ _ _ h => h) (Or.inl ⟨by rfl, ?_⟩) (by assumption) ?_
        rotate_left
        · intro w hSw; (try dsimp only at hSw); go_simp; (try with_reducible rfl)
        try simp only [Act.put, List.setIfInBounds_toArray, List.set_cons_zero, List.set_cons_succ]
        refine wpAnyH_take (i := 42) (oi := { dst := some 120, op := Op.pick (Operand.tmp 102) (Operand.tmp 119) (Operand.const (Value.bool false)), type := 4, pos := "more.go:32", after := #[{ on := 24, ground := Ground.data }, { on := 41, ground := Ground.data }], guard := none }) (v := ?_) rfl (by kernel_rfl) (by kernel_rfl) (by kernel_rfl) (fun _ _ _ h => h) (Or.inl ⟨by rfl, ?_⟩) (by assumption) ?_
        rotate_left
        · intro w hSw; (try dsimp only at hSw); go_simp; (try with_reducible rfl)
        try simp only [Act.put, List.setIfInBounds_toArray, List.set_cons_zero, List.set_cons_succ]
        refine wpAnyH_take (i := 43) (oi := { dst := some 4, op := Op.assign (Operand.tmp 120), type := 4, pos := "more.go:32", after := #[{ on := 42, ground := Ground.data }, { on := 36, ground := Ground.chain }, { on := 0, ground := Ground.phase }, { on := 1, ground := Ground.phase }, { on := 2, ground := Ground.phase }, { on := 3, ground := Ground.phase }, { on := 4, ground := Ground.phase }, { on := 5, ground := Ground.phase }, { on := 6, ground := Ground.phase }, { on := 7, ground := Ground.phase }, { on := 8, ground := Ground.phase }, { on := 9, ground := Ground.phase }, { on := 10, ground := Ground.phase }, { on := 11, ground := Ground.phase }, { on := 12, ground := Ground.phase }, { on := 13, ground := Ground.phase }, { on := 14, ground := Ground.phase }, { on := 15, ground := Ground.phase }, { on := 16, ground := Ground.phase }, { on := 17, ground := Ground.phase }, { on := 18, ground := Ground.phase }, { on := 19, ground := Ground.phase }, { on := 20, ground := Ground.phase }, { on := 21, ground := Ground.phase }, { on := 22, ground := Ground.phase }, { on := 23, ground := Ground.phase }, { on := 24, ground := Ground.phase }, { on := 25, ground := Ground.phase }, { on := 26, ground := Ground.phase }, { on := 27, ground := Ground.phase }, { on := 28, ground := Ground.phase }, { on := 29, ground := Ground.phase }, { on := 30, ground := Ground.phase }, { on := 31, ground := Ground.phase }, { on := 32, ground := Ground.phase }, { on := 33, ground := Ground.phase }, { on := 34, ground := Ground.phase }, { on := 35, ground := Ground.phase }, { on := 36, ground := Ground.phase }, { on := 37, ground := Ground.phase }, { on := 38, ground := Ground.phase }, { on := 39, ground := Ground.phase }, { on := 40, ground := Ground.phase }, { on := 41, ground := Ground.phase }, { on := 42, ground := Ground.phase }], guard := none }) (v := ?_) rfl (by kernel_rfl) (by kernel_rfl) (by kernel_rfl) (fun _ _ _ h => h) (Or.inl ⟨by rfl, ?_⟩) (by assumption) ?_
        rotate_left
        · intro w hSw; (try dsimp only at hSw); go_simp; (try with_reducible rfl)
        try simp only [Act.put, List.setIfInBounds_toArray, List.set_cons_zero, List.set_cons_succ]
        refine wpAnyH_done (by kernel_rfl) ?_ _
        have HA11 := Lib.hid hA10
        go_wp2_with fail
        go_ret
        exact ⟨rfl, HA11.out.b0⟩
      have hwf9 : WF (ninesB k) := wf_nines rfl (by omega)
      have hsz9 : (ninesB k).size = k := by show (List.replicate k (57 : UInt8)).toArray.size = k; simp
      have hk0i : ((k : Int) == 0) = false := by simp; omega
      have hk1i : ¬ (1200 : Int) < (k : Int) := by omega
      have hdv : dv (ninesB k).data.toList = 10 ^ k - 1 := by
        have := dv_nines k
        show dv (List.replicate k 57).toArray.toList = _
        rw [List.toList_toArray]
        omega
      go_wp2_with fail
      refine (parse_ok _ wr hwf9 (by rw [hsz9]; omega)).mono ?_
      rintro e wq ⟨xb, yb, zb, rfl, hNq, hbq⟩
      rw [hdv] at hNq
      obtain ⟨W9, hW9⟩ : ∃ W9, wq.alloc (.cells #[.slice xb yb zb] 25) = W9 := ⟨_, rfl⟩
      have hb9 : Below wr.heap.size wr W9 := by rw [← hW9]; exact hbq.alloc hbq.size _
      obtain ⟨bb, hbb⟩ : ∃ bb, wq.heap.size = bb := ⟨_, rfl⟩
      have hNb : IsN W9 (.agg #[.slice xb yb zb]) (10 ^ k - 1) := by rw [← hW9]; exact hNq.below ((Below.refl _ wq).alloc (Nat.le_refl _) _) (Nat.le_refl _)
      have HKb : Hid (Blk W9 bb 25 #[.slice xb yb zb]) := Lib.hid (by rw [← hW9, ← hbb]; exact Blk.new wq _ _)
      have hDb : ((Lib.nDigits (10 ^ k - 1) : Nat) : Int) = (k : Int) := by rw [← hdv, hwf9.digits, hsz9]
      have hp10 : 10 ≤ 10 ^ k := by
        have := Nat.pow_le_pow_right (show 0 < 10 by decide) (show 1 ≤ k by omega)
        rwa [Nat.pow_one] at this
      have HBn : Hid (10 ^ k - 1 ≠ 0) := Lib.hid (by omega)
      have HBl : Hid (10 ^ k - 1 < 18446744073709551616 ^ 9000) := Lib.hid (big9 (by omega) hp10)
      have hDs : ((Lib.nDigits (10 ^ k - 1 + 1) : Nat) : Int) = (k : Int) + 1 := by
        rw [show 10 ^ k - 1 + 1 = 10 ^ k by omega, digits_ten]; rfl
      have q2 : W9.drew.cell? ⟨bb, 0, none⟩ = some (.slice xb yb zb) := HKb.out.cell 0
      have HB9 := Lib.hid (HB8'.trans (hb9.mono HB8'.size))
      have HA0 : AtD w W9 (.agg #[.slice x y z]) (.agg #[.slice xb yb zb]) A (10 ^ k - 1) (sz : Int) (k : Int) (W9).drew := ⟨(HN8'.below hb9 (Nat.le_refl _)).drew, hNb.drew, ⟨A, (HN8'.below hb9 (Nat.le_refl _)).drew, by rw [← HA.out, HWF.out.digits, Hsz.out]⟩, ⟨_, hNb.drew, hDb⟩, HB9.out.drew, (Below.refl _ _).drew⟩
      have q1 : (W9).drew.cell? ⟨ba, 0, none⟩ = some (.slice x y z) := (HK8'.below hb9 HK8'.lt).cell 0
      have HS : Hid (∀ W, AtD w W9 (.agg #[.slice x y z]) (.agg #[.slice xb yb zb]) A (10 ^ k - 1) (sz : Int) (k : Int) W → W.cell? ⟨ba, 0, none⟩ = some (.slice x y z) ∧ W.cell? ⟨bb, 0, none⟩ = some (.slice xb yb zb)) := Lib.hid (fun W h => ⟨((HK8'.below hb9 HK8'.lt).below h.b9 (HK8'.below hb9 HK8'.lt).lt).cell 0, (HKb.out.below h.b9 HKb.out.lt).cell 0⟩)
      have HC' := Lib.hid (digCalls w W9 (.agg #[.slice x y z]) (.agg #[.slice xb yb zb]) A (10 ^ k - 1) (sz : Int) (k : Int) s HT.out (by rw [← HA.out, HWF.out.text]))
      have hda := HA0.da
      have hdb := HA0.db
      obtain ⟨P, hP⟩ : ∃ P, 10 ^ k - 1 = P := ⟨_, rfl⟩
      rw [hP] at HA0 HS HC' HBn HBl hDs
      have HC := HC'
      have HDs := Lib.hid hDs
      have hwr : IntKind.i64.wrap ((k : Int) + 1) = (k : Int) + 1 := IntWalk.i64_in _ ⟨by omega, by omega⟩
      clear hbq hb9 HA8 hwf9 hNq hNb hDb hp10 hdv hsz9 hP HC' hDs
      go_wp2_with fail
      refine wp_region_held_drew (S := (fun w' => w'.cell? ⟨ba, 0, none⟩ = some (.slice x y z) ∧ w'.cell? ⟨bb, 0, none⟩ = some (.slice xb yb zb))) (by kernel_rfl) ?_ (fun hHeld => ?_)
      · exact ⟨q1, q2⟩
      refine wpAnyH_take (i := 0) (oi := { dst := some 78, op := Op.load 25 (Operand.tmp 5), type := 25, pos := "more.go:32", after := #[], guard := none }) (v := ?_) rfl (by kernel_rfl) (by kernel_rfl) (by kernel_rfl) (fun _ _ _ h => h) (Or.inl ⟨by rfl, ?_⟩) (by assumption) ?_
      rotate_left
      · intro w hSw; (try dsimp only at hSw); go_simp; (try with_reducible rfl)
      try simp only [Act.put, List.setIfInBounds_toArray, List.set_cons_zero, List.set_cons_succ]
      refine wpAnyH_take (i := 2) (oi := { dst := some 80, op := Op.move (Operand.tmp 0), type := 9, pos := "more.go:32", after := #[], guard := none }) (v := ?_) rfl (by kernel_rfl) (by kernel_rfl) (by kernel_rfl) (fun _ _ _ h => h) (Or.inl ⟨by rfl, ?_⟩) (by assumption) ?_
      rotate_left
      · intro w hSw; (try dsimp only at hSw); go_simp; (try with_reducible rfl)
      try simp only [Act.put, List.setIfInBounds_toArray, List.set_cons_zero, List.set_cons_succ]
      refine wpAnyH_ready (rs := [1]) (by kernel_rfl) (by simp) ?_
      refine AllReadyH.cons (o := { dst := some 79, op := Op.call { callee := Callee.value (Operand.func 9), args := #[Operand.tmp 78], argTypes := #[25] }, type := 9, pos := "more.go:32", after := #[{ on := 0, ground := Ground.data }], guard := none }) rfl (fun K hK => ?_) AllReadyH.nil
      go_simp
      (first| (go_at_call 9; refine (HC.out.text _ (by assumption)).mono ?_; rintro e w10 ⟨rfl, hA10, hda10, hdb10⟩) | (go_at_call 10; refine (HC.out.digits _ _ _ (by assumption) (by assumption)).mono ?_; rintro e w10 ⟨rfl, hA10, hda10, hdb10⟩) | (go_at_call 12; refine (HC.out.one _ (by assumption)).mono ?_; rintro e w10 ⟨x10, y10, z10, rfl, hN10, hA10, hda10, hdb10⟩) | (go_at_call 11; refine (HC.out.add _ _ (by assumption) (by assumption) HBn.out HBl.out).mono ?_; rintro e w10 ⟨x10, y10, z10, rfl, hD10, hA10, hda10, hdb10⟩; rw [HDs.out] at hD10))
      refine hK.out _ _ ?_ (fun hHeld => ?_)
      · exact HS.out _ ‹_›
      clear hK K
      try simp only [Act.put, List.setIfInBounds_toArray, List.set_cons_zero, List.set_cons_succ]
      refine wpAnyH_take (i := 3) (oi := { dst := some 81, op := Op.binOp BinOp.eql 9 (Operand.tmp 79) (Operand.tmp 80) 9, type := 4, pos := "more.go:32", after := #[{ on := 1, ground := Ground.data }, { on := 2, ground := Ground.data }], guard := none }) (v := ?_) rfl (by kernel_rfl) (by kernel_rfl) (by kernel_rfl) (fun _ _ _ h => h) (Or.inl ⟨by rfl, ?_⟩) (by assumption) ?_
      rotate_left
      · intro w hSw; (try dsimp only at hSw); go_simp; (try with_reducible rfl)
      try simp only [Act.put, List.setIfInBounds_toArray, List.set_cons_zero, List.set_cons_succ]
      refine wpAnyH_take (i := 4) (oi := { dst := some 82, op := Op.move (Operand.tmp 81), type := 4, pos := "more.go:32", after := #[{ on := 3, ground := Ground.data }, { on := 1, ground := Ground.chain }], guard := none }) (v := ?_) rfl (by kernel_rfl) (by kernel_rfl) (by kernel_rfl) (fun _ _ _ h => h) (Or.inl ⟨by rfl, ?_⟩) (by assumption) ?_
      rotate_left
      · intro w hSw; (try dsimp only at hSw); go_simp; (try with_reducible rfl)
      try simp only [Act.put, List.setIfInBounds_toArray, List.set_cons_zero, List.set_cons_succ]
      refine wpAnyH_take (i := 5) (oi := { dst := some 83, op := Op.load 25 (Operand.tmp 5), type := 25, pos := "more.go:32", after := #[{ on := 4, ground := Ground.guard }], guard := some (4, true) }) (v := ?_) rfl (by kernel_rfl) (by kernel_rfl) (by kernel_rfl) (fun _ _ _ h => h) (Or.inl ⟨by rfl, ?_⟩) (by assumption) ?_
      rotate_left
      · intro w hSw; (try dsimp only at hSw); go_simp; (try with_reducible rfl)
      try simp only [Act.put, List.setIfInBounds_toArray, List.set_cons_zero, List.set_cons_succ]
      refine wpAnyH_take (i := 7) (oi := { dst := some 85, op := Op.move (Operand.tmp 0), type := 9, pos := "more.go:32", after := #[{ on := 4, ground := Ground.guard }], guard := some (4, true) }) (v := ?_) rfl (by kernel_rfl) (by kernel_rfl) (by kernel_rfl) (fun _ _ _ h => h) (Or.inl ⟨by rfl, ?_⟩) (by assumption) ?_
      rotate_left
      · intro w hSw; (try dsimp only at hSw); go_simp; (try with_reducible rfl)
      try simp only [Act.put, List.setIfInBounds_toArray, List.set_cons_zero, List.set_cons_succ]
      refine wpAnyH_take (i := 8) (oi := { dst := some 86, op := Op.call { callee := Callee.builtin Builtin.len, args := #[Operand.tmp 85], argTypes := #[9] }, type := 3, pos := "more.go:32", after := #[{ on := 7, ground := Ground.data }, { on := 4, ground := Ground.guard }], guard := some (4, true) }) (v := ?_) rfl (by kernel_rfl) (by kernel_rfl) (by kernel_rfl) (fun _ _ _ h => h) (Or.inl ⟨by rfl, ?_⟩) (by assumption) ?_
      rotate_left
      · intro w hSw; (try dsimp only at hSw); go_simp; (try with_reducible rfl)
      try simp only [Act.put, List.setIfInBounds_toArray, List.set_cons_zero, List.set_cons_succ]
      refine wpAnyH_ready (rs := [6]) (by kernel_rfl) (by simp) ?_
      refine AllReadyH.cons (o := { dst := some 84, op := Op.call { callee := Callee.value (Operand.func 10), args := #[Operand.tmp 83], argTypes := #[25] }, type := 3, pos := "more.go:32", after := #[{ on := 5, ground := Ground.data }, { on := 4, ground := Ground.chain }, { on := 4, ground := Ground.guard }], guard := some (4, true) }) rfl (fun K hK => ?_) AllReadyH.nil
      go_simp
      (first| (go_at_call 9; refine (HC.out.text _ (by assumption)).mono ?_; rintro e w10 ⟨rfl, hA10, hda10, hdb10⟩) | (go_at_call 10; refine (HC.out.digits _ _ _ (by assumption) (by assumption)).mono ?_; rintro e w10 ⟨rfl, hA10, hda10, hdb10⟩) | (go_at_call 12; refine (HC.out.one _ (by assumption)).mono ?_; rintro e w10 ⟨x10, y10, z10, rfl, hN10, hA10, hda10, hdb10⟩) | (go_at_call 11; refine (HC.out.add _ _ (by assumption) (by assumption) HBn.out HBl.out).mono ?_; rintro e w10 ⟨x10, y10, z10, rfl, hD10, hA10, hda10, hdb10⟩; rw [HDs.out] at hD10))
      refine hK.out _ _ ?_ (fun hHeld => ?_)
      · exact HS.out _ ‹_›
      clear hK K
      try simp only [Act.put, List.setIfInBounds_toArray, List.set_cons_zero, List.set_cons_succ]
      refine wpAnyH_take (i := 9) (oi := { dst := some 87, op := Op.binOp BinOp.eql 3 (Operand.tmp 84) (Operand.tmp 86) 3, type := 4, pos := "more.go:32", after := #[{ on := 6, ground := Ground.data }, { on := 8, ground := Ground.data }, { on := 4, ground := Ground.guard }], guard := some (4, true) }) (v := ?_) rfl (by kernel_rfl) (by kernel_rfl) (by kernel_rfl) (fun _ _ _ h => h) (Or.inl ⟨by rfl, ?_⟩) (by assumption) ?_
      rotate_left
      · intro w hSw; (try dsimp only at hSw); go_simp; (try with_reducible rfl)
      try simp only [Act.put, List.setIfInBounds_toArray, List.set_cons_zero, List.set_cons_succ]
      refine wpAnyH_take (i := 10) (oi := { dst := some 88, op := Op.pick (Operand.tmp 82) (Operand.tmp 87) (Operand.const (Value.bool false)), type := 4, pos := "more.go:32", after := #[{ on := 4, ground := Ground.data }, { on := 9, ground := Ground.data }], guard := none }) (v := ?_) rfl (by kernel_rfl) (by kernel_rfl) (by kernel_rfl) (fun _ _ _ h => h) (Or.inl ⟨by rfl, ?_⟩) (by assumption) ?_
      rotate_left
      · intro w hSw; (try dsimp only at hSw); go_simp; (try with_reducible rfl)
      try simp only [Act.put, List.setIfInBounds_toArray, List.set_cons_zero, List.set_cons_succ]
      refine wpAnyH_take (i := 11) (oi := { dst := some 89, op := Op.move (Operand.tmp 88), type := 4, pos := "more.go:32", after := #[{ on := 10, ground := Ground.data }, { on := 6, ground := Ground.chain }], guard := none }) (v := ?_) rfl (by kernel_rfl) (by kernel_rfl) (by kernel_rfl) (fun _ _ _ h => h) (Or.inl ⟨by rfl, ?_⟩) (by assumption) ?_
      rotate_left
      · intro w hSw; (try dsimp only at hSw); go_simp; (try with_reducible rfl)
      try simp only [Act.put, List.setIfInBounds_toArray, List.set_cons_zero, List.set_cons_succ]
      refine wpAnyH_take (i := 12) (oi := { dst := some 90, op := Op.move (Operand.tmp 8), type := 26, pos := "more.go:32", after := #[{ on := 11, ground := Ground.guard }], guard := some (11, true) }) (v := ?_) rfl (by kernel_rfl) (by kernel_rfl) (by kernel_rfl) (fun _ _ _ h => h) (Or.inl ⟨by rfl, ?_⟩) (by assumption) ?_
      rotate_left
      · intro w hSw; (try dsimp only at hSw); go_simp; (try with_reducible rfl)
      try simp only [Act.put, List.setIfInBounds_toArray, List.set_cons_zero, List.set_cons_succ]
      refine wpAnyH_take (i := 13) (oi := { dst := some 91, op := Op.binOp BinOp.eql 26 (Operand.tmp 90) (Operand.const (Value.int IntKind.i64 3)) 26, type := 4, pos := "more.go:32", after := #[{ on := 12, ground := Ground.data }, { on := 11, ground := Ground.guard }], guard := some (11, true) }) (v := ?_) rfl (by kernel_rfl) (by kernel_rfl) (by kernel_rfl) (fun _ _ _ h => h) (Or.inl ⟨by rfl, ?_⟩) (by assumption) ?_
      rotate_left
      · intro w hSw; (try dsimp only at hSw); go_simp; (try with_reducible rfl)
      try simp only [Act.put, List.setIfInBounds_toArray, List.set_cons_zero, List.set_cons_succ]
      refine wpAnyH_take (i := 14) (oi := { dst := some 92, op := Op.pick (Operand.tmp 89) (Operand.tmp 91) (Operand.const (Value.bool false)), type := 4, pos := "more.go:32", after := #[{ on := 11, ground := Ground.data }, { on := 13, ground := Ground.data }], guard := none }) (v := ?_) rfl (by kernel_rfl) (by kernel_rfl) (by kernel_rfl) (fun _ _ _ h => h) (Or.inl ⟨by rfl, ?_⟩) (by assumption) ?_
      rotate_left
      · intro w hSw; (try dsimp only at hSw); go_simp; (try with_reducible rfl)
      try simp only [Act.put, List.setIfInBounds_toArray, List.set_cons_zero, List.set_cons_succ]
      refine wpAnyH_take (i := 15) (oi := { dst := some 93, op := Op.move (Operand.tmp 92), type := 4, pos := "more.go:32", after := #[{ on := 14, ground := Ground.data }, { on := 11, ground := Ground.chain }], guard := none }) (v := ?_) rfl (by kernel_rfl) (by kernel_rfl) (by kernel_rfl) (fun _ _ _ h => h) (Or.inl ⟨by rfl, ?_⟩) (by assumption) ?_
      rotate_left
      · intro w hSw; (try dsimp only at hSw); go_simp; (try with_reducible rfl)
      try simp only [Act.put, List.setIfInBounds_toArray, List.set_cons_zero, List.set_cons_succ]
      refine wpAnyH_take (i := 16) (oi := { dst := some 94, op := Op.move (Operand.tmp 10), type := 26, pos := "more.go:32", after := #[{ on := 15, ground := Ground.guard }], guard := some (15, true) }) (v := ?_) rfl (by kernel_rfl) (by kernel_rfl) (by kernel_rfl) (fun _ _ _ h => h) (Or.inl ⟨by rfl, ?_⟩) (by assumption) ?_
      rotate_left
      · intro w hSw; (try dsimp only at hSw); go_simp; (try with_reducible rfl)
      try simp only [Act.put, List.setIfInBounds_toArray, List.set_cons_zero, List.set_cons_succ]
      refine wpAnyH_take (i := 17) (oi := { dst := some 95, op := Op.binOp BinOp.eql 26 (Operand.tmp 94) (Operand.const (Value.int IntKind.i64 3)) 26, type := 4, pos := "more.go:32", after := #[{ on := 16, ground := Ground.data }, { on := 15, ground := Ground.guard }], guard := some (15, true) }) (v := ?_) rfl (by kernel_rfl) (by kernel_rfl) (by kernel_rfl) (fun _ _ _ h => h) (Or.inl ⟨by rfl, ?_⟩) (by assumption) ?_
      rotate_left
      · intro w hSw; (try dsimp only at hSw); go_simp; (try with_reducible rfl)
      try simp only [Act.put, List.setIfInBounds_toArray, List.set_cons_zero, List.set_cons_succ]
      refine wpAnyH_take (i := 18) (oi := { dst := some 96, op := Op.pick (Operand.tmp 93) (Operand.tmp 95) (Operand.const (Value.bool false)), type := 4, pos := "more.go:32", after := #[{ on := 15, ground := Ground.data }, { on := 17, ground := Ground.data }], guard := none }) (v := ?_) rfl (by kernel_rfl) (by kernel_rfl) (by kernel_rfl) (fun _ _ _ h => h) (Or.inl ⟨by rfl, ?_⟩) (by assumption) ?_
      rotate_left
      · intro w hSw; (try dsimp only at hSw); go_simp; (try with_reducible rfl)
      try simp only [Act.put, List.setIfInBounds_toArray, List.set_cons_zero, List.set_cons_succ]
      refine wpAnyH_take (i := 19) (oi := { dst := some 97, op := Op.move (Operand.tmp 96), type := 4, pos := "more.go:32", after := #[{ on := 18, ground := Ground.data }, { on := 15, ground := Ground.chain }], guard := none }) (v := ?_) rfl (by kernel_rfl) (by kernel_rfl) (by kernel_rfl) (fun _ _ _ h => h) (Or.inl ⟨by rfl, ?_⟩) (by assumption) ?_
      rotate_left
      · intro w hSw; (try dsimp only at hSw); go_simp; (try with_reducible rfl)
      try simp only [Act.put, List.setIfInBounds_toArray, List.set_cons_zero, List.set_cons_succ]
      refine wpAnyH_take (i := 20) (oi := { dst := some 98, op := Op.move (Operand.tmp 14), type := 26, pos := "more.go:32", after := #[{ on := 19, ground := Ground.guard }], guard := some (19, true) }) (v := ?_) rfl (by kernel_rfl) (by kernel_rfl) (by kernel_rfl) (fun _ _ _ h => h) (Or.inl ⟨by rfl, ?_⟩) (by assumption) ?_
      rotate_left
      · intro w hSw; (try dsimp only at hSw); go_simp; (try with_reducible rfl)
      try simp only [Act.put, List.setIfInBounds_toArray, List.set_cons_zero, List.set_cons_succ]
      refine wpAnyH_take (i := 21) (oi := { dst := some 99, op := Op.move (Operand.tmp 15), type := 26, pos := "more.go:32", after := #[{ on := 19, ground := Ground.guard }], guard := some (19, true) }) (v := ?_) rfl (by kernel_rfl) (by kernel_rfl) (by kernel_rfl) (fun _ _ _ h => h) (Or.inl ⟨by rfl, ?_⟩) (by assumption) ?_
      rotate_left
      · intro w hSw; (try dsimp only at hSw); go_simp; (try with_reducible rfl)
      try simp only [Act.put, List.setIfInBounds_toArray, List.set_cons_zero, List.set_cons_succ]
      refine wpAnyH_take (i := 22) (oi := { dst := some 100, op := Op.binOp BinOp.eql 26 (Operand.tmp 98) (Operand.tmp 99) 26, type := 4, pos := "more.go:32", after := #[{ on := 20, ground := Ground.data }, { on := 21, ground := Ground.data }, { on := 19, ground := Ground.guard }], guard := some (19, true) }) (v := ?_) rfl (by kernel_rfl) (by kernel_rfl) (by kernel_rfl) (fun _ _ _ h => h) (Or.inl ⟨by rfl, ?_⟩) (by assumption) ?_
      rotate_left
      · intro w hSw; (try dsimp only at hSw); go_simp; (try with_reducible rfl)
      try simp only [Act.put, List.setIfInBounds_toArray, List.set_cons_zero, List.set_cons_succ]
      refine wpAnyH_take (i := 23) (oi := { dst := some 101, op := Op.pick (Operand.tmp 97) (Operand.tmp 100) (Operand.const (Value.bool false)), type := 4, pos := "more.go:32", after := #[{ on := 19, ground := Ground.data }, { on := 22, ground := Ground.data }], guard := none }) (v := ?_) rfl (by kernel_rfl) (by kernel_rfl) (by kernel_rfl) (fun _ _ _ h => h) (Or.inl ⟨by rfl, ?_⟩) (by assumption) ?_
      rotate_left
      · intro w hSw; (try dsimp only at hSw); go_simp; (try with_reducible rfl)
      try simp only [Act.put, List.setIfInBounds_toArray, List.set_cons_zero, List.set_cons_succ]
      refine wpAnyH_take (i := 24) (oi := { dst := some 102, op := Op.move (Operand.tmp 101), type := 4, pos := "more.go:32", after := #[{ on := 23, ground := Ground.data }, { on := 19, ground := Ground.chain }], guard := none }) (v := ?_) rfl (by kernel_rfl) (by kernel_rfl) (by kernel_rfl) (fun _ _ _ h => h) (Or.inl ⟨by rfl, ?_⟩) (by assumption) ?_
      rotate_left
      · intro w hSw; (try dsimp only at hSw); go_simp; (try with_reducible rfl)
      try simp only [Act.put, List.setIfInBounds_toArray, List.set_cons_zero, List.set_cons_succ]
      refine wpAnyH_take (i := 25) (oi := { dst := some 103, op := Op.move (Operand.tmp 14), type := 26, pos := "more.go:32", after := #[{ on := 24, ground := Ground.guard }], guard := some (24, true) }) (v := ?_) rfl (by kernel_rfl) (by kernel_rfl) (by kernel_rfl) (fun _ _ _ h => h) (Or.inl ⟨by rfl, ?_⟩) (by assumption) ?_
      rotate_left
      · intro w hSw; (try dsimp only at hSw); go_simp; (try with_reducible rfl)
      try simp only [Act.put, List.setIfInBounds_toArray, List.set_cons_zero, List.set_cons_succ]
      refine wpAnyH_take (i := 26) (oi := { dst := some 104, op := Op.binOp BinOp.neq 26 (Operand.tmp 103) (Operand.const (Value.int IntKind.i64 0)) 26, type := 4, pos := "more.go:32", after := #[{ on := 25, ground := Ground.data }, { on := 24, ground := Ground.guard }], guard := some (24, true) }) (v := ?_) rfl (by kernel_rfl) (by kernel_rfl) (by kernel_rfl) (fun _ _ _ h => h) (Or.inl ⟨by rfl, ?_⟩) (by assumption) ?_
      rotate_left
      · intro w hSw; (try dsimp only at hSw); go_simp; (try with_reducible rfl)
      try simp only [Act.put, List.setIfInBounds_toArray, List.set_cons_zero, List.set_cons_succ]
      refine wpAnyH_take (i := 27) (oi := { dst := some 105, op := Op.move (Operand.tmp 104), type := 4, pos := "more.go:32", after := #[{ on := 26, ground := Ground.data }, { on := 24, ground := Ground.chain }, { on := 24, ground := Ground.guard }], guard := some (24, true) }) (v := ?_) rfl (by kernel_rfl) (by kernel_rfl) (by kernel_rfl) (fun _ _ _ h => h) (Or.inl ⟨by rfl, ?_⟩) (by assumption) ?_
      rotate_left
      · intro w hSw; (try dsimp only at hSw); go_simp; (try with_reducible rfl)
      try simp only [Act.put, List.setIfInBounds_toArray, List.set_cons_zero, List.set_cons_succ]
      refine wpAnyH_take (i := 28) (oi := { dst := some 106, op := Op.load 25 (Operand.tmp 13), type := 25, pos := "more.go:32", after := #[{ on := 27, ground := Ground.guard }], guard := some (27, false) }) (v := ?_) rfl (by kernel_rfl) (by kernel_rfl) (by kernel_rfl) (fun _ _ _ h => h) (Or.inl ⟨by rfl, ?_⟩) (by assumption) ?_
      rotate_left
      · intro w hSw; (try dsimp only at hSw); go_simp; (try with_reducible rfl)
      try simp only [Act.put, List.setIfInBounds_toArray, List.set_cons_zero, List.set_cons_succ]
      refine wpAnyH_take (i := 30) (oi := { dst := some 108, op := Op.move (Operand.tmp 1), type := 3, pos := "more.go:32", after := #[{ on := 27, ground := Ground.guard }], guard := some (27, false) }) (v := ?_) rfl (by kernel_rfl) (by kernel_rfl) (by kernel_rfl) (fun _ _ _ h => h) (Or.inl ⟨by rfl, ?_⟩) (by assumption) ?_
      rotate_left
      · intro w hSw; (try dsimp only at hSw); go_simp; (try with_reducible rfl)
      try simp only [Act.put, List.setIfInBounds_toArray, List.set_cons_zero, List.set_cons_succ]
      refine wpAnyH_ready (rs := [29]) (by kernel_rfl) (by simp) ?_
      refine AllReadyH.cons (o := { dst := some 107, op := Op.call { callee := Callee.value (Operand.func 10), args := #[Operand.tmp 106], argTypes := #[25] }, type := 3, pos := "more.go:32", after := #[{ on := 28, ground := Ground.data }, { on := 27, ground := Ground.chain }, { on := 27, ground := Ground.guard }], guard := some (27, false) }) rfl (fun K hK => ?_) AllReadyH.nil
      go_simp
      (first| (go_at_call 9; refine (HC.out.text _ (by assumption)).mono ?_; rintro e w10 ⟨rfl, hA10, hda10, hdb10⟩) | (go_at_call 10; refine (HC.out.digits _ _ _ (by assumption) (by assumption)).mono ?_; rintro e w10 ⟨rfl, hA10, hda10, hdb10⟩) | (go_at_call 12; refine (HC.out.one _ (by assumption)).mono ?_; rintro e w10 ⟨x10, y10, z10, rfl, hN10, hA10, hda10, hdb10⟩) | (go_at_call 11; refine (HC.out.add _ _ (by assumption) (by assumption) HBn.out HBl.out).mono ?_; rintro e w10 ⟨x10, y10, z10, rfl, hD10, hA10, hda10, hdb10⟩; rw [HDs.out] at hD10))
      refine hK.out _ _ ?_ (fun hHeld => ?_)
      · exact HS.out _ ‹_›
      clear hK K
      try simp only [Act.put, List.setIfInBounds_toArray, List.set_cons_zero, List.set_cons_succ]
      refine wpAnyH_take (i := 31) (oi := { dst := some 109, op := Op.binOp BinOp.eql 3 (Operand.tmp 107) (Operand.tmp 108) 3, type := 4, pos := "more.go:32", after := #[{ on := 29, ground := Ground.data }, { on := 30, ground := Ground.data }, { on := 27, ground := Ground.guard }], guard := some (27, false) }) (v := ?_) rfl (by kernel_rfl) (by kernel_rfl) (by kernel_rfl) (fun _ _ _ h => h) (Or.inl ⟨by rfl, ?_⟩) (by assumption) ?_
      rotate_left
      · intro w hSw; (try dsimp only at hSw); go_simp; (try with_reducible rfl)
      try simp only [Act.put, List.setIfInBounds_toArray, List.set_cons_zero, List.set_cons_succ]
      refine wpAnyH_take (i := 32) (oi := { dst := some 110, op := Op.move (Operand.tmp 109), type := 4, pos := "more.go:32", after := #[{ on := 31, ground := Ground.data }, { on := 29, ground := Ground.chain }, { on := 27, ground := Ground.guard }], guard := some (27, false) }) (v := ?_) rfl (by kernel_rfl) (by kernel_rfl) (by kernel_rfl) (fun _ _ _ h => h) (Or.inl ⟨by rfl, ?_⟩) (by assumption) ?_
      rotate_left
      · intro w hSw; (try dsimp only at hSw); go_simp; (try with_reducible rfl)
      try simp only [Act.put, List.setIfInBounds_toArray, List.set_cons_zero, List.set_cons_succ]
      refine wpAnyH_take (i := 33) (oi := { dst := some 111, op := Op.load 25 (Operand.tmp 13), type := 25, pos := "more.go:32", after := #[{ on := 32, ground := Ground.guard }], guard := some (32, true) }) (v := ?_) rfl (by kernel_rfl) (by kernel_rfl) (by kernel_rfl) (fun _ _ _ h => h) (Or.inl ⟨by rfl, ?_⟩) (by assumption) ?_
      rotate_left
      · intro w hSw; (try dsimp only at hSw); go_simp; (try with_reducible rfl)
      try simp only [Act.put, List.setIfInBounds_toArray, List.set_cons_zero, List.set_cons_succ]
      refine wpAnyH_take (i := 37) (oi := { dst := some 115, op := Op.move (Operand.tmp 1), type := 3, pos := "more.go:32", after := #[{ on := 32, ground := Ground.guard }], guard := some (32, true) }) (v := ?_) rfl (by kernel_rfl) (by kernel_rfl) (by kernel_rfl) (fun _ _ _ h => h) (Or.inl ⟨by rfl, ?_⟩) (by assumption) ?_
      rotate_left
      · intro w hSw; (try dsimp only at hSw); go_simp; (try with_reducible rfl)
      try simp only [Act.put, List.setIfInBounds_toArray, List.set_cons_zero, List.set_cons_succ]
      refine wpAnyH_take (i := 38) (oi := { dst := some 116, op := Op.binOp BinOp.add 3 (Operand.tmp 115) (Operand.const (Value.int IntKind.i64 1)) 3, type := 3, pos := "more.go:32", after := #[{ on := 37, ground := Ground.data }, { on := 32, ground := Ground.guard }], guard := some (32, true) }) (v := ?_) rfl (by kernel_rfl) (by kernel_rfl) (by kernel_rfl) (fun _ _ _ h => h) (Or.inl ⟨by rfl, ?_⟩) (by assumption) ?_
      rotate_left
      · intro w hSw; (try dsimp only at hSw); go_simp; (try with_reducible rfl)
      try simp only [Act.put, List.setIfInBounds_toArray, List.set_cons_zero, List.set_cons_succ]
      refine wpAnyH_ready (rs := [34]) (by kernel_rfl) (by simp) ?_
      refine AllReadyH.cons (o := { dst := some 112, op := Op.call { callee := Callee.value (Operand.func 12), args := #[Operand.const (Value.int IntKind.u64 1)], argTypes := #[34] }, type := 25, pos := "more.go:32", after := #[{ on := 32, ground := Ground.chain }, { on := 32, ground := Ground.guard }], guard := some (32, true) }) rfl (fun K hK => ?_) AllReadyH.nil
      go_simp
      (first| (go_at_call 9; refine (HC.out.text _ (by assumption)).mono ?_; rintro e w10 ⟨rfl, hA10, hda10, hdb10⟩) | (go_at_call 10; refine (HC.out.digits _ _ _ (by assumption) (by assumption)).mono ?_; rintro e w10 ⟨rfl, hA10, hda10, hdb10⟩) | (go_at_call 12; refine (HC.out.one _ (by assumption)).mono ?_; rintro e w10 ⟨x10, y10, z10, rfl, hN10, hA10, hda10, hdb10⟩) | (go_at_call 11; refine (HC.out.add _ _ (by assumption) (by assumption) HBn.out HBl.out).mono ?_; rintro e w10 ⟨x10, y10, z10, rfl, hD10, hA10, hda10, hdb10⟩; rw [HDs.out] at hD10))
      refine hK.out _ _ ?_ (fun hHeld => ?_)
      · exact HS.out _ ‹_›
      clear hK K
      try simp only [Act.put, List.setIfInBounds_toArray, List.set_cons_zero, List.set_cons_succ]
      refine wpAnyH_ready (rs := [35]) (by kernel_rfl) (by simp) ?_
      refine AllReadyH.cons (o := { dst := some 113, op := Op.call { callee := Callee.value (Operand.func 11), args := #[Operand.tmp 111, Operand.tmp 112], argTypes := #[25, 25] }, type := 25, pos := "more.go:32", after := #[{ on := 33, ground := Ground.data }, { on := 34, ground := Ground.data }, { on := 34, ground := Ground.chain }, { on := 32, ground := Ground.guard }], guard := some (32, true) }) rfl (fun K hK => ?_) AllReadyH.nil
      go_simp
      (first| (go_at_call 9; refine (HC.out.text _ (by assumption)).mono ?_; rintro e w10 ⟨rfl, hA10, hda10, hdb10⟩) | (go_at_call 10; refine (HC.out.digits _ _ _ (by assumption) (by assumption)).mono ?_; rintro e w10 ⟨rfl, hA10, hda10, hdb10⟩) | (go_at_call 12; refine (HC.out.one _ (by assumption)).mono ?_; rintro e w10 ⟨x10, y10, z10, rfl, hN10, hA10, hda10, hdb10⟩) | (go_at_call 11; refine (HC.out.add _ _ (by assumption) (by assumption) HBn.out HBl.out).mono ?_; rintro e w10 ⟨x10, y10, z10, rfl, hD10, hA10, hda10, hdb10⟩; rw [HDs.out] at hD10))
      refine hK.out _ _ ?_ (fun hHeld => ?_)
      · exact HS.out _ ‹_›
      clear hK K
      try simp only [Act.put, List.setIfInBounds_toArray, List.set_cons_zero, List.set_cons_succ]
      refine wpAnyH_ready (rs := [36]) (by kernel_rfl) (by simp) ?_
      refine AllReadyH.cons (o := { dst := some 114, op := Op.call { callee := Callee.value (Operand.func 10), args := #[Operand.tmp 113], argTypes := #[25] }, type := 3, pos := "more.go:32", after := #[{ on := 35, ground := Ground.data }, { on := 35, ground := Ground.chain }, { on := 32, ground := Ground.guard }], guard := some (32, true) }) rfl (fun K hK => ?_) AllReadyH.nil
      go_simp
      (first| (go_at_call 9; refine (HC.out.text _ (by assumption)).mono ?_; rintro e w10 ⟨rfl, hA10, hda10, hdb10⟩) | (go_at_call 10; refine (HC.out.digits _ _ _ (by assumption) (by assumption)).mono ?_; rintro e w10 ⟨rfl, hA10, hda10, hdb10⟩) | (go_at_call 12; refine (HC.out.one _ (by assumption)).mono ?_; rintro e w10 ⟨x10, y10, z10, rfl, hN10, hA10, hda10, hdb10⟩) | (go_at_call 11; refine (HC.out.add _ _ (by assumption) (by assumption) HBn.out HBl.out).mono ?_; rintro e w10 ⟨x10, y10, z10, rfl, hD10, hA10, hda10, hdb10⟩; rw [HDs.out] at hD10))
      refine hK.out _ _ ?_ (fun hHeld => ?_)
      · exact HS.out _ ‹_›
      clear hK K
      try simp only [Act.put, List.setIfInBounds_toArray, List.set_cons_zero, List.set_cons_succ]
      refine wpAnyH_take (i := 39) (oi := { dst := some 117, op := Op.binOp BinOp.eql 3 (Operand.tmp 114) (Operand.tmp 116) 3, type := 4, pos := "more.go:32", after := #[{ on := 36, ground := Ground.data }, { on := 38, ground := Ground.data }, { on := 32, ground := Ground.guard }], guard := some (32, true) }) (v := ?_) rfl (by kernel_rfl) (by kernel_rfl) (by kernel_rfl) (fun _ _ _ h => h) (Or.inl ⟨by rfl, ?_⟩) (by assumption) ?_
      rotate_left
      · intro w hSw; (try dsimp only at hSw); go_simp; (try with_reducible rfl)
      try simp only [Act.put, List.setIfInBounds_toArray, List.set_cons_zero, List.set_cons_succ]
      refine wpAnyH_take (i := 40) (oi := { dst := some 118, op := Op.pick (Operand.tmp 110) (Operand.tmp 117) (Operand.const (Value.bool false)), type := 4, pos := "more.go:32", after := #[{ on := 32, ground := Ground.data }, { on := 39, ground := Ground.data }, { on := 27, ground := Ground.guard }], guard := some (27, false) }) (v := ?_) rfl (by kernel_rfl) (by kernel_rfl) (by kernel_rfl) (fun _ _ _ h => h) (Or.inl ⟨by rfl, ?_⟩) (by assumption) ?_
      rotate_left
      · intro w hSw; (try dsimp only at hSw); go_simp; (try with_reducible rfl)
      try simp only [Act.put, List.setIfInBounds_toArray, List.set_cons_zero, List.set_cons_succ]
      refine wpAnyH_take (i := 41) (oi := { dst := some 119, op := Op.pick (Operand.tmp 105) (Operand.const (Value.bool true)) (Operand.tmp 118), type := 4, pos := "more.go:32", after := #[{ on := 27, ground := Ground.data }, { on := 40, ground := Ground.data }, { on := 24, ground := Ground.guard }], guard := some (24, true) }) (v := ?_) rfl (by kernel_rfl) (by kernel_rfl) (by kernel_rfl) (fun _ _ _ h => h) (Or.inl ⟨by rfl, ?_⟩) (by assumption) ?_
      rotate_left
      · intro w hSw; (try dsimp only at hSw); go_simp; (try with_reducible rfl)
      try simp only [Act.put, List.setIfInBounds_toArray, List.set_cons_zero, List.set_cons_succ]
      refine wpAnyH_take (i := 42) (oi := { dst := some 120, op := Op.pick (Operand.tmp 102) (Operand.tmp 119) (Operand.const (Value.bool false)), type := 4, pos := "more.go:32", after := #[{ on := 24, ground := Ground.data }, { on := 41, ground := Ground.data }], guard := none }) (v := ?_) rfl (by kernel_rfl) (by kernel_rfl) (by kernel_rfl) (fun _ _ _ h => h) (Or.inl ⟨by rfl, ?_⟩) (by assumption) ?_
      rotate_left
      · intro w hSw; (try dsimp only at hSw); go_simp; (try with_reducible rfl)
      try simp only [Act.put, List.setIfInBounds_toArray, List.set_cons_zero, List.set_cons_succ]
      refine wpAnyH_take (i := 43) (oi := { dst := some 4, op := Op.assign (Operand.tmp 120), type := 4, pos := "more.go:32", after := #[{ on := 42, ground := Ground.data }, { on := 36, ground := Ground.chain }, { on := 0, ground := Ground.phase }, { on := 1, ground := Ground.phase }, { on := 2, ground := Ground.phase }, { on := 3, ground := Ground.phase }, { on := 4, ground := Ground.phase }, { on := 5, ground := Ground.phase }, { on := 6, ground := Ground.phase }, { on := 7, ground := Ground.phase }, { on := 8, ground := Ground.phase }, { on := 9, ground := Ground.phase }, { on := 10, ground := Ground.phase }, { on := 11, ground := Ground.phase }, { on := 12, ground := Ground.phase }, { on := 13, ground := Ground.phase }, { on := 14, ground := Ground.phase }, { on := 15, ground := Ground.phase }, { on := 16, ground := Ground.phase }, { on := 17, ground := Ground.phase }, { on := 18, ground := Ground.phase }, { on := 19, ground := Ground.phase }, { on := 20, ground := Ground.phase }, { on := 21, ground := Ground.phase }, { on := 22, ground := Ground.phase }, { on := 23, ground := Ground.phase }, { on := 24, ground := Ground.phase }, { on := 25, ground := Ground.phase }, { on := 26, ground := Ground.phase }, { on := 27, ground := Ground.phase }, { on := 28, ground := Ground.phase }, { on := 29, ground := Ground.phase }, { on := 30, ground := Ground.phase }, { on := 31, ground := Ground.phase }, { on := 32, ground := Ground.phase }, { on := 33, ground := Ground.phase }, { on := 34, ground := Ground.phase }, { on := 35, ground := Ground.phase }, { on := 36, ground := Ground.phase }, { on := 37, ground := Ground.phase }, { on := 38, ground := Ground.phase }, { on := 39, ground := Ground.phase }, { on := 40, ground := Ground.phase }, { on := 41, ground := Ground.phase }, { on := 42, ground := Ground.phase }], guard := none }) (v := ?_) rfl (by kernel_rfl) (by kernel_rfl) (by kernel_rfl) (fun _ _ _ h => h) (Or.inl ⟨by rfl, ?_⟩) (by assumption) ?_
      rotate_left
      · intro w hSw; (try dsimp only at hSw); go_simp; (try with_reducible rfl)
      try simp only [Act.put, List.setIfInBounds_toArray, List.set_cons_zero, List.set_cons_succ]
      refine wpAnyH_done (by kernel_rfl) ?_ _
      have HA11 := Lib.hid hA10
      go_wp2_with fail
      go_ret
      exact ⟨rfl, HA11.out.b0⟩
set_option maxRecDepth 100000 in
set_option maxHeartbeats 2000000 in
theorem natDigits.walk (s : ByteArray) (n : Int) (hs : s.size ≤ maxLen) (_hn : (Lit.int .i64 n).wf = true) (w : World) (htab : Tab w) :
    Calls Tryd.prog 3 #[.string s, .int .i64 n] w fun e w' => e = .returned (.bool true) ∧ Below w.heap.size w w' := by
  have HAl := Lib.hid (alive_any w htab)
  obtain ⟨sn, hsn⟩ : ∃ sn, s.size = sn := ⟨_, rfl⟩
  by_cases c1 : (300 : Int) < (s.size : Int)
  · go_enter Tryd.func3, Tryd.ntmps3
    go_wp2_with fail
    refine HAl.out.mono ?_
    rintro e w1 ⟨rfl, hb1⟩
    go_wp2_with fail
    go_ret
    exact ⟨rfl, hb1⟩
  by_cases c2 : n < 0
  · go_enter Tryd.func3, Tryd.ntmps3
    go_wp2_with fail
    refine HAl.out.mono ?_
    rintro e w1 ⟨rfl, hb1⟩
    go_wp2_with fail
    go_ret
    exact ⟨rfl, hb1⟩
  by_cases c3 : 1300 < n
  · go_enter Tryd.func3, Tryd.ntmps3
    go_wp2_with fail
    refine HAl.out.mono ?_
    rintro e w1 ⟨rfl, hb1⟩
    go_wp2_with fail
    go_ret
    exact ⟨rfl, hb1⟩
  have hs3 : s.size ≤ 300 := by omega
  have HT := Lib.hid htab
  by_cases hwf : WF s
  · obtain ⟨m, rfl⟩ : ∃ m : Nat, n = (m : Int) := ⟨n.toNat, by omega⟩
    exact natDigits.good s m hwf hs3 (by omega) w htab
  · go_enter Tryd.func3, Tryd.ntmps3
    go_wp2_with fail
    refine HAl.out.mono ?_
    rintro e w1 ⟨rfl, hb1⟩
    have HB1 := Lib.hid hb1
    have hs1 := hb1.size
    clear hb1
    go_wp2_with fail
    refine (parse_bad s w1 hs hwf).mono ?_
    rintro e w2 ⟨rfl, hb2⟩
    have hb3 : Below w2.heap.size w2 (w2.alloc (.cells #[.slice none 0 0] 25)) := (Below.refl _ w2).alloc (Nat.le_refl _) _
    have hk3 : Blk (w2.alloc (.cells #[.slice none 0 0] 25)) w2.heap.size 25 #[.slice none 0 0] := Blk.new w2 _ _
    have HB3 := Lib.hid ((HB1.out.trans (hb2.mono hs1)).trans (hb3.mono (by have := hb2.size; omega)))
    have HK3 := Lib.hid hk3
    clear hb2 hb3 hk3 HB1
    go_wp2_with fail
    refine (zero_yes (isN_zero _)).mono ?_
    rintro e w4 ⟨rfl, hb4⟩
    have HB4 := Lib.hid (HB3.out.trans (hb4.mono HB3.out.size))
    have q4 := (HK3.out.below hb4 HK3.out.lt).cell 0
    simp only [List.getElem?_toArray, List.getElem?_cons_zero] at q4
    have HTx : Hid (Calls Tryd.prog 9 #[.agg #[.slice none 0 0]] w4 fun e w' => e = .returned (.string ⟨#[48]⟩) ∧ Below w4.heap.size w4 w') := Lib.hid ((text_any 0 _ w4 (isN_zero _) (HT.out.below HB4.out (Nat.le_refl _))).mono fun e w' h => ⟨by rw [h.1, Lib.decDigits_one (by decide)]; rfl, h.2⟩)
    clear hb4 HB3 HK3
    go_wp2_with fail
    refine HTx.out.mono ?_
    rintro e w5 ⟨rfl, hb5⟩
    have HB5 := Lib.hid (HB4.out.trans (hb5.mono HB4.out.size))
    clear hb5 HB4 HTx
    go_wp2_with fail
    go_ret
    exact ⟨rfl, HB5.out⟩
end Go.Proofs.YtckllmlkhlaboaaDoor
