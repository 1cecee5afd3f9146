/-
  Law 7: an element's name; its beginning.
-/
import Derived.Test.YtkebjllehegjlaaGreatDoorXt
import Derived.Test.YtkebjllehegjlaaGreatDoorXl
import Derived.Test.YtkebjllehegjlaaGreatDoorXf
import Derived.Maps.OwnSet
import Derived.Maps.Own
namespace Go.Proofs.YtkebjllehegjlaaGreatDoor
open Go.RowKit Go.Shelf
set_option linter.unusedVariables false
theorem nsize_one {c y : UInt8} {l : List UInt8} (hc : c.toNat < 128) (hst : uStart (c.toNat : Int) = true) (hy : y.toNat < 128) (hpt : uPart (y.toNat : Int) = false) : nsize (c :: y :: l) = 1 := by
  have e1 := u1_ascii c (y :: l) hc
  have e2 := u1_ascii y l hy
  have r1 := uRunes_go (c :: y :: l) 0 (by rw [e1]; exact Nat.one_ne_zero)
  rw [e1] at r1
  have r2 := uRunes_go (y :: l) (0 + 1) (by rw [e2]; exact Nat.one_ne_zero)
  rw [e2] at r2
  simp only [List.drop_succ_cons, List.drop_zero] at r1
  unfold nsize
  rw [r1, r2]
  have n1 : nbad (0, c.toNat) = false := by unfold nbad; rw [hst, uStart_part _ hst]; rfl
  have n2 : nbad (0 + 1, y.toNat) = true := by unfold nbad; rw [hpt]; simp
  rw [List.find?_cons_of_neg (by rw [n1]; decide), List.find?_cons_of_pos n2]
theorem nsize_last {c : UInt8} (hc : c.toNat < 128) (hst : uStart (c.toNat : Int) = true) : nsize [c] = 1 := by
  have e1 := u1_ascii c [] hc
  have r1 := uRunes_go [c] 0 (by rw [e1]; exact Nat.one_ne_zero)
  rw [e1] at r1
  unfold nsize
  rw [r1]
  have n1 : nbad (0, c.toNat) = false := by unfold nbad; rw [hst, uStart_part _ hst]; rfl
  rw [List.find?_cons_of_neg (by rw [n1]; decide)]
  have e2 := uEnd_go [c] (by rw [e1]; exact Nat.one_ne_zero)
  rw [e1] at e2
  exact e2
theorem nsize_call {s : ByteArray} {k n : Nat} (hs : s.size ≤ 1000000) (h : nsize (s.data.toList.drop k) = n) (W : World) :
    Calls Tryz.prog 47 #[.string (s.extract k s.size)] W fun e w' => e = .returned (.int .i64 (n : Int)) ∧ Below W.heap.size W w' := by
  have := nsize_any (s.extract k s.size) (by rw [ByteArray.size_extract]; omega) W
  rwa [ext_list, h] at this
theorem name_text {s : ByteArray} {k : Nat} {c : UInt8} {l : List UInt8} (hd : s.data.toList.drop k = c :: l) : (s.extract k s.size).extract 0 1 = ⟨#[c]⟩ := by
  refine bytes_of (l := [c]) ?_
  rw [ext2_list, hd]
  rfl
/-- A name of one letter. -/
structure Nm (s : ByteArray) (k : Nat) (c : UInt8) : Prop where
  at_ : ∃ l, s.data.toList.drop k = c :: l
  is : nsize (s.data.toList.drop k) = 1
theorem Nm.call {s : ByteArray} {k : Nat} {c : UInt8} (N : Nm s k c) {w W : World} {b : Nat} {tk : Value} {x : Int} (h : Cu w b s k tk x W) (hs : s.size ≤ 1000000) :
    Calls Tryz.prog 38 #[.pointer (some ⟨b, 0, none⟩)] W fun e w' => e = .returned (.string ⟨#[c]⟩) ∧ Cu w b s (k + 1) tk x w' := by
  obtain ⟨l, hl⟩ := N.at_
  obtain ⟨hk, _, _, _⟩ := drop_get hl
  have := name_any h (Nat.le_of_lt hk) hs (n := 1) (by omega) (fun W => nsize_call hs N.is W)
  rwa [name_text hl] at this
theorem one_some (c : UInt8) : (⟨#[c]⟩ : ByteArray).toList.isEmpty = false := by rw [ByteArray.toList_eq]; rfl
/-- The end of an element whose name has one letter. -/
theorem closing_one {w W : World} {b k : Nat} {s : ByteArray} {tk : Value} {x : Int} (h : Cu w b s k tk x W) (hs : s.size ≤ 1000000) (start : Int) {c : UInt8} (N : Nm s k c) {l : List UInt8} (hd : s.data.toList.drop k = c :: 62 :: l) (Q : Bool → World → Prop)
    (HT : ∀ W', Cu w b s (k + 2) tk x W' → Calls Tryz.prog 35 #[.pointer (some ⟨b, 0, none⟩), .agg #[.int .i64 2, .int .i64 start, .string ⟨#[c]⟩, .string ⟨#[]⟩, .slice none 0 0, .bool false]] W' fun e w' => ∃ ok, e = .returned (.bool ok) ∧ Q ok w') :
    Calls Tryz.prog 25 #[.pointer (some ⟨b, 0, none⟩), .int .i64 start] W fun e w' => ∃ ok, e = .returned (.bool ok) ∧ Q ok w' := by
  obtain ⟨hk, _, _, hd2⟩ := drop_get hd
  obtain ⟨hk2, _, h2, _⟩ := drop_get hd2
  have e := name_text hd
  refine closing_any h (Nat.le_of_lt hk) hs (n := 1) (by omega) start (fun W => nsize_call hs N.is W) (by rw [e]; exact one_some c) 62 h2 (by decide) (goes_yes (u := [62]) hd2) Q (fun W' h' => ?_)
  rw [e]
  exact HT W' h'
/-- What an element's beginning has made: the token, and which names there were. -/
structure OS (w : World) (b : Nat) (s : ByteArray) (tk : Value) (ga mb : Nat) (cs : Array Value) (n : Nat) (D : DataW Nat) (j : Nat) (x : Int) (W : World) : Prop where
  cu : Cu w b s j tk x W
  tok : Blk W ga 33 cs
  map : W.ownsMap Tryz.prog 9 unitElem mb n D
  neb : ga ≠ b
  mneb : mb ≠ b
  mga : mb ≠ ga
  new : w.heap.size ≤ ga
  mnew : w.heap.size ≤ mb
section
variable {w W W' : World} {b ga mb n j j' : Nat} {s : ByteArray} {tk : Value} {x x' : Int} {cs : Array Value} {D : DataW Nat}
theorem OS.step (h : OS w b s tk ga mb cs n D j x W) (h' : Cu W b s j' tk x' W') : OS w b s tk ga mb cs n D j' x' W' :=
  ⟨h.cu.back h', h.tok.kept h'.bel (by simpa using h.neb), h.map.kept h'.bel (by simpa using h.mneb), h.neb, h.mneb, h.mga, h.new, h.mnew⟩
theorem OS.call {f : Nat} {av : Array Value} {v : Value} (h : OS w b s tk ga mb cs n D j x W) (H : Cu W b s j tk x W → Calls Tryz.prog f av W fun e w' => e = .returned v ∧ Cu W b s j' tk x' w') : Calls Tryz.prog f av W fun e w' => e = .returned v ∧ OS w b s tk ga mb cs n D j' x' w' :=
  (H h.cu.me).mono fun e w' hh => ⟨hh.1, h.step hh.2⟩
theorem OS.below (h : OS w b s tk ga mb cs n D j x W) (hb : Below W.heap.size W W') : OS w b s tk ga mb cs n D j x W' := h.step (h.cu.me.below hb)
theorem OS.set (h : OS w b s tk ga mb cs n D j x W) (i : Nat) (u : Value) : OS w b s tk ga mb (cs.setIfInBounds i u) n D j x (W.setCell ⟨ga, i, none⟩ u) :=
  ⟨h.cu.grown (grown_set (grown_self W (some ga)) i u) (by simpa using h.neb.symm) (fun g e => by injection e with e; rw [← e]; exact h.new), h.tok.set_ i u, h.map.setCell h.mga u, h.neb, h.mneb, h.mga, h.new, h.mnew⟩
theorem OS.mapped {n' : Nat} {D' : DataW Nat} (h : OS w b s tk ga mb cs n D j x W) (hg : W.grownBy W' (some mb)) (hm : W'.ownsMap Tryz.prog 9 unitElem mb n' D') : OS w b s tk ga mb cs n' D' j x W' :=
  ⟨h.cu.grown hg (by simpa using h.mneb.symm) (fun g e => by injection e with e; rw [← e]; exact h.mnew), h.tok.kept hg (by simpa using h.mga.symm), hm, h.neb, h.mneb, h.mga, h.new, h.mnew⟩
theorem OS.made (h : Cu w b s j tk x W) (cs : Array Value) : OS w b s tk W.heap.size (W.heap.size + 1) cs 0 (.map []) j x ((W.alloc (.cells cs 33)).alloc (.map #[] 0)) :=
  ⟨h.below (((Below.refl _ _).alloc (Nat.le_refl _) _).alloc (by simp) _), (Blk.new W _ cs).alloc _, by have := World.ownsMap_made (H := Nat) (W.alloc (.cells cs 33)) Tryz.prog 9 unitElem; simpa using this, by have := h.lt; omega, by have := h.lt; omega, by omega, h.size, by have := h.size; omega⟩
end
set_option maxRecDepth 100000 in
set_option maxHeartbeats 8000000 in
/-- An element begins, without attributes. -/
theorem opening_z {w W : World} {b k : Nat} {s : ByteArray} {tk : Value} {x : Int} (h : Cu w b s k tk x W) (hs : s.size ≤ 1000000) (start : Int) {c : UInt8} (N : Nm s k c) {l : List UInt8} (hd : s.data.toList.drop k = c :: 62 :: l) (Q : Bool → World → Prop)
    (HT : ∀ W', Cu w b s (k + 2) tk x W' → Calls Tryz.prog 35 #[.pointer (some ⟨b, 0, none⟩), .agg #[.int .i64 1, .int .i64 start, .string ⟨#[c]⟩, .string ⟨#[]⟩, .slice none 0 0, .bool false]] W' fun e w' => ∃ ok, e = .returned (.bool ok) ∧ Q ok w') :
    Calls Tryz.prog 26 #[.pointer (some ⟨b, 0, none⟩), .int .i64 start] W fun e w' => ∃ ok, e = .returned (.bool ok) ∧ Q ok w' := by
  obtain ⟨hk, -, -, hd2⟩ := drop_get hd
  obtain ⟨hk2, -, -, -⟩ := drop_get hd2
  have H1 := Lib.hid (N.call h hs)
  have H2 : Hid (∀ W' ga mb cs n D, OS w b s tk ga mb cs n D (k + 1) x W' → Calls Tryz.prog 40 #[.pointer (some ⟨b, 0, none⟩)] W' fun e w' => e = .returned (.bool false) ∧ OS w b s tk ga mb cs n D (k + 1) x w') := Lib.hid (fun W' ga mb cs n D h' => h'.call (fun hc => blanks_to (bl := []) hc hs hd2 (fun z hz => by cases hz) (by decide)))
  have H3 : Hid (∀ W' ga mb cs n D, OS w b s tk ga mb cs n D (k + 1) x W' → Calls Tryz.prog 21 #[.pointer (some ⟨b, 0, none⟩), .string ⟨#[62]⟩] W' fun e w' => e = .returned (.bool true) ∧ OS w b s tk ga mb cs n D (k + 2) x w') := Lib.hid (fun W' ga mb cs n D h' => h'.call (fun hc => take_yes hc (by omega) ⟨#[62]⟩ (goes_yes (u := [62]) hd2) hs (by decide)))
  have HT := Lib.hid HT
  have hne := one_some c
  have hmm := @run_makeMap Tryz.prog
  obtain ⟨NM, hNM⟩ : ∃ NM : ByteArray, ⟨#[c]⟩ = NM := ⟨_, rfl⟩
  rw [hNM] at hne
  simp only [hNM] at H1 HT
  clear h hs N hd hd2 hk hk2 hNM
  go_enter Tryz.func26, Tryz.ntmps26
  go_wp2_with fail
  go_step3
  go_wp2_with fail
  refine H1.out.mono ?_
  rintro e w1 ⟨rfl, h⟩
  have b1 := Blk.new w1 33 #[.int .i64 1, .int .i64 start, .string NM, .string ⟨#[]⟩, .slice none 0 0, .bool false]
  have q0 := b1.cell 0; have q1 := b1.cell 1; have q2 := b1.cell 2; have q3 := b1.cell 3; have q4 := b1.cell 4; have q5 := b1.cell 5
  simp only [List.getElem?_toArray, List.getElem?_cons_zero, List.getElem?_cons_succ] at q0 q1 q2 q3 q4 q5
  have K1 := Lib.hid (OS.made h #[.int .i64 1, .int .i64 start, .string NM, .string ⟨#[]⟩, .slice none 0 0, .bool false])
  clear h H1
  go_wp2_with fail
  clear b1 q0 q1 q2 q3 q4 q5
  revert K1
  generalize (w1.alloc (.cells #[.int .i64 1, .int .i64 start, .string NM, .string ⟨#[]⟩, .slice none 0 0, .bool false] 33)).alloc (.map #[] 0) = W2
  generalize w1.heap.size = ga
  intro K1
  refine wp_label ?_
  go_wp2_with fail
  go_loopw [] (fun wr => wr = W2) (fun _ => 0)
  case atStart => rfl
  case round =>
    subst hrel
    go_wp2_with fail
    refine (H2.out _ _ _ _ _ _ K1.out).mono ?_
    rintro e w2 ⟨rfl, h⟩
    have K2 := Lib.hid h
    clear h
    go_wp2_with fail
    refine (H3.out _ _ _ _ _ _ K2.out).mono ?_
    rintro e w3 ⟨rfl, h⟩
    have q0 := h.tok.cell 0; have q1 := h.tok.cell 1; have q2 := h.tok.cell 2; have q3 := h.tok.cell 3; have q4 := h.tok.cell 4; have q5 := h.tok.cell 5
    simp only [List.getElem?_toArray, List.getElem?_cons_zero, List.getElem?_cons_succ] at q0 q1 q2 q3 q4 q5
    have K3 := Lib.hid h
    clear h
    go_wp2_with fail
    refine (HT.out _ K3.out.cu).mono ?_
    rintro e w4 ⟨ok, rfl, hq⟩
    have HQ := Lib.hid hq
    clear hq
    go_wp2_with fail
    rw [Exit.noGoto_ret]
    go_ret
    exact ⟨ok, rfl, HQ.out⟩
set_option maxRecDepth 100000 in
set_option maxHeartbeats 8000000 in
/-- An element begins, and the text is at its end. -/
theorem opening_f {w W : World} {b k : Nat} {s : ByteArray} {tk : Value} {x : Int} (h : Cu w b s k tk x W) (hs : s.size ≤ 1000000) (start : Int) {c : UInt8} (N : Nm s k c) (hd : s.data.toList.drop k = [c]) :
    Calls Tryz.prog 26 #[.pointer (some ⟨b, 0, none⟩), .int .i64 start] W fun e w' => e = .returned (.bool false) ∧ Cu w b s (k + 1) tk start w' := by
  obtain ⟨hk, -, -, hd2⟩ := drop_get hd
  have hk2 : k + 1 = s.size := by
    have := drop_size (a := [c]) (l := []) hd (by simp)
    simpa using this
  have H1 := Lib.hid (N.call h hs)
  have H2 : Hid (∀ W' ga mb cs n D, OS w b s tk ga mb cs n D (k + 1) x W' → Calls Tryz.prog 40 #[.pointer (some ⟨b, 0, none⟩)] W' fun e w' => e = .returned (.bool false) ∧ OS w b s tk ga mb cs n D (k + 1) x w') := Lib.hid (fun W' ga mb cs n D h' => h'.call (fun hc => (blanks_any hc (by omega) hs).mono fun e w' hh => by
    obtain ⟨j, he, hcu, hj1, hj2, _⟩ := hh
    have hj : j = k + 1 := by omega
    subst hj
    exact ⟨by rw [he, decide_eq_false (by omega)], hcu⟩))
  have hno : ∀ u : List UInt8, u ≠ [] → goes s (k + 1) ⟨u.toArray⟩ = false := fun u hu => by
    rw [goes_list, hd2]
    cases u with
    | nil => exact absurd rfl hu
    | cons a r => rfl
  have H3 : Hid (∀ W' ga mb cs n D, OS w b s tk ga mb cs n D (k + 1) x W' → Calls Tryz.prog 21 #[.pointer (some ⟨b, 0, none⟩), .string ⟨#[62]⟩] W' fun e w' => e = .returned (.bool false) ∧ OS w b s tk ga mb cs n D (k + 1) x w') := Lib.hid (fun W' ga mb cs n D h' => h'.call (fun hc => take_no hc (by omega) ⟨#[62]⟩ (hno [62] (by simp))))
  have H4 : Hid (∀ W' ga mb cs n D, OS w b s tk ga mb cs n D (k + 1) x W' → Calls Tryz.prog 21 #[.pointer (some ⟨b, 0, none⟩), .string ⟨#[47, 62]⟩] W' fun e w' => e = .returned (.bool false) ∧ OS w b s tk ga mb cs n D (k + 1) x w') := Lib.hid (fun W' ga mb cs n D h' => h'.call (fun hc => take_no hc (by omega) ⟨#[47, 62]⟩ (hno [47, 62] (by simp))))
  clear hno
  have hne := one_some c
  have hmm := @run_makeMap Tryz.prog
  obtain ⟨NM, hNM⟩ : ∃ NM : ByteArray, ⟨#[c]⟩ = NM := ⟨_, rfl⟩
  rw [hNM] at hne
  simp only [hNM] at H1
  clear h hs N hd hd2 hk hk2 hNM
  go_enter Tryz.func26, Tryz.ntmps26
  go_wp2_with fail
  go_step3
  go_wp2_with fail
  refine H1.out.mono ?_
  rintro e w1 ⟨rfl, h⟩
  have b1 := Blk.new w1 33 #[.int .i64 1, .int .i64 start, .string NM, .string ⟨#[]⟩, .slice none 0 0, .bool false]
  have q0 := b1.cell 0; have q1 := b1.cell 1; have q2 := b1.cell 2; have q3 := b1.cell 3; have q4 := b1.cell 4; have q5 := b1.cell 5
  simp only [List.getElem?_toArray, List.getElem?_cons_zero, List.getElem?_cons_succ] at q0 q1 q2 q3 q4 q5
  have K1 := Lib.hid (OS.made h #[.int .i64 1, .int .i64 start, .string NM, .string ⟨#[]⟩, .slice none 0 0, .bool false])
  clear h H1
  go_wp2_with fail
  clear b1 q0 q1 q2 q3 q4 q5
  revert K1
  generalize (w1.alloc (.cells #[.int .i64 1, .int .i64 start, .string NM, .string ⟨#[]⟩, .slice none 0 0, .bool false] 33)).alloc (.map #[] 0) = W2
  generalize w1.heap.size = ga
  intro K1
  refine wp_label ?_
  go_wp2_with fail
  go_loopw [] (fun wr => wr = W2) (fun _ => 0)
  case atStart => rfl
  case round =>
    subst hrel
    go_wp2_with fail
    refine (H2.out _ _ _ _ _ _ K1.out).mono ?_
    rintro e w2 ⟨rfl, h⟩
    have K2 := Lib.hid h
    clear h
    go_wp2_with fail
    refine (H3.out _ _ _ _ _ _ K2.out).mono ?_
    rintro e w3 ⟨rfl, h⟩
    have K3 := Lib.hid h
    clear h
    go_wp2_with fail
    refine (H4.out _ _ _ _ _ _ K3.out).mono ?_
    rintro e w4 ⟨rfl, h⟩
    have K4 := Lib.hid h
    clear h
    go_wp2_with fail
    refine (fail_any K4.out.cu start).mono ?_
    rintro e w5 ⟨rfl, h⟩
    have K5 := Lib.hid h
    clear h
    go_wp2_with fail
    rw [Exit.noGoto_ret]
    go_ret
    exact ⟨rfl, K5.out⟩
end Go.Proofs.YtkebjllehegjlaaGreatDoor
