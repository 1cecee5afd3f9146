/-
  Law 7: an element's beginning with one attribute.
-/
import Derived.Test.YtkebjllehegjlaaGreatDoorXu
import Derived.Laws.AppendOwn
import Derived.OwnWalk
import Derived.WalkMore
namespace Go.Proofs.YtkebjllehegjlaaGreatDoor
open Go.RowKit Go.Shelf
set_option linter.unusedVariables false
theorem Tryz.infoAt : (Tryz.prog.info? 35).map (fun i => (i.zero, i.size, i.bytes)) = some (some (.agg #[.string ⟨#[]⟩, .string ⟨#[]⟩, .int .i64 0]), 3, 40) := by kernel_rfl
/-- At block g lies a row whose first attribute is this. -/
def AtHolds (W : World) (g : Nat) (nm vl : ByteArray) (p : Int) : Prop := ∃ cur, W.heap[g]? = some (.cells cur 35 (0, 0)) ∧ cur.toList.take 3 = [.string nm, .string vl, .int .i64 p]
theorem AtHolds.kept {W W' : World} {g : Nat} {nm vl : ByteArray} {p : Int} (h : AtHolds W g nm vl p) (hg : W'.heap[g]? = W.heap[g]?) : AtHolds W' g nm vl p := by
  obtain ⟨cur, h1, h2⟩ := h
  exact ⟨cur, hg.trans h1, h2⟩
theorem AtHolds.lt {W : World} {g : Nat} {nm vl : ByteArray} {p : Int} (h : AtHolds W g nm vl p) : g < W.heap.size := by
  obtain ⟨cur, h1, _⟩ := h
  exact (Array.getElem?_eq_some_iff.1 h1).1
theorem AtHolds.cells {W : World} {g : Nat} {nm vl : ByteArray} {p : Int} (h : AtHolds W g nm vl p) : W.cell? ⟨g, 0, none⟩ = some (.string nm) ∧ W.cell? ⟨g, 1, none⟩ = some (.string vl) ∧ W.cell? ⟨g, 2, none⟩ = some (.int .i64 p) := by
  obtain ⟨cur, h1, h2⟩ := h
  have hc : ∀ i, i < 3 → W.cell? ⟨g, i, none⟩ = (cur.toList.take 3)[i]? := fun i hi => by
    rw [cell_of_row W g i cur 35 (0, 0) h1, List.getElem?_take_of_lt hi, Array.getElem?_toList]
  exact ⟨by rw [hc 0 (by decide), h2]; rfl, by rw [hc 1 (by decide), h2]; rfl, by rw [hc 2 (by decide), h2]; rfl⟩
theorem zeroU (w : World) : (zeroValue 73).run Tryz.prog w = .ok (.agg #[]) w := by kernel_rfl
/-- The first attribute is appended. -/
theorem push_at {ops : Array Oper} {rest : List Oper} {o : Oper} {a : Act} {Q : Exit → Act → World → Prop} (hgd : o.guard = none) (sx x : Operand)
    (ho : o.op = .call { callee := .builtin .append, args := #[sx, x], argTypes := #[31, 31] }) (W : World) (nm vl : ByteArray) (p : Int) (hs : a.eval sx = .slice none 0 0) (g0 : Nat) (hg0 : W.heap.size = g0) (hx : a.eval x = .slice (some ⟨g0, 0, none⟩) 1 1)
    (h : ∀ g cap w', W.heap.size ≤ g → AtHolds w' g nm vl p → (W.alloc (.cells #[.string nm, .string vl, .int .i64 p] 35)).grownBy w' none → wpList Tryz.prog ops Q rest (a.put o.dst (.slice (some ⟨g, 0, none⟩) 1 cap)) w') :
    wpList Tryz.prog ops Q (o :: rest) a (W.alloc (.cells #[.string nm, .string vl, .int .i64 p] 35)) := by
  subst hg0
  obtain ⟨i0, hi, hz0, hz1, hz2⟩ := info_parts Tryz.infoAt
  have hc : ∀ j, (W.alloc (.cells #[.string nm, .string vl, .int .i64 p] 35)).cell? ⟨W.heap.size, j, none⟩ = (#[.string nm, .string vl, .int .i64 p] : Array Value)[j]? := fun j => (Blk.new W 35 _).cell j
  refine wpList_append_own _ hgd sx x 31 ho W.heap.size 35 i0 (.agg #[.string ⟨#[]⟩, .string ⟨#[]⟩, .int .i64 0]) 3 40 Tryz.underlying31 hi hz0 hz1 hz2 rfl (by decide) (.slice none 0 0) 0 [] hs (World.ownsRow_nil _ _ _ _) ⟨W.heap.size, 0, none⟩ 1 1 [.string nm, .string vl, .int .i64 p] hx rfl ?_ ?_ ?_ ?_ ?_ ?_
  · intro j u hj
    have e : (⟨W.heap.size, 0, none⟩ : Addr).add j = ⟨W.heap.size, j, none⟩ := by unfold Addr.add; split <;> simp_all
    rw [e, hc, ← hj, ← Array.getElem?_toList]
  · intro u hu; simp at hu; rcases hu with rfl | rfl | rfl <;> rfl
  · unfold maxLen; omega
  · omega
  · simp
  · intro v' w' hown hg _
    obtain ⟨_, ⟨rfl, h0⟩ | ⟨g, cap, cur, rfl, hb, hgb, _, _, _, ht⟩⟩ := hown
    · cases h0
    · exact h g cap w' hb ⟨cur, hgb, ht⟩ hg
theorem OS.far {w W : World} {b ga mb n j : Nat} {s : ByteArray} {tk : Value} {x : Int} {cs : Array Value} {D : DataW Nat} (h : OS w b s tk ga mb cs n D j x W) {ab : Nat} (h1 : ab ≠ b) (h2 : ab ≠ ga) (h3 : ab ≠ mb) (h4 : w.heap.size ≤ ab) (i : Nat) (u : Value) : OS w b s tk ga mb cs n D j x (W.setCell ⟨ab, i, none⟩ u) :=
  ⟨h.cu.grown (grown_set (grown_self W (some ab)) i u) (by simpa using h1.symm) (fun g e => by injection e with e; rw [← e]; exact h4), h.tok.far (p := ⟨ab, i, none⟩) h2.symm u, h.map.setCell (a := ⟨ab, i, none⟩) h3.symm u, h.neb, h.mneb, h.mga, h.new, h.mnew⟩
theorem OS.grow {w W W' : World} {b ga mb n j : Nat} {s : ByteArray} {tk : Value} {x : Int} {cs : Array Value} {D : DataW Nat} (h : OS w b s tk ga mb cs n D j x W) (hg : W.grownBy W' none) : OS w b s tk ga mb cs n D j x W' :=
  ⟨h.cu.grown hg (by simp) (fun g e => by cases e), h.tok.kept hg (by simp), h.map.kept hg (by simp), h.neb, h.mneb, h.mga, h.new, h.mnew⟩
theorem Blk.grow {W W' : World} {g : Nat} {t : TypeId} {cs : Array Value} (h : Blk W g t cs) (hg : W.grownBy W' none) : Blk W' g t cs := h.kept hg (by simp)
set_option maxRecDepth 100000 in
set_option maxHeartbeats 16000000 in
/-- An element begins, with one attribute. -/
theorem opening_o {w W : World} {b k : Nat} {s : ByteArray} {tk : Value} {x : Int} (h : Cu w b s k tk x W) (hs : s.size ≤ 1000000) (start : Int) {c c2 : UInt8} (N : Nm s k c) (b1 : List UInt8) (hb1 : ∀ z ∈ b1, uSpace (z.toNat : Int) = true) (hb1n : b1 ≠ []) (N2 : Nm s (k + 1 + b1.length) c2) (hc2 : uSpace (c2.toNat : Int) = false ∧ c2 ≠ 62 ∧ c2 ≠ 47)
    (l2 : List UInt8) (hd : s.data.toList.drop (k + 1) = b1 ++ c2 :: l2) (V : ByteArray) (k4 : Nat) (b4 l5 : List UInt8) (hb4 : ∀ z ∈ b4, uSpace (z.toNat : Int) = true) (em : Bool) (hd4 : s.data.toList.drop k4 = b4 ++ (if em = true then 47 :: 62 :: l5 else 62 :: l5))
    (HV : ∀ W', Cu W' b s (k + 1 + b1.length + 1) tk x W' → Calls Tryz.prog 41 #[.pointer (some ⟨b, 0, none⟩), .int .i64 start] W' fun e w' => e = .returned (.tuple #[.string V, .bool true]) ∧ Cu W' b s k4 tk x w')
    (Q : Bool → World → Prop)
    (HT : ∀ W' g cap, Cu w b s (k4 + b4.length + (if em = true then 2 else 1)) tk x W' → AtHolds W' g ⟨#[c2]⟩ V ((k + 1 + b1.length : Nat) : Int) → w.heap.size ≤ g → Calls Tryz.prog 35 #[.pointer (some ⟨b, 0, none⟩), .agg #[.int .i64 1, .int .i64 start, .string ⟨#[c]⟩, .string ⟨#[]⟩, .slice (some ⟨g, 0, none⟩) 1 cap, .bool em]] W' fun e w' => ∃ ok, e = .returned (.bool ok) ∧ Q ok w') :
    Calls Tryz.prog 26 #[.pointer (some ⟨b, 0, none⟩), .int .i64 start] W fun e w' => ∃ ok, e = .returned (.bool ok) ∧ Q ok w' := by
  have hbl : 0 < b1.length := List.length_pos_iff.2 hb1n
  obtain ⟨hk, hd2⟩ : k + 1 + b1.length + 1 + l2.length = s.size ∧ s.data.toList.drop (k + 1 + b1.length) = c2 :: l2 := by
    refine ⟨?_, drop_step hd⟩
    have := drop_size (a := b1 ++ [c2]) (l := l2) (by rw [List.append_assoc]; exact hd) (by simp)
    simp only [List.length_append, List.length_singleton] at this
    omega
  have H1 := Lib.hid (N.call h hs)
  have H2 : Hid (∀ W' ga mb cs n D, OS w b s tk ga mb cs n D (k + 1) x W' → Calls Tryz.prog 40 #[.pointer (some ⟨b, 0, none⟩)] W' fun e w' => e = .returned (.bool true) ∧ OS w b s tk ga mb cs n D (k + 1 + b1.length) x w') := Lib.hid (fun W' ga mb cs n D h' => h'.call (fun hc => by
    have := blanks_to hc hs hd hb1 hc2.1
    rwa [decide_eq_true hbl] at this))
  have H3 : Hid (∀ W' ga mb cs n D, OS w b s tk ga mb cs n D (k + 1 + b1.length) x W' → Calls Tryz.prog 21 #[.pointer (some ⟨b, 0, none⟩), .string ⟨#[62]⟩] W' fun e w' => e = .returned (.bool false) ∧ OS w b s tk ga mb cs n D (k + 1 + b1.length) x w') := Lib.hid (fun W' ga mb cs n D h' => h'.call (fun hc => take_no hc (by omega) ⟨#[62]⟩ (goes_one (c := 62) (u := []) hd2 (Ne.symm hc2.2.1))))
  have H4 : Hid (∀ W' ga mb cs n D, OS w b s tk ga mb cs n D (k + 1 + b1.length) x W' → Calls Tryz.prog 21 #[.pointer (some ⟨b, 0, none⟩), .string ⟨#[47, 62]⟩] W' fun e w' => e = .returned (.bool false) ∧ OS w b s tk ga mb cs n D (k + 1 + b1.length) x w') := Lib.hid (fun W' ga mb cs n D h' => h'.call (fun hc => take_no hc (by omega) ⟨#[47, 62]⟩ (goes_one (c := 47) (u := [62]) hd2 (Ne.symm hc2.2.2))))
  have H5 : Hid (∀ W' ga mb cs n D, OS w b s tk ga mb cs n D (k + 1 + b1.length) x W' → Calls Tryz.prog 38 #[.pointer (some ⟨b, 0, none⟩)] W' fun e w' => e = .returned (.string ⟨#[c2]⟩) ∧ OS w b s tk ga mb cs n D (k + 1 + b1.length + 1) x w') := Lib.hid (fun W' ga mb cs n D h' => h'.call (fun hc => N2.call hc hs))
  have H5g : Hid (∀ W' ga mb cs n D, OS w b s tk ga mb cs n D (k + 1 + b1.length) x W' → Calls Tryz.prog 38 #[.pointer (some ⟨b, 0, none⟩)] W' fun e w' => e = .returned (.string ⟨#[c2]⟩) ∧ OS w b s tk ga mb cs n D (k + 1 + b1.length + 1) x w' ∧ W'.grownBy w' (some b)) := Lib.hid (fun W' ga mb cs n D h' => (N2.call h'.cu.me hs).mono fun e w' hh => ⟨hh.1, h'.step hh.2, hh.2.bel⟩)
  have H6 : Hid (∀ W' ga mb cs n D, OS w b s tk ga mb cs n D (k + 1 + b1.length + 1) x W' → Calls Tryz.prog 41 #[.pointer (some ⟨b, 0, none⟩), .int .i64 start] W' fun e w' => e = .returned (.tuple #[.string V, .bool true]) ∧ OS w b s tk ga mb cs n D k4 x w' ∧ W'.grownBy w' (some b)) := Lib.hid (fun W' ga mb cs n D h' => (HV W' h'.cu.me).mono fun e w' hh => ⟨hh.1, h'.step hh.2, hh.2.bel⟩)
  have hk4 : k4 + b4.length ≤ s.size := by
    have := congrArg List.length hd4
    rw [List.length_drop, List.length_append] at this
    have h2 : s.data.toList.length = s.size := by simp
    split at this <;> simp only [List.length_cons] at this <;> omega
  have hd5 : s.data.toList.drop (k4 + b4.length) = (if em = true then 47 :: 62 :: l5 else 62 :: l5) := drop_step hd4
  have H7 : Hid (∀ W', ∀ ga mb cs n D, OS w b s tk ga mb cs n D k4 x W' → Calls Tryz.prog 40 #[.pointer (some ⟨b, 0, none⟩)] W' fun e w' => ∃ z, e = .returned (.bool z) ∧ OS w b s tk ga mb cs n D (k4 + b4.length) x w' ∧ W'.grownBy w' (some b)) := Lib.hid (fun W' ga mb cs n D h' => by
    cases em with
    | true => exact (blanks_to h'.cu.me hs hd4 hb4 (by decide)).mono fun e w' hh => ⟨_, hh.1, h'.step hh.2, hh.2.bel⟩
    | false => exact (blanks_to h'.cu.me hs hd4 hb4 (by decide)).mono fun e w' hh => ⟨_, hh.1, h'.step hh.2, hh.2.bel⟩)
  have H8 : Hid (∀ W' ga mb cs n D, OS w b s tk ga mb cs n D (k4 + b4.length) x W' → Calls Tryz.prog 21 #[.pointer (some ⟨b, 0, none⟩), .string ⟨#[62]⟩] W' fun e w' => e = .returned (.bool (!em)) ∧ OS w b s tk ga mb cs n D (k4 + b4.length + (if em = true then 0 else 1)) x w' ∧ W'.grownBy w' (some b)) := Lib.hid (fun W' ga mb cs n D h' => by
    cases em with
    | true => exact (take_no h'.cu.me hk4 ⟨#[62]⟩ (goes_one (c := 62) (u := []) hd5 (by decide))).mono fun e w' hh => ⟨hh.1, h'.step hh.2, hh.2.bel⟩
    | false => exact (take_yes h'.cu.me hk4 ⟨#[62]⟩ (goes_yes (u := [62]) hd5) hs (by decide)).mono fun e w' hh => ⟨hh.1, h'.step hh.2, hh.2.bel⟩)
  have H9 : Hid (em = true → ∀ W' ga mb cs n D, OS w b s tk ga mb cs n D (k4 + b4.length) x W' → Calls Tryz.prog 21 #[.pointer (some ⟨b, 0, none⟩), .string ⟨#[47, 62]⟩] W' fun e w' => e = .returned (.bool true) ∧ OS w b s tk ga mb cs n D (k4 + b4.length + 2) x w' ∧ W'.grownBy w' (some b)) := Lib.hid (fun hem W' ga mb cs n D h' => by
    subst hem
    exact (take_yes h'.cu.me hk4 ⟨#[47, 62]⟩ (goes_yes (u := [47, 62]) hd5) hs (by decide)).mono fun e w' hh => ⟨hh.1, h'.step hh.2, hh.2.bel⟩)
  have HT := Lib.hid HT
  have hne2 := one_some c2
  have hkey : Hid (keyOf Tryz.prog 9 (.string ⟨#[c2]⟩) = some (.string [c2])) := Lib.hid (by kernel_rfl)
  obtain ⟨NM2, hNM2⟩ : ∃ NM : ByteArray, ⟨#[c2]⟩ = NM := ⟨_, rfl⟩
  rw [hNM2] at hne2
  simp only [hNM2] at H5g HT hkey
  clear hbl hk hd2 hb1 hb1n N2 hc2 hd HV hb4 hd4 hk4 hd5 H5 hNM2
  have hne := one_some c
  have hmm := @run_makeMap Tryz.prog
  obtain ⟨NM, hNM⟩ : ∃ NM : ByteArray, ⟨#[c]⟩ = NM := ⟨_, rfl⟩
  rw [hNM] at hne
  simp only [hNM] at H1 HT
  clear h hs N hNM
  go_enter Tryz.func26, Tryz.ntmps26
  go_wp2_with fail
  go_step3
  go_wp2_with fail
  refine H1.out.mono ?_
  rintro e w1 ⟨rfl, h⟩
  have b1 := Blk.new w1 33 #[.int .i64 1, .int .i64 start, .string NM, .string ⟨#[]⟩, .slice none 0 0, .bool false]
  have q0 := b1.cell 0; have q1 := b1.cell 1; have q2 := b1.cell 2; have q3 := b1.cell 3; have q4 := b1.cell 4; have q5 := b1.cell 5
  simp only [List.getElem?_toArray, List.getElem?_cons_zero, List.getElem?_cons_succ] at q0 q1 q2 q3 q4 q5
  have K1 := Lib.hid (OS.made h #[.int .i64 1, .int .i64 start, .string NM, .string ⟨#[]⟩, .slice none 0 0, .bool false])
  clear h H1
  go_wp2_with fail
  clear b1 q0 q1 q2 q3 q4 q5
  revert K1
  generalize (w1.alloc (.cells #[.int .i64 1, .int .i64 start, .string NM, .string ⟨#[]⟩, .slice none 0 0, .bool false] 33)).alloc (.map #[] 0) = W2
  generalize w1.heap.size = ga
  intro K1
  refine wp_label ?_
  go_wp2_with fail
  obtain ⟨k1, hk1⟩ : ∃ k1, k + 1 = k1 := ⟨_, rfl⟩
  obtain ⟨k2, hk2⟩ : ∃ k2, k1 + b1.length = k2 := ⟨_, rfl⟩
  obtain ⟨k5, hk5⟩ : ∃ k5, k4 + b4.length = k5 := ⟨_, rfl⟩
  simp only [hk1, hk2, hk5] at H2 H3 H4 H5g H6 H7 H8 H9 HT K1
  clear hk1 hk2 hk5
  go_loopw [] (fun wr => wr = W2 ∨ ∃ g cap mb n D, Hid (OS w b s tk ga mb #[.int .i64 1, .int .i64 start, .string NM, .string ⟨#[]⟩, .slice (some ⟨g, 0, none⟩) 1 cap, .bool false] n D k4 x wr ∧ AtHolds wr g NM2 V (k2 : Int) ∧ w.heap.size ≤ g ∧ g ≠ b ∧ g ≠ ga)) (fun wr => match wr.cell? ⟨ga, 4, none⟩ with | some (.slice _ l _) => 1 - l | _ => 0)
  case atStart => exact .inl rfl
  case round =>
    rcases hrel with rfl | ⟨g, cap, mb, n, D, HH⟩
    · have hm0 : wr.cell? ⟨ga, 4, none⟩ = some (.slice none 0 0) := by have := K1.out.tok.cell 4; simpa using this
      go_wp2_with fail
      refine (H2.out _ _ _ _ _ _ K1.out).mono ?_
      rintro e w2 ⟨rfl, h⟩
      have K2 := Lib.hid h
      clear h
      go_wp2_with fail
      refine (H3.out _ _ _ _ _ _ K2.out).mono ?_
      rintro e w3 ⟨rfl, h⟩
      have K3 := Lib.hid h
      clear h
      go_wp2_with fail
      refine (H4.out _ _ _ _ _ _ K3.out).mono ?_
      rintro e w4 ⟨rfl, h⟩
      have c1 := h.cu.c1
      have K4b := h.cu.lt
      have hga4 := h.tok.lt; have hmb4 := h.map.lt; have hwn := h.new
      have b4 := Blk.new w4 35 #[.string ⟨#[]⟩, .string ⟨#[]⟩, .int .i64 (k2 : Int)]
      have r0 := b4.cell 0; have r1 := b4.cell 1; have r2 := b4.cell 2
      simp only [List.getElem?_toArray, List.getElem?_cons_zero, List.getElem?_cons_succ] at r0 r1 r2
      have K4 := Lib.hid (h.below ((Below.refl _ _).alloc (Nat.le_refl _) (.cells #[.string ⟨#[]⟩, .string ⟨#[]⟩, .int .i64 (k2 : Int)] 35)))
      clear h K3 K2
      go_wp2_with fail
      refine (H5g.out _ _ _ _ _ _ K4.out).mono ?_
      rintro e w5 ⟨rfl, h, hg5⟩
      have hbb : w4.heap.size ≠ b := by have := K4b; omega
      have b5 := b4.kept hg5 (by simpa using hbb)
      have r0 := b5.cell 0; have r1 := b5.cell 1; have r2 := b5.cell 2; have f0 := b5.frozen 0
      have s5 := b5.set_ 0 (.string NM2)
      have r0' := s5.cell 0; have r1' := s5.cell 1; have r2' := s5.cell 2
      simp only [List.getElem?_toArray, List.getElem?_cons_zero, List.getElem?_cons_succ] at r0 r1 r2
      simp at r0' r1' r2'
      have K5 := Lib.hid h
      have hown : (w5.setCell ⟨w4.heap.size, 0, none⟩ (.string NM2)).ownsMap Tryz.prog 9 (unitElem (H := Nat)) (ga + 1) 0 (.map []) := h.map.setCell (by show ga + 1 ≠ w4.heap.size; omega) _
      have K5f := Lib.hid ((h.far (ab := w4.heap.size) hbb (by omega) (by omega) (by omega) 0 (.string NM2)).below ((Below.refl _ _).alloc (Nat.le_refl _) (.cells #[] 73)))
      have s6 := s5.alloc (.cells #[] 73)
      have r0'' := s6.cell 0; have r1'' := s6.cell 1; have r2'' := s6.cell 2
      simp at r0'' r1'' r2''
      have S6 := Lib.hid s6
      clear h hg5 b4 b5 s5 s6
      go_wp2_with (first
        | (at_mapUpdate; refine wpList_mapUpdate_own _ rfl _ _ _ 72 rfl 9 73 (Go.Maps.string_keyed Tryz.underlying9) Tryz.underlying72 (unitElem (H := Nat)) (ga + 1) 0 _ rfl (hown.alloc _) (by unfold maxLen; omega) _ _ _ rfl rfl hkey.out _ [] unitElem_mk ?_; intro w6 hown6 hgrow6)
        | (at_lookup; refine wpList_lookup_own_unit _ rfl _ _ 72 rfl 9 73 (Go.Maps.string_keyed Tryz.underlying9) Tryz.underlying72 (zeroU _) (ga + 1) 0 _ rfl hown _ _ rfl hkey.out ?_))
      have K6 := Lib.hid (K5f.out.mapped hgrow6 hown6)
      have S6' := S6.out.kept hgrow6 (by simp; omega)
      have hl6 : w4.heap.size < w6.heap.size := S6'.lt
      have S6g := Lib.hid S6'
      clear hgrow6 hown6 hown K5 K5f S6 S6' r0 r1 r2 r0' r1' r2' r0'' r1'' r2'' f0 K4
      refine (H6.out _ _ _ _ _ _ K6.out).mono ?_
      rintro e w7 ⟨rfl, h, hg7⟩
      have s7 := S6g.out.kept hg7 (by simpa using hbb)
      have r0 := s7.cell 0; have r1 := s7.cell 1; have r2 := s7.cell 2; have f1 := s7.frozen 1
      simp at r0 r1 r2
      have s8 := s7.set_ 1 (.string V)
      have r0' := s8.cell 0; have r1' := s8.cell 1; have r2' := s8.cell 2
      simp at r0' r1' r2'
      have hl7 := h.cu.lt; have hl7g := h.tok.lt
      have h8 := h.far (ab := w4.heap.size) hbb (by omega) (by omega) (by omega) 1 (.string V)
      have q4 := h8.tok.cell 4
      simp at q4
      have K8 := Lib.hid h8
      clear h h8 s7 s8 hg7 S6g K6
      go_wp2_with (first
        | (at_builtin; refine push_at rfl (.tmp 80) (.tmp 82) rfl _ NM2 V (k2 : Int) rfl w7.heap.size (by simp) rfl ?_; intro g cap w8 hg hat hgr; have h9 := (K8.out.below ((Below.refl _ _).alloc (Nat.le_refl _) _)).grow hgr; have q4' := h9.tok.cell 4; have f4' := h9.tok.frozen 4; simp at q4'))
      have hgg : g ≠ ga := by simp at hg; omega
      have hgb : g ≠ b := by simp at hg; omega
      have hwg : w.heap.size ≤ g := by simp at hg; omega
      have h10 := h9.set 4 (.slice (some ⟨g, 0, none⟩) 1 cap)
      have hmm1 : (w8.setCell ⟨ga, 4, none⟩ (.slice (some ⟨g, 0, none⟩) 1 cap)).cell? ⟨ga, 4, none⟩ = some (.slice (some ⟨g, 0, none⟩) 1 cap) := by have := h10.tok.cell 4; simpa using this
      refine ⟨.inr ⟨g, cap, ga + 1, _, _, Lib.hid ⟨h10, hat.kept (Below.heap_setCell _ ⟨ga, 4, none⟩ _ g hgg), hwg, hgb, hgg⟩⟩, ?_⟩
      rw [hmm1, hm0]
      exact Nat.zero_lt_one
    · obtain ⟨h, hat, hwg, hgb, hgg⟩ := HH.out
      clear HH
      have K1 := Lib.hid h
      have HA := Lib.hid hat
      clear h hat
      go_wp2_with fail
      refine (H7.out _ _ _ _ _ _ K1.out).mono ?_
      rintro e w2 ⟨z, rfl, h, hg2⟩
      have HA := Lib.hid (HA.out.kept (hg2.block g HA.out.lt (by simpa using hgb)))
      have K2 := Lib.hid h
      clear h hg2
      go_wp2_with fail
      refine (H8.out _ _ _ _ _ _ K2.out).mono ?_
      rintro e w3 ⟨rfl, h, hg3⟩
      have HA := Lib.hid (HA.out.kept (hg3.block g HA.out.lt (by simpa using hgb)))
      cases em with
      | false =>
        have q0 := h.tok.cell 0; have q1 := h.tok.cell 1; have q2 := h.tok.cell 2; have q3 := h.tok.cell 3; have q4 := h.tok.cell 4; have q5 := h.tok.cell 5
        simp only [List.getElem?_toArray, List.getElem?_cons_zero, List.getElem?_cons_succ] at q0 q1 q2 q3 q4 q5
        have K3 := Lib.hid h
        clear h hg3
        go_wp2_with fail
        refine (HT.out _ g cap K3.out.cu HA.out hwg).mono ?_
        rintro e w4 ⟨ok, rfl, hq⟩
        have HQ := Lib.hid hq
        clear hq
        go_wp2_with fail
        rw [Exit.noGoto_ret]
        go_ret
        exact ⟨ok, rfl, HQ.out⟩
      | true =>
        have K3 := Lib.hid h
        clear h hg3
        go_wp2_with fail
        refine (H9.out (by trivial) _ _ _ _ _ _ K3.out).mono ?_
        rintro e w4 ⟨rfl, h, hg4⟩
        have HA := Lib.hid (HA.out.kept (hg4.block g HA.out.lt (by simpa using hgb)))
        have p5 := h.tok.cell 5; have f5 := h.tok.frozen 5
        simp only [List.getElem?_toArray, List.getElem?_cons_zero, List.getElem?_cons_succ] at p5
        have h5 := h.set 5 (.bool true)
        have q0 := h5.tok.cell 0; have q1 := h5.tok.cell 1; have q2 := h5.tok.cell 2; have q3 := h5.tok.cell 3; have q4 := h5.tok.cell 4; have q5 := h5.tok.cell 5
        simp at q0 q1 q2 q3 q4 q5
        have K4 := Lib.hid h5
        have HA := Lib.hid (HA.out.kept (Below.heap_setCell w4 ⟨ga, 5, none⟩ (.bool true) g hgg))
        clear h h5 hg4
        go_wp2_with fail
        refine (HT.out _ g cap K4.out.cu HA.out hwg).mono ?_
        rintro e w5 ⟨ok, rfl, hq⟩
        have HQ := Lib.hid hq
        clear hq
        go_wp2_with fail
        rw [Exit.noGoto_ret]
        go_ret
        exact ⟨ok, rfl, HQ.out⟩
end Go.Proofs.YtkebjllehegjlaaGreatDoor
