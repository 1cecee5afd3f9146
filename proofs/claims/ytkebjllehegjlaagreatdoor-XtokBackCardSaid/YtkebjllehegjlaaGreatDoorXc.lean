/-
  Law 7: the cutter's own calls: where it stands, whether the text goes on so.
-/
import Derived.Test.YtkebjllehegjlaaGreatDoorXb
namespace Go.Proofs.YtkebjllehegjlaaGreatDoor
open Go.RowKit Go.Shelf
set_option linter.unusedVariables false
/-- The cutter at block b stands at place k of the text s; tk its tokens, x the wrong place; all but the block b that lay in w lies there still. -/
structure Cu (w : World) (b : Nat) (s : ByteArray) (k : Nat) (tk : Value) (x : Int) (W : World) : Prop where
  bel : w.grownBy W (some b)
  box : Blk W b 45 #[.string s, .int .i64 (k : Int), tk, .int .i64 x]
section
variable {w W W' : World} {b k : Nat} {s : ByteArray} {tk : Value} {x : Int}
theorem grown_then {row : Option Nat} (h : w.grownBy W row) (hb : Below W.heap.size W W') : w.grownBy W' row := ⟨hb.os.trans h.os, hb.tape.trans h.tape, hb.output.trans h.output, Nat.le_trans h.size hb.size, fun g hg hne => (hb.block g (Nat.lt_of_lt_of_le hg h.size)).trans (h.block g hg hne)⟩
theorem grown_set {g : Nat} (h : w.grownBy W (some g)) (i : Nat) (u : Value) : w.grownBy (W.setCell ⟨g, i, none⟩ u) (some g) := ⟨h.os, h.tape, h.output, by rw [World.size_setCell]; exact h.size, fun q hq hne => (Below.heap_setCell W ⟨g, i, none⟩ u q (fun e => hne (by rw [e]))).trans (h.block q hq hne)⟩
theorem grown_self (w : World) (row : Option Nat) : w.grownBy w row := ⟨rfl, rfl, rfl, Nat.le_refl _, fun _ _ _ => rfl⟩
theorem grown_two {row : Option Nat} (h : w.grownBy W row) (h' : W.grownBy W' row) : w.grownBy W' row := ⟨h'.os.trans h.os, h'.tape.trans h.tape, h'.output.trans h.output, Nat.le_trans h.size h'.size, fun g hg hne => (h'.block g (Nat.lt_of_lt_of_le hg h.size) hne).trans (h.block g hg hne)⟩
theorem Cu.below (h : Cu w b s k tk x W) (hb : Below W.heap.size W W') : Cu w b s k tk x W' := ⟨grown_then h.bel hb, h.box.below hb h.box.lt⟩
theorem Cu.me (h : Cu w b s k tk x W) : Cu W b s k tk x W := ⟨grown_self _ _, h.box⟩
theorem Cu.back (h : Cu w b s k tk x W) {k' : Nat} {tk' : Value} {x' : Int} (h' : Cu W b s k' tk' x' W') : Cu w b s k' tk' x' W' := ⟨grown_two h.bel h'.bel, h'.box⟩
theorem Cu.grown (h : Cu w b s k tk x W) {row : Option Nat} (hb : W.grownBy W' row) (hr : some b ≠ row) (hw : ∀ g, row = some g → w.heap.size ≤ g) : Cu w b s k tk x W' := ⟨⟨hb.os.trans h.bel.os, hb.tape.trans h.bel.tape, hb.output.trans h.bel.output, Nat.le_trans h.bel.size hb.size, fun g hg hne => (hb.block g (Nat.lt_of_lt_of_le hg h.bel.size) (fun e => by have := hw g e.symm; omega)).trans (h.bel.block g hg hne)⟩, h.box.kept hb hr⟩
theorem Cu.c0 (h : Cu w b s k tk x W) : W.cell? ⟨b, 0, none⟩ = some (.string s) := by rw [h.box.cell 0]; rfl
theorem Cu.c1 (h : Cu w b s k tk x W) : W.cell? ⟨b, 1, none⟩ = some (.int .i64 (k : Int)) := by rw [h.box.cell 1]; rfl
theorem Cu.c2 (h : Cu w b s k tk x W) : W.cell? ⟨b, 2, none⟩ = some tk := by rw [h.box.cell 2]; rfl
theorem Cu.c3 (h : Cu w b s k tk x W) : W.cell? ⟨b, 3, none⟩ = some (.int .i64 x) := by rw [h.box.cell 3]; rfl
theorem Cu.f (h : Cu w b s k tk x W) (i : Nat) : W.frozen? ⟨b, i, none⟩ = false := h.box.frozen i
theorem Cu.at_ (h : Cu w b s k tk x W) (m : Nat) : Cu w b s m tk x (W.setCell ⟨b, 1, none⟩ (.int .i64 (m : Int))) := ⟨grown_set h.bel 1 _, h.box.set_ 1 _⟩
theorem Cu.toks (h : Cu w b s k tk x W) (y : Value) : Cu w b s k y x (W.setCell ⟨b, 2, none⟩ y) := ⟨grown_set h.bel 2 _, h.box.set_ 2 _⟩
theorem Cu.wrong (h : Cu w b s k tk x W) (y : Int) : Cu w b s k tk y (W.setCell ⟨b, 3, none⟩ (.int .i64 y)) := ⟨grown_set h.bel 3 _, h.box.set_ 3 _⟩
end
set_option maxRecDepth 100000 in
set_option maxHeartbeats 2000000 in
theorem fail_any {w W : World} {b k : Nat} {s : ByteArray} {tk : Value} {x : Int} (h : Cu w b s k tk x W) (y : Int) :
    Calls Tryz.prog 32 #[.pointer (some ⟨b, 0, none⟩), .int .i64 y] W fun e w' => e = .returned (.bool false) ∧ Cu w b s k tk y w' := by
  have H := Lib.hid (h.wrong y)
  have c3 := h.c3; have f3 := h.f 3
  clear h
  go_enter Tryz.func32, Tryz.ntmps32
  go_wp2_with fail
  go_ret
  exact ⟨rfl, H.out⟩
/-- Does the text go on so? -/
def goes (s : ByteArray) (k : Nat) (u : ByteArray) : Bool := Lib.hasPrefix (s.extract k s.size).data.toList u.data.toList
set_option maxRecDepth 100000 in
set_option maxHeartbeats 2000000 in
theorem begins_any {w W : World} {b k : Nat} {s : ByteArray} {tk : Value} {x : Int} (h : Cu w b s k tk x W) (hk : k ≤ s.size) (u : ByteArray) :
    Calls Tryz.prog 31 #[.pointer (some ⟨b, 0, none⟩), .string u] W fun e w' => e = .returned (.bool (goes s k u)) ∧ Cu w b s k tk x w' := by
  obtain ⟨g, hg⟩ : ∃ g, goes s k u = g := ⟨_, rfl⟩
  have HP : Hid (∀ W, Calls Tryz.prog 43 #[.string (s.extract k s.size), .string u] W fun e w' => e = .returned (.bool g) ∧ w' = W) := Lib.hid (fun W => by
    have h := Tryz.strings_HasPrefix (s.extract k s.size) u W
    rwa [show Lib.hasPrefix (s.extract k s.size).data.toList u.data.toList = g from hg] at h)
  rw [hg]
  have H := Lib.hid h
  have HD := Lib.hid (h.below (Below.refl _ _).drew)
  have c0 := h.c0; have c1 := h.c1
  have hki : (k : Int) ≤ (s.size : Int) := by omega
  clear h hg
  go_enter Tryz.func31, Tryz.ntmps31
  go_wp2_with fail
  go_region_held3 (fun w' => w'.cell? ⟨b, 0, none⟩ = some (.string s) ∧ w'.cell? ⟨b, 1, none⟩ = some (.int .i64 (k : Int)))
    (first | exact ⟨c0, c1⟩ | exact ⟨HD.out.c0, HD.out.c1⟩ | go_keep)
    (first
      | (go_at_call 43; refine (HP.out _).mono ?_; rintro e w1 ⟨rfl, rfl⟩))
  go_wp2_with fail
  go_ret
  exact ⟨rfl, HD.out⟩
set_option maxRecDepth 100000 in
set_option maxHeartbeats 2000000 in
theorem take_no {w W : World} {b k : Nat} {s : ByteArray} {tk : Value} {x : Int} (h : Cu w b s k tk x W) (hk : k ≤ s.size) (u : ByteArray) (hg : goes s k u = false) :
    Calls Tryz.prog 21 #[.pointer (some ⟨b, 0, none⟩), .string u] W fun e w' => e = .returned (.bool false) ∧ Cu w b s k tk x w' := by
  have HB := Lib.hid (begins_any h hk u)
  rw [hg] at HB
  clear h hk hg
  go_enter Tryz.func21, Tryz.ntmps21
  go_wp2_with fail
  refine HB.out.mono ?_
  rintro e w1 ⟨rfl, H⟩
  have HH := Lib.hid H
  clear H
  go_wp2_with fail
  go_ret
  exact ⟨rfl, HH.out⟩
set_option maxRecDepth 100000 in
set_option maxHeartbeats 2000000 in
theorem take_yes {w W : World} {b k : Nat} {s : ByteArray} {tk : Value} {x : Int} (h : Cu w b s k tk x W) (hk : k ≤ s.size) (u : ByteArray) (hg : goes s k u = true) (hs : s.size ≤ 1000000) (hu : u.size ≤ 1000) :
    Calls Tryz.prog 21 #[.pointer (some ⟨b, 0, none⟩), .string u] W fun e w' => e = .returned (.bool true) ∧ Cu w b s (k + u.size) tk x w' := by
  have HB := Lib.hid (begins_any h hk u)
  rw [hg] at HB
  obtain ⟨n, hn⟩ : ∃ n, u.size = n := ⟨_, rfl⟩
  have hui : (u.size : Int) = (n : Int) := by rw [hn]
  rw [hn]
  have hk6 : k ≤ 1000000 := by omega
  have hn3 : n ≤ 1000 := by omega
  clear h hk hg hs hu
  go_enter Tryz.func21, Tryz.ntmps21
  go_wp2_with fail
  refine HB.out.mono ?_
  rintro e w1 ⟨rfl, H⟩
  have c1 := H.c1; have f1 := H.f 1
  have HH := Lib.hid (H.at_ (k + n))
  rw [show ((k + n : Nat) : Int) = (k : Int) + (n : Int) by omega] at HH
  clear H
  go_wp2_with fail
  go_ret
  exact ⟨rfl, HH.out⟩
set_option maxRecDepth 100000 in
set_option maxHeartbeats 4000000 in
/-- What stands ahead of an end: strings.Cut's answer is handed in. -/
theorem until_any {w W : World} {b k : Nat} {s : ByteArray} {tk : Value} {x : Int} (h : Cu w b s k tk x W) (hk : k ≤ s.size) (u A B : ByteArray) (ok : Bool) (hs : s.size ≤ 1000000) (hu : u.size ≤ 1000) (hA : A.size ≤ 1000000)
    (HC : ∀ W, Calls Tryz.prog 45 #[.string (s.extract k s.size), .string u] W fun e w' => e = .returned (.tuple #[.string A, .string B, .bool ok]) ∧ Below W.heap.size W w') :
    Calls Tryz.prog 36 #[.pointer (some ⟨b, 0, none⟩), .string u] W fun e w' => e = .returned (.tuple #[.string A, .bool ok]) ∧ Cu w b s (if ok = true then k + (A.size + u.size) else k) tk x w' := by
  have HD := Lib.hid (h.below (Below.refl _ _).drew)
  have HC := Lib.hid HC
  have c0 := h.c0; have c1 := h.c1
  have hki : (k : Int) ≤ (s.size : Int) := by omega
  obtain ⟨n, hn⟩ : ∃ n, u.size = n := ⟨_, rfl⟩
  have hui : (u.size : Int) = (n : Int) := by rw [hn]
  obtain ⟨m, hm⟩ : ∃ n, A.size = n := ⟨_, rfl⟩
  have hai : (A.size : Int) = (m : Int) := by rw [hm]
  rw [hn, hm]
  have hk6 : k ≤ 1000000 := by omega
  have hn3 : n ≤ 1000 := by omega
  have hm3 : m ≤ 1000000 := by omega
  clear h hk hs hu hA hn hm
  go_enter Tryz.func36, Tryz.ntmps36
  go_wp2_with fail
  go_region_held3 (fun w' => w'.cell? ⟨b, 0, none⟩ = some (.string s) ∧ w'.cell? ⟨b, 1, none⟩ = some (.int .i64 (k : Int)) ∧ Cu w b s k tk x w')
    (first | exact ⟨c0, c1, HD.out⟩ | exact ⟨HD.out.c0, HD.out.c1, HD.out⟩ | exact ⟨(HD.out.below hb).c0, (HD.out.below hb).c1, HD.out.below hb⟩ | go_keep)
    (first
      | (go_at_call 45; refine (HC.out _).mono ?_; rintro e w1 ⟨rfl, hb⟩))
  have H1 := HD.out.below hb
  have c1 := H1.c1; have f1 := H1.f 1
  cases ok with
  | false =>
    have HH := Lib.hid H1
    clear H1 hb
    go_wp2_with fail
    go_ret2
    exact ⟨rfl, HH.out⟩
  | true =>
    have HH := Lib.hid (H1.at_ (k + (m + n)))
    rw [show ((k + (m + n) : Nat) : Int) = (k : Int) + ((m : Int) + (n : Int)) by omega] at HH
    clear H1 hb
    go_wp2_with fail
    go_ret2
    exact ⟨rfl, HH.out⟩
set_option maxRecDepth 100000 in
set_option maxHeartbeats 4000000 in
/-- A name: NameSize's answer is handed in. -/
theorem name_any {w W : World} {b k n : Nat} {s : ByteArray} {tk : Value} {x : Int} (h : Cu w b s k tk x W) (hk : k ≤ s.size) (hs : s.size ≤ 1000000) (hn : n ≤ s.size - k)
    (HN : ∀ W, Calls Tryz.prog 47 #[.string (s.extract k s.size)] W fun e w' => e = .returned (.int .i64 (n : Int)) ∧ Below W.heap.size W w') :
    Calls Tryz.prog 38 #[.pointer (some ⟨b, 0, none⟩)] W fun e w' => e = .returned (.string ((s.extract k s.size).extract 0 n)) ∧ Cu w b s (k + n) tk x w' := by
  have HD := Lib.hid (h.below (Below.refl _ _).drew)
  have HN := Lib.hid HN
  have c0 := h.c0; have c1 := h.c1
  have hki : (k : Int) ≤ (s.size : Int) := by omega
  obtain ⟨R, hR⟩ : ∃ R, s.extract k s.size = R := ⟨_, rfl⟩
  have hRs : R.size = s.size - k := by rw [← hR, ByteArray.size_extract]; omega
  have hni : (n : Int) ≤ (R.size : Int) := by omega
  have hk6 : k ≤ 1000000 := by omega
  have hn6 : n ≤ 1000000 := by omega
  rw [hR] at HN ⊢
  clear h hk hs hn hRs
  go_enter Tryz.func38, Tryz.ntmps38
  go_wp2_with fail
  go_region_held3 (fun w' => w'.cell? ⟨b, 0, none⟩ = some (.string s) ∧ w'.cell? ⟨b, 1, none⟩ = some (.int .i64 (k : Int)))
    (first | exact ⟨c0, c1⟩ | exact ⟨HD.out.c0, HD.out.c1⟩ | go_keep)
    (fail)
  go_wp2_with fail
  refine (HN.out _).mono ?_
  rintro e w1 ⟨rfl, hb⟩
  have H1 := HD.out.below hb
  have c1 := H1.c1; have f1 := H1.f 1
  have HH := Lib.hid (H1.at_ (k + n))
  rw [show ((k + n : Nat) : Int) = (k : Int) + (n : Int) by omega] at HH
  clear H1 hb
  go_wp2_with fail
  go_ret
  exact ⟨rfl, HH.out⟩
end Go.Proofs.YtkebjllehegjlaaGreatDoor
