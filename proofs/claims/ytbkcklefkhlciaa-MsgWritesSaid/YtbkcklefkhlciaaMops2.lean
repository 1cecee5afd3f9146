/-
  PutText of one text, PutInts of none.
-/
import Derived.Test.YtbkcklefkhlciaaMbytes
namespace Go.Proofs.Ytbkcklefkhlciaa
open Go.RowKit
set_option linter.unusedVariables false
set_option maxRecDepth 100000 in
theorem putints_none (B m : Nat) (ps : List (Fd × ByteArray)) (num : Int) (a : Option Addr) (c : Nat) (w : World) (h : MsgP B m w ps 0) :
    Calls Try.prog 15 #[.pointer (some ⟨m, 0, none⟩), .int .i64 num, .slice a 0 c] w (PutMs B m ps w) := by
  have c0 : w.cell? ⟨m, 0, none⟩ = some (.bool true) := by obtain ⟨_, fv, ev, hb, _⟩ := h; exact hb.cell 0
  have H := Lib.hid h
  clear h
  go_enter Try.func15, Try.ntmps15
  go_wp2_with fail
  refine (none_msg m _ c0).mono ?_
  rintro e w1 ⟨rfl, rfl⟩
  go_wp2
  go_ret
  exact ⟨rfl, H.out, Below.refl _ _⟩
set_option maxRecDepth 100000 in
set_option maxHeartbeats 1000000 in
theorem puttext_one (B m : Nat) (ps : List (Fd × ByteArray)) (num : Nat) (g : Nat) (s : ByteArray) (w : World) (hB : B ≤ w.heap.size) (h : MsgP B m w ps 0) (hs : Small ps) (h1 : 1 ≤ num) (h2 : num ≤ 536870911) (hd : s.size ≤ 60000) (hc : w.cell? ⟨g, 0, none⟩ = some (.string s)) :
    Calls Try.prog 12 #[.pointer (some ⟨m, 0, none⟩), .int .i64 (num : Int), .slice (some ⟨g, 0, none⟩) 1 1] w (PutMs B m (ps ++ [tF num s]) w) := by
  have HP : Hid (Calls Try.prog 37 #[.pointer (some ⟨m, 0, none⟩), .agg #[.int .i64 (num : Int), .int .i64 2, .int .i64 0, .int .u64 0, .string s]] w (PutMs B m (ps ++ [tF num s]) w)) := Lib.hid (putp_any B m ps (tF num s).1 (tF num s).2 w hB h (Lib.hid (puthid_t num s h1 h2 hd)) hs (by have := size_t num s h1 h2 hd; omega))
  obtain ⟨ps', hps⟩ : ∃ ps', ps ++ [tF num s] = ps' := ⟨_, rfl⟩
  rw [hps] at HP ⊢
  clear h hs hps h1 h2 hd
  go_enter Try.func12, Try.ntmps12
  go_wp2_with fail
  go_loopw [11] (fun i wr => (i = .int .i64 0 ∧ wr = w) ∨ (i = .int .i64 1 ∧ Hid (MsgP B m wr ps' 0) ∧ Hid (Below B w wr))) (fun i _ => 1 - (intOf i).toNat)
  case atStart => exact .inl ⟨rfl, rfl⟩
  case round =>
    rcases hrel with ⟨rfl, rfl⟩ | ⟨rfl, hm, hb⟩
    · go_wp2_with fail
      refine HP.out.mono ?_
      rintro e w1 ⟨rfl, hm1, hb1⟩
      have Hm1 := Lib.hid hm1
      have Hb1 := Lib.hid hb1
      clear hm1 hb1
      go_wp2
      go_roundw
      case rel => first | exact .inr ⟨by go_num, Hm1, Hb1⟩ | ((repeat apply Exists.intro); exact ⟨.inr ⟨by go_num, Hm1, Hb1⟩, rfl⟩)
      case measure => simp [intOf]
    · have c0 : wr.cell? ⟨m, 0, none⟩ = some (.bool true) := by obtain ⟨_, fv, ev, hb, _⟩ := hm.out; exact hb.cell 0
      go_wp2_with fail
      refine (none_msg m _ c0).mono ?_
      rintro e w1 ⟨rfl, rfl⟩
      go_wp2
      go_ret
      exact ⟨rfl, hm.out, hb.out⟩
end Go.Proofs.Ytbkcklefkhlciaa
