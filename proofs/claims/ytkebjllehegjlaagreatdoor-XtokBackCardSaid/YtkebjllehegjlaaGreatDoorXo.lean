/-
  Law 7: what the cutter reads, byte by byte: pieces of a text, and how the text goes on.
-/
import Derived.Test.YtkebjllehegjlaaGreatDoorXc
import Derived.Test.YtkebjllehegjlaaGreatDoorXe
import Derived.Test.YtkebjllehegjlaaGreatDoorXj
namespace Go.Proofs.YtkebjllehegjlaaGreatDoor
open Go.RowKit Go.Shelf
set_option linter.unusedVariables false
theorem bd_kept {B b bd : Nat} {t : ByteArray} {W W' : World} (h : IsBd B bd t W) (hg : W.grownBy W' (some b)) (hb : b < B) : IsBd B bd t W' := by
  have one : ∀ p, BdAt B bd p t W → BdAt B bd p t W' := fun p h => by
    have hlt := Lib.BuilderAtF.lt h
    obtain ⟨hB, v, hv, hown, hne⟩ := h
    refine ⟨hB, v, (hg.block bd hlt (fun e => by injection e with e; omega)).trans hv, hown.kept hg (.inr (fun e => ?_)), hne⟩
    have := (hown.lt b e).1
    omega
  exact h.elim (fun x => .inl (one _ x)) (fun x => .inr (one _ x))
theorem bd_below {B bd : Nat} {t : ByteArray} {W W' : World} (h : IsBd B bd t W) (hb : Below W.heap.size W W') : IsBd B bd t W' := by
  have one : ∀ p, BdAt B bd p t W → BdAt B bd p t W' := fun p h => by
    have hlt := Lib.BuilderAtF.lt h
    obtain ⟨hB, v, hv, hown, hne⟩ := h
    exact ⟨hB, v, (hb.block bd hlt).trans hv, hown.kept (row := none) ⟨hb.os, hb.tape, hb.output, hb.size, fun k hk _ => hb.block k hk⟩ (Classical.em _), hne⟩
  exact h.elim (fun x => .inl (one _ x)) (fun x => .inr (one _ x))
section
variable {w W W' : World} {b k : Nat} {s : ByteArray} {tk : Value} {x : Int}
/-- What is new from B on may change: the cutter lies ahead of it. -/
theorem Cu.own {B : Nat} (h : Cu w b s k tk x W) (hb : Below B W W') (hw : w.heap.size ≤ B) (hbB : b < B) : Cu w b s k tk x W' :=
  ⟨⟨hb.os.trans h.bel.os, hb.tape.trans h.bel.tape, hb.output.trans h.bel.output, Nat.le_trans h.bel.size hb.size, fun g hg hne => (hb.block g (by omega)).trans (h.bel.block g hg hne)⟩, h.box.below hb hbB⟩
theorem Cu.lt (h : Cu w b s k tk x W) : b < W.heap.size := h.box.lt
theorem Cu.size (h : Cu w b s k tk x W) : w.heap.size ≤ W.heap.size := h.bel.size
end
theorem ext_list (s : ByteArray) (k : Nat) : (s.extract k s.size).data.toList = s.data.toList.drop k := by
  rw [ByteArray.data_extract, Array.toList_extract, List.extract_eq_take_drop, List.take_of_length_le]
  simp
theorem ext2_list (s : ByteArray) (k i : Nat) : ((s.extract k s.size).extract 0 i).data.toList = (s.data.toList.drop k).take i := by
  rw [ByteArray.data_extract, Array.toList_extract, List.extract_eq_take_drop, ext_list]
  simp
theorem goes_list (s : ByteArray) (k : Nat) (u : ByteArray) : goes s k u = u.data.toList.isPrefixOf (s.data.toList.drop k) := by
  unfold goes Lib.hasPrefix
  rw [ext_list]
theorem drop_size {s : ByteArray} {k : Nat} {a l : List UInt8} (h : s.data.toList.drop k = a ++ l) (ha : a ≠ []) : k + a.length + l.length = s.size := by
  have h1 : (s.data.toList.drop k).length = s.size - k := by rw [List.length_drop]; simp
  rw [h, List.length_append] at h1
  have := List.length_pos_iff.2 ha
  omega
theorem drop_step {s : ByteArray} {k : Nat} {a l : List UInt8} (h : s.data.toList.drop k = a ++ l) : s.data.toList.drop (k + a.length) = l := by
  rw [← List.drop_drop, h, List.drop_left]
theorem drop_get {s : ByteArray} {k : Nat} {y : UInt8} {l : List UInt8} (h : s.data.toList.drop k = y :: l) : ∃ hk : k < s.size, s[k] = y ∧ s.data.toList[k]? = some y ∧ s.data.toList.drop (k + 1) = l := by
  have h1 : s.data.toList[k]? = some y := by
    have := congrArg (fun m : List UInt8 => m[0]?) h
    simpa using this
  have h2 := (List.getElem?_eq_some_iff.1 h1).1
  have h3 : s.data.toList.length = s.size := by simp
  have hk : k < s.size := by omega
  refine ⟨hk, ?_, h1, drop_step (a := [y]) h⟩
  have := toList_atx s k hk
  rw [h1] at this
  injection this with this
  exact this.symm
/-- Where a byte stands for the first time. -/
theorem idx_app (l : List UInt8) (c : UInt8) : ∀ a : List UInt8, (∀ y ∈ a, y ≠ c) → Lib.indexByte (a ++ c :: l) c = (a.length : Int)
  | [], _ => by simp [Lib.indexByte]
  | y :: a, h => by
    have h1 : (y == c) = false := by rw [beq_eq_false_iff_ne]; exact h y (List.mem_cons_self ..)
    have h2 := idx_app l c a (fun z hz => h z (List.mem_cons_of_mem _ hz))
    have h3 : ((a.length : Int) == -1) = false := by rw [beq_eq_false_iff_ne]; omega
    rw [List.cons_append, Lib.indexByte, h1, h2, h3, List.length_cons]
    simp
/-- A piece of a text, and what it stands for. -/
structure Pc where
  src : List UInt8
  dec : List UInt8
def srcs (l : List Pc) : List UInt8 := l.flatMap Pc.src
def decs (l : List Pc) : List UInt8 := l.flatMap Pc.dec
/-- A reference, wherever it stands. -/
def RefOk (p : Pc) : Prop := ∀ (w W : World) (b k : Nat) (s : ByteArray) (tk : Value) (x : Int) (rest : List UInt8), Cu w b s k tk x W → s.size ≤ 1000000 → s.data.toList.drop k = p.src ++ rest →
  Calls Tryz.prog 33 #[.pointer (some ⟨b, 0, none⟩)] W fun e w' => e = .returned (.tuple #[.string ⟨p.dec.toArray⟩, .bool true]) ∧ Cu w b s (k + p.src.length) tk x w'
/-- A byte that stands for itself, but for a blank. -/
def Self (y : UInt8) : Prop := y.toNat ≠ 60 ∧ y.toNat ≠ 38 ∧ y.toNat ≠ 13 ∧ y.toNat ≠ 9 ∧ y.toNat ≠ 10
/-- A byte that stands for itself between elements. -/
def SelfT (y : UInt8) : Prop := y.toNat ≠ 60 ∧ y.toNat ≠ 38 ∧ y.toNat ≠ 13
def PcOk (p : Pc) : Prop := (∃ y, p.src = [y] ∧ p.dec = [y] ∧ SelfT y) ∨ (∃ r, p.src = 38 :: r ∧ RefOk p)
theorem no_end (m rest : List UInt8) (h : ∀ y ∈ m, y ≠ 62) : ([93, 93, 62] : List UInt8).isPrefixOf (m ++ 60 :: rest) = false := by
  match m, h with
  | [], _ => rfl
  | [a], _ => simp [List.isPrefixOf]
  | [a, b], _ => simp [List.isPrefixOf]
  | a :: b :: c :: r, h =>
    have hc := h c (by simp)
    have : (62 == c) = false := by rw [beq_eq_false_iff_ne]; exact fun e => hc e.symm
    simp [List.isPrefixOf, this]
theorem bytes_lit (l : List UInt8) : (⟨l.toArray⟩ : ByteArray).data.toList = l := rfl
theorem bytes_of {a : ByteArray} {l : List UInt8} (h : a.data.toList = l) : a = ⟨l.toArray⟩ := by
  subst h
  cases a
  rfl
end Go.Proofs.YtkebjllehegjlaaGreatDoor
