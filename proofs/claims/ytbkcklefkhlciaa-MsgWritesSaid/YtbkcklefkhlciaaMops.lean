/-
  Messages that are made: PutUint, PutText, PutInts, Bytes.
-/
import Derived.Test.YtbkcklefkhlciaaMputA
import Derived.Test.YtbkcklefkhlciaaCat
import Derived.Test.YtbkcklefkhlciaaFieldsOk
namespace Go.Proofs.Ytbkcklefkhlciaa
open Go.RowKit
set_option linter.unusedVariables false
theorem lastOf_ends (ps : List (Fd × ByteArray)) : lastOf (ends 0 ps) = (cat ps).size := by
  rcases List.eq_nil_or_concat ps with rfl | ⟨l, p, rfl⟩
  · rfl
  · rw [List.concat_eq_append, ends_snoc, cat_snoc, bsize_app]
    unfold lastOf
    simp
/-- The message m holds the fields ps, one behind the other; c is its first error. -/
def MsgP (B m : Nat) (W : World) (ps : List (Fd × ByteArray)) (c : Int) : Prop := IsMsg B m W (places 0 ps) (ends 0 ps) c
def PutMs (B m : Nat) (ps : List (Fd × ByteArray)) (w : World) (e : Ending) (w' : World) : Prop := e = .returned (.pointer (some ⟨m, 0, none⟩)) ∧ MsgP B m w' ps 0 ∧ Below B w w'
/-- May be laid into a message: few enough, and short enough. -/
def Small (ps : List (Fd × ByteArray)) : Prop := ps.length ≤ 100000 ∧ (cat ps).size ≤ 1000000
theorem putp_any (B m : Nat) (ps : List (Fd × ByteArray)) (p : Fd) (tl : ByteArray) (w : World) (hB : B ≤ w.heap.size) (h : MsgP B m w ps 0) (HP : Hid (PutHid p tl)) (hs : Small ps) (htl0 : tl.size ≤ 1000000) :
    Calls Try.prog 37 #[.pointer (some ⟨m, 0, none⟩), .agg #[.int .i64 p.num, .int .i64 p.kind, .int .i64 0, .int .u64 p.val, .string p.data]] w (PutMs B m (ps ++ [(p, tl)]) w) := by
  refine (put_good B m _ _ p tl w hB h HP (by rw [places_length]; exact hs.1) (by rw [ends_length]; exact hs.1) (by rw [lastOf_ends]; have := hs.2; omega) htl0).mono ?_
  rintro e w' ⟨rfl, h1, h2⟩
  refine ⟨rfl, ?_, h2⟩
  unfold MsgP
  rw [places_snoc, ends_snoc, Nat.zero_add, ← lastOf_ends]
  exact h1
/-- A number, and a text, as a field with its bytes. -/
def uF (num v : Nat) : Fd × ByteArray := (⟨num, 0, v, ⟨#[]⟩⟩, txt (pput num 0 v ⟨#[]⟩))
def tF (num : Nat) (d : ByteArray) : Fd × ByteArray := (⟨num, 2, 0, d⟩, txt (pput num 2 0 d))
theorem may_u (num v : Nat) (h1 : 1 ≤ num) (h2 : num ≤ 536870911) (hv : v < 18446744073709551616) : May (num : Int) 0 v ⟨#[]⟩ := ⟨by omega, by omega, .inl ⟨rfl, rfl⟩⟩
theorem may_t (num : Nat) (d : ByteArray) (h1 : 1 ≤ num) (h2 : num ≤ 536870911) (hd : d.size ≤ 60000) : May (num : Int) 2 (0 : Nat) d := ⟨by omega, by omega, .inr (.inr (.inr ⟨rfl, rfl, hd⟩))⟩
theorem puthid_u (num v : Nat) (h1 : 1 ≤ num) (h2 : num ≤ 536870911) (hv : v < 18446744073709551616) : PutHid (uF num v).1 (uF num v).2 := fun w a => by
  have := put_varint (num : Int) a v w hv (may_u num v h1 h2 hv)
  rw [Int.toNat_natCast] at this
  exact this
theorem puthid_t (num : Nat) (d : ByteArray) (h1 : 1 ≤ num) (h2 : num ≤ 536870911) (hd : d.size ≤ 60000) : PutHid (tF num d).1 (tF num d).2 := fun w a => by
  have := put_bytes (num : Int) a d w (may_t num d h1 h2 hd)
  rw [Int.toNat_natCast] at this
  exact this
theorem good_u (num v : Nat) (h1 : 1 ≤ num) (h2 : num ≤ 536870911) (hv : v < 18446744073709551616) : GoodB (uF num v) := by
  have hl := pput_length (num : Int) 0 v ⟨#[]⟩ (may_u num v h1 h2 hv) hv
  rw [Int.toNat_natCast] at hl
  refine ⟨fun t => ?_, by unfold uF; rw [txt_size]; exact hl.1⟩
  have := pget_put (num : Int) 0 v ⟨#[]⟩ t (may_u num v h1 h2 hv) hv
  rw [Int.toNat_natCast] at this
  unfold uF
  rw [txt_size]
  exact this
theorem good_t (num : Nat) (d : ByteArray) (h1 : 1 ≤ num) (h2 : num ≤ 536870911) (hd : d.size ≤ 60000) : GoodB (tF num d) := by
  have hl := pput_length (num : Int) 2 0 d (may_t num d h1 h2 hd) (by omega)
  rw [Int.toNat_natCast] at hl
  refine ⟨fun t => ?_, by unfold tF; rw [txt_size]; exact hl.1⟩
  have := pget_put (num : Int) 2 0 d t (may_t num d h1 h2 hd) (by omega)
  rw [Int.toNat_natCast] at this
  unfold tF
  rw [txt_size]
  exact this
theorem size_u (num v : Nat) (h1 : 1 ≤ num) (h2 : num ≤ 536870911) (hv : v < 18446744073709551616) : (uF num v).2.size ≤ 20 := by
  have hl := pput_length (num : Int) 0 v ⟨#[]⟩ (may_u num v h1 h2 hv) hv
  rw [Int.toNat_natCast] at hl
  unfold uF; rw [txt_size]; exact hl.2
theorem size_t (num : Nat) (d : ByteArray) (h1 : 1 ≤ num) (h2 : num ≤ 536870911) (hd : d.size ≤ 60000) : (tF num d).2.size ≤ 20 + d.size := by
  have hl := pput_length (num : Int) 2 0 d (may_t num d h1 h2 hd) (by omega)
  rw [Int.toNat_natCast] at hl
  unfold tF; rw [txt_size]; exact hl.2
set_option maxRecDepth 100000 in
theorem putuint_any (B m : Nat) (ps : List (Fd × ByteArray)) (num v : Nat) (w : World) (hB : B ≤ w.heap.size) (h : MsgP B m w ps 0) (hs : Small ps) (h1 : 1 ≤ num) (h2 : num ≤ 536870911) (hv : v < 18446744073709551616) :
    Calls Try.prog 10 #[.pointer (some ⟨m, 0, none⟩), .int .i64 (num : Int), .int .u64 (v : Int)] w (PutMs B m (ps ++ [uF num v]) w) := by
  have H := putp_any B m ps (uF num v).1 (uF num v).2 w hB h (Lib.hid (puthid_u num v h1 h2 hv)) hs (by have := size_u num v h1 h2 hv; omega)
  have H' : Hid (Calls Try.prog 37 #[.pointer (some ⟨m, 0, none⟩), .agg #[.int .i64 (num : Int), .int .i64 0, .int .i64 0, .int .u64 (v : Int), .string ⟨#[]⟩]] w (PutMs B m (ps ++ [uF num v]) w)) := Lib.hid H
  clear H h hs
  go_enter Try.func10, Try.ntmps10
  go_wp2_with fail
  refine H'.out.mono ?_
  rintro e w1 ⟨rfl, h1, h2⟩
  have R := Lib.hid (And.intro h1 h2)
  clear h1 h2
  go_wp2
  go_ret
  exact ⟨rfl, R.out.1, R.out.2⟩
/-- The row at a, of texts, holds ts. -/
def TR (w : World) (a : Option Addr) (ts : List ByteArray) : Prop := ∀ i t, ts[i]? = some t → ∃ ad, a = some ad ∧ ad.block < w.heap.size ∧ w.cell? (ad.add i) = some (.string t)
theorem TR.below {w w' : World} {a : Option Addr} {ts : List ByteArray} (h : TR w a ts) (hb : Below w.heap.size w w') : TR w' a ts := by
  intro i t ht
  obtain ⟨ad, rfl, hlt, hc⟩ := h i t ht
  have hbk : (ad.add i).block = ad.block := by unfold Addr.add; split <;> rfl
  exact ⟨ad, rfl, Nat.lt_of_lt_of_le hlt hb.size, (hb.cell (p := ad.add i) (by rw [hbk]; exact hlt)).trans hc⟩
def szs (ts : List ByteArray) : Nat := (ts.map (·.size)).sum
/-- A number's fields that are texts. -/
def tFs (num : Nat) (ts : List ByteArray) : List (Fd × ByteArray) := ts.map (tF num)
end Go.Proofs.Ytbkcklefkhlciaa
