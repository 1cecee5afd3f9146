/-
  Law 7: references, wherever they stand.
-/
import Derived.Test.YtkebjllehegjlaaGreatDoorXn
import Derived.Test.YtkebjllehegjlaaGreatDoorXo
import Derived.Test.YtkebjllehegjlaaGreatDoorXp
import Derived.Test.YtkebjllehegjlaaGreatDoorUtPut3
namespace Go.Proofs.YtkebjllehegjlaaGreatDoor
open Go.RowKit Go.Shelf
set_option linter.unusedVariables false
theorem ref_place {s : ByteArray} {k : Nat} {word rest : List UInt8} (hd : s.data.toList.drop k = (38 :: (word ++ [59])) ++ rest) (hno : ∀ y ∈ word, y ≠ 59) :
    k + 1 ≤ s.size ∧ Lib.indexByte (s.extract (k + 1) s.size).data.toList 59 = (word.length : Int) ∧ word.length < (s.extract (k + 1) s.size).size ∧ (s.extract (k + 1) s.size).extract 0 word.length = ⟨word.toArray⟩ ∧ k + 1 + (word.length + 1) = k + (38 :: (word ++ [59])).length := by
  have h1 := drop_size hd (by simp)
  rw [List.cons_append] at hd
  have h2 := (drop_get hd).2.2.2
  rw [List.append_assoc, List.singleton_append] at h2
  simp only [List.length_cons, List.length_append, List.length_nil] at h1 ⊢
  refine ⟨by omega, by rw [ext_list, h2]; exact idx_app rest 59 word hno, by rw [ByteArray.size_extract]; omega, bytes_of ?_, by omega⟩
  rw [ext2_list, h2, List.take_left]
theorem refok_lt : RefOk ⟨[38, 108, 116, 59], [60]⟩ := fun w W b k s tk x rest h hs hd => by
  obtain ⟨a1, a2, a3, a4, a5⟩ := ref_place (word := [108, 116]) hd (by decide)
  have := reference_lt h a1 hs a2 a3 a4
  rwa [a5] at this
theorem refok_gt : RefOk ⟨[38, 103, 116, 59], [62]⟩ := fun w W b k s tk x rest h hs hd => by
  obtain ⟨a1, a2, a3, a4, a5⟩ := ref_place (word := [103, 116]) hd (by decide)
  have := reference_gt h a1 hs a2 a3 a4
  rwa [a5] at this
theorem refok_amp : RefOk ⟨[38, 97, 109, 112, 59], [38]⟩ := fun w W b k s tk x rest h hs hd => by
  obtain ⟨a1, a2, a3, a4, a5⟩ := ref_place (word := [97, 109, 112]) hd (by decide)
  have := reference_amp h a1 hs a2 a3 a4
  rwa [a5] at this
theorem refok_apos : RefOk ⟨[38, 97, 112, 111, 115, 59], [39]⟩ := fun w W b k s tk x rest h hs hd => by
  obtain ⟨a1, a2, a3, a4, a5⟩ := ref_place (word := [97, 112, 111, 115]) hd (by decide)
  have := reference_apos h a1 hs a2 a3 a4
  rwa [a5] at this
theorem refok_quot : RefOk ⟨[38, 113, 117, 111, 116, 59], [34]⟩ := fun w W b k s tk x rest h hs hd => by
  obtain ⟨a1, a2, a3, a4, a5⟩ := ref_place (word := [113, 117, 111, 116]) hd (by decide)
  have := reference_quot h a1 hs a2 a3 a4
  rwa [a5] at this
theorem bhd_list {t : ByteArray} {c : UInt8} {l : List UInt8} (h : t.data.toList = c :: l) : Lib.hasPrefix t.data.toList (⟨#[c]⟩ : ByteArray).data.toList = true ∧ bhd t ⟨#[c]⟩ = ⟨l.toArray⟩ := by
  have h1 : Lib.hasPrefix t.data.toList (⟨#[c]⟩ : ByteArray).data.toList = true := by
    rw [h]
    show ([c] : List UInt8).isPrefixOf (c :: l) = true
    simp [List.isPrefixOf]
  refine ⟨h1, ?_⟩
  unfold bhd
  rw [if_pos h1]
  refine bytes_of ?_
  rw [show (⟨#[c]⟩ : ByteArray).size = 1 from rfl, ext_list, h]
  rfl
theorem no_prefix {t : ByteArray} {c d : UInt8} {l : List UInt8} (h : t.data.toList = d :: l) (hd : d ≠ c) : Lib.hasPrefix t.data.toList (⟨#[c]⟩ : ByteArray).data.toList = false := by
  rw [h]
  show ([c] : List UInt8).isPrefixOf (d :: l) = false
  have : (c == d) = false := by rw [beq_eq_false_iff_ne]; exact fun e => hd e.symm
  simp [List.isPrefixOf, this]
theorem put_ok (v : Nat) (hc : uChar (v : Int) = true) (W : World) : Calls Tryz.prog 54 #[.int .i64 (v : Int)] W fun e w' => e = .returned (.tuple #[.string (txt (uPut v)), .bool true]) ∧ Below W.heap.size W w' := by
  have h := put_any (v : Int) W
  have h0 : ¬ (v : Int) < 0 := by omega
  have e1 : uPutI (v : Int) = uPut v := by unfold uPutI; rw [if_neg h0, Int.toNat_natCast]
  have e2 : uSizeI (v : Int) ≠ 0 := by
    rw [uSizeI_nat]
    unfold uChar at hc
    have hc := of_decide_eq_true hc
    unfold uSize
    (repeat' split) <;> omega
  rwa [e1, decide_eq_true e2] at h
/-- What stands behind '&#': digits of base ten, or x and digits of base sixteen. -/
structure Digs (B : Nat) (D : List UInt8) (v : Nat) : Prop where
  some_ : D ≠ []
  dig : ∀ y ∈ D, Dig B y
  most : B ^ D.length ≤ 16777216
  len : D.length ≤ (if B = 10 then 7 else 6)
  is : worth B vHex D = v
theorem dig_no {B : Nat} {y : UInt8} (h : Dig B y) (hB : B ≤ 16) : y ≠ 59 ∧ y ≠ 120 := by
  obtain ⟨h1, h2⟩ := h
  constructor
  · rintro rfl
    rcases h2 with h2 | h2
    · exact absurd h2.2 (by decide)
    · exact absurd h2.1 (by decide)
  · rintro rfl
    have : vHex 120 = 33 := by decide
    omega
theorem num_dec (D : List UInt8) (v : Nat) (H : Digs 10 D v) (hc : uChar (v : Int) = true) (w : World) :
    Calls Tryz.prog 44 #[.string ⟨(35 :: D).toArray⟩] w fun e w' => e = .returned (.tuple #[.string (txt (uPut v)), .bool true]) ∧ Below w.heap.size w w' := by
  obtain ⟨a1, a2⟩ := bhd_list (t := ⟨(35 :: D).toArray⟩) (c := 35) (l := D) rfl
  have hl := H.len
  rw [if_pos rfl] at hl
  obtain ⟨d, r, hD⟩ := List.exists_cons_of_ne_nil H.some_
  have hv : v < 16777216 := by
    have := worth_lt vHex (by decide : 0 < 10) D (fun y hy => (H.dig y hy).1)
    rw [H.is] at this
    have := H.most
    omega
  have hsz : (⟨D.toArray⟩ : ByteArray).size = D.length := by simp [ByteArray.size]
  refine numbered_dec ⟨(35 :: D).toArray⟩ v (by simp [ByteArray.size]; omega) a1 (by rw [a2]; exact no_prefix hD (dig_no (H.dig d (by rw [hD]; exact List.mem_cons_self ..)) (by decide)).2) (by rw [a2, hsz]; exact hl) (by omega) (fun W => ?_) hc (txt (uPut v)) (fun W => put_ok v hc W) w
  rw [a2, ← H.is]
  exact pu_any 10 (.inl rfl) ⟨D.toArray⟩ H.some_ H.dig (by rw [hsz]; exact H.most) W
theorem num_dec_no (D : List UInt8) (v : Nat) (H : Digs 10 D v) (hc : uChar (v : Int) = false) (w : World) :
    Calls Tryz.prog 44 #[.string ⟨(35 :: D).toArray⟩] w fun e w' => e = .returned (.tuple #[.string ⟨#[]⟩, .bool false]) ∧ Below w.heap.size w w' := by
  obtain ⟨a1, a2⟩ := bhd_list (t := ⟨(35 :: D).toArray⟩) (c := 35) (l := D) rfl
  have hl := H.len
  rw [if_pos rfl] at hl
  obtain ⟨d, r, hD⟩ := List.exists_cons_of_ne_nil H.some_
  have hv : v < 16777216 := by
    have := worth_lt vHex (by decide : 0 < 10) D (fun y hy => (H.dig y hy).1)
    rw [H.is] at this
    have := H.most
    omega
  have hsz : (⟨D.toArray⟩ : ByteArray).size = D.length := by simp [ByteArray.size]
  refine numbered_dec_no ⟨(35 :: D).toArray⟩ v (by simp [ByteArray.size]; omega) a1 (by rw [a2]; exact no_prefix hD (dig_no (H.dig d (by rw [hD]; exact List.mem_cons_self ..)) (by decide)).2) (by rw [a2, hsz]; exact hl) (by omega) (fun W => ?_) hc w
  rw [a2, ← H.is]
  exact pu_any 10 (.inl rfl) ⟨D.toArray⟩ H.some_ H.dig (by rw [hsz]; exact H.most) W
theorem num_hex (D : List UInt8) (v : Nat) (H : Digs 16 D v) (hc : uChar (v : Int) = true) (w : World) :
    Calls Tryz.prog 44 #[.string ⟨(35 :: 120 :: D).toArray⟩] w fun e w' => e = .returned (.tuple #[.string (txt (uPut v)), .bool true]) ∧ Below w.heap.size w w' := by
  obtain ⟨a1, a2⟩ := bhd_list (t := ⟨(35 :: 120 :: D).toArray⟩) (c := 35) (l := 120 :: D) rfl
  obtain ⟨b1, b2⟩ := bhd_list (t := ⟨(120 :: D).toArray⟩) (c := 120) (l := D) rfl
  have hl := H.len
  rw [if_neg (by decide)] at hl
  have hv : v < 16777216 := by
    have := worth_lt vHex (by decide : 0 < 16) D (fun y hy => (H.dig y hy).1)
    rw [H.is] at this
    have := H.most
    omega
  have hsz : (⟨D.toArray⟩ : ByteArray).size = D.length := by simp [ByteArray.size]
  refine numbered_hex ⟨(35 :: 120 :: D).toArray⟩ v (by simp [ByteArray.size]; omega) a1 (by rw [a2]; exact b1) (by rw [a2, b2, hsz]; exact hl) (by omega) (fun W => ?_) hc (txt (uPut v)) (fun W => put_ok v hc W) w
  rw [a2, b2, ← H.is]
  exact pu_any 16 (.inr rfl) ⟨D.toArray⟩ H.some_ H.dig (by rw [hsz]; exact H.most) W
theorem num_hex_no (D : List UInt8) (v : Nat) (H : Digs 16 D v) (hc : uChar (v : Int) = false) (w : World) :
    Calls Tryz.prog 44 #[.string ⟨(35 :: 120 :: D).toArray⟩] w fun e w' => e = .returned (.tuple #[.string ⟨#[]⟩, .bool false]) ∧ Below w.heap.size w w' := by
  obtain ⟨a1, a2⟩ := bhd_list (t := ⟨(35 :: 120 :: D).toArray⟩) (c := 35) (l := 120 :: D) rfl
  obtain ⟨b1, b2⟩ := bhd_list (t := ⟨(120 :: D).toArray⟩) (c := 120) (l := D) rfl
  have hl := H.len
  rw [if_neg (by decide)] at hl
  have hv : v < 16777216 := by
    have := worth_lt vHex (by decide : 0 < 16) D (fun y hy => (H.dig y hy).1)
    rw [H.is] at this
    have := H.most
    omega
  have hsz : (⟨D.toArray⟩ : ByteArray).size = D.length := by simp [ByteArray.size]
  refine numbered_hex_no ⟨(35 :: 120 :: D).toArray⟩ v (by simp [ByteArray.size]; omega) a1 (by rw [a2]; exact b1) (by rw [a2, b2, hsz]; exact hl) (by omega) (fun W => ?_) hc w
  rw [a2, b2, ← H.is]
  exact pu_any 16 (.inr rfl) ⟨D.toArray⟩ H.some_ H.dig (by rw [hsz]; exact H.most) W
/-- What stands between '&#' and ';'. -/
def NumSrc (B : Nat) (D : List UInt8) : List UInt8 := 35 :: (if B = 10 then D else 120 :: D)
theorem numsrc_no {B : Nat} {D : List UInt8} (hB : B = 10 ∨ B = 16) (h : ∀ y ∈ D, Dig B y) : ∀ y ∈ NumSrc B D, y ≠ 59 := fun y hy => by
  have hD : ∀ z ∈ D, z ≠ 59 := fun z hz => (dig_no (h z hz) (by omega)).1
  unfold NumSrc at hy
  rcases List.mem_cons.1 hy with rfl | hy
  · decide
  · split at hy
    · exact hD y hy
    · rcases List.mem_cons.1 hy with rfl | hy
      · decide
      · exact hD y hy
theorem num_yes (B : Nat) (hB : B = 10 ∨ B = 16) (D : List UInt8) (v : Nat) (H : Digs B D v) (hc : uChar (v : Int) = true) (w : World) :
    Calls Tryz.prog 44 #[.string ⟨(NumSrc B D).toArray⟩] w fun e w' => e = .returned (.tuple #[.string (txt (uPut v)), .bool true]) ∧ Below w.heap.size w w' := by
  rcases hB with rfl | rfl
  · exact num_dec D v H hc w
  · exact num_hex D v H hc w
theorem num_no (B : Nat) (hB : B = 10 ∨ B = 16) (D : List UInt8) (v : Nat) (H : Digs B D v) (hc : uChar (v : Int) = false) (w : World) :
    Calls Tryz.prog 44 #[.string ⟨(NumSrc B D).toArray⟩] w fun e w' => e = .returned (.tuple #[.string ⟨#[]⟩, .bool false]) ∧ Below w.heap.size w w' := by
  rcases hB with rfl | rfl
  · exact num_dec_no D v H hc w
  · exact num_hex_no D v H hc w
theorem numsrc_not {B : Nat} {D l : List UInt8} {c : UInt8} (hc : c ≠ 35) : (⟨(NumSrc B D).toArray⟩ : ByteArray).toList = c :: l → False := fun h => by
  rw [toList_lit] at h
  injection h with h _
  exact hc h.symm
theorem txt_dec (l : List Nat) : (⟨(l.map UInt8.ofNat).toArray⟩ : ByteArray) = txt l := rfl
theorem refok_num (B : Nat) (hB : B = 10 ∨ B = 16) (D : List UInt8) (v : Nat) (H : Digs B D v) (hc : uChar (v : Int) = true) : RefOk ⟨38 :: (NumSrc B D ++ [59]), (uPut v).map UInt8.ofNat⟩ := fun w W b k s tk x rest h hs hd => by
  obtain ⟨a1, a2, a3, a4, a5⟩ := ref_place (word := NumSrc B D) hd (numsrc_no hB H.dig)
  have e : ∀ (c : UInt8) (l : List UInt8), c ≠ 35 → ((s.extract (k + 1) s.size).extract 0 (NumSrc B D).length).toList = c :: l → False := fun c l hc => by
    rw [a4]
    exact numsrc_not hc
  have := reference_yes h a1 hs a2 a3 (e _ _ (by decide)) (e _ _ (by decide)) (e _ _ (by decide)) (e _ _ (by decide)) (e _ _ (by decide)) (txt (uPut v)) (fun W => by rw [a4]; exact num_yes B hB D v H hc W)
  rwa [a5] at this
/-- A reference that stands for nothing: its place is the wrong one. -/
theorem refbad_num (B : Nat) (hB : B = 10 ∨ B = 16) (D : List UInt8) (v : Nat) (H : Digs B D v) (hc : uChar (v : Int) = false) {w W : World} {b k : Nat} {s : ByteArray} {tk : Value} {x : Int} {rest : List UInt8} (h : Cu w b s k tk x W) (hs : s.size ≤ 1000000) (hd : s.data.toList.drop k = 38 :: (NumSrc B D ++ [59]) ++ rest) :
    Calls Tryz.prog 33 #[.pointer (some ⟨b, 0, none⟩)] W fun e w' => e = .returned (.tuple #[.string ⟨#[]⟩, .bool false]) ∧ ∃ m, Cu w b s m tk (k : Int) w' := by
  obtain ⟨a1, a2, a3, a4, a5⟩ := ref_place (word := NumSrc B D) hd (numsrc_no hB H.dig)
  have e : ∀ (c : UInt8) (l : List UInt8), c ≠ 35 → ((s.extract (k + 1) s.size).extract 0 (NumSrc B D).length).toList = c :: l → False := fun c l hc => by
    rw [a4]
    exact numsrc_not hc
  exact (reference_no h a1 hs a2 a3 (e _ _ (by decide)) (e _ _ (by decide)) (e _ _ (by decide)) (e _ _ (by decide)) (e _ _ (by decide)) ⟨#[]⟩ (fun W => by rw [a4]; exact num_no B hB D v H hc W)).mono fun e w' hh => ⟨hh.1, _, hh.2⟩
end Go.Proofs.YtkebjllehegjlaaGreatDoor
