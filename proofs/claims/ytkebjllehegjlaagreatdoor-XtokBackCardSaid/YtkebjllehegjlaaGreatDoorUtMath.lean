/-
  Plain mathematics for chapter 6 (characters of UTF-8): nothing of the program is imported here.
-/
import Derived.WalkKit
import Derived.Lib.Hide
import Derived.Laws.BitsAllLaws
namespace Go.Proofs.YtkebjllehegjlaaGreatDoor
/-- What a first byte gives to the number, and how many bytes the character has (0: none begins so). -/
def uHead (c : Nat) : Nat × Nat :=
  if c < 128 then (c, 1) else if c < 192 then (0, 0) else if c < 224 then (c - 192, 2) else if c < 240 then (c - 224, 3) else if c < 248 then (c - 240, 4) else (0, 0)
/-- How many bytes a character has (0: it is none). -/
def uSize (r : Nat) : Nat := if 1114111 < r ∨ (55296 ≤ r ∧ r ≤ 57343) then 0 else if r < 128 then 1 else if r < 2048 then 2 else if r < 65536 then 3 else 4
def uTail (n r : Nat) (t : List UInt8) : Option Nat :=
  match n with
  | 0 => some r
  | n + 1 => match t with
    | [] => none
    | d :: t => if 128 ≤ d.toNat ∧ d.toNat < 192 then uTail n (r * 64 + (d.toNat - 128)) t else none
/-- The character at the front, and how many bytes it has (0: none). -/
def u1 (l : List UInt8) : Nat × Nat :=
  match l with
  | [] => (0, 0)
  | c :: t => if (uHead c.toNat).2 = 0 then (0, 0) else match uTail ((uHead c.toNat).2 - 1) (uHead c.toNat).1 t with
    | none => (0, 0)
    | some r => if uSize r = (uHead c.toNat).2 then (r, (uHead c.toNat).2) else (0, 0)
/-- Places and characters, up to the first that is none. -/
def uRunesF (f : Nat) (l : List UInt8) (k : Nat) : List (Nat × Nat) :=
  match f with
  | 0 => []
  | f + 1 => if (u1 l).2 = 0 then [] else (k, (u1 l).1) :: uRunesF f (l.drop (u1 l).2) (k + (u1 l).2)
def uRunes (l : List UInt8) (k : Nat) : List (Nat × Nat) := uRunesF l.length l k
/-- Where it ends. -/
def uEndF (f : Nat) (l : List UInt8) (k : Nat) : Nat :=
  match f with
  | 0 => k
  | f + 1 => if (u1 l).2 = 0 then k else uEndF f (l.drop (u1 l).2) (k + (u1 l).2)
def uEnd (l : List UInt8) : Nat := uEndF l.length l 0

theorem uHead_le (c : Nat) : (uHead c).2 ≤ 4 := by unfold uHead; (repeat' split) <;> simp
theorem uTail_len : ∀ (n r : Nat) (t : List UInt8) (q : Nat), uTail n r t = some q → n ≤ t.length := by
  intro n
  induction n with
  | zero => intro r t q _; omega
  | succ n ih =>
    intro r t q h
    match t with
    | [] => simp [uTail] at h
    | d :: t =>
      simp only [uTail] at h
      split at h
      · have := ih _ _ _ h; simp; omega
      · cases h
theorem u1_nil : u1 [] = (0, 0) := rfl
theorem u1_le (l : List UInt8) : (u1 l).2 ≤ l.length := by
  match l with
  | [] => simp [u1]
  | c :: t =>
    unfold u1
    by_cases h : (uHead c.toNat).2 = 0
    · simp [h]
    · simp only [h, if_false]
      cases ht : uTail ((uHead c.toNat).2 - 1) (uHead c.toNat).1 t with
      | none => simp
      | some r =>
        simp only
        have := uTail_len _ _ _ _ ht
        split
        · simp; omega
        · simp
theorem u1_le4 (l : List UInt8) : (u1 l).2 ≤ 4 := by
  match l with
  | [] => simp [u1]
  | c :: t =>
    have hh := uHead_le c.toNat
    unfold u1
    by_cases h : (uHead c.toNat).2 = 0
    · simp [h]
    · simp only [h, if_false]
      cases ht : uTail ((uHead c.toNat).2 - 1) (uHead c.toNat).1 t with
      | none => simp
      | some r =>
        simp only
        split
        · exact hh
        · simp
/-- A character that is told has the size that it has. -/
theorem u1_size (l : List UInt8) (h : (u1 l).2 ≠ 0) : uSize (u1 l).1 = (u1 l).2 := by
  match l with
  | [] => simp [u1] at h
  | c :: t =>
    unfold u1 at h ⊢
    by_cases h0 : (uHead c.toNat).2 = 0
    · simp [h0] at h
    · simp only [h0, if_false] at h ⊢
      cases ht : uTail ((uHead c.toNat).2 - 1) (uHead c.toNat).1 t with
      | none => simp [ht] at h
      | some r =>
        simp only [ht] at h ⊢
        split
        · assumption
        · rename_i hn; simp [hn] at h
theorem uSize_le (r : Nat) : uSize r ≤ 4 := by unfold uSize; (repeat' split) <;> omega
theorem uSize_hi (r : Nat) (h : uSize r ≠ 0) : r ≤ 1114111 := by unfold uSize at h; split at h <;> omega

theorem uRunesF_stop (f : Nat) (l : List UInt8) (k : Nat) (h : (u1 l).2 = 0) : uRunesF f l k = [] := by
  cases f with
  | zero => rfl
  | succ f => simp [uRunesF, h]
theorem uRunesF_fuel : ∀ (f g : Nat) (l : List UInt8) (k : Nat), l.length ≤ f → l.length ≤ g → uRunesF f l k = uRunesF g l k := by
  intro f
  induction f with
  | zero =>
    intro g l k hf hg
    have : l = [] := List.length_eq_zero_iff.1 (by omega)
    subst this
    rw [uRunesF_stop _ _ _ rfl, uRunesF_stop _ _ _ rfl]
  | succ f ih =>
    intro g l k hf hg
    by_cases h : (u1 l).2 = 0
    · rw [uRunesF_stop _ _ _ h, uRunesF_stop _ _ _ h]
    · have hl := u1_le l
      cases g with
      | zero => omega
      | succ g =>
        simp only [uRunesF, h, if_false]
        rw [ih g _ _ (by simp; omega) (by simp; omega)]
theorem uRunes_stop (l : List UInt8) (k : Nat) (h : (u1 l).2 = 0) : uRunes l k = [] := uRunesF_stop _ _ _ h
theorem uRunes_go (l : List UInt8) (k : Nat) (h : (u1 l).2 ≠ 0) : uRunes l k = (k, (u1 l).1) :: uRunes (l.drop (u1 l).2) (k + (u1 l).2) := by
  have hl := u1_le l
  have e : uRunes l k = uRunesF (l.length - 1 + 1) l k := by unfold uRunes; rw [show l.length - 1 + 1 = l.length from by omega]
  rw [e]
  simp only [uRunesF, h, if_false]
  rw [uRunesF_fuel (l.length - 1) (l.drop (u1 l).2).length _ _ (by simp; omega) (by omega)]
  rfl
theorem uEndF_stop (f : Nat) (l : List UInt8) (k : Nat) (h : (u1 l).2 = 0) : uEndF f l k = k := by
  cases f with
  | zero => rfl
  | succ f => simp [uEndF, h]
/-- The end is behind the last character. -/
theorem uEndF_runes : ∀ (f : Nat) (l : List UInt8) (k : Nat), uEndF f l k = match (uRunesF f l k).getLast? with | none => k | some p => p.1 + uSize p.2 := by
  intro f
  induction f with
  | zero => intro l k; rfl
  | succ f ih =>
    intro l k
    by_cases h : (u1 l).2 = 0
    · simp [uEndF, uRunesF, h]
    · simp only [uEndF, uRunesF, h, if_false]
      rw [ih]
      cases hr : uRunesF f (l.drop (u1 l).2) (k + (u1 l).2) with
      | nil => simp [u1_size l h]
      | cons p t => simp [List.getLast?_cons]
theorem uEnd_le' : ∀ (f : Nat) (l : List UInt8) (k : Nat), uEndF f l k ≤ k + l.length := by
  intro f
  induction f with
  | zero => intro l k; simp [uEndF]
  | succ f ih =>
    intro l k
    have hl := u1_le l
    by_cases h : (u1 l).2 = 0
    · simp [uEndF, h]
    · simp only [uEndF, h, if_false]
      have := ih (l.drop (u1 l).2) (k + (u1 l).2)
      simp at this
      omega
theorem uEnd_le (l : List UInt8) : uEnd l ≤ l.length := by have := uEnd_le' l.length l 0; simpa [uEnd] using this

theorem u1_cons (c : UInt8) (t : List UInt8) (R N : Nat) (h : uHead c.toNat = (R, N)) : u1 (c :: t) = if N = 0 then (0, 0) else match uTail (N - 1) R t with
    | none => (0, 0)
    | some r => if uSize r = N then (r, N) else (0, 0) := by
  simp only [u1, h]
theorem u1_none (c : UInt8) (t : List UInt8) (R N : Nat) (h : uHead c.toNat = (R, N)) (ht : N = 0 ∨ uTail (N - 1) R t = none) : (u1 (c :: t)).2 = 0 := by
  rw [u1_cons c t R N h]
  by_cases h0 : N = 0
  · rw [if_pos h0]
  · rw [if_neg h0]
    rcases ht with ht | ht
    · exact absurd ht h0
    · rw [ht]
theorem u1_short (c : UInt8) (t : List UInt8) (R N : Nat) (h : uHead c.toNat = (R, N)) (hl : t.length + 1 < N) : (u1 (c :: t)).2 = 0 := by
  refine u1_none c t R N h (Or.inr ?_)
  cases ht : uTail (N - 1) R t with
  | none => rfl
  | some r => have := uTail_len _ _ _ _ ht; omega
theorem u1_bad (c : UInt8) (t : List UInt8) (R N r : Nat) (h : uHead c.toNat = (R, N)) (ht : uTail (N - 1) R t = some r) (hs : uSize r ≠ N) : (u1 (c :: t)).2 = 0 := by
  rw [u1_cons c t R N h]
  by_cases h0 : N = 0
  · rw [if_pos h0]
  · rw [if_neg h0, ht]; simp [hs]
theorem u1_good (c : UInt8) (t : List UInt8) (R N r : Nat) (h : uHead c.toNat = (R, N)) (h0 : N ≠ 0) (ht : uTail (N - 1) R t = some r) (hs : uSize r = N) : u1 (c :: t) = (r, N) := by
  rw [u1_cons c t R N h, if_neg h0, ht]; simp [hs]
theorem uTail_step (m q : Nat) (d : UInt8) (t : List UInt8) (h : 128 ≤ d.toNat) (h' : d.toNat < 192) : uTail (m + 1) q (d :: t) = uTail m (q * 64 + (d.toNat - 128)) t := by
  rw [uTail]; rw [if_pos ⟨h, h'⟩]
theorem uTail_fall (m q : Nat) (d : UInt8) (t : List UInt8) (h : ¬ (128 ≤ d.toNat ∧ d.toNat < 192)) : uTail (m + 1) q (d :: t) = none := by
  rw [uTail]; rw [if_neg h]
theorem uHead_lt (c : Nat) : (uHead c).1 < 128 := by unfold uHead; (repeat' split) <;> simp <;> omega
theorem drop_cons (s : ByteArray) (k : Nat) (h : k < s.size) : s.data.toList.drop k = s[k] :: s.data.toList.drop (k + 1) := by
  rw [List.drop_eq_getElem_cons (by simpa using h)]; rfl
theorem i64_or_nat (a b : Nat) (ha : a < 9223372036854775808) (hb : b < 9223372036854775808) : bits .or .i64 (a : Int) (b : Int) = ((a ||| b : Nat) : Int) := by
  have hx : a ||| b < 2 ^ 63 := Nat.or_lt_two_pow (by omega) (by omega)
  show IntKind.i64.wrap ((BitVec.ofInt 64 (a : Int) ||| BitVec.ofInt 64 (b : Int)).toNat : Int) = _
  rw [BitVec.toNat_or, ofInt_u64 a (by omega), ofInt_u64 b (by omega), IntKind.wrap_i64]
  omega
theorem or_six (q c : Nat) (hq : q < 100000000) (h : 128 ≤ c) (h' : c < 192) : bits .or .i64 ((q : Int) * 64) ((c : Int) % 64) = ((q * 64 + (c - 128) : Nat) : Int) := by
  have e1 : (q : Int) * 64 = ((q * 64 : Nat) : Int) := by omega
  have e2 : (c : Int) % 64 = ((c - 128 : Nat) : Int) := by omega
  rw [e1, e2, i64_or_nat _ _ (by omega) (by omega), nat_join 6 _ _ (by omega) (by omega)]

/-- The end behind a list of places and characters. -/
def uEndOf (l : List (Nat × Nat)) : Nat := match l.getLast? with | none => 0 | some p => p.1 + uSize p.2
theorem uEndOf_runes (l : List UInt8) : uEndOf (uRunes l 0) = uEnd l := by
  unfold uEndOf uEnd uRunes
  rw [uEndF_runes]
theorem uEndOf_snoc (l : List (Nat × Nat)) (p : Nat × Nat) : uEndOf (l ++ [p]) = p.1 + uSize p.2 := by simp [uEndOf]
theorem uRunes_length' : ∀ (f : Nat) (l : List UInt8) (k : Nat), (uRunesF f l k).length ≤ l.length := by
  intro f
  induction f with
  | zero => intro l k; simp [uRunesF]
  | succ f ih =>
    intro l k
    have hl := u1_le l
    by_cases h : (u1 l).2 = 0
    · simp [uRunesF, h]
    · simp only [uRunesF, h, if_false, List.length_cons]
      have := ih (l.drop (u1 l).2) (k + (u1 l).2)
      simp at this
      omega
theorem uRunes_length (l : List UInt8) (k : Nat) : (uRunes l k).length ≤ l.length := uRunes_length' _ _ _

/-- What XML takes as a character, as a name's beginning, as a part of a name, as a blank. -/
def uChar (r : Int) : Bool := decide (r = 9 ∨ r = 10 ∨ r = 13 ∨ (32 ≤ r ∧ r ≤ 55295) ∨ (57344 ≤ r ∧ r ≤ 65533) ∨ (65536 ≤ r ∧ r ≤ 1114111))
def uStart (r : Int) : Bool := decide ((97 ≤ r ∧ r ≤ 122) ∨ (65 ≤ r ∧ r ≤ 90) ∨ r = 95 ∨ r = 58 ∨ (192 ≤ r ∧ r ≠ 215 ∧ r ≠ 247 ∧ r ≠ 894 ∧ uChar r = true))
def uPart (r : Int) : Bool := decide (uStart r = true ∨ (48 ≤ r ∧ r ≤ 57) ∨ r = 45 ∨ r = 46 ∨ r = 183)
def uSpace (r : Int) : Bool := decide (r = 9 ∨ r = 10 ∨ r = 13 ∨ r = 32)
theorem uStart_part (r : Int) (h : uStart r = true) : uPart r = true := by unfold uPart; simp [h]
theorem uStart_char (r : Int) (h : uStart r = true) : uChar r = true := by
  unfold uStart at h
  simp only [decide_eq_true_eq] at h
  rcases h with h | h | h | h | h
  · unfold uChar; simp only [decide_eq_true_eq]; omega
  · unfold uChar; simp only [decide_eq_true_eq]; omega
  · unfold uChar; simp only [decide_eq_true_eq]; omega
  · unfold uChar; simp only [decide_eq_true_eq]; omega
  · exact h.2.2.2.2
theorem uPart_char (r : Int) (h : uPart r = true) : uChar r = true := by
  unfold uPart at h
  simp only [decide_eq_true_eq] at h
  rcases h with h | h
  · exact uStart_char r h
  · unfold uChar; simp only [decide_eq_true_eq]; omega
theorem uPart_space (r : Int) (h : uPart r = true) : uSpace r = false := by
  unfold uPart at h
  simp only [decide_eq_true_eq] at h
  unfold uSpace
  simp only [decide_eq_false_iff_not]
  rcases h with h | h
  · unfold uStart at h
    simp only [decide_eq_true_eq] at h
    omega
  · omega
theorem uSpace_char (r : Int) (h : uSpace r = true) : uChar r = true := by
  unfold uSpace at h
  unfold uChar
  simp only [decide_eq_true_eq] at h ⊢
  omega

/-- Bytes as a text. -/
def txt (l : List Nat) : ByteArray := ⟨(l.map UInt8.ofNat).toArray⟩
theorem txt_list (l : List Nat) : (txt l).data.toList = l.map UInt8.ofNat := rfl
theorem txt_size (l : List Nat) : (txt l).size = l.length := by simp [txt, ByteArray.size]
theorem ofNat_toNat (n : Nat) (h : n < 256) : (UInt8.ofNat n).toNat = n := by simp; omega
/-- A character's bytes. -/
def uPut (r : Nat) : List Nat :=
  if uSize r = 0 then [] else if uSize r = 1 then [r] else if uSize r = 2 then [192 + r / 64, 128 + r % 64] else if uSize r = 3 then [224 + r / 4096, 128 + r / 64 % 64, 128 + r % 64]
  else [240 + r / 262144, 128 + r / 4096 % 64, 128 + r / 64 % 64, 128 + r % 64]
def uPutI (r : Int) : List Nat := if r < 0 then [] else uPut r.toNat

theorem uTail_app : ∀ (n r : Nat) (t b : List UInt8) (q : Nat), uTail n r t = some q → uTail n r (t ++ b) = some q := by
  intro n
  induction n with
  | zero => intro r t b q h; exact h
  | succ n ih =>
    intro r t b q h
    match t with
    | [] => simp [uTail] at h
    | d :: t =>
      simp only [uTail] at h
      simp only [List.cons_append, uTail]
      split at h
      · rename_i hc
        rw [if_pos hc]
        exact ih _ _ _ _ h
      · cases h
theorem u1_app (a b : List UInt8) (h : (u1 a).2 ≠ 0) : u1 (a ++ b) = u1 a := by
  match a with
  | [] => simp [u1] at h
  | c :: t =>
    obtain ⟨R, N, hRN⟩ : ∃ R N, uHead c.toNat = (R, N) := ⟨_, _, rfl⟩
    rw [List.cons_append, u1_cons c t R N hRN, u1_cons c (t ++ b) R N hRN] at *
    by_cases h0 : N = 0
    · rw [if_pos h0] at h; simp at h
    · rw [if_neg h0] at h ⊢
      rw [if_neg h0]
      cases ht : uTail (N - 1) R t with
      | none => rw [ht] at h; simp at h
      | some q => rw [uTail_app _ _ _ b _ ht]
theorem uEnd_stop (l : List UInt8) (h : (u1 l).2 = 0) : uEnd l = 0 := uEndF_stop _ _ _ h
theorem uEndF_shift : ∀ (f : Nat) (l : List UInt8) (k : Nat), uEndF f l k = k + uEndF f l 0 := by
  intro f
  induction f with
  | zero => intro l k; rfl
  | succ f ih =>
    intro l k
    by_cases h : (u1 l).2 = 0
    · simp [uEndF, h]
    · simp only [uEndF, h, if_false]
      rw [ih _ (k + (u1 l).2), ih _ (0 + (u1 l).2)]
      omega
theorem uEndF_fuel : ∀ (f g : Nat) (l : List UInt8) (k : Nat), l.length ≤ f → l.length ≤ g → uEndF f l k = uEndF g l k := by
  intro f
  induction f with
  | zero =>
    intro g l k hf hg
    have : l = [] := List.length_eq_zero_iff.1 (by omega)
    subst this
    rw [uEndF_stop _ _ _ rfl, uEndF_stop _ _ _ rfl]
  | succ f ih =>
    intro g l k hf hg
    by_cases h : (u1 l).2 = 0
    · rw [uEndF_stop _ _ _ h, uEndF_stop _ _ _ h]
    · have hl := u1_le l
      cases g with
      | zero => omega
      | succ g =>
        simp only [uEndF, h, if_false]
        rw [ih g _ _ (by simp; omega) (by simp; omega)]
theorem uEnd_go (l : List UInt8) (h : (u1 l).2 ≠ 0) : uEnd l = (u1 l).2 + uEnd (l.drop (u1 l).2) := by
  have hl := u1_le l
  have e : uEnd l = uEndF (l.length - 1 + 1) l 0 := by unfold uEnd; rw [show l.length - 1 + 1 = l.length from by omega]
  rw [e]
  simp only [uEndF, h, if_false]
  rw [uEndF_fuel (l.length - 1) (l.drop (u1 l).2).length _ _ (by simp; omega) (by omega), uEndF_shift]
  simp [uEnd]
theorem uRunes_count : ∀ (n : Nat) (l : List UInt8) (k j : Nat), l.length ≤ n → (uRunes l k).length = (uRunes l j).length := by
  intro n
  induction n with
  | zero =>
    intro l k j h
    have : l = [] := List.length_eq_zero_iff.1 (by omega)
    subst this
    rw [uRunes_stop _ _ rfl, uRunes_stop _ _ rfl]
  | succ n ih =>
    intro l k j h
    by_cases h0 : (u1 l).2 = 0
    · rw [uRunes_stop _ _ h0, uRunes_stop _ _ h0]
    · rw [uRunes_go _ _ h0, uRunes_go _ _ h0]
      simp only [List.length_cons]
      rw [ih (l.drop (u1 l).2) (k + (u1 l).2) (j + (u1 l).2) (by simp; omega)]
/-- No more characters than bytes ahead of the end. -/
theorem uRunes_le_end : ∀ (n : Nat) (l : List UInt8) (k : Nat), l.length ≤ n → (uRunes l k).length ≤ uEnd l := by
  intro n
  induction n with
  | zero =>
    intro l k h
    have : l = [] := List.length_eq_zero_iff.1 (by omega)
    subst this
    rw [uRunes_stop _ _ rfl]; simp
  | succ n ih =>
    intro l k h
    by_cases h0 : (u1 l).2 = 0
    · rw [uRunes_stop _ _ h0]; simp
    · rw [uRunes_go _ _ h0, uEnd_go _ h0]
      have := ih (l.drop (u1 l).2) (k + (u1 l).2) (by simp; omega)
      simp only [List.length_cons]
      omega
/-- Behind a whole text another one is told as by itself. -/
theorem uRunes_app : ∀ (n : Nat) (a b : List UInt8) (k : Nat), a.length ≤ n → uEnd a = a.length → uRunes (a ++ b) k = uRunes a k ++ uRunes b (k + a.length) := by
  intro n
  induction n with
  | zero =>
    intro a b k h _
    have : a = [] := List.length_eq_zero_iff.1 (by omega)
    subst this
    rw [uRunes_stop [] _ rfl]; simp
  | succ n ih =>
    intro a b k h he
    by_cases h0 : (u1 a).2 = 0
    · rw [uEnd_stop _ h0] at he
      have : a = [] := List.length_eq_zero_iff.1 (by omega)
      subst this
      rw [uRunes_stop [] _ rfl]; simp
    · have hle := u1_le a
      rw [uEnd_go _ h0] at he
      have hd : (a.drop (u1 a).2).length = a.length - (u1 a).2 := by simp
      rw [uRunes_go a k h0, uRunes_go (a ++ b) k (by rw [u1_app a b h0]; exact h0), u1_app a b h0, List.drop_append_of_le_length hle,
        ih (a.drop (u1 a).2) b (k + (u1 a).2) (by omega) (by omega), hd]
      simp only [List.cons_append]
      rw [show k + (u1 a).2 + (a.length - (u1 a).2) = k + a.length from by omega]
theorem uEnd_app : ∀ (n : Nat) (a b : List UInt8), a.length ≤ n → uEnd a = a.length → uEnd (a ++ b) = a.length + uEnd b := by
  intro n
  induction n with
  | zero =>
    intro a b h _
    have : a = [] := List.length_eq_zero_iff.1 (by omega)
    subst this
    simp
  | succ n ih =>
    intro a b h he
    by_cases h0 : (u1 a).2 = 0
    · rw [uEnd_stop _ h0] at he
      have : a = [] := List.length_eq_zero_iff.1 (by omega)
      subst this
      simp
    · have hle := u1_le a
      rw [uEnd_go _ h0] at he
      have hd : (a.drop (u1 a).2).length = a.length - (u1 a).2 := by simp
      rw [uEnd_go (a ++ b) (by rw [u1_app a b h0]; exact h0), u1_app a b h0, List.drop_append_of_le_length hle, ih (a.drop (u1 a).2) b (by omega) (by omega), hd]
      omega
end Go.Proofs.YtkebjllehegjlaaGreatDoor
