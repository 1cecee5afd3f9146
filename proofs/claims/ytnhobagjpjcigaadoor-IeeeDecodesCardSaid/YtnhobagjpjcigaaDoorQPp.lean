/-
 Law 2: texts that are cut; texts of numbers.
 Law 2: Parse.
 Law 2: the text of a fraction, read.
-/
import Derived.Test.YtnhobagjpjcigaaDoorQRound
import Derived.Test.YtnhobagjpjcigaaDoorShelf
import Derived.Lib.CutLaws
import Derived.Lib.IndexLaws
namespace Go.Proofs.YtnhobagjpjcigaaDoor
open Go.RowKit
set_option linter.unusedVariables false
/-- The number of a text; of any other text 0. -/
noncomputable def nn (s : ByteArray) : Nat := by
 classical exact if WF s then dv s.data.toList else 0
/-- The code that is told of a text. -/
noncomputable def cc (s : ByteArray) : Int := by
 classical exact if WF s then 0 else 3
theorem nn_lt {s : ByteArray} {k : Nat} (hs : s.size ≤ 16 * k) : nn s < 18446744073709551616 ^ k := by
 unfold nn
 split
 · rename_i h
   exact Nat.lt_of_lt_of_le (dv_lt s.size s.data.toList (by simp) h.dig) (ten_pow hs)
 · exact Nat.pow_pos (by decide)
theorem cc_cases (s : ByteArray) : (WF s ∧ cc s = 0) ∨ (¬ WF s ∧ cc s = 3 ∧ nn s = 0) := by
 by_cases h : WF s
 · exact .inl ⟨h, by unfold cc; rw [if_pos h]⟩
 · exact .inr ⟨h, by unfold cc; rw [if_neg h], by unfold nn; rw [if_neg h]⟩
/-- Does the text begin with '-', and what is behind it? -/
def ng (s : ByteArray) : Bool := Lib.hasPrefix s.data.toList [45]
def bd (s : ByteArray) : ByteArray := if ng s then s.extract 1 s.size else s
theorem bd_size (s : ByteArray) : (bd s).size ≤ s.size := by
 unfold bd
 split
 · simp
 · exact Nat.le_refl _
theorem ng_size {s : ByteArray} (h : ng s = true) : 1 ≤ s.size := by
 unfold ng Lib.hasPrefix at h
 have e : s.size = s.data.toList.length := by simp
 rw [e]
 cases hl : s.data.toList with
 | nil => rw [hl] at h; simp at h
 | cons b r => simp
/-- Where '/' stands: the place, or the text's size. -/
def sl (s : ByteArray) : Option Nat := if 0 ≤ Lib.indexByte s.data.toList 47 then some (Lib.indexByte s.data.toList 47).toNat else none
def above (s : ByteArray) : ByteArray := match sl s with | some i => s.extract 0 i | none => s
def under (s : ByteArray) : ByteArray := match sl s with | some i => s.extract (i + 1) s.size | none => ⟨#[]⟩
theorem idx_lt {l : List UInt8} {c : UInt8} {i : Nat} (h : Lib.indexByte l c = i) : i < l.length := (List.getElem?_eq_some_iff.1 (Lib.indexByte_some h).1).1
theorem sl_cases (s : ByteArray) : (Lib.indexByte s.data.toList 47 = -1 ∧ sl s = none ∧ above s = s ∧ under s = ⟨#[]⟩) ∨ ∃ i : Nat, Lib.indexByte s.data.toList 47 = i ∧ i < s.size ∧ sl s = some i ∧ above s = s.extract 0 i ∧ under s = s.extract (i + 1) s.size := by
 have hge := Lib.indexByte_ge s.data.toList 47
 by_cases h : 0 ≤ Lib.indexByte s.data.toList 47
 · right
   obtain ⟨i, hi⟩ : ∃ i : Nat, Lib.indexByte s.data.toList 47 = i := ⟨_, (Int.toNat_of_nonneg h).symm⟩
   have hsl : sl s = some i := by unfold sl; rw [if_pos h, hi]; rfl
   refine ⟨i, hi, by have := idx_lt hi; simpa using this, hsl, ?_, ?_⟩
   · unfold above; rw [hsl]
   · unfold under; rw [hsl]
 · left
   have hsl : sl s = none := by unfold sl; rw [if_neg h]
   refine ⟨by omega, hsl, ?_, ?_⟩
   · unfold above; rw [hsl]
   · unfold under; rw [hsl]
/-- The code of a fraction that is told, or none. -/
def oc (o : Option Rat) : Int := match o with | some _ => 0 | none => 3
def GotQ (o : Option Rat) (w : World) (e : Ending) (w' : World) : Prop := ∃ b x y z x' y' z', e = .returned (.tuple #[.agg #[.bool b, .slice x y z, .slice x' y' z'], .int .i64 (oc o)]) ∧ IsR w' (.agg #[.bool b, .slice x y z, .slice x' y' z']) (o.getD 0) ∧ Below w.heap.size w w'
theorem isR_zero (W : World) : IsR W (.agg #[.bool false, .slice none 0 0, .slice none 0 0]) 0 := ⟨none, 0, 0, none, 0, 0, rfl, isN_zero W, isN_zero W⟩
theorem Mq.finz {w W : World} {bx : List (Nat × TypeId × Array Value)} {l : List (Value × Nat)} {r : List (Value × Rat)} (h : Mq w bx l r W) (k : Nat) {b : Nat} {z : Bool} {p : Option Addr} {n c : Nat} {p' : Option Addr} {n' c' : Nat} (e : bx[k]? = some (b, 31, #[.bool z, .slice p n c, .slice p' n' c'])) :
 Blk (set3 W b (.bool false) (.slice none 0 0) (.slice none 0 0)) b 31 #[.bool false, .slice none 0 0, .slice none 0 0] ∧ Below w.heap.size w (set3 W b (.bool false) (.slice none 0 0) (.slice none 0 0)) :=
 ⟨blk_set3 (h.box k b _ _ e).1 _ _ _, below_set3 h.bel (h.box k b _ _ e).2 _ _ _⟩
theorem sgn_abs (z : Bool) (N : Nat) : (sgn z N).natAbs = N := by
 unfold sgn
 split <;> omega
theorem sgn_neg {z : Bool} {N : Nat} (h : N = 0 → z = false) : decide (sgn z N < 0) = z := by
 unfold sgn
 cases z with
 | false => simp
 | true =>
  have : N ≠ 0 := fun e => by have := h e; cases this
  simp; omega
/-- A whole number with a sign. -/
noncomputable def pqw (z : Bool) (d : ByteArray) : Option Rat := by
 classical exact if WF d ∧ ¬ (z = true ∧ nn d = 0) then some ((sgn z (nn d) : Int) : Rat) else none
end Go.Proofs.YtnhobagjpjcigaaDoor
namespace Go.Proofs.YtnhobagjpjcigaaDoor
open Go.RowKit
set_option linter.unusedVariables false
/-- What Parse tells of a text. -/
noncomputable def pq (s : ByteArray) : Option Rat := by
 classical exact if sl (bd s) = none then pqw (ng s) (bd s) else
  if (WF (above (bd s)) ∧ WF (under (bd s))) ∧ nn (under (bd s)) ≠ 0 ∧ nn (under (bd s)) ≠ 1 ∧ Nat.gcd (nn (above (bd s))) (nn (under (bd s))) = 1 then some (mkRat (sgn (ng s) (nn (above (bd s)))) (nn (under (bd s)))) else none
theorem mk_parts {n : Int} {q : Nat} (hq : q ≠ 0) (hg : Nat.gcd n.natAbs q = 1) : (mkRat n q).num = n ∧ (mkRat n q).den = q := by
 rw [← Rat.normalize_eq_mkRat hq]
 rw [Rat.num_normalize, Rat.den_normalize, hg]
 simp
theorem above_size (s : ByteArray) : (above s).size ≤ s.size := by
 rcases sl_cases s with ⟨_, _, h, _⟩ | ⟨i, _, hi, _, h, _⟩ <;> rw [h]
 · exact Nat.le_refl _
 · simp; omega
theorem under_size (s : ByteArray) : (under s).size ≤ s.size := by
 rcases sl_cases s with ⟨_, _, _, h⟩ | ⟨i, _, hi, _, _, h⟩ <;> rw [h]
 · exact Nat.zero_le _
 · simp
end Go.Proofs.YtnhobagjpjcigaaDoor
namespace Go.Proofs.YtnhobagjpjcigaaDoor
open Go.RowKit
set_option linter.unusedVariables false
theorem dec_facts : ∀ N : Nat, (∀ b ∈ Lib.decDigits N, isDig b) ∧ Lib.decDigits N ≠ [] ∧ dv (Lib.decDigits N) = N ∧ ((Lib.decDigits N).head? = some 48 → N = 0) := by
 intro N
 induction N using Nat.strongRecOn with
 | ind N ih =>
  have dgt : ∀ k, k < 10 → isDig (UInt8.ofNat (48 + k)) ∧ (UInt8.ofNat (48 + k)).toNat - 48 = k := fun k hk => by
   have : (UInt8.ofNat (48 + k)).toNat = 48 + k := by rw [UInt8.toNat_ofNat']; omega
   unfold isDig
   rw [this]
   omega
  by_cases h : N < 10
  · rw [Lib.decDigits_one h]
    obtain ⟨h1, h2⟩ := dgt N h
    refine ⟨fun b hb => by rw [List.mem_singleton.1 hb]; exact h1, by simp, by rw [dv_one]; exact h2, fun e => ?_⟩
    simp only [List.head?_cons, Option.some.injEq] at e
    have := congrArg UInt8.toNat e
    rw [UInt8.toNat_ofNat'] at this
    have e48 : (48 : UInt8).toNat = 48 := rfl
    omega
  · have e : Lib.decDigits N = Lib.decDigits (N / 10) ++ [UInt8.ofNat (48 + N % 10)] := by rw [Lib.decDigits, dif_neg h]
    obtain ⟨i1, i2, i3, i4⟩ := ih (N / 10) (by omega)
    obtain ⟨h1, h2⟩ := dgt (N % 10) (by omega)
    rw [e]
    refine ⟨fun b hb => ?_, by simp, ?_, fun hh => ?_⟩
    · rcases List.mem_append.1 hb with hb | hb
      · exact i1 b hb
      · rw [List.mem_singleton.1 hb]; exact h1
    · rw [dv_snoc, i3, h2]; omega
    · exfalso
      have : (Lib.decDigits (N / 10) ++ [UInt8.ofNat (48 + N % 10)]).head? = (Lib.decDigits (N / 10)).head? := by
       cases hl : Lib.decDigits (N / 10) with
       | nil => exact absurd hl i2
       | cons x y => rfl
      rw [this] at hh
      have := i4 hh
      omega
theorem dg_list (N : Nat) : (dg N).data.toList = Lib.decDigits N := by simp [dg]
theorem dg_wf (N : Nat) : WF (dg N) := by
 obtain ⟨h1, h2, h3, h4⟩ := dec_facts N
 have hs : (dg N).size = (Lib.decDigits N).length := by show (Lib.decDigits N).toArray.size = _; simp
 refine ⟨?_, ?_, ?_⟩
 · rw [hs]; exact List.length_pos_iff.2 h2
 · rw [dg_list, hs]
   rintro ⟨e, hl⟩
   have := h4 e
   subst this
   rw [Lib.decDigits_one (by omega)] at hl
   simp at hl
 · rw [dg_list]; exact h1
theorem dg_nn (N : Nat) : nn (dg N) = N := by
 unfold nn
 rw [if_pos (dg_wf N), dg_list]
 exact (dec_facts N).2.2.1
theorem dg_ne {N : Nat} {b : UInt8} (hb : b ∈ (dg N).data.toList) : b ≠ 45 ∧ b ≠ 47 ∧ b ≠ 43 := by
 rw [dg_list] at hb
 have h := (dec_facts N).1 b hb
 unfold isDig at h
 refine ⟨fun e => ?_, fun e => ?_, fun e => ?_⟩ <;> (subst e; revert h; decide)
theorem idx_none : ∀ (l : List UInt8) (c : UInt8), c ∉ l → Lib.indexByte l c = -1 := by
 intro l c
 induction l with
 | nil => intro _; rfl
 | cons b r ih =>
  intro h
  unfold Lib.indexByte
  have h1 : (b == c) = false := by simp; exact fun e => h (by simp [e])
  rw [h1, ih (fun hh => h (by simp [hh]))]
  rfl
theorem idx_app : ∀ (l : List UInt8) (c : UInt8) (r : List UInt8), c ∉ l → Lib.indexByte (l ++ c :: r) c = (l.length : Int) := by
 intro l c r
 induction l with
 | nil => intro _; simp [Lib.indexByte]
 | cons b t ih =>
  intro h
  have h1 : (b == c) = false := by simp; exact fun e => h (by simp [e])
  rw [List.cons_append, Lib.indexByte, h1, ih (fun hh => h (by simp [hh]))]
  simp only [Bool.false_eq_true, if_false, List.length_cons]
  rw [if_neg (by simp)]
  rfl
theorem app_list (a b : ByteArray) : (a ++ b).data.toList = a.data.toList ++ b.data.toList := by simp
/-- What a text without a slash is cut to. -/
theorem sl_none {s : ByteArray} (h : (47 : UInt8) ∉ s.data.toList) : sl s = none := by
 unfold sl
 rw [idx_none _ _ h]
 rfl
theorem sl_some (a b : ByteArray) (h : (47 : UInt8) ∉ a.data.toList) : sl (a ++ (⟨#[47]⟩ ++ b)) = some a.size ∧ above (a ++ (⟨#[47]⟩ ++ b)) = a ∧ under (a ++ (⟨#[47]⟩ ++ b)) = b := by
 have e : (a ++ (⟨#[47]⟩ ++ b)).data.toList = a.data.toList ++ 47 :: b.data.toList := by simp
 have hl : a.data.toList.length = a.size := by simp
 have hi : Lib.indexByte (a ++ (⟨#[47]⟩ ++ b)).data.toList 47 = (a.size : Int) := by rw [e, idx_app _ _ _ h, hl]
 have hs : sl (a ++ (⟨#[47]⟩ ++ b)) = some a.size := by unfold sl; rw [hi, if_pos (by omega)]; rfl
 have hz : (a ++ (⟨#[47]⟩ ++ b)).size = a.size + 1 + b.size := by
  rw [ByteArray.size_append, ByteArray.size_append]
  show a.size + (1 + b.size) = _
  omega
 refine ⟨hs, ?_, ?_⟩
 · unfold above
   rw [hs]
   refine bytes_ext ?_
   show (ByteArray.extract _ 0 a.size).data.toList = _
   rw [ext_list, e, List.drop_zero, Nat.sub_zero, ← hl, List.take_left]
 · unfold under
   rw [hs]
   refine bytes_ext ?_
   show (ByteArray.extract _ (a.size + 1) _).data.toList = _
   have e2 : a.data.toList ++ 47 :: b.data.toList = (a.data.toList ++ [47]) ++ b.data.toList := by simp
   rw [ext_list, e, e2, hz, List.drop_left' (by simp [hl])]
   rw [List.take_of_length_le (by simp)]
theorem ng_false {s : ByteArray} (h : s.data.toList.head? ≠ some 45) : ng s = false ∧ bd s = s := by
 have h1 : ng s = false := by
  unfold ng Lib.hasPrefix
  cases hl : s.data.toList with
  | nil => rfl
  | cons b r =>
   rw [hl] at h
   simp only [List.head?_cons, ne_eq, Option.some.injEq] at h
   simp only [List.isPrefixOf, Bool.and_true]
   simp
   exact fun e => h e.symm
 exact ⟨h1, by unfold bd; rw [h1]; rfl⟩
theorem ng_true (t : ByteArray) : ng (⟨#[45]⟩ ++ t) = true ∧ bd (⟨#[45]⟩ ++ t) = t := by
 have e : ((⟨#[45]⟩ : ByteArray) ++ t).data.toList = 45 :: t.data.toList := by simp
 have h1 : ng (⟨#[45]⟩ ++ t) = true := by
  unfold ng Lib.hasPrefix
  rw [e]
  simp [List.isPrefixOf]
 refine ⟨h1, ?_⟩
 unfold bd
 rw [h1]
 refine bytes_ext ?_
 show (ByteArray.extract _ 1 _).data.toList = _
 rw [ext_list, e]
 have hz : ((⟨#[45]⟩ : ByteArray) ++ t).size = t.size + 1 := by
  rw [ByteArray.size_append]
  show 1 + t.size = _
  omega
 rw [hz, List.drop_succ_cons, List.drop_zero, List.take_of_length_le (by simp)]
theorem pq_num (z : Bool) (N : Nat) (s : ByteArray) (h1 : ng s = z) (h2 : bd s = dg N) (h3 : z = true → N ≠ 0) : pq s = some ((sgn z N : Int) : Rat) := by
 unfold pq
 rw [h1, h2, if_pos (sl_none (fun h => (dg_ne h).2.1 rfl))]
 unfold pqw
 rw [dg_nn, if_pos ⟨dg_wf N, fun h => h3 h.1 h.2⟩]
theorem pq_two (z : Bool) (N D : Nat) (s : ByteArray) (h1 : ng s = z) (h2 : bd s = dg N ++ (⟨#[47]⟩ ++ dg D)) : pq s = if D ≠ 0 ∧ D ≠ 1 ∧ Nat.gcd N D = 1 then some (mkRat (sgn z N) D) else none := by
 obtain ⟨s1, s2, s3⟩ := sl_some (dg N) (dg D) (fun h => (dg_ne h).2.1 rfl)
 unfold pq
 rw [h1, h2, s1, s2, s3, if_neg (by simp), dg_nn, dg_nn]
 by_cases hh : D ≠ 0 ∧ D ≠ 1 ∧ Nat.gcd N D = 1
 · rw [if_pos ⟨⟨dg_wf N, dg_wf D⟩, hh⟩, if_pos hh]
 · rw [if_neg (fun h => hh h.2), if_neg hh]
theorem dg_head (N : Nat) (t : ByteArray) : (dg N ++ t).data.toList.head? ≠ some 45 ∧ (dg N).data.toList.head? ≠ some 45 := by
 have hd : ∀ l : List UInt8, (dg N).data.toList = l → (l ++ t.data.toList).head? ≠ some 45 ∧ l.head? ≠ some 45 := fun l hl => by
  cases l with
  | nil => exact absurd (by rw [← dg_list, hl]) (dec_facts N).2.1
  | cons x y =>
   have := dg_ne (N := N) (b := x) (by rw [hl]; simp)
   simp only [List.cons_append, List.head?_cons, ne_eq, Option.some.injEq]
   exact ⟨this.1, this.1⟩
 rw [app_list]
 exact hd _ rfl
theorem tx_body (x : Rat) : ng (tx x) = decide (x.num < 0) ∧ bd (tx x) = if x.den = 1 then dg x.num.natAbs else dg x.num.natAbs ++ (⟨#[47]⟩ ++ dg x.den) := by
 unfold tx
 by_cases h1 : x.den = 1 <;> by_cases h2 : x.num < 0
 · rw [if_pos h1, if_pos h2, if_pos h1, decide_eq_true h2]; exact ng_true _
 · rw [if_pos h1, if_neg h2, if_pos h1, decide_eq_false h2]; exact ng_false (dg_head _ ⟨#[]⟩).2
 · rw [if_neg h1, if_pos h2, if_neg h1, decide_eq_true h2, ByteArray.append_assoc]; exact ng_true _
 · rw [if_neg h1, if_neg h2, if_neg h1, decide_eq_false h2]; exact ng_false (dg_head _ _).1
theorem pq_tx (x : Rat) : pq (tx x) = some x := by
 obtain ⟨h1, h2⟩ := tx_body x
 by_cases h : x.den = 1
 · rw [if_pos h] at h2
   rw [pq_num _ _ _ h1 h2 (fun e => by have := of_decide_eq_true e; omega), ← num_sgn]
   congr 1
   exact Rat.ext (Rat.num_intCast _) (by rw [Rat.den_intCast, h])
 · rw [if_neg h] at h2
   have hr : Nat.gcd x.num.natAbs x.den = 1 := x.reduced
   rw [pq_two _ _ _ _ h1 h2, if_pos ⟨x.den_nz, h, hr⟩, ← num_sgn]
   congr 1
   obtain ⟨m1, m2⟩ := mk_parts (n := x.num) x.den_nz hr
   exact Rat.ext m1 m2
end Go.Proofs.YtnhobagjpjcigaaDoor
