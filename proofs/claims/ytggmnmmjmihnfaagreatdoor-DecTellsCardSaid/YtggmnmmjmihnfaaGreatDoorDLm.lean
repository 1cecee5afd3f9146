/-
 Law 3: how the document reads a literal (mathematics).
-/
import Derived.Test.YtggmnmmjmihnfaaGreatDoorDVal
namespace Go.Proofs.YtggmnmmjmihnfaaGreatDoor
set_option linter.unusedVariables false
/-- How far the document has read a literal: ahead of its exponent. -/
structure In1 (s : ByteArray) (i : Nat) (neg pt : Bool) (ds : List UInt8) (bh : Nat) : Prop where
 run : ∃ p, lcut s = lrun i p ⟨if pt = true then 1 else 0, ds, [], bh, neg, false⟩ (s.data.toList.drop i)
 first : i = 0 → ∀ b, s.data.toList[0]? = some b → b.toNat ≠ 43 ∧ b.toNat ≠ 45
 le : i ≤ s.size
 dl : ds.length ≤ i
 bl : bh ≤ ds.length
/-- Behind the exponent's letter. -/
structure In2 (s : ByteArray) (i : Nat) (neg : Bool) (ds es : List UInt8) (bh : Nat) (low fresh : Bool) : Prop where
 run : ∃ p, lcut s = lrun i p ⟨2, ds, es, bh, neg, low⟩ (s.data.toList.drop i) ∧ (fresh = true ↔ p.toNat = 101 ∨ p.toNat = 69)
 le : i ≤ s.size
 pos : 0 < i
theorem drop_at {l : List UInt8} {i : Nat} {b : UInt8} (h : l[i]? = some b) : l.drop i = b :: l.drop (i + 1) := by
 obtain ⟨hi, hb⟩ := List.getElem?_eq_some_iff.1 h
 rw [List.drop_eq_getElem_cons hi, hb]
theorem at_lt {s : ByteArray} {i : Nat} {b : UInt8} (h : s.data.toList[i]? = some b) : i < s.size := by
 have h1 := (List.getElem?_eq_some_iff.1 h).1
 have h2 : s.data.toList.length = s.size := by simp
 omega
theorem drop_end {s : ByteArray} {i : Nat} (h : i = s.size) : s.data.toList.drop i = [] := by
 have h2 : s.data.toList.length = s.size := by simp
 exact List.drop_eq_nil_of_le (by omega)
theorem lcode_bad {s : ByteArray} (h : lok (lcut s) = false) : lcode s = 3 := by
 unfold lcode
 rw [if_neg (by rw [h]; simp)]
theorem lok_stop (st : LS) : lok (st, false) = false := rfl
/-- In the exponent no digit is gathered any more. -/
theorem lrun_two : ∀ (l : List UInt8) (k : Nat) (p : UInt8) (st : LS), st.part = 2 → (lrun k p st l).1.ds = st.ds := by
 intro l
 induction l with
 | nil => intro k p st _; unfold lrun; rfl
 | cons b r ih =>
  intro k p st h
  cases e : lstep k p st b with
  | none => rw [lrun_stop e]
  | some s' =>
   rw [lrun_go e]
   have h2 : s'.part = 2 ∧ s'.ds = st.ds := by
    unfold lstep at e
    split at e
    · (try rw [if_pos h] at e)
      injection e with e; subst e; exact ⟨h, rfl⟩
    · split at e
      · rename_i h3; omega
      · split at e
        · rename_i h3; omega
        · split at e
          · injection e with e; subst e; exact ⟨h, rfl⟩
          · split at e
            · injection e with e; subst e; exact ⟨h, rfl⟩
            · cases e
   rw [ih (k + 1) b s' h2.1, h2.2]
theorem lok_nods {r : LS × Bool} (h : r.1.ds = []) : lok r = false := by
 unfold lok
 rw [h]
 simp
theorem in1_start0 (s : ByteArray) (h : ∀ b, s.data.toList[0]? = some b → b.toNat ≠ 43 ∧ b.toNat ≠ 45) : In1 s 0 false false [] 0 := ⟨⟨0, rfl⟩, fun _ => h, Nat.zero_le _, Nat.le_refl _, Nat.le_refl _⟩
theorem in1_start1 (s : ByteArray) (b : UInt8) (h : s.data.toList[0]? = some b) (hb : b.toNat = 43 ∨ b.toNat = 45) : In1 s 1 (decide (b.toNat = 45)) false [] 0 := by
 have hlt := at_lt h
 refine ⟨⟨b, ?_⟩, fun h => absurd h (by omega), by omega, by simp, Nat.le_refl _⟩
 have e : lstep 0 0 lzero b = some { lzero with neg := decide (b.toNat = 45) } := by
  unfold lstep
  rw [if_neg (by omega), if_neg (by omega), if_neg (by omega), if_pos ⟨hb, rfl⟩]
 have hd := drop_at h
 rw [List.drop_zero] at hd
 unfold lcut
 rw [hd, lrun_go e]
 rfl
theorem in1_dig {s : ByteArray} {i : Nat} {neg pt : Bool} {ds : List UInt8} {bh : Nat} (h : In1 s i neg pt ds bh) {b : UInt8} (hb : s.data.toList[i]? = some b) (h1 : 48 ≤ b.toNat) (h2 : b.toNat ≤ 57) : In1 s (i + 1) neg pt (ds ++ [b]) (bh + if pt = true then 1 else 0) := by
 obtain ⟨p, hr⟩ := h.run
 have hlt := at_lt hb
 refine ⟨⟨b, ?_⟩, fun h => absurd h (by omega), by omega, by have := h.dl; simp; omega, by have := h.bl; simp only [List.length_append, List.length_singleton]; split <;> omega⟩
 rw [hr, drop_at hb]
 refine lrun_go ?_
 unfold lstep
 rw [if_pos ⟨h1, h2⟩, if_neg (by show ¬ (if pt = true then 1 else 0) = 2; split <;> omega)]
theorem in1_dot {s : ByteArray} {i : Nat} {neg : Bool} {ds : List UInt8} {bh : Nat} (h : In1 s i neg false ds bh) {b : UInt8} (hb : s.data.toList[i]? = some b) (h1 : b.toNat = 46) : In1 s (i + 1) neg true ds bh := by
 obtain ⟨p, hr⟩ := h.run
 have hlt := at_lt hb
 refine ⟨⟨b, ?_⟩, fun h => absurd h (by omega), by omega, by have := h.dl; omega, h.bl⟩
 rw [hr, drop_at hb]
 refine lrun_go ?_
 unfold lstep
 rw [if_neg (by omega), if_pos ⟨h1, rfl⟩]
 rfl
theorem in1_e {s : ByteArray} {i : Nat} {neg pt : Bool} {ds : List UInt8} {bh : Nat} (h : In1 s i neg pt ds bh) {b : UInt8} (hb : s.data.toList[i]? = some b) (h1 : b.toNat = 101 ∨ b.toNat = 69) : In2 s (i + 1) neg ds [] bh false true := by
 obtain ⟨p, hr⟩ := h.run
 have hlt := at_lt hb
 refine ⟨⟨b, ?_, ⟨fun _ => h1, fun _ => rfl⟩⟩, by omega, by omega⟩
 rw [hr, drop_at hb]
 refine lrun_go ?_
 unfold lstep
 rw [if_neg (by omega), if_neg (by omega), if_pos ⟨h1, by show ¬ (if pt = true then 1 else 0) = 2; split <;> omega⟩]
theorem in1_stop {s : ByteArray} {i : Nat} {neg pt : Bool} {ds : List UInt8} {bh : Nat} (h : In1 s i neg pt ds bh) {b : UInt8} (hb : s.data.toList[i]? = some b) (h1 : ¬ (48 ≤ b.toNat ∧ b.toNat ≤ 57)) (h2 : ¬ (b.toNat = 46 ∧ pt = false)) (h3 : b.toNat ≠ 101 ∧ b.toNat ≠ 69) : lcode s = 3 := by
 obtain ⟨p, hr⟩ := h.run
 refine lcode_bad ?_
 rw [hr, drop_at hb, lrun_stop]
 · rfl
 · unfold lstep
   rw [if_neg h1, if_neg, if_neg (by omega), if_neg, if_neg]
   · rintro ⟨-, h4, -⟩
     have h5 : (if pt = true then 1 else 0) = 2 := h4
     split at h5 <;> omega
   · rintro ⟨h4, h5⟩
     subst h5
     have := h.first rfl b hb
     omega
   · rintro ⟨h4, h5⟩
     cases pt with
     | false => exact h2 ⟨h4, rfl⟩
     | true => exact absurd h5 (by simp)
theorem in1_none {s : ByteArray} {i : Nat} {neg pt : Bool} {bh : Nat} (h : In1 s i neg pt [] bh) (hend : i = s.size ∨ ∃ b, s.data.toList[i]? = some b ∧ ¬ (48 ≤ b.toNat ∧ b.toNat ≤ 57) ∧ ¬ (b.toNat = 46 ∧ pt = false)) : lcode s = 3 := by
 rcases hend with he | ⟨b, hb, h1, h2⟩
 · obtain ⟨p, hr⟩ := h.run
   refine lcode_bad ?_
   rw [hr, drop_end he]
   unfold lrun
   exact lok_nods rfl
 · by_cases h3 : b.toNat = 101 ∨ b.toNat = 69
   · obtain ⟨p, hr, -⟩ := (in1_e h hb h3).run
     refine lcode_bad ?_
     rw [hr]
     exact lok_nods (lrun_two _ _ _ _ rfl)
   · exact in1_stop h hb h1 h2 (by omega)
theorem in1_end {s : ByteArray} {i : Nat} {neg pt : Bool} {ds : List UInt8} {bh : Nat} (h : In1 s i neg pt ds bh) (he : i = s.size) (hd : ds ≠ []) : lcode s = 0 ∧ litv s = litQ ⟨if pt = true then 1 else 0, ds, [], bh, neg, false⟩ := by
 obtain ⟨p, hr⟩ := h.run
 rw [drop_end he] at hr
 unfold lrun at hr
 have hok : lok (lcut s) = true := by
  rw [hr]
  unfold lok
  have h1 : ds.isEmpty = false := by cases ds with | nil => exact absurd rfl hd | cons a b => rfl
  show (true && (!ds.isEmpty && (!([] : List UInt8).isEmpty || (if pt = true then 1 else 0) != 2))) = true
  rw [h1]
  cases pt <;> rfl
 have hc : lcode s = 0 := by
  unfold lcode
  rw [if_pos hok, hr]
  rfl
 refine ⟨hc, ?_⟩
 unfold litv
 rw [if_pos hc, hr]
theorem in2_sign {s : ByteArray} {i : Nat} {neg : Bool} {ds es : List UInt8} {bh : Nat} {low : Bool} (h : In2 s i neg ds es bh low true) {b : UInt8} (hb : s.data.toList[i]? = some b) (h1 : b.toNat = 43 ∨ b.toNat = 45) : In2 s (i + 1) neg ds es bh (decide (b.toNat = 45)) false := by
 obtain ⟨p, hr, hp⟩ := h.run
 have hlt := at_lt hb
 have hpos := h.pos
 refine ⟨⟨b, ?_, ⟨fun h => (by cases h), fun h => (by omega)⟩⟩, by omega, by omega⟩
 rw [hr, drop_at hb]
 refine lrun_go ?_
 unfold lstep
 rw [if_neg (by omega), if_neg (by omega), if_neg (by omega), if_neg (by omega), if_pos ⟨h1, rfl, hp.1 rfl⟩]
theorem in2_dig {s : ByteArray} {i : Nat} {neg : Bool} {ds es : List UInt8} {bh : Nat} {low fr : Bool} (h : In2 s i neg ds es bh low fr) {b : UInt8} (hb : s.data.toList[i]? = some b) (h1 : 48 ≤ b.toNat) (h2 : b.toNat ≤ 57) : In2 s (i + 1) neg ds (es ++ [b]) bh low false := by
 obtain ⟨p, hr, hp⟩ := h.run
 have hlt := at_lt hb
 refine ⟨⟨b, ?_, ⟨fun h => (by cases h), fun h => (by omega)⟩⟩, by omega, by omega⟩
 rw [hr, drop_at hb]
 refine lrun_go ?_
 unfold lstep
 rw [if_pos ⟨h1, h2⟩, if_pos rfl]
theorem in2_stop {s : ByteArray} {i : Nat} {neg : Bool} {ds es : List UInt8} {bh : Nat} {low fr : Bool} (h : In2 s i neg ds es bh low fr) {b : UInt8} (hb : s.data.toList[i]? = some b) (h1 : ¬ (48 ≤ b.toNat ∧ b.toNat ≤ 57)) (h2 : fr = true → b.toNat ≠ 43 ∧ b.toNat ≠ 45) : lcode s = 3 := by
 obtain ⟨p, hr, hp⟩ := h.run
 have hpos := h.pos
 refine lcode_bad ?_
 rw [hr, drop_at hb, lrun_stop]
 · rfl
 · unfold lstep
   rw [if_neg h1, if_neg (fun h4 => absurd h4.2 (by show ¬ (2 : Nat) = 0; omega)), if_neg (by rintro ⟨-, h4⟩; exact h4 rfl), if_neg (by omega), if_neg]
   rintro ⟨h4, -, h5⟩
   have := h2 (hp.2 h5)
   omega
theorem in2_none {s : ByteArray} {i : Nat} {neg : Bool} {ds : List UInt8} {bh : Nat} {low fr : Bool} (h : In2 s i neg ds [] bh low fr) (he : i = s.size) : lcode s = 3 := by
 obtain ⟨p, hr, hp⟩ := h.run
 refine lcode_bad ?_
 rw [hr, drop_end he]
 unfold lrun lok
 simp
theorem in2_end {s : ByteArray} {i : Nat} {neg : Bool} {ds es : List UInt8} {bh : Nat} {low fr : Bool} (h : In2 s i neg ds es bh low fr) (he : i = s.size) (hd : ds ≠ []) (hes : es ≠ []) : lcode s = (if dv es ≤ 400 then 0 else 2) ∧ (dv es ≤ 400 → litv s = litQ ⟨2, ds, es, bh, neg, low⟩) ∧ (400 < dv es → litv s = 0) := by
 obtain ⟨p, hr, hp⟩ := h.run
 rw [drop_end he] at hr
 unfold lrun at hr
 have h1 : ds.isEmpty = false := by cases ds with | nil => exact absurd rfl hd | cons a b => rfl
 have h2 : es.isEmpty = false := by cases es with | nil => exact absurd rfl hes | cons a b => rfl
 have hok : lok (lcut s) = true := by
  rw [hr]
  show (true && (!ds.isEmpty && (!es.isEmpty || (2 : Nat) != 2))) = true
  rw [h1, h2]
  rfl
 have hc : lcode s = (if dv es ≤ 400 then 0 else 2) := by
  unfold lcode
  rw [if_pos hok, hr]
 refine ⟨hc, fun h3 => ?_, fun h3 => ?_⟩
 · unfold litv
   rw [if_pos (by rw [hc, if_pos h3]), hr]
 · unfold litv
   rw [if_neg (by rw [hc, if_neg (by omega)]; decide)]
/-- An exponent that stops growing. -/
theorem min_exp (v d : Nat) : min (min v 1000 * 10 + d) 1000 = min (v * 10 + d) 1000 := by omega
end Go.Proofs.YtggmnmmjmihnfaaGreatDoor
