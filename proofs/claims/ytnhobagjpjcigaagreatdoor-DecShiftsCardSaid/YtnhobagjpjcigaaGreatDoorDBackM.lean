/-
 Law 3: literals that are told are read again; exponents move the point (mathematics).
-/
import Derived.Test.YtnhobagjpjcigaaGreatDoorDVal
import Derived.Test.YtnhobagjpjcigaaGreatDoorDFin
import Derived.Test.YtnhobagjpjcigaaGreatDoorRQm
import Derived.Test.YtnhobagjpjcigaaGreatDoorQG
namespace Go.Proofs.YtnhobagjpjcigaaGreatDoor
set_option linter.unusedVariables false
/-- The number n times ten to the e. -/
def q10 (n : Int) (e : Int) : Rat := if 0 ≤ e then mkRat (n * ((10 ^ e.toNat : Nat) : Int)) 1 else mkRat n (10 ^ (-e).toNat)
theorem ten_ne : (10 : Rat) ≠ 0 := by decide +kernel
theorem q10_z (n e : Int) : q10 n e = (n : Rat) * (10 : Rat) ^ e := by
 unfold q10
 split
 · rename_i h
   obtain ⟨k, rfl⟩ : ∃ k : Nat, e = k := ⟨e.toNat, by omega⟩
   rw [Rat.mkRat_one, Rat.intCast_mul, Rat.zpow_natCast, Int.toNat_natCast, Rat.intCast_natCast, Rat.natCast_pow]
   rfl
 · rename_i h
   obtain ⟨k, rfl⟩ : ∃ k : Nat, e = -(k : Int) := ⟨(-e).toNat, by omega⟩
   rw [Rat.mkRat_eq_div, Rat.zpow_neg, Rat.zpow_natCast, Rat.div_def, Int.neg_neg, Int.toNat_natCast, Rat.natCast_pow]
   rfl
theorem q10_up (n e : Int) : q10 n e * 10 = q10 n (e + 1) := by
 rw [q10_z, q10_z, Rat.zpow_add_one ten_ne, Rat.mul_assoc]
theorem q10_down (n e : Int) : q10 n e * (10 : Rat)⁻¹ = q10 n (e - 1) := by
 rw [q10_z, q10_z, Rat.zpow_sub_one ten_ne, Rat.mul_assoc]
theorem q10_more (n : Int) (k : Nat) (e : Int) : q10 (n * ((10 ^ k : Nat) : Int)) (e - k) = q10 n e := by
 rw [q10_z, q10_z, Rat.intCast_mul, Rat.intCast_natCast, Rat.natCast_pow, Rat.mul_assoc]
 have h : (10 : Rat) ^ e = (10 : Rat) ^ (k : Int) * (10 : Rat) ^ (e - k) := by
  rw [← Rat.zpow_add ten_ne]
  congr 1
  omega
 rw [h, Rat.zpow_natCast]
 rfl
theorem litQ_q10 (r : LS) : litQ r = q10 (sgn r.neg (dv r.ds)) (lexp r) := by
 unfold litQ q10
 rw [sgn_mul]
/-- Its sizes. -/
theorem q10_num (n e : Int) (a c : Nat) (hn : n.natAbs < 10 ^ a) (he : e ≤ c) : (q10 n e).num.natAbs < 10 ^ (a + c) := by
 have key : ∀ m : Nat, m ≤ c → n.natAbs * 10 ^ m < 10 ^ (a + c) := fun m hm => by
  rw [Nat.pow_add]
  exact Nat.lt_of_lt_of_le (Nat.mul_lt_mul_of_pos_right hn (Nat.pow_pos (by decide))) (Nat.mul_le_mul_left _ (Nat.pow_le_pow_right (by decide) hm))
 unfold q10
 split
 · rw [(norm_parts _ 1 (by decide)).1, Int.natAbs_mul, Int.natAbs_natCast]
   exact Nat.lt_of_le_of_lt (Nat.div_le_self _ _) (key _ (by omega))
 · rw [(norm_parts _ _ (Nat.ne_of_gt (Nat.pow_pos (by decide)))).1]
   refine Nat.lt_of_le_of_lt (Nat.div_le_self _ _) ?_
   have := key 0 (by omega)
   rwa [Nat.pow_zero, Nat.mul_one] at this
theorem q10_den (n e : Int) (b : Nat) (he : -(b : Int) ≤ e) : (q10 n e).den ∣ 10 ^ b := by
 unfold q10
 split
 · rw [(norm_parts _ 1 (by decide)).2.1]
   have : 1 / Nat.gcd (n * ((10 ^ e.toNat : Nat) : Int)).natAbs 1 = 1 := by rw [Nat.gcd_one_right]
   rw [this]
   exact Nat.one_dvd _
 · rw [(norm_parts _ _ (Nat.ne_of_gt (Nat.pow_pos (by decide)))).2.1]
   exact Nat.dvd_trans (Nat.div_dvd_of_dvd (Nat.gcd_dvd_right _ _)) (Nat.pow_dvd_pow 10 (by omega))
theorem q10_denle (n e : Int) (b : Nat) (he : -(b : Int) ≤ e) : (q10 n e).den ≤ 10 ^ b := Nat.le_of_dvd (Nat.pow_pos (by decide)) (q10_den n e b he)
/-- A run over two parts. -/
theorem lrun_app : ∀ (l m : List UInt8) (i : Nat) (p : UInt8) (s s' : LS), lrun i p s l = (s', true) → ∃ p', lrun i p s (l ++ m) = lrun (i + l.length) p' s' m := by
 intro l
 induction l with
 | nil => intro m i p s s' h; unfold lrun at h; injection h with h _; subst h; exact ⟨p, rfl⟩
 | cons b r ih =>
  intro m i p s s' h
  cases e : lstep i p s b with
  | none => rw [lrun_stop e] at h; injection h with _ h; cases h
  | some t =>
   rw [lrun_go e] at h
   obtain ⟨p', h'⟩ := ih m (i + 1) b t s' h
   refine ⟨p', ?_⟩
   rw [List.cons_append, lrun_go e, h', List.length_cons, Nat.add_assoc, Nat.add_comm 1]
/-- Without an exponent. -/
theorem lrun_noe : ∀ (l : List UInt8) (i : Nat) (p : UInt8) (s : LS), (∀ b ∈ l, b.toNat ≠ 101 ∧ b.toNat ≠ 69) → s.part ≠ 2 → s.low = false → s.es = [] → (lrun i p s l).1.part ≠ 2 ∧ (lrun i p s l).1.low = false ∧ (lrun i p s l).1.es = [] := by
 intro l
 induction l with
 | nil => intro i p s _ h1 h2 h3; unfold lrun; exact ⟨h1, h2, h3⟩
 | cons b r ih =>
  intro i p s hl h1 h2 h3
  have hb := hl b (by simp)
  have hr : ∀ x ∈ r, x.toNat ≠ 101 ∧ x.toNat ≠ 69 := fun x hx => hl x (by simp [hx])
  cases e : lstep i p s b with
  | none => rw [lrun_stop e]; exact ⟨h1, h2, h3⟩
  | some t =>
   rw [lrun_go e]
   unfold lstep at e
   split at e
   · try rw [if_neg h1] at e
     injection e with e; subst e
     exact ih _ _ _ hr h1 h2 h3
   · split at e
     · injection e with e; subst e
       exact ih _ _ _ hr (by show (1 : Nat) ≠ 2; omega) h2 h3
     · split at e
       · rename_i h; omega
       · split at e
         · injection e with e; subst e
           exact ih _ _ _ hr h1 h2 h3
         · split at e
           · rename_i h; exact absurd h.2.1 h1
           · cases e
/-- Digits ahead of the exponent, and within it. -/
theorem lrun_dig : ∀ (D : List UInt8) (i : Nat) (p : UInt8) (s : LS), (∀ b ∈ D, isDig b) → s.part ≠ 2 → lrun i p s D = ({ s with ds := s.ds ++ D, pl := s.pl + s.part * D.length }, true) := by
 intro D
 induction D with
 | nil => intro i p s _ _; unfold lrun; simp
 | cons b r ih =>
  intro i p s hl h1
  have e : lstep i p s b = some { s with ds := s.ds ++ [b], pl := s.pl + s.part } := by
   unfold lstep
   rw [if_pos (show 48 ≤ b.toNat ∧ b.toNat ≤ 57 from hl b (by simp)), if_neg h1]
  rw [lrun_go e, ih (i + 1) b { s with ds := s.ds ++ [b], pl := s.pl + s.part } (fun x hx => hl x (by simp [hx])) h1]
  simp [Nat.mul_succ]
  omega
theorem lrun_exp : ∀ (D : List UInt8) (i : Nat) (p : UInt8) (s : LS), (∀ b ∈ D, isDig b) → s.part = 2 → lrun i p s D = ({ s with es := s.es ++ D }, true) := by
 intro D
 induction D with
 | nil => intro i p s _ _; unfold lrun; simp
 | cons b r ih =>
  intro i p s hl h1
  have e : lstep i p s b = some { s with es := s.es ++ [b] } := by
   unfold lstep
   rw [if_pos (show 48 ≤ b.toNat ∧ b.toNat ≤ 57 from hl b (by simp)), if_pos h1]
  rw [lrun_go e, ih (i + 1) b { s with es := s.es ++ [b] } (fun x hx => hl x (by simp [hx])) h1]
  simp
/-- What is put behind a literal without an exponent: e, a sign, digits. -/
def epart (low : Bool) (E : List UInt8) : List UInt8 := 101 :: ((if low then [45] else []) ++ E)
theorem run_e (st : LS) (l E : List UInt8) (low : Bool) (h : lrun 0 0 lzero l = (st, true)) (hne : ∀ b ∈ l, b.toNat ≠ 101 ∧ b.toNat ≠ 69) (hd : st.ds ≠ []) (hE : ∀ b ∈ E, isDig b) : lrun 0 0 lzero (l ++ epart low E) = (⟨2, st.ds, E, st.pl, st.neg, low⟩, true) := by
 obtain ⟨h1, h2, h3⟩ := lrun_noe l 0 0 lzero hne (by decide) rfl rfl
 rw [h] at h1 h2 h3
 change st.part ≠ 2 at h1
 change st.low = false at h2
 change st.es = [] at h3
 have hl0 : 0 < l.length := by
  rcases List.eq_nil_or_concat l with rfl | ⟨a, b, rfl⟩
  · unfold lrun at h
    injection h with h _
    subst h
    exact absurd rfl hd
  · simp
 obtain ⟨p, hp⟩ := lrun_app l (epart low E) 0 0 lzero st h
 rw [hp]
 have e1 : ∀ q : UInt8, lstep (0 + l.length) q st 101 = some { st with part := 2 } := fun q => by
  unfold lstep
  rw [if_neg (by decide), if_neg (by intro h; exact absurd h.1 (by decide)), if_pos ⟨.inl (by decide), h1⟩]
 unfold epart
 rw [lrun_go (e1 _)]
 cases low with
 | false =>
  simp only [Bool.false_eq_true, if_false, List.nil_append]
  rw [lrun_exp E _ _ _ hE rfl]
  simp only [h2, h3, List.nil_append]
 | true =>
  have e2 : lstep (0 + l.length + 1) 101 { st with part := 2 } 45 = some { st with part := 2, low := true } := by
   unfold lstep
   rw [if_neg (by decide), if_neg (by intro h; exact absurd h.1 (by decide)), if_neg (by intro h; exact absurd h.2 (by simp)), if_neg (by omega), if_pos ⟨.inr (by decide), rfl, .inl (by decide)⟩]
   rfl
  simp only [if_true, List.singleton_append]
  rw [lrun_go e2, lrun_exp E _ _ _ hE rfl]
  simp only [h3, List.nil_append]
/-- The number of a literal with an exponent. -/
theorem lit_e (s : ByteArray) (E : List UInt8) (low : Bool) (h0 : lcode s = 0) (hne : ∀ b ∈ s.data.toList, b.toNat ≠ 101 ∧ b.toNat ≠ 69) (hE : ∀ b ∈ E, isDig b) (hE0 : E ≠ []) (hE4 : dv E ≤ 400) :
 lcode (bz (s.data.toList ++ epart low E)) = 0 ∧ litv (bz (s.data.toList ++ epart low E)) = q10 (sgn (lcut s).1.neg (dv (lcut s).1.ds)) (sgn low (dv E) - (lcut s).1.pl) ∧ litv s = q10 (sgn (lcut s).1.neg (dv (lcut s).1.ds)) (0 - ((lcut s).1.pl : Int)) ∧ (lcut (bz (s.data.toList ++ epart low E))).1 = ⟨2, (lcut s).1.ds, E, (lcut s).1.pl, (lcut s).1.neg, low⟩ := by
 have hk : lok (lcut s) = true := by
  unfold lcode at h0
  split at h0
  · assumption
  · cases h0
 obtain ⟨h1, h2, h3⟩ := lrun_noe s.data.toList 0 0 lzero hne (by decide) rfl rfl
 change (lcut s).1.part ≠ 2 at h1
 change (lcut s).1.low = false at h2
 change (lcut s).1.es = [] at h3
 have hv : litv s = litQ (lcut s).1 := by unfold litv; rw [if_pos h0]
 have hr : lrun 0 0 lzero s.data.toList = lcut s := rfl
 generalize lcut s = R at *
 obtain ⟨st, ok⟩ := R
 change st.part ≠ 2 at h1
 change st.low = false at h2
 change st.es = [] at h3
 change litv s = litQ st at hv
 unfold lok at hk
 simp only [Bool.and_eq_true] at hk
 obtain ⟨k1, k2, k3⟩ := hk
 change ok = true at k1
 subst k1
 have hd : st.ds ≠ [] := by
  intro e
  change (!st.ds.isEmpty) = true at k2
  rw [e] at k2
  exact absurd k2 (by decide)
 have hc := run_e st _ E low hr hne hd hE
 have hc2 : lcut (bz (s.data.toList ++ epart low E)) = (⟨2, st.ds, E, st.pl, st.neg, low⟩, true) := by
  unfold lcut bz
  simpa using hc
 have hok : lok (lcut (bz (s.data.toList ++ epart low E))) = true := by
  rw [hc2]
  unfold lok
  have e1 : E.isEmpty = false := by cases E with | nil => exact absurd rfl hE0 | cons _ _ => rfl
  have e2 : st.ds.isEmpty = false := by cases h : st.ds with | nil => exact absurd h hd | cons _ _ => rfl
  simp only [e1, e2]
  rfl
 have hcode : lcode (bz (s.data.toList ++ epart low E)) = 0 := by
  unfold lcode
  rw [if_pos hok, hc2, if_pos hE4]
 refine ⟨hcode, ?_, ?_, by rw [hc2]⟩
 · unfold litv
   rw [if_pos hcode, hc2, litQ_q10]
   rfl
 · rw [hv, litQ_q10]
   unfold lexp
   rw [h2, h3]
   rfl

theorem dv_nil : dv [] = 0 := rfl
theorem dv_noughts (l : List UInt8) (n : Nat) : dv (l ++ List.replicate n 48) = dv l * 10 ^ n := by
 induction n with
 | zero => simp
 | succ n ih =>
  rw [List.replicate_succ', ← List.append_assoc, dv_snoc, ih, Nat.pow_succ, ← Nat.mul_assoc]
  rfl
/-- A literal without an exponent, as it is told. -/
theorem run_back (z pt : Bool) (D1 D2 : List UInt8) (h1 : ∀ b ∈ D1, isDig b) (h2 : ∀ b ∈ D2, isDig b) : lrun 0 0 lzero ((if z then [45] else []) ++ (D1 ++ (if pt then 46 :: D2 else []))) = (⟨if pt then 1 else 0, D1 ++ (if pt then D2 else []), [], if pt then D2.length else 0, z, false⟩, true) := by
 have tail : ∀ (i : Nat) (p : UInt8) (b : Bool), lrun i p { lzero with neg := b } (D1 ++ (if pt then 46 :: D2 else [])) = (⟨if pt then 1 else 0, D1 ++ (if pt then D2 else []), [], if pt then D2.length else 0, b, false⟩, true) := by
  intro i p b
  obtain ⟨p', hp⟩ := lrun_app D1 (if pt then 46 :: D2 else []) i p _ _ (lrun_dig D1 i p { lzero with neg := b } h1 (by show (0 : Nat) ≠ 2; omega))
  rw [hp]
  cases pt with
  | false => simp [lrun, lzero]
  | true =>
   have e : lstep (i + D1.length) p' { lzero with neg := b, ds := lzero.ds ++ D1, pl := lzero.pl + lzero.part * D1.length } 46 = some { lzero with neg := b, ds := lzero.ds ++ D1, pl := lzero.pl + lzero.part * D1.length, part := 1 } := by
    unfold lstep
    rw [if_neg (by decide), if_pos ⟨by decide, rfl⟩]
   simp only [if_true]
   rw [lrun_go e, lrun_dig D2 _ _ _ h2 (by show (1 : Nat) ≠ 2; omega)]
   simp [lzero]
 cases z with
 | false => exact tail 0 0 false
 | true =>
  have e : lstep 0 0 lzero 45 = some { lzero with neg := true } := by
   unfold lstep
   rw [if_neg (by decide), if_neg (by intro h; exact absurd h.1 (by decide)), if_neg (by intro h; exact absurd h.1 (by decide)), if_pos ⟨.inr (by decide), rfl⟩]
   rfl
  simp only [if_true, List.singleton_append]
  rw [lrun_go e]
  exact tail 1 45 true
/-- What such a literal is: the number of its digits, less its places. -/
theorem lit_back (s : ByteArray) (z pt : Bool) (D1 D2 : List UInt8) (hs : s.data.toList = (if z then [45] else []) ++ (D1 ++ (if pt then 46 :: D2 else []))) (h1 : ∀ b ∈ D1, isDig b) (h2 : ∀ b ∈ D2, isDig b) (h0 : D1 ≠ []) :
 lcode s = 0 ∧ litv s = q10 (sgn z (dv (D1 ++ (if pt then D2 else [])))) (0 - ((if pt then D2.length else 0 : Nat) : Int)) ∧ (lcut s).1.es = [] := by
 have hc : lcut s = (⟨if pt then 1 else 0, D1 ++ (if pt then D2 else []), [], if pt then D2.length else 0, z, false⟩, true) := by
  unfold lcut
  rw [hs]
  exact run_back z pt D1 D2 h1 h2
 have hok : lok (lcut s) = true := by
  rw [hc]
  unfold lok
  have e1 : (D1 ++ (if pt then D2 else [])).isEmpty = false := by cases h : D1 with | nil => exact absurd h h0 | cons _ _ => rfl
  simp only [e1]
  cases pt <;> rfl
 have hcode : lcode s = 0 := by
  unfold lcode
  rw [if_pos hok, hc]
  rfl
 refine ⟨hcode, ?_, by rw [hc]⟩
 unfold litv
 rw [if_pos hcode, hc, litQ_q10]
 rfl

theorem den_plc {d : Nat} (h0 : d ≠ 0) (h : rst d = 1) : d ∣ 10 ^ plc d := by
 have e := rst_eq h0
 rw [h, Nat.one_mul] at e
 have e10 : 10 ^ plc d = 5 ^ plc d * 2 ^ plc d := by rw [← Nat.mul_pow]
 rw [e10]
 conv => lhs; rw [e]
 exact Nat.mul_dvd_mul (Nat.pow_dvd_pow 5 (Nat.le_max_right _ _)) (Nat.pow_dvd_pow 2 (Nat.le_max_left _ _))
theorem q10_under (n : Int) (k : Nat) : q10 n (0 - (k : Int)) = mkRat n (10 ^ k) := by
 unfold q10
 split
 · rename_i h
   have hk : k = 0 := by omega
   subst hk
   simp
 · have : (-(0 - (k : Int))).toNat = k := by omega
   rw [this]
/-- A fraction is its digits, less its places. -/
theorem sct_q (x : Rat) (h : rst x.den = 1) : q10 (sgn (decide (x.num < 0)) (sct x)) (0 - (plc x.den : Int)) = x := by
 rw [q10_under]
 conv => rhs; rw [← Rat.mkRat_self x]
 refine (Rat.mkRat_eq_iff (Nat.ne_of_gt (Nat.pow_pos (by decide))) (Nat.ne_of_gt x.den_pos)).2 ?_
 have hd := den_plc (Nat.ne_of_gt x.den_pos) h
 have e1 : sct x * x.den = x.num.natAbs * 10 ^ plc x.den := Nat.div_mul_cancel (Nat.dvd_trans hd (Nat.dvd_mul_left _ _))
 rw [← sgn_mul, e1, sgn_mul, sgn_num]
theorem dv_ahead (l : List UInt8) (n : Nat) : dv (List.replicate n 48 ++ l) = dv l := by
 induction n with
 | zero => rfl
 | succ n ih => rw [List.replicate_succ, List.cons_append, dv_nought, ih]
theorem dig_noughts (n : Nat) : ∀ b ∈ List.replicate n (48 : UInt8), isDig b := fun b hb => by
 rw [List.eq_of_mem_replicate hb]
 exact ⟨by decide, by decide⟩
theorem sdg_facts (x : Rat) : (∀ b ∈ (sdg x).data.toList, isDig b) ∧ dv (sdg x).data.toList = sct x ∧ plc x.den < (sdg x).data.toList.length ∧ (sdg x).size = (sdg x).data.toList.length := by
 obtain ⟨h1, h2, h3, -⟩ := dec_facts (sct x)
 have hz : (dg (sct x)).size = (Lib.decDigits (sct x)).length := by unfold dg; show (Lib.decDigits (sct x)).toArray.size = _; simp
 refine ⟨?_, ?_, ?_, by show (sdg x).data.size = _; simp⟩
 · unfold sdg
   split
   · intro b hb
     simp only [ByteArray.data_append, Array.toList_append, List.mem_append] at hb
     rcases hb with hb | hb
     · exact dig_noughts _ b hb
     · exact h1 b (by rw [← dg_list]; exact hb)
   · rw [dg_list]; exact h1
 · unfold sdg
   split
   · simp only [ByteArray.data_append, Array.toList_append]
     rw [dg_list]
     exact (dv_ahead _ _).trans h3
   · rw [dg_list]; exact h3
 · unfold sdg
   split
   · simp only [ByteArray.data_append, Array.toList_append, List.length_append]
     rw [dg_list, hz] at *
     simp
     omega
   · rw [dg_list]; omega
/-- The literal of a fraction, byte by byte. -/
theorem ltx_list (x : Rat) : (ltx x).data.toList = (if decide (x.num < 0) then [45] else []) ++ ((sdg x).data.toList.take ((sdg x).data.toList.length - plc x.den) ++ (if decide (0 < plc x.den) then 46 :: (sdg x).data.toList.drop ((sdg x).data.toList.length - plc x.den) else [])) := by
 obtain ⟨-, -, hl, hs⟩ := sdg_facts x
 have hu : (ubt x).data.toList = (sdg x).data.toList.take ((sdg x).data.toList.length - plc x.den) ++ (if decide (0 < plc x.den) then 46 :: (sdg x).data.toList.drop ((sdg x).data.toList.length - plc x.den) else []) := by
  unfold ubt
  rw [hs]
  generalize hS : sdg x = S at *
  have e1 : ∀ k, (S.extract 0 k).data.toList = S.data.toList.take k := fun k => by simp [ByteArray.data_extract]
  have e2 : ∀ k, (S.extract k S.data.toList.length).data.toList = S.data.toList.drop k := fun k => by
   simp only [ByteArray.data_extract, Array.toList_extract, List.extract_eq_take_drop]
   exact List.take_of_length_le (by simp)
  split
  · rename_i h
    simp only [ByteArray.data_append, Array.toList_append, e1, e2, h, decide_true, if_true]
    rfl
  · rename_i h
    simp only [e1, h, decide_false, Bool.false_eq_true, if_false, List.append_nil]
 unfold ltx
 split
 · rename_i h
   simp only [ByteArray.data_append, Array.toList_append, hu, h, decide_true, if_true]
 · rename_i h
   simp only [hu, h, decide_false, Bool.false_eq_true, if_false, List.nil_append]
theorem ltx_point (x : Rat) : (46 ∈ (ltx x).data.toList) ↔ 0 < plc x.den := by
 obtain ⟨hd, -, hl, hs⟩ := sdg_facts x
 have key : ∀ b ∈ (sdg x).data.toList, b ≠ 46 := fun b hb e => by
  have := hd b hb
  subst e
  exact absurd this.1 (by decide)
 rw [ltx_list]
 constructor
 · intro h
   by_cases hp : 0 < plc x.den
   · exact hp
   · simp only [hp, decide_false, Bool.false_eq_true, if_false, List.append_nil, List.mem_append] at h
     rcases h with h | h
     · split at h
       · exact absurd (List.mem_singleton.1 h) (by decide)
       · exact absurd h List.not_mem_nil
     · exact absurd rfl (key _ (List.mem_of_mem_take h))
 · intro hp
   simp [hp]
/-- The literal that is told is read as the number; with noughts more, too. -/
theorem lit_told (x : Rat) (h : rst x.den = 1) : lcode (ltx x) = 0 ∧ litv (ltx x) = x ∧ (lcut (ltx x)).1.es = [] := by
 obtain ⟨hd, hv, hl, hs⟩ := sdg_facts x
 have hq := sct_q x h
 have hL := ltx_list x
 rw [← hv] at hq
 generalize (sdg x).data.toList = D at *
 obtain ⟨h1, h2, h3⟩ := lit_back (ltx x) _ _ _ _ hL (fun b hb => hd b (List.mem_of_mem_take hb)) (fun b hb => hd b (List.mem_of_mem_drop hb)) (by
  intro e
  have := congrArg List.length e
  simp at this
  omega)
 refine ⟨h1, ?_, h3⟩
 rw [h2]
 by_cases hp : 0 < plc x.den
 · simp only [hp, decide_true, if_true, List.take_append_drop, List.length_drop]
   have : D.length - (D.length - plc x.den) = plc x.den := by omega
   rw [this]
   exact hq
 · have h0 : plc x.den = 0 := by omega
   simp only [h0, Nat.lt_irrefl, decide_false, Bool.false_eq_true, if_false, List.append_nil, Nat.sub_zero, List.take_length] at hq ⊢
   exact hq
/-- With a point, and noughts. -/
def lnt (x : Rat) (n : Nat) : List UInt8 := (ltx x).data.toList ++ ((if 46 ∈ (ltx x).data.toList then [] else [46]) ++ List.replicate n 48)
theorem lit_noughts (x : Rat) (n : Nat) (h : rst x.den = 1) : lcode (bz (lnt x n)) = 0 ∧ litv (bz (lnt x n)) = x ∧ (lcut (bz (lnt x n))).1.es = [] := by
 obtain ⟨hd, hv, hl, hs⟩ := sdg_facts x
 have hq := sct_q x h
 have hL : lnt x n = (if decide (x.num < 0) then [45] else []) ++ ((sdg x).data.toList.take ((sdg x).data.toList.length - plc x.den) ++ (if true then 46 :: ((sdg x).data.toList.drop ((sdg x).data.toList.length - plc x.den) ++ List.replicate n 48) else [])) := by
  unfold lnt
  simp only [ltx_point]
  rw [ltx_list]
  by_cases hp : 0 < plc x.den
  · simp [hp]
  · have h0 : plc x.den = 0 := by omega
    simp [h0]
 rw [← hv] at hq
 generalize (sdg x).data.toList = D at *
 obtain ⟨h1, h2, h3⟩ := lit_back (bz (lnt x n)) (decide (x.num < 0)) true (D.take (D.length - plc x.den)) (D.drop (D.length - plc x.den) ++ List.replicate n 48) (by unfold bz; exact hL) (fun b hb => hd b (List.mem_of_mem_take hb)) (fun b hb => by
  rcases List.mem_append.1 hb with hb | hb
  · exact hd b (List.mem_of_mem_drop hb)
  · exact dig_noughts n b hb) (by
  intro e
  have := congrArg List.length e
  simp at this
  omega)
 refine ⟨h1, ?_, h3⟩
 rw [h2]
 simp only [if_true, List.length_append, List.length_drop, List.length_replicate]
 rw [← List.append_assoc, List.take_append_drop, dv_noughts]
 have e1 : D.length - (D.length - plc x.den) = plc x.den := by omega
 rw [e1, sgn_mul]
 have e2 : (0 : Int) - ((plc x.den + n : Nat) : Int) = (0 - (plc x.den : Int)) - (n : Int) := by omega
 rw [e2, q10_more]
 exact hq
theorem lnt_length (x : Rat) (n : Nat) : (lnt x n).length ≤ (ltx x).data.toList.length + 1 + n := by
 unfold lnt
 split <;> simp <;> omega
end Go.Proofs.YtnhobagjpjcigaaGreatDoor
