/-
 Law 3: denominators that are made of twos and fives.
 Law 3: literals that are told are read again; exponents move the point (mathematics).
 The walk of DecTells: for every input it returns true, and leaves what lay in memory as it was.
-/
import Derived.Test.YtggmnmmjmihnfaaGreatDoorDMath
import Derived.Test.YtggmnmmjmihnfaaGreatDoorDVal
import Derived.Test.YtggmnmmjmihnfaaGreatDoorRQm
import Derived.Test.YtggmnmmjmihnfaaGreatDoorQG
import Derived.Test.YtggmnmmjmihnfaaGreatDoorDAlive
import Derived.Test.YtggmnmmjmihnfaaGreatDoorDRl
import Derived.Test.YtggmnmmjmihnfaaGreatDoorDRt
import Derived.Test.YtggmnmmjmihnfaaGreatDoorDRp
import Derived.Test.YtggmnmmjmihnfaaGreatDoorRQf
namespace Go.Proofs.YtggmnmmjmihnfaaGreatDoor
set_option linter.unusedVariables false
theorem cop5 {r : Nat} (h : r % 5 ≠ 0) : Nat.Coprime r 5 := by
 have hd : Nat.gcd r 5 ∣ 5 := Nat.gcd_dvd_right _ _
 have hle : Nat.gcd r 5 ≤ 5 := Nat.le_of_dvd (by decide) hd
 have key : ∀ g, g ≤ 5 → g ∣ 5 → g = 1 ∨ g = 5 := by decide
 rcases key _ hle hd with h1 | h1
 · exact h1
 · have := Nat.gcd_dvd_left r 5
   rw [h1] at this
   exact absurd (Nat.mod_eq_zero_of_dvd this) h
theorem cop2 {r : Nat} (h : r % 2 ≠ 0) : Nat.Coprime r 2 := by
 have hd : Nat.gcd r 2 ∣ 2 := Nat.gcd_dvd_right _ _
 have hle : Nat.gcd r 2 ≤ 2 := Nat.le_of_dvd (by decide) hd
 have key : ∀ g, g ≤ 2 → g ∣ 2 → g = 1 ∨ g = 2 := by decide
 rcases key _ hle hd with h1 | h1
 · exact h1
 · have := Nat.gcd_dvd_left r 2
   rw [h1] at this
   exact absurd (Nat.mod_eq_zero_of_dvd this) h
/-- A divisor of twos and fives is made of them, and of no more of each. -/
theorem fin_parts {d t f : Nat} (h : d ∣ 2 ^ t * 5 ^ f) : rst d = 1 ∧ (tk 2 d).2 ≤ t ∧ (tk 5 (tk 2 d).1).2 ≤ f := by
 have hpos : 0 < 2 ^ t * 5 ^ f := Nat.mul_pos (Nat.pow_pos (by decide)) (Nat.pow_pos (by decide))
 have h0 : d ≠ 0 := fun e => by
  rw [e] at h
  have := Nat.eq_zero_of_zero_dvd h
  omega
 have e2 := tk_eq (p := 2) (by decide) h0
 have l2 := tk_left (p := 2) (by decide) h0
 have m0 := tk_ne (p := 2) (by decide) h0
 have e5 := tk_eq (p := 5) (by decide) m0
 have l5 := tk_left (p := 5) (by decide) m0
 unfold rst
 generalize (tk 2 d).1 = m at e2 l2 m0 e5 l5 ⊢
 generalize (tk 2 d).2 = a at e2 ⊢
 generalize (tk 5 m).1 = r at e5 l5 ⊢
 generalize (tk 5 m).2 = b at e5 ⊢
 have hm : m ∣ 5 ^ f := by
  refine Nat.Coprime.dvd_of_dvd_mul_left (m := 2 ^ t) ?_ (Nat.dvd_trans ⟨2 ^ a, e2⟩ h)
  exact Nat.Coprime.pow_right t (cop2 l2)
 have h2 : 2 ^ a ∣ 2 ^ t := by
  refine Nat.Coprime.dvd_of_dvd_mul_right (n := 5 ^ f) ?_ (Nat.dvd_trans ⟨m, by rw [Nat.mul_comm]; exact e2⟩ h)
  exact Nat.Coprime.pow a f (by decide)
 have hr : r = 1 := by
  refine Nat.Coprime.eq_one_of_dvd (m := 5 ^ f) ?_ (Nat.dvd_trans ⟨5 ^ b, e5⟩ hm)
  exact Nat.Coprime.pow_right f (cop5 l5)
 have h5 : 5 ^ b ∣ 5 ^ f := Nat.dvd_trans ⟨r, by rw [Nat.mul_comm]; exact e5⟩ hm
 exact ⟨hr, (Nat.pow_dvd_pow_iff_le_right (by decide)).1 h2, (Nat.pow_dvd_pow_iff_le_right (by decide)).1 h5⟩
/-- A denominator that a further prime divides is not made of them. -/
theorem fin_not {d p : Nat} (h0 : d ≠ 0) (h2 : Nat.Coprime p 2) (h5 : Nat.Coprime p 5) (hp : p ≠ 1) (h : p ∣ d) : rst d ≠ 1 := by
 intro e
 have hd := rst_eq h0
 rw [e, Nat.one_mul] at hd
 rw [hd] at h
 exact hp (Nat.Coprime.eq_one_of_dvd (Nat.Coprime.mul_right (Nat.Coprime.pow_right _ h5) (Nat.Coprime.pow_right _ h2)) h)
/-- The denominator behind the common divisor. -/
theorem fin_yes {N D K t f : Nat} (hN : N ≠ 0) (hD : D = 2 ^ t * 5 ^ f * K) (hK : K ∣ N) : D / Nat.gcd N D ∣ 2 ^ t * 5 ^ f := by
 have hg : K ∣ Nat.gcd N D := Nat.dvd_gcd hK ⟨2 ^ t * 5 ^ f, by rw [hD, Nat.mul_comm]⟩
 obtain ⟨q, hq⟩ := hg
 have hG : Nat.gcd N D ∣ D := Nat.gcd_dvd_right _ _
 have hG0 : 0 < Nat.gcd N D := Nat.gcd_pos_of_pos_left _ (Nat.pos_of_ne_zero hN)
 obtain ⟨u, hu⟩ := hG
 have e1 : D / Nat.gcd N D = u := by
  conv => lhs; lhs; rw [hu]
  exact Nat.mul_div_cancel_left _ hG0
 rw [e1]
 have hK0 : 0 < K := Nat.pos_of_ne_zero (fun e => by rw [e, Nat.zero_mul] at hq; omega)
 refine ⟨q, Nat.eq_of_mul_eq_mul_right hK0 ?_⟩
 rw [← hD]
 conv => lhs; rw [hu]
 rw [hq, Nat.mul_assoc, Nat.mul_comm K, Nat.mul_comm q u]
theorem fin_no {N D p : Nat} (hN : N ≠ 0) (hp : ∀ a b, p ∣ a * b → p ∣ a ∨ p ∣ b) (hD : p ∣ D) (hpN : ¬ p ∣ N) : p ∣ D / Nat.gcd N D := by
 have hG : Nat.gcd N D ∣ D := Nat.gcd_dvd_right _ _
 have e1 : D = Nat.gcd N D * (D / Nat.gcd N D) := (Nat.mul_div_cancel' hG).symm
 rw [e1] at hD
 rcases hp _ _ hD with h | h
 · exact absurd (Nat.dvd_trans h (Nat.gcd_dvd_left _ _)) hpN
 · exact h
theorem prime_of {p : Nat} (hp : ∀ g, g ≤ p → g ∣ p → g = 1 ∨ g = p) (h0 : 0 < p) (a b : Nat) (h : p ∣ a * b) : p ∣ a ∨ p ∣ b := by
 have hd : Nat.gcd p a ∣ p := Nat.gcd_dvd_left _ _
 rcases hp _ (Nat.le_of_dvd h0 hd) hd with h1 | h1
 · exact .inr (Nat.Coprime.dvd_of_dvd_mul_left h1 h)
 · exact .inl (by rw [← h1]; exact Nat.gcd_dvd_right _ _)
end Go.Proofs.YtggmnmmjmihnfaaGreatDoor
namespace Go.Proofs.YtggmnmmjmihnfaaGreatDoor
set_option linter.unusedVariables false
/-- The number n times ten to the e. -/
def q10 (n : Int) (e : Int) : Rat := if 0 ≤ e then mkRat (n * ((10 ^ e.toNat : Nat) : Int)) 1 else mkRat n (10 ^ (-e).toNat)
theorem ten_ne : (10 : Rat) ≠ 0 := by decide +kernel
theorem q10_z (n e : Int) : q10 n e = (n : Rat) * (10 : Rat) ^ e := by
 unfold q10
 split
 · rename_i h
   obtain ⟨k, rfl⟩ : ∃ k : Nat, e = k := ⟨e.toNat, by omega⟩
   rw [Rat.mkRat_one, Rat.intCast_mul, Rat.zpow_natCast, Int.toNat_natCast, Rat.intCast_natCast, Rat.natCast_pow]
   rfl
 · rename_i h
   obtain ⟨k, rfl⟩ : ∃ k : Nat, e = -(k : Int) := ⟨(-e).toNat, by omega⟩
   rw [Rat.mkRat_eq_div, Rat.zpow_neg, Rat.zpow_natCast, Rat.div_def, Int.neg_neg, Int.toNat_natCast, Rat.natCast_pow]
   rfl
theorem q10_up (n e : Int) : q10 n e * 10 = q10 n (e + 1) := by
 rw [q10_z, q10_z, Rat.zpow_add_one ten_ne, Rat.mul_assoc]
theorem q10_down (n e : Int) : q10 n e * (10 : Rat)⁻¹ = q10 n (e - 1) := by
 rw [q10_z, q10_z, Rat.zpow_sub_one ten_ne, Rat.mul_assoc]
theorem q10_more (n : Int) (k : Nat) (e : Int) : q10 (n * ((10 ^ k : Nat) : Int)) (e - k) = q10 n e := by
 rw [q10_z, q10_z, Rat.intCast_mul, Rat.intCast_natCast, Rat.natCast_pow, Rat.mul_assoc]
 have h : (10 : Rat) ^ e = (10 : Rat) ^ (k : Int) * (10 : Rat) ^ (e - k) := by
  rw [← Rat.zpow_add ten_ne]
  congr 1
  omega
 rw [h, Rat.zpow_natCast]
 rfl
theorem litQ_q10 (r : LS) : litQ r = q10 (sgn r.neg (dv r.ds)) (lexp r) := by
 unfold litQ q10
 rw [sgn_mul]
/-- Its sizes. -/
theorem q10_num (n e : Int) (a c : Nat) (hn : n.natAbs < 10 ^ a) (he : e ≤ c) : (q10 n e).num.natAbs < 10 ^ (a + c) := by
 have key : ∀ m : Nat, m ≤ c → n.natAbs * 10 ^ m < 10 ^ (a + c) := fun m hm => by
  rw [Nat.pow_add]
  exact Nat.lt_of_lt_of_le (Nat.mul_lt_mul_of_pos_right hn (Nat.pow_pos (by decide))) (Nat.mul_le_mul_left _ (Nat.pow_le_pow_right (by decide) hm))
 unfold q10
 split
 · rw [(norm_parts _ 1 (by decide)).1, Int.natAbs_mul, Int.natAbs_natCast]
   exact Nat.lt_of_le_of_lt (Nat.div_le_self _ _) (key _ (by omega))
 · rw [(norm_parts _ _ (Nat.ne_of_gt (Nat.pow_pos (by decide)))).1]
   refine Nat.lt_of_le_of_lt (Nat.div_le_self _ _) ?_
   have := key 0 (by omega)
   rwa [Nat.pow_zero, Nat.mul_one] at this
theorem q10_den (n e : Int) (b : Nat) (he : -(b : Int) ≤ e) : (q10 n e).den ∣ 10 ^ b := by
 unfold q10
 split
 · rw [(norm_parts _ 1 (by decide)).2.1]
   have : 1 / Nat.gcd (n * ((10 ^ e.toNat : Nat) : Int)).natAbs 1 = 1 := by rw [Nat.gcd_one_right]
   rw [this]
   exact Nat.one_dvd _
 · rw [(norm_parts _ _ (Nat.ne_of_gt (Nat.pow_pos (by decide)))).2.1]
   exact Nat.dvd_trans (Nat.div_dvd_of_dvd (Nat.gcd_dvd_right _ _)) (Nat.pow_dvd_pow 10 (by omega))
theorem q10_denle (n e : Int) (b : Nat) (he : -(b : Int) ≤ e) : (q10 n e).den ≤ 10 ^ b := Nat.le_of_dvd (Nat.pow_pos (by decide)) (q10_den n e b he)
/-- A run over two parts. -/
theorem lrun_app : ∀ (l m : List UInt8) (i : Nat) (p : UInt8) (s s' : LS), lrun i p s l = (s', true) → ∃ p', lrun i p s (l ++ m) = lrun (i + l.length) p' s' m := by
 intro l
 induction l with
 | nil => intro m i p s s' h; unfold lrun at h; injection h with h _; subst h; exact ⟨p, rfl⟩
 | cons b r ih =>
  intro m i p s s' h
  cases e : lstep i p s b with
  | none => rw [lrun_stop e] at h; injection h with _ h; cases h
  | some t =>
   rw [lrun_go e] at h
   obtain ⟨p', h'⟩ := ih m (i + 1) b t s' h
   refine ⟨p', ?_⟩
   rw [List.cons_append, lrun_go e, h', List.length_cons, Nat.add_assoc, Nat.add_comm 1]
/-- Without an exponent. -/
theorem lrun_noe : ∀ (l : List UInt8) (i : Nat) (p : UInt8) (s : LS), (∀ b ∈ l, b.toNat ≠ 101 ∧ b.toNat ≠ 69) → s.part ≠ 2 → s.low = false → s.es = [] → (lrun i p s l).1.part ≠ 2 ∧ (lrun i p s l).1.low = false ∧ (lrun i p s l).1.es = [] := by
 intro l
 induction l with
 | nil => intro i p s _ h1 h2 h3; unfold lrun; exact ⟨h1, h2, h3⟩
 | cons b r ih =>
  intro i p s hl h1 h2 h3
  have hb := hl b (by simp)
  have hr : ∀ x ∈ r, x.toNat ≠ 101 ∧ x.toNat ≠ 69 := fun x hx => hl x (by simp [hx])
  cases e : lstep i p s b with
  | none => rw [lrun_stop e]; exact ⟨h1, h2, h3⟩
  | some t =>
   rw [lrun_go e]
   unfold lstep at e
   split at e
   · try rw [if_neg h1] at e
     injection e with e; subst e
     exact ih _ _ _ hr h1 h2 h3
   · split at e
     · injection e with e; subst e
       exact ih _ _ _ hr (by show (1 : Nat) ≠ 2; omega) h2 h3
     · split at e
       · rename_i h; omega
       · split at e
         · injection e with e; subst e
           exact ih _ _ _ hr h1 h2 h3
         · split at e
           · rename_i h; exact absurd h.2.1 h1
           · cases e
/-- Digits ahead of the exponent, and within it. -/
theorem lrun_dig : ∀ (D : List UInt8) (i : Nat) (p : UInt8) (s : LS), (∀ b ∈ D, isDig b) → s.part ≠ 2 → lrun i p s D = ({ s with ds := s.ds ++ D, pl := s.pl + s.part * D.length }, true) := by
 intro D
 induction D with
 | nil => intro i p s _ _; unfold lrun; simp
 | cons b r ih =>
  intro i p s hl h1
  have e : lstep i p s b = some { s with ds := s.ds ++ [b], pl := s.pl + s.part } := by
   unfold lstep
   rw [if_pos (show 48 ≤ b.toNat ∧ b.toNat ≤ 57 from hl b (by simp)), if_neg h1]
  rw [lrun_go e, ih (i + 1) b { s with ds := s.ds ++ [b], pl := s.pl + s.part } (fun x hx => hl x (by simp [hx])) h1]
  simp [Nat.mul_succ]
  omega
theorem lrun_exp : ∀ (D : List UInt8) (i : Nat) (p : UInt8) (s : LS), (∀ b ∈ D, isDig b) → s.part = 2 → lrun i p s D = ({ s with es := s.es ++ D }, true) := by
 intro D
 induction D with
 | nil => intro i p s _ _; unfold lrun; simp
 | cons b r ih =>
  intro i p s hl h1
  have e : lstep i p s b = some { s with es := s.es ++ [b] } := by
   unfold lstep
   rw [if_pos (show 48 ≤ b.toNat ∧ b.toNat ≤ 57 from hl b (by simp)), if_pos h1]
  rw [lrun_go e, ih (i + 1) b { s with es := s.es ++ [b] } (fun x hx => hl x (by simp [hx])) h1]
  simp
/-- What is put behind a literal without an exponent: e, a sign, digits. -/
def epart (low : Bool) (E : List UInt8) : List UInt8 := 101 :: ((if low then [45] else []) ++ E)
theorem run_e (st : LS) (l E : List UInt8) (low : Bool) (h : lrun 0 0 lzero l = (st, true)) (hne : ∀ b ∈ l, b.toNat ≠ 101 ∧ b.toNat ≠ 69) (hd : st.ds ≠ []) (hE : ∀ b ∈ E, isDig b) : lrun 0 0 lzero (l ++ epart low E) = (⟨2, st.ds, E, st.pl, st.neg, low⟩, true) := by
 obtain ⟨h1, h2, h3⟩ := lrun_noe l 0 0 lzero hne (by decide) rfl rfl
 rw [h] at h1 h2 h3
 change st.part ≠ 2 at h1
 change st.low = false at h2
 change st.es = [] at h3
 have hl0 : 0 < l.length := by
  rcases List.eq_nil_or_concat l with rfl | ⟨a, b, rfl⟩
  · unfold lrun at h
    injection h with h _
    subst h
    exact absurd rfl hd
  · simp
 obtain ⟨p, hp⟩ := lrun_app l (epart low E) 0 0 lzero st h
 rw [hp]
 have e1 : ∀ q : UInt8, lstep (0 + l.length) q st 101 = some { st with part := 2 } := fun q => by
  unfold lstep
  rw [if_neg (by decide), if_neg (by intro h; exact absurd h.1 (by decide)), if_pos ⟨.inl (by decide), h1⟩]
 unfold epart
 rw [lrun_go (e1 _)]
 cases low with
 | false =>
  simp only [Bool.false_eq_true, if_false, List.nil_append]
  rw [lrun_exp E _ _ _ hE rfl]
  simp only [h2, h3, List.nil_append]
 | true =>
  have e2 : lstep (0 + l.length + 1) 101 { st with part := 2 } 45 = some { st with part := 2, low := true } := by
   unfold lstep
   rw [if_neg (by decide), if_neg (by intro h; exact absurd h.1 (by decide)), if_neg (by intro h; exact absurd h.2 (by simp)), if_neg (by omega), if_pos ⟨.inr (by decide), rfl, .inl (by decide)⟩]
   rfl
  simp only [if_true, List.singleton_append]
  rw [lrun_go e2, lrun_exp E _ _ _ hE rfl]
  simp only [h3, List.nil_append]
/-- The number of a literal with an exponent. -/
theorem lit_e (s : ByteArray) (E : List UInt8) (low : Bool) (h0 : lcode s = 0) (hne : ∀ b ∈ s.data.toList, b.toNat ≠ 101 ∧ b.toNat ≠ 69) (hE : ∀ b ∈ E, isDig b) (hE0 : E ≠ []) (hE4 : dv E ≤ 400) :
 lcode (bz (s.data.toList ++ epart low E)) = 0 ∧ litv (bz (s.data.toList ++ epart low E)) = q10 (sgn (lcut s).1.neg (dv (lcut s).1.ds)) (sgn low (dv E) - (lcut s).1.pl) ∧ litv s = q10 (sgn (lcut s).1.neg (dv (lcut s).1.ds)) (0 - ((lcut s).1.pl : Int)) ∧ (lcut (bz (s.data.toList ++ epart low E))).1 = ⟨2, (lcut s).1.ds, E, (lcut s).1.pl, (lcut s).1.neg, low⟩ := by
 have hk : lok (lcut s) = true := by
  unfold lcode at h0
  split at h0
  · assumption
  · cases h0
 obtain ⟨h1, h2, h3⟩ := lrun_noe s.data.toList 0 0 lzero hne (by decide) rfl rfl
 change (lcut s).1.part ≠ 2 at h1
 change (lcut s).1.low = false at h2
 change (lcut s).1.es = [] at h3
 have hv : litv s = litQ (lcut s).1 := by unfold litv; rw [if_pos h0]
 have hr : lrun 0 0 lzero s.data.toList = lcut s := rfl
 generalize lcut s = R at *
 obtain ⟨st, ok⟩ := R
 change st.part ≠ 2 at h1
 change st.low = false at h2
 change st.es = [] at h3
 change litv s = litQ st at hv
 unfold lok at hk
 simp only [Bool.and_eq_true] at hk
 obtain ⟨k1, k2, k3⟩ := hk
 change ok = true at k1
 subst k1
 have hd : st.ds ≠ [] := by
  intro e
  change (!st.ds.isEmpty) = true at k2
  rw [e] at k2
  exact absurd k2 (by decide)
 have hc := run_e st _ E low hr hne hd hE
 have hc2 : lcut (bz (s.data.toList ++ epart low E)) = (⟨2, st.ds, E, st.pl, st.neg, low⟩, true) := by
  unfold lcut bz
  simpa using hc
 have hok : lok (lcut (bz (s.data.toList ++ epart low E))) = true := by
  rw [hc2]
  unfold lok
  have e1 : E.isEmpty = false := by cases E with | nil => exact absurd rfl hE0 | cons _ _ => rfl
  have e2 : st.ds.isEmpty = false := by cases h : st.ds with | nil => exact absurd h hd | cons _ _ => rfl
  simp only [e1, e2]
  rfl
 have hcode : lcode (bz (s.data.toList ++ epart low E)) = 0 := by
  unfold lcode
  rw [if_pos hok, hc2, if_pos hE4]
 refine ⟨hcode, ?_, ?_, by rw [hc2]⟩
 · unfold litv
   rw [if_pos hcode, hc2, litQ_q10]
   rfl
 · rw [hv, litQ_q10]
   unfold lexp
   rw [h2, h3]
   rfl

theorem dv_nil : dv [] = 0 := rfl
theorem dv_noughts (l : List UInt8) (n : Nat) : dv (l ++ List.replicate n 48) = dv l * 10 ^ n := by
 induction n with
 | zero => simp
 | succ n ih =>
  rw [List.replicate_succ', ← List.append_assoc, dv_snoc, ih, Nat.pow_succ, ← Nat.mul_assoc]
  rfl
/-- A literal without an exponent, as it is told. -/
theorem run_back (z pt : Bool) (D1 D2 : List UInt8) (h1 : ∀ b ∈ D1, isDig b) (h2 : ∀ b ∈ D2, isDig b) : lrun 0 0 lzero ((if z then [45] else []) ++ (D1 ++ (if pt then 46 :: D2 else []))) = (⟨if pt then 1 else 0, D1 ++ (if pt then D2 else []), [], if pt then D2.length else 0, z, false⟩, true) := by
 have tail : ∀ (i : Nat) (p : UInt8) (b : Bool), lrun i p { lzero with neg := b } (D1 ++ (if pt then 46 :: D2 else [])) = (⟨if pt then 1 else 0, D1 ++ (if pt then D2 else []), [], if pt then D2.length else 0, b, false⟩, true) := by
  intro i p b
  obtain ⟨p', hp⟩ := lrun_app D1 (if pt then 46 :: D2 else []) i p _ _ (lrun_dig D1 i p { lzero with neg := b } h1 (by show (0 : Nat) ≠ 2; omega))
  rw [hp]
  cases pt with
  | false => simp [lrun, lzero]
  | true =>
   have e : lstep (i + D1.length) p' { lzero with neg := b, ds := lzero.ds ++ D1, pl := lzero.pl + lzero.part * D1.length } 46 = some { lzero with neg := b, ds := lzero.ds ++ D1, pl := lzero.pl + lzero.part * D1.length, part := 1 } := by
    unfold lstep
    rw [if_neg (by decide), if_pos ⟨by decide, rfl⟩]
   simp only [if_true]
   rw [lrun_go e, lrun_dig D2 _ _ _ h2 (by show (1 : Nat) ≠ 2; omega)]
   simp [lzero]
 cases z with
 | false => exact tail 0 0 false
 | true =>
  have e : lstep 0 0 lzero 45 = some { lzero with neg := true } := by
   unfold lstep
   rw [if_neg (by decide), if_neg (by intro h; exact absurd h.1 (by decide)), if_neg (by intro h; exact absurd h.1 (by decide)), if_pos ⟨.inr (by decide), rfl⟩]
   rfl
  simp only [if_true, List.singleton_append]
  rw [lrun_go e]
  exact tail 1 45 true
/-- What such a literal is: the number of its digits, less its places. -/
theorem lit_back (s : ByteArray) (z pt : Bool) (D1 D2 : List UInt8) (hs : s.data.toList = (if z then [45] else []) ++ (D1 ++ (if pt then 46 :: D2 else []))) (h1 : ∀ b ∈ D1, isDig b) (h2 : ∀ b ∈ D2, isDig b) (h0 : D1 ≠ []) :
 lcode s = 0 ∧ litv s = q10 (sgn z (dv (D1 ++ (if pt then D2 else [])))) (0 - ((if pt then D2.length else 0 : Nat) : Int)) ∧ (lcut s).1.es = [] := by
 have hc : lcut s = (⟨if pt then 1 else 0, D1 ++ (if pt then D2 else []), [], if pt then D2.length else 0, z, false⟩, true) := by
  unfold lcut
  rw [hs]
  exact run_back z pt D1 D2 h1 h2
 have hok : lok (lcut s) = true := by
  rw [hc]
  unfold lok
  have e1 : (D1 ++ (if pt then D2 else [])).isEmpty = false := by cases h : D1 with | nil => exact absurd h h0 | cons _ _ => rfl
  simp only [e1]
  cases pt <;> rfl
 have hcode : lcode s = 0 := by
  unfold lcode
  rw [if_pos hok, hc]
  rfl
 refine ⟨hcode, ?_, by rw [hc]⟩
 unfold litv
 rw [if_pos hcode, hc, litQ_q10]
 rfl

theorem den_plc {d : Nat} (h0 : d ≠ 0) (h : rst d = 1) : d ∣ 10 ^ plc d := by
 have e := rst_eq h0
 rw [h, Nat.one_mul] at e
 have e10 : 10 ^ plc d = 5 ^ plc d * 2 ^ plc d := by rw [← Nat.mul_pow]
 rw [e10]
 conv => lhs; rw [e]
 exact Nat.mul_dvd_mul (Nat.pow_dvd_pow 5 (Nat.le_max_right _ _)) (Nat.pow_dvd_pow 2 (Nat.le_max_left _ _))
theorem q10_under (n : Int) (k : Nat) : q10 n (0 - (k : Int)) = mkRat n (10 ^ k) := by
 unfold q10
 split
 · rename_i h
   have hk : k = 0 := by omega
   subst hk
   simp
 · have : (-(0 - (k : Int))).toNat = k := by omega
   rw [this]
/-- A fraction is its digits, less its places. -/
theorem sct_q (x : Rat) (h : rst x.den = 1) : q10 (sgn (decide (x.num < 0)) (sct x)) (0 - (plc x.den : Int)) = x := by
 rw [q10_under]
 conv => rhs; rw [← Rat.mkRat_self x]
 refine (Rat.mkRat_eq_iff (Nat.ne_of_gt (Nat.pow_pos (by decide))) (Nat.ne_of_gt x.den_pos)).2 ?_
 have hd := den_plc (Nat.ne_of_gt x.den_pos) h
 have e1 : sct x * x.den = x.num.natAbs * 10 ^ plc x.den := Nat.div_mul_cancel (Nat.dvd_trans hd (Nat.dvd_mul_left _ _))
 rw [← sgn_mul, e1, sgn_mul, sgn_num]
theorem dv_ahead (l : List UInt8) (n : Nat) : dv (List.replicate n 48 ++ l) = dv l := by
 induction n with
 | zero => rfl
 | succ n ih => rw [List.replicate_succ, List.cons_append, dv_nought, ih]
theorem dig_noughts (n : Nat) : ∀ b ∈ List.replicate n (48 : UInt8), isDig b := fun b hb => by
 rw [List.eq_of_mem_replicate hb]
 exact ⟨by decide, by decide⟩
theorem sdg_facts (x : Rat) : (∀ b ∈ (sdg x).data.toList, isDig b) ∧ dv (sdg x).data.toList = sct x ∧ plc x.den < (sdg x).data.toList.length ∧ (sdg x).size = (sdg x).data.toList.length := by
 obtain ⟨h1, h2, h3, -⟩ := dec_facts (sct x)
 have hz : (dg (sct x)).size = (Lib.decDigits (sct x)).length := by unfold dg; show (Lib.decDigits (sct x)).toArray.size = _; simp
 refine ⟨?_, ?_, ?_, by show (sdg x).data.size = _; simp⟩
 · unfold sdg
   split
   · intro b hb
     simp only [ByteArray.data_append, Array.toList_append, List.mem_append] at hb
     rcases hb with hb | hb
     · exact dig_noughts _ b hb
     · exact h1 b (by rw [← dg_list]; exact hb)
   · rw [dg_list]; exact h1
 · unfold sdg
   split
   · simp only [ByteArray.data_append, Array.toList_append]
     rw [dg_list]
     exact (dv_ahead _ _).trans h3
   · rw [dg_list]; exact h3
 · unfold sdg
   split
   · simp only [ByteArray.data_append, Array.toList_append, List.length_append]
     rw [dg_list, hz] at *
     simp
     omega
   · rw [dg_list]; omega
/-- The literal of a fraction, byte by byte. -/
theorem ltx_list (x : Rat) : (ltx x).data.toList = (if decide (x.num < 0) then [45] else []) ++ ((sdg x).data.toList.take ((sdg x).data.toList.length - plc x.den) ++ (if decide (0 < plc x.den) then 46 :: (sdg x).data.toList.drop ((sdg x).data.toList.length - plc x.den) else [])) := by
 obtain ⟨-, -, hl, hs⟩ := sdg_facts x
 have hu : (ubt x).data.toList = (sdg x).data.toList.take ((sdg x).data.toList.length - plc x.den) ++ (if decide (0 < plc x.den) then 46 :: (sdg x).data.toList.drop ((sdg x).data.toList.length - plc x.den) else []) := by
  unfold ubt
  rw [hs]
  generalize hS : sdg x = S at *
  have e1 : ∀ k, (S.extract 0 k).data.toList = S.data.toList.take k := fun k => by simp [ByteArray.data_extract]
  have e2 : ∀ k, (S.extract k S.data.toList.length).data.toList = S.data.toList.drop k := fun k => by
   simp only [ByteArray.data_extract, Array.toList_extract, List.extract_eq_take_drop]
   exact List.take_of_length_le (by simp)
  split
  · rename_i h
    simp only [ByteArray.data_append, Array.toList_append, e1, e2, h, decide_true, if_true]
    rfl
  · rename_i h
    simp only [e1, h, decide_false, Bool.false_eq_true, if_false, List.append_nil]
 unfold ltx
 split
 · rename_i h
   simp only [ByteArray.data_append, Array.toList_append, hu, h, decide_true, if_true]
 · rename_i h
   simp only [hu, h, decide_false, Bool.false_eq_true, if_false, List.nil_append]
theorem ltx_point (x : Rat) : (46 ∈ (ltx x).data.toList) ↔ 0 < plc x.den := by
 obtain ⟨hd, -, hl, hs⟩ := sdg_facts x
 have key : ∀ b ∈ (sdg x).data.toList, b ≠ 46 := fun b hb e => by
  have := hd b hb
  subst e
  exact absurd this.1 (by decide)
 rw [ltx_list]
 constructor
 · intro h
   by_cases hp : 0 < plc x.den
   · exact hp
   · simp only [hp, decide_false, Bool.false_eq_true, if_false, List.append_nil, List.mem_append] at h
     rcases h with h | h
     · split at h
       · exact absurd (List.mem_singleton.1 h) (by decide)
       · exact absurd h List.not_mem_nil
     · exact absurd rfl (key _ (List.mem_of_mem_take h))
 · intro hp
   simp [hp]
/-- The literal that is told is read as the number; with noughts more, too. -/
theorem lit_told (x : Rat) (h : rst x.den = 1) : lcode (ltx x) = 0 ∧ litv (ltx x) = x ∧ (lcut (ltx x)).1.es = [] := by
 obtain ⟨hd, hv, hl, hs⟩ := sdg_facts x
 have hq := sct_q x h
 have hL := ltx_list x
 rw [← hv] at hq
 generalize (sdg x).data.toList = D at *
 obtain ⟨h1, h2, h3⟩ := lit_back (ltx x) _ _ _ _ hL (fun b hb => hd b (List.mem_of_mem_take hb)) (fun b hb => hd b (List.mem_of_mem_drop hb)) (by
  intro e
  have := congrArg List.length e
  simp at this
  omega)
 refine ⟨h1, ?_, h3⟩
 rw [h2]
 by_cases hp : 0 < plc x.den
 · simp only [hp, decide_true, if_true, List.take_append_drop, List.length_drop]
   have : D.length - (D.length - plc x.den) = plc x.den := by omega
   rw [this]
   exact hq
 · have h0 : plc x.den = 0 := by omega
   simp only [h0, Nat.lt_irrefl, decide_false, Bool.false_eq_true, if_false, List.append_nil, Nat.sub_zero, List.take_length] at hq ⊢
   exact hq
/-- With a point, and noughts. -/
def lnt (x : Rat) (n : Nat) : List UInt8 := (ltx x).data.toList ++ ((if 46 ∈ (ltx x).data.toList then [] else [46]) ++ List.replicate n 48)
theorem lit_noughts (x : Rat) (n : Nat) (h : rst x.den = 1) : lcode (bz (lnt x n)) = 0 ∧ litv (bz (lnt x n)) = x ∧ (lcut (bz (lnt x n))).1.es = [] := by
 obtain ⟨hd, hv, hl, hs⟩ := sdg_facts x
 have hq := sct_q x h
 have hL : lnt x n = (if decide (x.num < 0) then [45] else []) ++ ((sdg x).data.toList.take ((sdg x).data.toList.length - plc x.den) ++ (if true then 46 :: ((sdg x).data.toList.drop ((sdg x).data.toList.length - plc x.den) ++ List.replicate n 48) else [])) := by
  unfold lnt
  simp only [ltx_point]
  rw [ltx_list]
  by_cases hp : 0 < plc x.den
  · simp [hp]
  · have h0 : plc x.den = 0 := by omega
    simp [h0]
 rw [← hv] at hq
 generalize (sdg x).data.toList = D at *
 obtain ⟨h1, h2, h3⟩ := lit_back (bz (lnt x n)) (decide (x.num < 0)) true (D.take (D.length - plc x.den)) (D.drop (D.length - plc x.den) ++ List.replicate n 48) (by unfold bz; exact hL) (fun b hb => hd b (List.mem_of_mem_take hb)) (fun b hb => by
  rcases List.mem_append.1 hb with hb | hb
  · exact hd b (List.mem_of_mem_drop hb)
  · exact dig_noughts n b hb) (by
  intro e
  have := congrArg List.length e
  simp at this
  omega)
 refine ⟨h1, ?_, h3⟩
 rw [h2]
 simp only [if_true, List.length_append, List.length_drop, List.length_replicate]
 rw [← List.append_assoc, List.take_append_drop, dv_noughts]
 have e1 : D.length - (D.length - plc x.den) = plc x.den := by omega
 rw [e1, sgn_mul]
 have e2 : (0 : Int) - ((plc x.den + n : Nat) : Int) = (0 - (plc x.den : Int)) - (n : Int) := by omega
 rw [e2, q10_more]
 exact hq
theorem lnt_length (x : Rat) (n : Nat) : (lnt x n).length ≤ (ltx x).data.toList.length + 1 + n := by
 unfold lnt
 split <;> simp <;> omega
end Go.Proofs.YtggmnmmjmihnfaaGreatDoor
namespace Go.Proofs.YtggmnmmjmihnfaaGreatDoor
open Go.RowKit
set_option linter.unusedVariables false
/-- The sizes of what a literal says. -/
theorem litv_szs (s : ByteArray) (a k k2 : Nat) (hs : s.size ≤ a) (hk : a + 400 < 19 * k) (hk2 : a + 400 ≤ 4 * k2) : Sz k (litv s) ∧ SzD (k2 + 1) (litv s) := by
 by_cases h0 : lcode s = 0
 · obtain ⟨k1, k3, k4, k5⟩ := lcut_k s
   have hv : litv s = q10 (sgn (lcut s).1.neg (dv (lcut s).1.ds)) (lexp (lcut s).1) := by unfold litv; rw [if_pos h0, litQ_q10]
   have he : dv (lcut s).1.es ≤ 400 := by
    unfold lcode at h0
    split at h0
    · split at h0
      · assumption
      · cases h0
    · cases h0
   have hx : -((a + 400 : Nat) : Int) ≤ lexp (lcut s).1 ∧ lexp (lcut s).1 ≤ 400 := by
    unfold lexp sgn
    split <;> omega
   have hn : (sgn (lcut s).1.neg (dv (lcut s).1.ds)).natAbs < 10 ^ a := by
    rw [sgn_ab]
    exact Nat.lt_of_lt_of_le (dv_lt _ _ rfl k5.ds) (Nat.pow_le_pow_right (by decide) (by omega))
   rw [hv]
   generalize sgn (lcut s).1.neg (dv (lcut s).1.ds) = n at *
   generalize lexp (lcut s).1 = e at *
   have h1 := q10_num n e a 400 hn (by omega)
   have h2 := q10_denle n e (a + 400) hx.1
   exact ⟨⟨Nat.lt_trans h1 (ten_lt hk), Nat.lt_of_le_of_lt h2 (ten_lt hk)⟩, ⟨Nat.lt_trans h1 (ten4 _ k2 hk2), Nat.lt_of_le_of_lt h2 (ten4 _ k2 hk2)⟩⟩
 · have hv0 : litv s = 0 := by unfold litv; rw [if_neg h0]
   rw [hv0]
   exact ⟨sz_zero k (by omega), ⟨d_pos (k2 + 1) (by omega) (by decide), d_pos (k2 + 1) (by omega) (by decide)⟩⟩
theorem plc_low {x : Rat} (k : Nat) (h : x.den < 18446744073709551616 ^ k) : plc x.den < 64 * k := by
 have h1 := plc_pow x.den_nz
 have e : (18446744073709551616 : Nat) ^ k = 2 ^ (64 * k) := by rw [show (18446744073709551616 : Nat) = 2 ^ 64 from rfl, ← Nat.pow_mul]
 rw [e] at h
 exact (Nat.pow_lt_pow_iff_right (by decide)).1 (Nat.lt_of_le_of_lt h1 h)
set_option maxRecDepth 100000 in
set_option maxHeartbeats 8000000 in
theorem decTells.early (s t : ByteArray) (w : World) (htab : Tab w) (htb : TabB w) (h : 300 < s.size ∨ 150 < t.size) :
 Calls Tryz.prog 3 #[.string s, .string t] w fun e w' => e = .returned (.bool true) ∧ Below w.heap.size w w' := by
 have HAl := Lib.hid (alive_d w htab htb)
 clear htab htb
 obtain ⟨N, hN⟩ : ∃ n, s.size = n := ⟨_, rfl⟩
 obtain ⟨M, hM⟩ : ∃ n, t.size = n := ⟨_, rfl⟩
 rw [hN, hM] at h
 have hNi : (s.size : Int) = (N : Int) := by rw [hN]
 have hMi : (t.size : Int) = (M : Int) := by rw [hM]
 clear hN hM
 by_cases hk : 300 < N
 · have g1 : (300 : Int) < (N : Int) := by omega
   clear h
   go_enter Tryz.func3, Tryz.ntmps3
   go_wp2_with fail
   refine HAl.out.mono ?_
   rintro e w1 ⟨rfl, hb⟩
   have HB := Lib.hid hb
   clear hb
   go_wp2_with fail
   go_ret
   exact ⟨rfl, HB.out⟩
 · have g1 : ¬ (300 : Int) < (N : Int) := by omega
   have g2 : (150 : Int) < (M : Int) := by omega
   clear h
   go_enter Tryz.func3, Tryz.ntmps3
   go_wp2_with fail
   refine HAl.out.mono ?_
   rintro e w1 ⟨rfl, hb⟩
   have HB := Lib.hid hb
   clear hb
   go_wp2_with fail
   go_ret
   exact ⟨rfl, HB.out⟩
set_option maxRecDepth 100000 in
set_option maxHeartbeats 16000000 in
theorem decTells.good (s t : ByteArray) (w : World) (htab : Tab w) (htb : TabB w) (hs : s.size ≤ 300) (ht : t.size ≤ 150) :
 Calls Tryz.prog 3 #[.string s, .string t] w fun e w' => e = .returned (.bool true) ∧ Below w.heap.size w w' := by
 have HAl := Lib.hid (alive_d w htab htb)
 obtain ⟨hz1, hz2⟩ := litv_szs s 300 40 299 hs (by omega) (by omega)
 have HDp : Hid (∀ W, Below w.heap.size w W → Calls Tryz.prog 5 #[.string s] W fun e w' => ∃ v, e = .returned (.tuple #[v, .int .i64 (lcode s)]) ∧ IsR w' v (litv s) ∧ Below W.heap.size W w') := Lib.hid (fun W hB => dparse_any s W (by omega) (fun h => by have := (lcut_k s).1; omega) (htab.below hB (Nat.le_refl _)) (htb.below hB (Nat.le_refl _)))
 have HLt : Hid (∀ W, Calls Tryz.prog 6 #[.string s] W fun e w' => ∃ v, e = .returned (.tuple #[v, .int .i64 (lcode s)]) ∧ RQ w' v (litv s) ∧ Below W.heap.size W w') := Lib.hid (fun W => rlit_any s W hs)
 have HTx : Hid (∀ W v, Below w.heap.size w W → IsR W v (litv s) → Calls Tryz.prog 7 #[v] W fun e w' => e = .returned (.string (tx (litv s))) ∧ Below W.heap.size W w') := Lib.hid (fun W v hB h => text_r _ v W h (hz1.mono (by omega)) (htab.below hB (Nat.le_refl _)))
 have HRt : Hid (∀ W v, RQ W v (litv s) → Calls Tryz.prog 8 #[v] W fun e w' => e = .returned (.string (tx (litv s))) ∧ Below W.heap.size W w') := Lib.hid (fun W v h => rattext_any _ v W h (hz2.mono (by omega)))
 have HP : Hid (∀ W, Below w.heap.size w W → Calls Tryz.prog 9 #[.string t] W fun e w' => ∃ b x y z x' y' z', e = .returned (.tuple #[.agg #[.bool b, .slice x y z, .slice x' y' z'], .int .i64 (oc (pq t))]) ∧ IsR w' (.agg #[.bool b, .slice x y z, .slice x' y' z']) ((pq t).getD 0) ∧ Below W.heap.size W w') := Lib.hid (fun W hB => parse_r t W (by omega) (htb.below hB (Nat.le_refl _)))
 have HR : Hid (∀ W, Calls Tryz.prog 10 #[.string t] W fun e w' => ∃ v, e = .returned (.tuple #[v, .int .i64 (oc (pq t))]) ∧ RQ w' v ((pq t).getD 0) ∧ Below W.heap.size W w') := Lib.hid (fun W => rratparse_any t W (by omega))
 have szt : Sz 8 ((pq t).getD 0) := pqd_sz19 (by omega) (by omega)
 have sdt : SzD 38 ((pq t).getD 0) := pqd_szd (by omega) (by omega)
 have HK : Hid (oc (pq t) = 3 ∨ oc (pq t) = 0) := Lib.hid (by cases pq t with | none => exact Or.inl rfl | some x => exact Or.inr rfl)
 obtain ⟨X, hX⟩ : ∃ x, litv s = x := ⟨_, rfl⟩
 obtain ⟨KK, hKK⟩ : ∃ x, lcode s = x := ⟨_, rfl⟩
 obtain ⟨Y, hY⟩ : ∃ x, (pq t).getD 0 = x := ⟨_, rfl⟩
 obtain ⟨KT, hKT⟩ : ∃ x, oc (pq t) = x := ⟨_, rfl⟩
 rw [hX] at HTx HRt
 rw [hX, hKK] at HDp HLt
 simp only [hY, hKT] at HP HR HK szt sdt
 obtain ⟨TX, hTX⟩ : ∃ x, tx X = x := ⟨_, rfl⟩
 rw [hTX] at HTx HRt
 have szp := plc_low 8 szt.2
 have HFi : Hid (∀ W v, IsR W v Y → Calls Tryz.prog 15 #[v] W fun e w' => e = .returned (.bool (decide (rst Y.den = 1))) ∧ Below W.heap.size W w') := Lib.hid (fun W v h => finite_any Y v W h (szt.mono (k := 100) (by omega)).2)
 have HPl : Hid (∀ W v, IsR W v Y → Calls Tryz.prog 12 #[v] W fun e w' => e = .returned (.tuple #[.int .i64 ((if rst Y.den = 1 then plc Y.den else 0 : Nat) : Int), .bool (decide (rst Y.den = 1))]) ∧ Below W.heap.size W w') := Lib.hid (fun W v h => places_any Y v W h (szt.mono (k := 100) (by omega)).2)
 have HRp : Hid (∀ W v, RQ W v Y → Calls Tryz.prog 11 #[v] W fun e w' => e = .returned (.tuple #[.int .i64 ((plc Y.den : Nat) : Int), .bool (decide (rst Y.den = 1))]) ∧ Below W.heap.size W w') := Lib.hid (fun W v h => rplaces_any Y v W h (sdt.mono (k := 100) (by omega)).2)
 have HTe : Hid (∀ W v, Below w.heap.size w W → IsR W v Y → Calls Tryz.prog 13 #[v] W fun e w' => e = .returned (if rst Y.den = 1 then .tuple #[.string (ltx Y), .int .i64 0] else .tuple #[.string ⟨#[]⟩, .int .i64 14]) ∧ Below W.heap.size W w') := Lib.hid (fun W v hB h => by
  by_cases hf : rst Y.den = 1
  · simp only [if_pos hf]
    exact dtext_some Y v W h (szt.mono (by omega)) hf (by omega) (htab.below hB (Nat.le_refl _))
  · simp only [if_neg hf]
    exact dtext_none Y v W h (szt.mono (k := 100) (by omega)).2 hf)
 have HLx : Hid (∀ W v, RQ W v Y → Calls Tryz.prog 14 #[v] W fun e w' => e = .returned (if rst Y.den = 1 then .tuple #[.string (ltx Y), .int .i64 0] else .tuple #[.string ⟨#[]⟩, .int .i64 14]) ∧ Below W.heap.size W w') := Lib.hid (fun W v h => by
  by_cases hf : rst Y.den = 1
  · simp only [if_pos hf]
    exact rlit_some Y v W h sdt hf
  · simp only [if_neg hf]
    exact rlit_none Y v W h (sdt.mono (k := 100) (by omega)).2 hf)
 have HF : Hid (∃ (FI : Bool) (PL PD : Int) (LX : ByteArray) (LK : Int), (FI = true → PL = PD) ∧ (FI = false → PD = 0) ∧ decide (rst Y.den = 1) = FI ∧ ((plc Y.den : Nat) : Int) = PL ∧ ((if rst Y.den = 1 then plc Y.den else 0 : Nat) : Int) = PD ∧ (if rst Y.den = 1 then (.tuple #[.string (ltx Y), .int .i64 0] : Value) else .tuple #[.string ⟨#[]⟩, .int .i64 14]) = .tuple #[.string LX, .int .i64 LK]) := Lib.hid (by
  by_cases hf : rst Y.den = 1
  · refine ⟨true, _, _, ltx Y, 0, ?_, ?_, decide_eq_true hf, rfl, rfl, ?_⟩
    · intro _
      rw [if_pos hf]
    · intro h
      cases h
    · rw [if_pos hf]
  · refine ⟨false, _, _, ⟨#[]⟩, 14, ?_, ?_, decide_eq_false hf, rfl, rfl, ?_⟩
    · intro h
      cases h
    · intro _
      rw [if_neg hf]
      rfl
    · rw [if_neg hf])
 obtain ⟨FI, PL, PD, LX, LK, hF1, hF0, hFI, hPL, hPD, hLX⟩ := HF.out
 rw [hFI] at HFi
 simp only [hFI, hPD] at HPl
 simp only [hFI, hPL] at HRp
 rw [hLX] at HTe HLx
 obtain ⟨N, hN⟩ : ∃ n, s.size = n := ⟨_, rfl⟩
 obtain ⟨M, hM⟩ : ∃ n, t.size = n := ⟨_, rfl⟩
 have g1 : ¬ (300 : Int) < (s.size : Int) := by omega
 have g2 : ¬ (150 : Int) < (t.size : Int) := by omega
 have HF1 := Lib.hid hF1; have HF0 := Lib.hid hF0
 clear HF hF1 hF0 hFI hPL hPD hLX htab htb hz1 hz2 szt sdt szp hX hKK hY hKT hTX hs ht hN hM
 go_enter Tryz.func3, Tryz.ntmps3
 go_wp2_with fail
 refine HAl.out.mono ?_
 rintro e w0 ⟨rfl, hb⟩
 have V0 := (Dq.refl w).below hb
 clear hb HAl
 go_wp2_with fail
 refine (HDp.out _ V0.bel).mono ?_
 rintro e w1 ⟨v, rfl, hr, hb⟩
 have V1' := (V0.below hb).rcons hr
 obtain ⟨px, nx, cx, px', nx', cx', rfl, -, -⟩ := hr
 obtain ⟨zx, hz⟩ : ∃ z, decide (X.num < 0) = z := ⟨_, rfl⟩
 rw [hz] at V1' ⊢
 have V1 := V1'.alloc 27 #[.bool zx, .slice px nx cx, .slice px' nx' cx']
 clear V0 V1' hb HDp
 go_wp2_with fail
 refine (HLt.out _).mono ?_
 rintro e w2 ⟨v, rfl, hr, hb⟩
 have V2' := (V1.below hb).qcons hr
 obtain ⟨py, ny, cy, py', ny', cy', rfl, -, -⟩ := hr
 rw [hz] at V2' ⊢
 have V2 := V2'.alloc 34 #[.bool zx, .slice py ny cy, .slice py' ny' cy']
 clear V1 V2' hb HLt hz
 go_wp2_with fail
 obtain ⟨W3, hW3⟩ : ∃ W3, w2.alloc (.cells #[.bool zx, .slice py ny cy, .slice py' ny' cy'] 34) = W3 := ⟨_, rfl⟩
 rw [hW3] at V2 ⊢
 have V3 := V2
 clear V2
 refine wp_region_inv 10 (fun a0 dj a W => ∃ vq0 vq1 vq2 vq3 vq4 vq5 vq6 vq7 vq8 vq9 : Value, a = puts a0 [(44, vq0), (45, vq1), (46, vq2), (47, vq3), (48, vq4), (49, vq5), (50, vq6), (51, vq7), (52, vq8), (53, vq9)] ∧ Below W3.heap.size W3 W ∧ (dj 0 = true → vq0 = .int .i64 KK) ∧ (dj 1 = true → vq1 = .int .i64 KK) ∧ (dj 2 = true → vq2 = .bool false) ∧ (dj 3 = true → vq3 = .bool false) ∧ (dj 4 = true → vq4 = .agg #[.bool zx, .slice px nx cx, .slice px' nx' cx']) ∧ (dj 5 = true → vq5 = .string TX) ∧ (dj 6 = true → vq6 = .agg #[.bool zx, .slice py ny cy, .slice py' ny' cy']) ∧ (dj 7 = true → vq7 = .string TX) ∧ (dj 8 = true → vq8 = .bool false) ∧ (dj 9 = true → vq9 = .bool false)) (by kernel_rfl) (by kernel_rfl) (by kernel_rfl) ?_ ?_ ?_ ?_
 · intro dj hcl i hi1 hi2 hd j hj
   exact absurd (Nat.lt_of_lt_of_le hi2 (of_decide_eq_true (by kernel_rfl))) (Nat.not_lt.2 hi1)
 · refine ⟨undef, undef, undef, undef, undef, undef, undef, undef, undef, undef, (by simp only [pus]), (Below.refl _ _).drew, (fun h => by cases h), (fun h => by cases h), (fun h => by cases h), (fun h => by cases h), (fun h => by cases h), (fun h => by cases h), (fun h => by cases h), (fun h => by cases h), (fun h => by cases h), (fun h => by cases h)⟩
 · intro dj a W i hi hdi hcl hdep hI K hK
   obtain ⟨vq0, vq1, vq2, vq3, vq4, vq5, vq6, vq7, vq8, vq9, rfl, hB, p0, p1, p2, p3, p4, p5, p6, p7, p8, p9⟩ := hI
   have V := V3.below hB
   obtain rfl | rfl | rfl | rfl | rfl | rfl | rfl | rfl | rfl | rfl : i = 0 ∨ i = 1 ∨ i = 2 ∨ i = 3 ∨ i = 4 ∨ i = 5 ∨ i = 6 ∨ i = 7 ∨ i = 8 ∨ i = 9 := by omega
   · simp only [pus]
     refine any_op (o := _) rfl rfl ?_
     go_wp2_with fail
     refine hK.out _ _ ?_
     exact ⟨.int .i64 KK, vq1, vq2, vq3, vq4, vq5, vq6, vq7, vq8, vq9, (by simp only [pus]), hB, (fun _ => rfl), p1, p2, p3, p4, p5, p6, p7, p8, p9⟩
   · simp only [pus]
     refine any_op (o := _) rfl rfl ?_
     go_wp2_with fail
     refine hK.out _ _ ?_
     exact ⟨vq0, .int .i64 KK, vq2, vq3, vq4, vq5, vq6, vq7, vq8, vq9, (by simp only [pus]), hB, p0, (fun _ => rfl), p2, p3, p4, p5, p6, p7, p8, p9⟩
   · obtain rfl := p0 (hdep 0 (by kernel_rfl))
     obtain rfl := p1 (hdep 1 (by kernel_rfl))
     simp only [pus]
     refine any_op (o := _) rfl rfl ?_
     go_wp2_with fail
     refine hK.out _ _ ?_
     exact ⟨.int .i64 KK, .int .i64 KK, .bool false, vq3, vq4, vq5, vq6, vq7, vq8, vq9, (by simp only [pus]), hB, (fun _ => rfl), (fun _ => rfl), (fun _ => rfl), p3, p4, p5, p6, p7, p8, p9⟩
   · obtain rfl := p2 (hdep 2 (by kernel_rfl))
     simp only [pus]
     refine any_op (o := _) rfl rfl ?_
     go_wp2_with fail
     refine hK.out _ _ ?_
     exact ⟨vq0, vq1, .bool false, .bool false, vq4, vq5, vq6, vq7, vq8, vq9, (by simp only [pus]), hB, p0, p1, (fun _ => rfl), (fun _ => rfl), p4, p5, p6, p7, p8, p9⟩
   · obtain rfl := p3 (hdep 3 (by kernel_rfl))
     simp only [pus]
     have c0 := V.c0 1 rfl
     have c1 := V.c1 1 rfl
     have c2 := V.c2 1 rfl
     refine any_opg (o := _) rfl (by kernel_rfl) ?_
     go_wp2_with fail
     refine hK.out _ _ ?_
     exact ⟨vq0, vq1, vq2, .bool false, .agg #[.bool zx, .slice px nx cx, .slice px' nx' cx'], vq5, vq6, vq7, vq8, vq9, (by simp only [pus]), hB, p0, p1, p2, (fun _ => rfl), (fun _ => rfl), p5, p6, p7, p8, p9⟩
   · obtain rfl := p3 (hdep 3 (by kernel_rfl))
     obtain rfl := p4 (hdep 4 (by kernel_rfl))
     simp only [pus]
     refine any_opg (o := _) rfl (by kernel_rfl) ?_
     have hC := Lib.hid (HTx.out W _ V.bel (V.rat 0 _ _ rfl))
     go_simp
     refine hC.out.mono ?_
     rintro e W2 ⟨rfl, hb⟩
     refine hK.out _ _ ?_
     exact ⟨vq0, vq1, vq2, .bool false, .agg #[.bool zx, .slice px nx cx, .slice px' nx' cx'], .string TX, vq6, vq7, vq8, vq9, (by simp only [pus]), hB.trans (hb.mono hB.size), p0, p1, p2, (fun _ => rfl), (fun _ => rfl), (fun _ => rfl), p6, p7, p8, p9⟩
   · obtain rfl := p3 (hdep 3 (by kernel_rfl))
     simp only [pus]
     have c0 := V.c0 0 rfl
     have c1 := V.c1 0 rfl
     have c2 := V.c2 0 rfl
     refine any_opg (o := _) rfl (by kernel_rfl) ?_
     go_wp2_with fail
     refine hK.out _ _ ?_
     exact ⟨vq0, vq1, vq2, .bool false, vq4, vq5, .agg #[.bool zx, .slice py ny cy, .slice py' ny' cy'], vq7, vq8, vq9, (by simp only [pus]), hB, p0, p1, p2, (fun _ => rfl), p4, p5, (fun _ => rfl), p7, p8, p9⟩
   · obtain rfl := p3 (hdep 3 (by kernel_rfl))
     obtain rfl := p5 (hdep 5 (by kernel_rfl))
     obtain rfl := p6 (hdep 6 (by kernel_rfl))
     simp only [pus]
     refine any_opg (o := _) rfl (by kernel_rfl) ?_
     have hC := Lib.hid (HRt.out W _ (V.ref 0 _ _ rfl))
     go_simp
     refine hC.out.mono ?_
     rintro e W2 ⟨rfl, hb⟩
     refine hK.out _ _ ?_
     exact ⟨vq0, vq1, vq2, .bool false, vq4, .string TX, .agg #[.bool zx, .slice py ny cy, .slice py' ny' cy'], .string TX, vq8, vq9, (by simp only [pus]), hB.trans (hb.mono hB.size), p0, p1, p2, (fun _ => rfl), p4, (fun _ => rfl), (fun _ => rfl), (fun _ => rfl), p8, p9⟩
   · obtain rfl := p3 (hdep 3 (by kernel_rfl))
     obtain rfl := p5 (hdep 5 (by kernel_rfl))
     obtain rfl := p7 (hdep 7 (by kernel_rfl))
     simp only [pus]
     refine any_opg (o := _) rfl (by kernel_rfl) ?_
     go_wp2_with fail
     refine hK.out _ _ ?_
     exact ⟨vq0, vq1, vq2, .bool false, vq4, .string TX, vq6, .string TX, .bool false, vq9, (by simp only [pus]), hB, p0, p1, p2, (fun _ => rfl), p4, (fun _ => rfl), p6, (fun _ => rfl), (fun _ => rfl), p9⟩
   · obtain rfl := p3 (hdep 3 (by kernel_rfl))
     obtain rfl := p8 (hdep 8 (by kernel_rfl))
     simp only [pus]
     refine any_op (o := _) rfl rfl ?_
     go_wp2_with fail
     refine hK.out _ _ ?_
     exact ⟨vq0, vq1, vq2, .bool false, vq4, vq5, vq6, vq7, .bool false, .bool false, (by simp only [pus]), hB, p0, p1, p2, (fun _ => rfl), p4, p5, p6, p7, (fun _ => rfl), (fun _ => rfl)⟩
 · intro dj a W hd hI
   obtain ⟨vq0, vq1, vq2, vq3, vq4, vq5, vq6, vq7, vq8, vq9, rfl, hB, p0, p1, p2, p3, p4, p5, p6, p7, p8, p9⟩ := hI
   have V := V3.below hB
   obtain rfl := p0 (hd 0 (by omega))
   obtain rfl := p1 (hd 1 (by omega))
   obtain rfl := p2 (hd 2 (by omega))
   obtain rfl := p3 (hd 3 (by omega))
   obtain rfl := p4 (hd 4 (by omega))
   obtain rfl := p5 (hd 5 (by omega))
   obtain rfl := p6 (hd 6 (by omega))
   obtain rfl := p7 (hd 7 (by omega))
   obtain rfl := p8 (hd 8 (by omega))
   obtain rfl := p9 (hd 9 (by omega))
   clear hd p0 p1 p2 p3 p4 p5 p6 p7 p8 p9 dj
   simp only [pus]
   show wpAny Tryz.prog .any _ _ 0 #[true, true, true, true, true, true, true, true, true, true] _ _
   have V4 := V
   clear V V3 HTx HRt
   refine ⟨by kernel_rfl, ?_⟩
   go_wp2_with fail
   refine (HP.out _ V4.bel).mono ?_
   rintro e w5 ⟨zb, pb, nb, cb, pb', nb', cb', rfl, hr, hb⟩
   have V5 := ((V4.below hb).rcons hr).alloc 27 #[.bool zb, .slice pb nb cb, .slice pb' nb' cb']
   clear V4 hb hr HP
   go_wp2_with fail
   refine (HR.out _).mono ?_
   rintro e w6 ⟨v, rfl, hr, hb⟩
   have V6' := (V5.below hb).qcons hr
   obtain ⟨pc, nc, cc, pc', nc', cc', rfl, -, -⟩ := hr
   obtain ⟨zc, hz⟩ : ∃ z, decide (Y.num < 0) = z := ⟨_, rfl⟩
   rw [hz] at V6' ⊢
   have V6 := V6'.alloc 34 #[.bool zc, .slice pc nc cc, .slice pc' nc' cc']
   clear V5 V6' hb hz HR
   rcases HK.out with rfl | rfl
   · have HB := Lib.hid V6.bel
     clear V6
     go_wp2_with fail
     go_ret
     exact ⟨rfl, HB.out⟩
   · have a0 := V6.c0 0 rfl; have a1 := V6.c1 0 rfl; have a2 := V6.c2 0 rfl
     go_wp2_with fail
     refine (HRp.out _ _ (V6.ref 0 _ _ rfl)).mono ?_
     rintro e w7 ⟨rfl, hb⟩
     have V7 := V6.below hb
     clear V6 hb HRp a0 a1 a2
     have a0 := V7.c0 1 rfl; have a1 := V7.c1 1 rfl; have a2 := V7.c2 1 rfl
     go_wp2_with fail
     refine (HPl.out _ _ (V7.rat 0 _ _ rfl)).mono ?_
     rintro e w8 ⟨rfl, hb⟩
     have V8 := V7.below hb
     clear V7 hb HPl a0 a1 a2
     have a0 := V8.c0 1 rfl; have a1 := V8.c1 1 rfl; have a2 := V8.c2 1 rfl
     go_wp2_with fail
     refine (HTe.out _ _ V8.bel (V8.rat 0 _ _ rfl)).mono ?_
     rintro e w9 ⟨rfl, hb⟩
     have V9 := V8.below hb
     clear V8 hb HTe a0 a1 a2
     have a0 := V9.c0 0 rfl; have a1 := V9.c1 0 rfl; have a2 := V9.c2 0 rfl
     go_wp2_with fail
     refine (HLx.out _ _ (V9.ref 0 _ _ rfl)).mono ?_
     rintro e wa ⟨rfl, hb⟩
     have Va := V9.below hb
     clear V9 hb HLx a0 a1 a2
     have a0 := Va.c0 1 rfl; have a1 := Va.c1 1 rfl; have a2 := Va.c2 1 rfl
     cases FI with
     | true =>
      obtain rfl := HF1.out rfl
      go_wp2_with fail
      refine (HFi.out _ _ (Va.rat 0 _ _ rfl)).mono ?_
      rintro e wb ⟨rfl, hb⟩
      have HB := Lib.hid (Va.below hb).bel
      clear Va hb HFi a0 a1 a2
      go_wp2_with fail
      go_ret
      exact ⟨rfl, HB.out⟩
     | false =>
      obtain rfl := HF0.out rfl
      go_wp2_with fail
      refine (HFi.out _ _ (Va.rat 0 _ _ rfl)).mono ?_
      rintro e wb ⟨rfl, hb⟩
      have HB := Lib.hid (Va.below hb).bel
      clear Va hb HFi a0 a1 a2
      go_wp2_with fail
      go_ret
      exact ⟨rfl, HB.out⟩
theorem decTells.walk (s t : ByteArray) (_ : s.size ≤ maxLen) (_ : t.size ≤ maxLen) (w : World) (htab : Tab w) (htb : TabB w) :
 Calls Tryz.prog 3 #[.string s, .string t] w fun e w' => e = .returned (.bool true) ∧ Below w.heap.size w w' := by
 by_cases h : 300 < s.size ∨ 150 < t.size
 · exact decTells.early s t w htab htb h
 · exact decTells.good s t w htab htb (by omega) (by omega)
end Go.Proofs.YtggmnmmjmihnfaaGreatDoor
