/-
 Law 4: sizes in units (mathematics).
-/
import Derived.Test.YtnhobagjpjcigaaGreatDoorQC
namespace Go.Proofs.YtnhobagjpjcigaaGreatDoor
set_option linter.unusedVariables false
def un (m s:Nat):Nat:=if s / 2^m=0 then s else (2^m + s % 2^m) * 2^(s / 2^m - 1)
theorem dm_of {P q r s:Nat} (hr:r < P) (h:s=P * q + r):s / P=q∧s % P=r:=by
 have hp:0 < P:=by omega
 exact (Nat.div_mod_unique hp).2 ⟨by rw [h];omega,hr⟩
theorem un_parts {m q r:Nat} (hr:r < 2^m):un m (2^m * q + r)=if q=0 then r else (2^m + r) * 2^(q - 1):=by
 obtain ⟨h1,h2⟩:=dm_of hr rfl (q:=q)
 unfold un
 rw [h1,h2]
 split
 · rename_i h0
   rw [h0,Nat.mul_zero,Nat.zero_add]
 · rfl
theorem un_succ (m s:Nat):un m s < un m (s + 1):=by
 have hP:0 < 2^m:=Nat.pow_pos (by decide)
 have hs:=Nat.div_add_mod s (2^m)
 have hr:=Nat.mod_lt s hP
 generalize s / 2^m=q at hs
 generalize s % 2^m=r at hs hr
 subst hs
 rw [un_parts hr]
 by_cases h1:r + 1 < 2^m
 · rw [Nat.add_assoc,un_parts h1]
   split
   · omega
   · exact Nat.mul_lt_mul_of_pos_right (by omega) (Nat.pow_pos (by decide))
 · have e1:2^m * q + r + 1=2^m * (q + 1) + 0:=by rw [Nat.mul_add,Nat.mul_one];omega
   rw [e1,un_parts hP,if_neg (Nat.succ_ne_zero q)]
   split
   · rename_i h0
     rw [h0]
     simp
     omega
   · rename_i h0
     have e2:2^(q + 1 - 1)=2^(q - 1) * 2:=by rw [← Nat.pow_succ];congr 1;omega
     rw [e2,Nat.add_zero,Nat.mul_comm (2^(q - 1)) 2,← Nat.mul_assoc]
     exact Nat.mul_lt_mul_of_pos_right (by omega) (Nat.pow_pos (by decide))
theorem un_lt {m a b:Nat} (h:a < b):un m a < un m b:=by
 induction b with
 | zero=>omega
 | succ b ih =>
  rcases Nat.lt_or_ge a b with h1 | h1
  · exact Nat.lt_trans (ih h1) (un_succ m b)
  · obtain rfl:a=b:=by omega
    exact un_succ m a
theorem un_lt_iff {m a b:Nat}:un m a < un m b ↔ a < b:=by
 refine ⟨fun h=>?_,un_lt⟩
 rcases Nat.lt_or_ge a b with h1 | h1
 · exact h1
 · rcases Nat.lt_or_eq_of_le h1 with h2 | h2
   · exact absurd (un_lt (m:=m) h2) (by omega)
   · subst h2;omega
theorem un_zero (m:Nat):un m 0=0:=by unfold un;simp
theorem un_big {m s k:Nat} (h:s < 2^(m + k)):un m s < 2^(m + 2^k):=by
 have hP:0 < 2^m:=Nat.pow_pos (by decide)
 have hs:=Nat.div_add_mod s (2^m)
 have hr:=Nat.mod_lt s hP
 have hq:s / 2^m < 2^k:=Nat.div_lt_of_lt_mul (by rw [← Nat.pow_add];exact h)
 generalize s / 2^m=q at hs hq
 generalize s % 2^m=r at hs hr
 subst hs
 rw [un_parts hr]
 split
 · exact Nat.lt_of_lt_of_le hr (Nat.pow_le_pow_right (by decide) (by omega))
 · have h1:(2^m + r) * 2^(q - 1) < 2^(m + 1) * 2^(q - 1):=Nat.mul_lt_mul_of_pos_right (by rw [Nat.pow_succ];omega) (Nat.pow_pos (by decide))
   rw [← Nat.pow_add] at h1
   exact Nat.lt_of_lt_of_le h1 (Nat.pow_le_pow_right (by decide) (by omega))
structure Spot (m I W s:Nat):Prop where
 lt:s < I
 le:un m s≤W
 gt:s + 1 < I→W < un m (s + 1)
structure Spt (m I W b s:Nat):Prop where
 md:s % 2^b=0
 lt:s < I
 le:un m s≤W
 gt:s + 2^b < I→W < un m (s + 2^b)
theorem Spt.start (m I W b:Nat) (hI:0 < I) (hb:I≤2^b):Spt m I W b 0:=⟨by simp,hI,by rw [un_zero];omega,fun h=>by omega⟩
theorem Spt.skip {m I W b s:Nat} (h:Spt m I W (b + 1) s) (hs:s + 2^b < I→W < un m (s + 2^b)):Spt m I W b s :=
 ⟨by have:=h.md;rw [Nat.pow_succ] at this;have h2:2^b ∣ s:=Nat.dvd_trans ⟨2,rfl⟩ (Nat.dvd_of_mod_eq_zero this);exact Nat.mod_eq_zero_of_dvd h2,h.lt,h.le,hs⟩
theorem Spt.take {m I W b s:Nat} (h:Spt m I W (b + 1) s) (hI:s + 2^b < I) (hs:un m (s + 2^b)≤W):Spt m I W b (s + 2^b):=by
 refine ⟨?_,hI,hs,fun h2=>?_⟩
 · have:=h.md
   rw [Nat.pow_succ] at this
   have h2:2^b ∣ s:=Nat.dvd_trans ⟨2,rfl⟩ (Nat.dvd_of_mod_eq_zero this)
   exact Nat.mod_eq_zero_of_dvd (Nat.dvd_add h2 (Nat.dvd_refl _))
 · have e:s + 2^b + 2^b=s + 2^(b + 1):=by rw [Nat.pow_succ];omega
   rw [e] at h2 ⊢
   exact h.gt h2
theorem Spt.done {m I W s:Nat} (h:Spt m I W 0 s):Spot m I W s:=⟨h.lt,h.le,by simpa using h.gt⟩
theorem Spot.inj {m I W s t:Nat} (h:Spot m I W s) (k:Spot m I W t):s=t:=by
 rcases Nat.lt_trichotomy s t with h1 | h1 | h1
 · have h2:=h.gt (by have:=k.lt;omega)
   have h3:un m (s + 1)≤un m t:=by
    rcases Nat.lt_or_eq_of_le (show s + 1≤t from h1) with h4 | h4
    · exact Nat.le_of_lt (un_lt h4)
    · rw [h4];exact Nat.le_refl _
   have:=k.le
   omega
 · exact h1
 · have h2:=k.gt (by have:=h.lt;omega)
   have h3:un m (t + 1)≤un m s:=by
    rcases Nat.lt_or_eq_of_le (show t + 1≤s from h1) with h4 | h4
    · exact Nat.le_of_lt (un_lt h4)
    · rw [h4];exact Nat.le_refl _
   have:=h.le
   omega
end Go.Proofs.YtnhobagjpjcigaaGreatDoor
