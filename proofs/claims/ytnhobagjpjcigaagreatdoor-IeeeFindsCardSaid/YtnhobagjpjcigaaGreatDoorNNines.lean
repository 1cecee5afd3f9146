/-
  Law 1: a number's digits are its text.
  Small laws: a func value and nil; a number that is handed back.
  NatDigits: rows of bytes; a text of nines.
-/
import Derived.Test.YtnhobagjpjcigaaGreatDoorNCmp
import Derived.Test.YtnhobagjpjcigaaGreatDoorNSmall
namespace Go.Proofs.YtnhobagjpjcigaaGreatDoor
open Go.RowKit
set_option linter.unusedVariables false
theorem dv_one (b:UInt8):dv [b]=b.toNat - 48:=by simp [dv]
theorem dv_cons (b:UInt8) (l:List UInt8):dv (b :: l)=(b.toNat - 48) * 10^l.length + dv l:=by
 have:=dv_append [b] l
 rw [dv_one] at this
 exact this
theorem dv_pos {l:List UInt8} (hd:∀ b ∈ l,isDig b) (hne:l≠[]) (h:l.head?≠some 48):0 < dv l:=by
 obtain ⟨b,r,rfl⟩:∃ b r,l=b :: r:=by
  cases l with
  | nil=>exact absurd rfl hne
  | cons b r=>exact ⟨b,r,rfl⟩
 have h1:=hd b (by simp)
 unfold isDig at h1
 have h2:b.toNat≠48:=fun e=>h (by
  have:b=48:=UInt8.toNat_inj.1 (by rw [e];rfl)
  rw [this];rfl)
 rw [dv_cons]
 have h3:0 < (b.toNat - 48) * 10^r.length:=Nat.mul_pos (by omega) (Nat.pow_pos (by omega))
 omega
theorem dec_dv:∀ (n:Nat) (l:List UInt8),l.length=n→(∀ b ∈ l,isDig b)→l≠[]→(l.head?=some 48→l.length=1)→Lib.decDigits (dv l)=l:=by
 intro n
 induction n with
 | zero=>intro l hl _ hne;exact absurd (List.eq_nil_of_length_eq_zero hl) hne
 | succ n ih =>
  intro l hl hd hne hh
  rcases List.eq_nil_or_concat l with rfl | ⟨r,b,rfl⟩
  · exact absurd rfl hne
  · rw [List.concat_eq_append] at *
    have hb:=hd b (by simp)
    unfold isDig at hb
    have eb:UInt8.ofNat (48 + (b.toNat - 48))=b:=by
     rw [show 48 + (b.toNat - 48)=b.toNat by omega]
     exact UInt8.ofNat_toNat
    by_cases hr:r=[]
    · subst hr
      rw [List.nil_append,dv_one,Lib.decDigits_one (by omega),eb]
    · have hhr:(r ++ [b]).head?=r.head?:=by
       cases r with
       | nil=>exact absurd rfl hr
       | cons x y=>rfl
      have hlr:0 < r.length:=List.length_pos_iff.2 hr
      have h48:r.head?≠some 48:=fun e=>by
       have:=hh (hhr.trans e)
       rw [List.length_append,List.length_singleton] at this
       omega
      have hdr:∀ x ∈ r,isDig x:=fun x hx=>hd x (List.mem_append_left _ hx)
      have hp:=dv_pos hdr hr h48
      rw [dv_snoc,Lib.decDigits,dif_neg (by omega),show (dv r * 10 + (b.toNat - 48)) / 10=dv r by omega,show (dv r * 10 + (b.toNat - 48)) % 10=b.toNat - 48 by omega,eb,
       ih r (by rw [List.length_append,List.length_singleton] at hl;omega) hdr hr (fun e=>absurd e h48)]
theorem WF.dec {s:ByteArray} (h:WF s):Lib.decDigits (dv s.data.toList)=s.data.toList:=by
 have hs:s.data.toList.length=s.size:=by simp
 refine dec_dv _ _ rfl h.dig (fun e=>?_) (fun e=>?_)
 · have:=h.ne;rw [e] at hs;simp at hs;omega
 · rcases Nat.lt_or_ge 1 s.size with h1 | h1
   · exact absurd ⟨e,h1⟩ h.lead
   · have:=h.ne;omega
theorem WF.text {s:ByteArray} (h:WF s):(⟨(Lib.decDigits (dv s.data.toList)).toArray⟩:ByteArray)=s:=by
 rw [h.dec]
end Go.Proofs.YtnhobagjpjcigaaGreatDoor
namespace Go.Proofs.YtnhobagjpjcigaaGreatDoor
open Go.RowKit
set_option linter.unusedVariables false
theorem IsN.drew {w:World} {v:Value} {N:Nat} (h:IsN w v N):IsN w.drew v N:=h
def GaveV (N:Nat) (w:World) (e:Ending) (w':World):Prop:=∃ x y z,e=.returned (.agg #[.slice x y z])∧IsN w' (.agg #[.slice x y z]) N∧Below w.heap.size w w'
theorem gaveV {N:Nat} {w:World} {e:Ending} {w':World} (h:GaveN N w e w'):GaveV N w e w':=by
 obtain ⟨v,rfl,h2,h3⟩:=h
 obtain ⟨x,y,z,rfl⟩:=isN_form h2
 exact ⟨x,y,z,rfl,h2,h3⟩
end Go.Proofs.YtnhobagjpjcigaaGreatDoor
namespace Go.Proofs.YtnhobagjpjcigaaGreatDoor
open Go.RowKit
set_option linter.unusedVariables false
theorem ten_pow {n k:Nat} (h:n≤16 * k):10^n≤18446744073709551616^k:=by
 have h1:10^n≤16^n:=Nat.pow_le_pow_left (by decide) n
 have h2:16^n≤16^(16 * k):=Nat.pow_le_pow_right (by decide) h
 rw [Nat.pow_mul] at h2
 exact Nat.le_trans h1 h2
theorem w64_mono {j k:Nat} (h:j≤k):18446744073709551616^j≤18446744073709551616^k:=Nat.pow_le_pow_right (by decide) h
end Go.Proofs.YtnhobagjpjcigaaGreatDoor
