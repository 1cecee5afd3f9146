/-
  PbufFields: what both sides tell.
-/
import Derived.Test.YtkaoacoahlbcoaaPbufFieldsA
import Derived.Test.YtkaoacoahlbcoaaReal
import Derived.Test.YtkaoacoahlbcoaaAlive10
namespace Go.Proofs.Ytkaoacoahlbcoaa
open Go.RowKit
set_option linter.unusedVariables false
theorem fholds_v {w : World} {a : Option Addr} {l : List (Fd × Nat)} (h : VHolds w a (fdsC l)) : FHolds w a l := by
  intro i p hp
  have hg := fun j hj => fdsC_get l i p j hp hj
  have e : ∀ j u, (fdC p)[j]? = some u → ∃ g, a = some ⟨g, 0, none⟩ ∧ g < w.heap.size ∧ w.cell? ⟨g, i * 5 + j, none⟩ = some u := fun j u hu => by
    have hj : j < 5 := (List.getElem?_eq_some_iff.1 hu).1
    exact h _ _ ((hg j hj).trans hu)
  obtain ⟨g, ha, hgl, _⟩ := e 0 _ rfl
  refine ⟨g, ha, hgl, fun j u hu => ?_⟩
  obtain ⟨g', ha', _, hc⟩ := e j u hu
  rw [ha] at ha'
  cases ha'
  exact hc
def RefIs (l : List (Fd × Nat)) (n : Nat) (C Q : Int) (w : World) (e : Ending) (w' : World) : Prop := ∃ va vc, e = .returned (.tuple #[.slice va n vc, .int .i64 C, .int .i64 Q]) ∧ FHolds w' va l ∧ Below w.heap.size w w'
theorem ref_ok (s : ByteArray) (hs : s.size ≤ 60000) (l : List (Fd × Nat)) (h : pall s = l.map Pt.pair) (w : World) : Calls Try.prog 20 #[.string s] w (RefIs l l.length 0 0 w) := by
  refine (rfields_any s w hs).mono ?_
  rintro e w' ⟨⟨l', v, h1, rfl, h2⟩ | ⟨l', q, v, h1, rfl, h2⟩, hb⟩
  · obtain rfl := pair_inj l l' (h.symm.trans h1)
    obtain ⟨a, c, rfl⟩ := slice_of h2
    exact ⟨a, c, rfl, fholds_v (vholds_own h2), hb⟩
  · exact absurd (h.symm.trans h1) (pair_bad l l' 9 q)
theorem ref_bad (s : ByteArray) (hs : s.size ≤ 60000) (l : List (Fd × Nat)) (q : Nat) (h : pall s = l.map Pt.pair ++ [.bad 9 q]) (w : World) : Calls Try.prog 20 #[.string s] w (RefIs l l.length 10 q w) := by
  refine (rfields_any s w hs).mono ?_
  rintro e w' ⟨⟨l', v, h1, rfl, h2⟩ | ⟨l', q', v, h1, rfl, h2⟩, hb⟩
  · exact absurd (h1.symm.trans h) (pair_bad l' l 9 q)
  · obtain ⟨_, rfl⟩ := bad_inj l l' 9 q 9 q' (h.symm.trans h1)
    have e : l.map Pt.pair = l'.map Pt.pair := List.append_inj_left' (h.symm.trans h1) rfl
    obtain rfl := pair_inj l l' e
    obtain ⟨a, c, rfl⟩ := slice_of h2
    exact ⟨a, c, rfl, fholds_v (vholds_own h2), hb⟩
theorem pre_get {α : Type} {xs l : List α} {j : Nat} {x : α} (h : xs <+: l) (hx : xs[j]? = some x) : l[j]? = some x := by
  obtain ⟨t, rfl⟩ := h
  rw [List.getElem?_append_left (List.getElem?_eq_some_iff.1 hx).1]
  exact hx
/-- Both writers tell the same of a field. -/
theorem both_put (p : FdI) (hp : p.ok) : ∃ (P : ByteArray) (C : Int), (∀ w, Calls Try.prog 17 #[.agg #[.int .i64 p.num, .int .i64 p.kind, .int .i64 p.at_, .int .u64 p.val, .string p.data]] w (GavePut P C w)) ∧
    (∀ w, Calls Try.prog 18 #[.agg #[.int .i64 p.num, .int .i64 p.kind, .int .i64 0, .int .u64 p.val, .string p.data]] w (GavePut P C w)) := by
  by_cases hm : May p.num p.kind p.val p.data
  · exact ⟨_, 0, fun w => (put_any p w hp).mono (fun e w' h => ⟨h.1.elim (fun h => h.2) (fun h => absurd hm h.1), h.2⟩), fun w => (rput_any p.num p.kind 0 p.val p.data w hp.1 hp.2).mono (fun e w' h => ⟨h.1.elim (fun h => h.2) (fun h => absurd hm h.1), h.2⟩)⟩
  · exact ⟨⟨#[]⟩, 1, fun w => (put_any p w hp).mono (fun e w' h => ⟨h.1.elim (fun h => absurd h.1 hm) (fun h => h.2), h.2⟩), fun w => (rput_any p.num p.kind 0 p.val p.data w hp.1 hp.2).mono (fun e w' h => ⟨h.1.elim (fun h => absurd h.1 hm) (fun h => h.2), h.2⟩)⟩
end Go.Proofs.Ytkaoacoahlbcoaa
