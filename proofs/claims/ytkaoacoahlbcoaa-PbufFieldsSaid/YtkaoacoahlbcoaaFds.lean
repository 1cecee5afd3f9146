/-
  An argument that is a slice of fields: what the walk is told of it.
-/
import Derived.Test.YtkaoacoahlbcoaaPut3
import Derived.Deep.Slices
import Derived.Deep.Fields
import Derived.ChangeSame
import Derived.OpenShut
namespace Go.Proofs.Ytkaoacoahlbcoaa
open Go.RowKit Go.ChangeShapes Go.WideShapes Go.Deep
/-- A field that came in. -/
structure FdI where
  num : Int
  kind : Int
  at_ : Int
  val : Nat
  data : ByteArray
def FdI.cells (p : FdI) : List Value := [.int .i64 p.num, .int .i64 p.kind, .int .i64 p.at_, .int .u64 p.val, .string p.data]
def FdI.ok (p : FdI) : Prop := p.val < 18446744073709551616 ∧ p.data.size ≤ maxLen
/-- The row at a, of len elements, holds the fields l. -/
def IsFds (w : World) (a : Option Addr) (len : Nat) (l : List FdI) : Prop :=
  l.length = len ∧ ∀ i p, l[i]? = some p → p.ok ∧ ∃ ad, a = some ad ∧ ad.block < w.heap.size ∧ ∀ j u, p.cells[j]? = some u → w.cell? (ad.add (i * 5 + j)) = some u
theorem IsFds.below {w w' : World} {a : Option Addr} {len : Nat} {l : List FdI} (h : IsFds w a len l) (hb : Below w.heap.size w w') : IsFds w' a len l :=
  ⟨h.1, fun i p hp => by
    obtain ⟨hok, ad, ha, hlt, hc⟩ := h.2 i p hp
    refine ⟨hok, ad, ha, Nat.lt_of_lt_of_le hlt hb.size, fun j u hu => ?_⟩
    have hbk : (ad.add (i * 5 + j)).block = ad.block := by unfold Addr.add; split <;> rfl
    exact (hb.cell (by rw [hbk]; exact hlt)).trans (hc j u hu)⟩
theorem list_of_ex {α : Type} (Q : Nat → α → Prop) : ∀ n, (∀ i, i < n → ∃ p, Q i p) → ∃ l : List α, l.length = n ∧ ∀ i p, l[i]? = some p → Q i p := by
  intro n
  induction n with
  | zero => intro _; exact ⟨[], rfl, fun i p h => by simp at h⟩
  | succ n ih =>
    intro h
    obtain ⟨l, hl, hq⟩ := ih (fun i hi => h i (by omega))
    obtain ⟨p, hp⟩ := h n (by omega)
    refine ⟨l ++ [p], by simp [hl], fun i q hi => ?_⟩
    by_cases hin : i < n
    · rw [List.getElem?_append_left (by omega)] at hi; exact hq i q hi
    · rw [List.getElem?_append_right (by omega), hl] at hi
      have : i - n = 0 := by
        rcases Nat.eq_zero_or_pos (i - n) with h0 | h0
        · exact h0
        · rw [List.getElem?_eq_none (by simp; omega)] at hi; cases hi
      rw [this] at hi
      simp only [List.getElem?_cons_zero, Option.some.injEq] at hi
      rw [← hi, show i = n from by omega]; exact hp
section
variable {H : Type} {enc : TypeId × Value → H} {w : World} {base : Nat} {spare : Nat → Bool} {held : Bool}
theorem open_fds {v : Value} {d : DataW H} {p : List MemPlace} {r : Reach} {b0 : Nat} (hv : Value.okWide Try.prog w r b0 37 v) (h : DataW.Trod enc Try.prog w base spare held 37 v d p) :
    ∃ a len cap l, v = .slice a len cap ∧ IsFds w a len l ∧ len ≤ maxLen := by
  obtain ⟨a, len, cap, rfl⟩ := okWide_slice Try.underlying37 hv
  obtain ⟨fuel, hf⟩ := h
  rcases open_slice Try.underlying37 hf with ⟨hcs, _⟩ | ⟨x, l, c, m, n, D, Pl, hcs, _, hl, hm, hmm, _, hi⟩
  · simp [Value.cells] at hcs
    obtain ⟨rfl, rfl, rfl⟩ := hcs
    exact ⟨_, _, _, [], rfl, ⟨rfl, fun i p h => by simp at h⟩, Nat.zero_le _⟩
  · simp [Value.cells] at hcs
    obtain ⟨rfl, rfl, rfl⟩ := hcs
    have hlm : len ≤ m := by rw [hmm]; split <;> omega
    obtain ⟨L, hL, hq⟩ := list_of_ex (fun i (p : FdI) => p.ok ∧ ∃ ad, some x = some ad ∧ ad.block < w.heap.size ∧ ∀ j u, p.cells[j]? = some u → w.cell? (ad.add (i * 5 + j)) = some u) len (fun i hil => by
      obtain ⟨cs', hc, ht'⟩ := hi i (by omega)
      obtain ⟨ys, n', _, _, _, hyl, hg⟩ := DataW.trod_struct Try.underlying31 ht'
      obtain ⟨_, hcl, hat⟩ := World.cells?_some hc
      have h5 : Try.prog.cellsOf 31 = 5 := by kernel_rfl
      have i1 : Try.prog.cellsOf 3 = 1 := by kernel_rfl
      have u1 : Try.prog.cellsOf 22 = 1 := by kernel_rfl
      have s1 : Try.prog.cellsOf 9 = 1 := by kernel_rfl
      rw [h5] at hc hcl hat
      have g0 := hg 0 _ rfl
      have g1 := hg 1 _ rfl
      have g2 := hg 2 _ rfl
      have g3 := hg 3 _ rfl
      have g4 := hg 4 _ rfl
      match cs', hcl, hat with
      | [c0, c1, c2, c3, c4], _, hat =>
        match ys, hyl with
        | [y0, y1, y2, y3, y4], _ =>
          obtain ⟨n0, e0, _, _⟩ := DataW.trod_int Try.underlying3 g0
          obtain ⟨n1, e1, _, _⟩ := DataW.trod_int Try.underlying3 g1
          obtain ⟨n2, e2, _, _⟩ := DataW.trod_int Try.underlying3 g2
          obtain ⟨n3, e3, _, w3⟩ := DataW.trod_int Try.underlying22 g3
          obtain ⟨s4, e4, _, w4⟩ := DataW.trod_string Try.underlying9 g4
          simp [i1, u1, s1] at e0 e1 e2 e3 e4
          subst e0 e1 e2 e3 e4
          have hw := wf_u64 w3
          refine ⟨⟨n0, n1, n2, n3.toNat, s4⟩, ⟨by show n3.toNat < _; omega, w4⟩, x, rfl, ?_, fun j u hu => ?_⟩
          · have := World.block_lt_of_cell? w _ (hat 0 (by simp))
            have hbk : ((x.add (i * 5)).add 0).block = x.block := by unfold Addr.add; (repeat' split) <;> rfl
            rw [← hbk]; exact this
          · have hjl : j < 5 := by
              have := (List.getElem?_eq_some_iff.1 hu).1
              exact this
            have hcj := hat j (by simpa using hjl)
            rw [Deep.add_add] at hcj
            rw [hcj, ← hu]
            have e3 : ((n3.toNat : Nat) : Int) = n3 := by omega
            unfold FdI.cells
            simp only [e3])
    exact ⟨_, _, _, L, rfl, ⟨hL, hq⟩, by omega⟩
end
end Go.Proofs.Ytkaoacoahlbcoaa
