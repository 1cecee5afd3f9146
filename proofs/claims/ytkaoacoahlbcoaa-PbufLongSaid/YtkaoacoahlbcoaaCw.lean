/-
  Bytes in a row of the call's own that is known cell by cell (such a row is made of a text): one byte more, and a text made of it.
-/
import Derived.Test.YtkaoacoahlbcoaaPv
import Derived.ArgAppend
import Derived.Deep.MidRow
import Derived.Laws.IdiomStrings
namespace Go.Proofs.Ytkaoacoahlbcoaa
open Go.RowKit
def Cw (B : Nat) (w : World) (v : Value) (xs : List Nat) : Prop :=
  ∃ g cap, v = .slice (some ⟨g, 0, none⟩) xs.length cap ∧ B ≤ g ∧ xs.length ≤ cap ∧ (∀ j, j < cap → (w.cell? ⟨g, j, none⟩).isSome = true ∧ w.frozen? ⟨g, j, none⟩ = false) ∧
    ∀ j, j < xs.length → w.cell? ⟨g, j, none⟩ = some (.int .u8 ((xs.map Int.ofNat).getD j 0))
theorem cw_own {B : Nat} {w : World} {v : Value} {xs : List Nat} (h : OwnB B w v xs) (hne : xs ≠ []) : Cw B w v xs := by
  have h0 := h
  obtain ⟨hl, ⟨rfl, hn⟩ | ⟨g, cap, cur, rfl, hg, hh, hc, hm, hs, ht⟩⟩ := h
  · exact absurd (List.length_eq_zero_iff.1 hn) hne
  · refine ⟨g, cap, rfl, hg, hc, ?_, ?_⟩
    · intro j hj
      refine ⟨?_, World.ownsRow.frozenAt h0 j⟩
      have hj2 : j < cur.size := by omega
      simp [World.cell?, hh, hj2]
    · intro j hj
      rw [World.ownsRow.cellAt h0 j (by omega)]
      simp [bv, hj]
theorem conv_cw {B : Nat} {w : World} {v : Value} {xs : List Nat} (h : Cw B w v xs) : (convert 57 9 v).run Try.prog w = .ok (.string (txt xs)) w := by
  obtain ⟨g, cap, rfl, _, _, _, hc⟩ := h
  have := run_convert_bytes_arg w 57 5 Try.underlying57 Try.underlying5 g 0 xs.length cap (xs.map Int.ofNat) (by simp) (by simpa using hc) 9 Try.underlying9
  rw [str_nums] at this
  exact this
theorem cw_old {B : Nat} {w w' : World} {v : Value} {xs : List Nat} (h : Cw B w v xs) (hold : ∀ g o, w'.cell? ⟨g, o, none⟩ = w.cell? ⟨g, o, none⟩ ∨ w.heap.size ≤ g) (hf : ∀ g o, w'.frozen? ⟨g, o, none⟩ = w.frozen? ⟨g, o, none⟩ ∨ w.heap.size ≤ g) : xs ≠ [] → Cw B w' v xs := by
  intro hne
  obtain ⟨g, cap, rfl, hB, hcap, h1, h2⟩ := h
  have hlt : g < w.heap.size := by
    have h0 := (h1 0 (by have := List.length_pos_iff.2 hne; omega)).1
    rcases Nat.lt_or_ge g w.heap.size with h | h
    · exact h
    · have hn : w.heap[g]? = none := Array.getElem?_eq_none h
      simp [World.cell?, hn] at h0
  have e1 : ∀ o, w'.cell? ⟨g, o, none⟩ = w.cell? ⟨g, o, none⟩ := fun o => by rcases hold g o with h | h; exact h; omega
  have e2 : ∀ o, w'.frozen? ⟨g, o, none⟩ = w.frozen? ⟨g, o, none⟩ := fun o => by rcases hf g o with h | h; exact h; omega
  exact ⟨g, cap, rfl, hB, hcap, fun j hj => by rw [e1, e2]; exact h1 j hj, fun j hj => by rw [e1]; exact h2 j hj⟩
theorem cw_alloc {B : Nat} {w : World} {v : Value} {xs : List Nat} (h : Cw B w v xs) (hne : xs ≠ []) (o : Obj) : Cw B (w.alloc o) v xs :=
  cw_old h (fun g o' => by
    rcases Nat.lt_or_ge g w.heap.size with h | h
    · exact Or.inl (World.cell?_of_block (by simpa using Below.heap_alloc w o g h))
    · exact Or.inr h) (fun g o' => by
    rcases Nat.lt_or_ge g w.heap.size with h | h
    · exact Or.inl (World.frozen?_of_block (by simpa using Below.heap_alloc w o g h))
    · exact Or.inr h) hne

theorem below_setCells {B : Nat} {a : World} {g : Nat} (hg : B ≤ g) : ∀ (vs : List Value) (o : Nat) (w : World), Below B a w → Below B a (w.setCells g o vs)
  | [], _, _, h => h
  | v :: vs, o, w, h => below_setCells hg vs (o + 1) _ (h.setCell (by simpa using hg) v)

theorem push_cw {ops : Array Oper} {rest : List Oper} {o : Oper} {a : Act} {Q : Exit → Act → World → Prop} (hgd : o.guard = none) (s x : Operand)
    (ho : o.op = .call { callee := .builtin .append, args := #[s, x], argTypes := #[57, 57] }) (B : Nat) (v : Value) (xs : List Nat) (w : World) (b : Int) (n : Nat)
    (hs : a.eval s = v) (hcw : Cw B w v xs) (hne : xs ≠ []) (hx : a.eval x = .slice (some ⟨w.heap.size, 0, none⟩) 1 1) (hb : b = (n : Int)) (hB : B ≤ w.heap.size) (hlen : xs.length ≤ 140737488355000)
    (h : ∀ v' w', Cw B w' v' (xs ++ [n]) → Below B w w' → wpList Try.prog ops Q rest (a.put o.dst v') w') :
    wpList Try.prog ops Q (o :: rest) a (w.alloc (.cells #[.int .u8 b] 5)) := by
  obtain ⟨i0, hi, hz0, hz1, hz2⟩ := info_parts Try.infoU8
  obtain ⟨g, cap, hv, hgB, hcap, h1, h2⟩ := cw_alloc hcw hne (.cells #[.int .u8 b] 5)
  have hbel : Below B w (w.alloc (.cells #[.int .u8 b] 5)) := (Below.refl B w).alloc hB _
  have hone : ∀ j u, ([.int .u8 b] : List Value)[j]? = some u → (w.alloc (.cells #[.int .u8 b] 5)).cell? ((⟨w.heap.size, 0, none⟩ : Addr).add j) = some u := by
    intro j u hj
    match j, hj with
    | 0, hj => simp at hj; subst hj; simp [Addr.add]
  have hlx : (xs.map bv).length = xs.length * 1 := by simp
  have hcell : ∀ j u, (xs.map bv)[j]? = some u → (w.alloc (.cells #[.int .u8 b] 5)).cell? ⟨g, 0 + j, none⟩ = some u := by
    intro j u hj
    have hjl : j < xs.length := by
      rcases Nat.lt_or_ge j xs.length with h | h
      · exact h
      · simp [List.getElem?_eq_none (show (xs.map bv).length ≤ j by simpa using h)] at hj
    rw [Nat.zero_add, h2 j hjl]
    simp [bv, hjl] at hj ⊢
    exact hj
  refine wpList_append_arg _ hgd s x 57 ho 5 i0 (.int .u8 0) 1 1 Try.underlying57 hi hz0 hz1 hz2 rfl (by decide) g 0 xs.length cap (xs.map bv) (hs.trans hv) hlx hcell
    ⟨w.heap.size, 0, none⟩ 1 1 [.int .u8 b] hx rfl hone (by intro u hu; simp at hu; subst hu; rfl) ?_ (by unfold maxLen; omega) (by omega) ?_ ?_
  · intro hr j hj
    simp at hj
    subst hj
    have := h1 xs.length (by omega)
    simpa using this
  · intro hr
    refine h _ _ ?_ (below_setCells hgB _ _ _ hbel)
    have hsome : ((w.alloc (.cells #[.int .u8 b] 5)).cell? ⟨g, xs.length, none⟩).isSome = true := (h1 xs.length (by omega)).1
    refine ⟨g, cap, by simp, hgB, by simp; omega, ?_, ?_⟩
    · intro j hj
      exact ⟨World.isSome_setCells _ _ _ _ _ (h1 j hj).1, by rw [World.frozen?_setCells]; exact (h1 j hj).2⟩
    · intro j hj
      simp at hj
      by_cases e : j < xs.length
      · rw [World.cell?_setCells_out _ _ _ _ _ (fun _ _ => Or.inl (by simpa using e)), h2 j e]
        simp [List.getD, List.getElem?_append, e]
      · obtain rfl : j = xs.length := by omega
        have := World.cell?_setCells_in g [.int .u8 b] (0 + xs.length * 1) (w.alloc (.cells #[.int .u8 b] 5)) (by intro j hj; simp at hj; subst hj; simpa using hsome) 0 (by simp)
        simp only [Nat.zero_add, Nat.mul_one, Nat.add_zero] at this ⊢
        rw [this]
        simp [List.getD, List.getElem?_append, hb]
  · intro hr v' w' hown hgr
    refine h v' w' (cw_own ?_ (by simp)) (hbel.grown hgr (by simp; omega) (by intro k hk; cases hk))
    unfold OwnB
    obtain ⟨q1, q2⟩ := hown
    have e : (xs ++ [n]).map bv = xs.map bv ++ [.int .u8 b] := by simp [bv, hb]
    rw [e, List.length_append]
    refine ⟨q1, ?_⟩
    rcases q2 with q | ⟨g', cap', cur', q3, q4, q5⟩
    · exact Or.inl q
    · exact Or.inr ⟨g', cap', cur', q3, by simp at q4; omega, q5⟩

/-- The row that a text makes. -/
def Row (w : World) (s : ByteArray) : Obj := .cells (bytesRow s (grownCap w s.size 0 5)) 5 ((bytesRow s (grownCap w s.size 0 5)).size, (bytesRow s (grownCap w s.size 0 5)).size + 1)
theorem run_row (B : Nat) (w : World) (xs : List Nat) (hB : B ≤ w.heap.size) (hxs : ∀ b ∈ xs, b < 256) :
    ∃ cap w', (convert 9 57 (.string (txt xs))).run Try.prog w = .ok (.slice (some ⟨w.heap.size, 0, none⟩) (txt xs).size cap) w' ∧ Cw B w' (.slice (some ⟨w.heap.size, 0, none⟩) (txt xs).size cap) xs ∧ Below B w w' := by
  refine ⟨_, _, run_bytes_of_string w 9 57 5 (txt xs) Try.underlying9 Try.underlying57 Try.underlying5, ?_, ?_⟩
  · have hge := grownCap_ge w (txt xs).size 0 5
    have hnew : (w.drew.alloc (Row w (txt xs))).heap[w.heap.size]? = some (Row w (txt xs)) := heap_alloc_new w.drew _
    have hrs : (bytesRow (txt xs) (grownCap w (txt xs).size 0 5)).size = grownCap w (txt xs).size 0 5 := by
      have hd : (txt xs).data.size = (txt xs).size := rfl
      simp [bytesRow]; omega
    have hts := txt_size xs
    refine ⟨w.heap.size, grownCap w (txt xs).size 0 5, by rw [txt_size], hB, by omega, ?_, ?_⟩
    · intro j hj
      constructor
      · show ((w.drew.alloc (Row w (txt xs))).cell? ⟨w.heap.size, j, none⟩).isSome = true
        unfold World.cell?
        rw [hnew]
        simp [Row, hrs, hj]
      · show (w.drew.alloc (Row w (txt xs))).frozen? ⟨w.heap.size, j, none⟩ = false
        unfold World.frozen?
        rw [hnew]
        simp [Row, hrs]
        omega
    · intro j hj
      show (w.drew.alloc (Row w (txt xs))).cell? ⟨w.heap.size, j, none⟩ = _
      unfold World.cell?
      rw [hnew]
      have hb := hxs xs[j] (List.getElem_mem _)
      simp [Row, bytesRow, txt, hj, List.getD, Array.getElem?_append]
      omega
  · exact ((Below.refl B w).drew).alloc hB _

/-- The last byte turned. -/
theorem cw_last {B : Nat} {w : World} {g cap : Nat} {m : Nat} {xs : List Nat} (hm : m = xs.length) (h : Cw B w (.slice (some ⟨g, 0, none⟩) m cap) xs) (hne : xs ≠ []) (n : Nat) :
    Cw B (w.setCell ⟨g, m - 1, none⟩ (.int .u8 (n : Int))) (.slice (some ⟨g, 0, none⟩) m cap) (xs.dropLast ++ [n]) := by
  obtain ⟨g', cap', he, hB, hcap, h1, h2⟩ := h
  simp only [Value.slice.injEq, Option.some.injEq, Addr.mk.injEq] at he
  obtain ⟨⟨rfl, _, _⟩, _, rfl⟩ := he
  have hp := List.length_pos_iff.2 hne
  have hl : (xs.dropLast ++ [n]).length = xs.length := by simp; omega
  refine ⟨g, cap, by rw [hl, hm], hB, by omega, ?_, ?_⟩
  · intro j hj
    have := World.isSome_setCells g [.int .u8 (n : Int)] (m - 1) w ⟨g, j, none⟩ (h1 j hj).1
    have f := World.frozen?_setCells g [.int .u8 (n : Int)] (m - 1) w ⟨g, j, none⟩
    exact ⟨this, f.trans (h1 j hj).2⟩
  · intro j hj
    rw [hl] at hj
    by_cases e : j = xs.length - 1
    · subst e
      have := World.cell?_setCells_in g [.int .u8 (n : Int)] (m - 1) w (by intro j hj; simp at hj; subst hj; simpa using (h1 (m - 1) (by omega)).1) 0 (by simp)
      have e2 : xs.length - 1 = m - 1 := by omega
      rw [e2]
      refine Eq.trans this ?_
      simp [List.getD, List.getElem?_append, hm]
    · have := World.cell?_setCells_out g [.int .u8 (n : Int)] (m - 1) w ⟨g, j, none⟩ (fun _ _ => Or.inl (by simp; omega))
      refine Eq.trans this ?_
      rw [h2 j hj]
      have hj2 : j < xs.length - 1 := by omega
      simp [List.getD, List.getElem?_append, hj, hj2]
end Go.Proofs.Ytkaoacoahlbcoaa
