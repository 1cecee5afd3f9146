/-
 Law 2: behind the loop of RatIterates: what the iterator's counter leaves as it was.
-/
import Derived.Test.YtllmacokhjmdgaaGreatDoorIMem
namespace Go.Proofs.YtllmacokhjmdgaaGreatDoor
open Go.RowKit Go.Shelf
set_option linter.unusedVariables false
theorem Btk.step {Tb : Nat} {w W W' : World} {t t' : Int} (h : Btk Tb w W) (hT : Blk w Tb 3 #[.int .i64 t]) (hT' : Blk W Tb 3 #[.int .i64 t']) (h2 : Btk Tb W W') : Btk Tb w W' := by
 obtain ⟨u, h⟩ := h
 obtain ⟨u', h2⟩ := h2
 have hs := h.size
 have hs2 := h2.size
 rw [World.size_setCell] at hs hs2
 have hl := hT.lt
 refine ⟨u', h2.os.trans h.os, h2.tape.trans h.tape, h2.output.trans h.output, by rw [World.size_setCell]; omega, fun i hi => ?_⟩
 rw [h2.block i (by omega)]
 by_cases e : i = Tb
 · subst e
   exact (hT'.set_ 0 _).trans (hT.set_ 0 _).symm
 · have h3 := h.block i (by simpa using hi)
   rw [Below.heap_setCell w ⟨Tb, 0, none⟩ _ i (by show i ≠ Tb; exact e)] at h3
   rw [Below.heap_setCell W ⟨Tb, 0, none⟩ _ i (by show i ≠ Tb; exact e), Below.heap_setCell w ⟨Tb, 0, none⟩ _ i (by show i ≠ Tb; exact e)]
   exact h3
/-- Behind the loop: wr stood at its end; the counter lies behind it and holds t; the boxes bx hold fractions of the program. -/
structure Tl (wr : World) (t : Int) (bx : List (Nat × Rat)) (W : World) : Prop where
 btk : Btk wr.heap.size (wr.alloc (.cells #[.int .i64 0] 3)) W
 cnt : Blk W wr.heap.size 3 #[.int .i64 t]
 box : ∀ b x, (b, x) ∈ bx → BoxR W b x ∧ wr.heap.size < b
theorem tl0 (wr : World) : Blk (wr.alloc (.cells #[.int .i64 0] 3)) wr.heap.size 3 #[.int .i64 0] := Blk.new wr _ _
theorem Tl.wr {wr W : World} {t : Int} {bx : List (Nat × Rat)} (h : Tl wr t bx W) : Below wr.heap.size wr W := by
 obtain ⟨u, hb⟩ := h.btk
 have hs := hb.size
 rw [World.size_setCell, World.size_alloc] at hs
 refine ⟨hb.os, hb.tape, hb.output, by omega, fun i hi => ?_⟩
 rw [hb.block i (by rw [World.size_alloc]; omega), Below.heap_setCell _ ⟨wr.heap.size, 0, none⟩ _ i (by show i ≠ wr.heap.size; omega)]
 exact ((Below.refl wr.heap.size wr).alloc (Nat.le_refl _) _).block i hi
theorem Tl.new (wr : World) : Tl wr 0 [] (wr.alloc (.cells #[.int .i64 0] 3)) :=
 ⟨Btk.of_below (tl0 wr) (Below.refl _ _), tl0 wr, fun b x h => by simp at h⟩
theorem Tl.lt {wr W : World} {t : Int} {bx : List (Nat × Rat)} (h : Tl wr t bx W) : wr.heap.size < W.heap.size := h.cnt.lt
theorem Tl.below {wr W W' : World} {t : Int} {bx : List (Nat × Rat)} (h : Tl wr t bx W) (hb : Below W.heap.size W W') : Tl wr t bx W' :=
 ⟨h.btk.trans (hb.mono h.btk.size), h.cnt.below hb h.cnt.lt, fun b x hm => ⟨(h.box b x hm).1.below hb, (h.box b x hm).2⟩⟩
theorem Tl.call {wr W W' : World} {t t' : Int} {bx : List (Nat × Rat)} (h : Tl wr t bx W) (hB : Btk wr.heap.size W W') (hT : Blk W' wr.heap.size 3 #[.int .i64 t']) : Tl wr t' bx W' :=
 ⟨h.btk.step (tl0 wr) h.cnt hB, hT, fun b x hm => by
  obtain ⟨⟨z, p, n, c, p', n', c', h1, h2⟩, h3⟩ := h.box b x hm
  exact ⟨⟨z, p, n, c, p', n', c', hB.keep h1 (by omega), hB.isR h.cnt h2⟩, h3⟩⟩
theorem Tl.add {wr W : World} {t : Int} {bx : List (Nat × Rat)} (h : Tl wr t bx W) {z : Bool} {p : Option Addr} {n c : Nat} {p' : Option Addr} {n' c' : Nat} {x : Rat} (hv : IsR W (.agg #[.bool z, .slice p n c, .slice p' n' c']) x) : Tl wr t ((W.heap.size, x) :: bx) (W.alloc (.cells #[.bool z, .slice p n c, .slice p' n' c'] 28)) := by
 have hb : Below W.heap.size W (W.alloc (.cells #[.bool z, .slice p n c, .slice p' n' c'] 28)) := (Below.refl _ _).alloc (Nat.le_refl _) _
 have h1 := h.below hb
 refine ⟨h1.btk, h1.cnt, fun b y hm => ?_⟩
 rcases List.mem_cons.1 hm with e | e
 · cases e
   exact ⟨⟨z, p, n, c, p', n', c', Blk.new W _ _, hv.below hb (Nat.le_refl _)⟩, h.lt⟩
 · exact h1.box b y e
theorem Tl.btk_wr {wr W X : World} {t : Int} {bx : List (Nat × Rat)} (h : Tl wr t bx W) (hX : Btk wr.heap.size W X) : Below wr.heap.size wr X := by
 obtain ⟨z, hz⟩ := hX.blk h.cnt
 exact (h.call hX hz).wr
/-- Sizes of the fractions and of their sums. -/
theorem big_each {L : List Ev} {ts : List ByteArray} (hq : L.map (·.q) = pfvs ts) (h6 : ∀ t ∈ ts, t.size ≤ 600) : ∀ e ∈ L, Sz 50 e.q := fun e he => by
 have hm : e.q ∈ L.map (·.q) := List.mem_map_of_mem he
 rw [hq] at hm
 unfold pfvs at hm
 rw [List.mem_map] at hm
 obtain ⟨t, ht, h⟩ := hm
 rw [← h]
 exact (pfv_szx t).words (by have := h6 t ht; omega)
theorem big_sum {L : List Ev} {ts : List ByteArray} (hq : L.map (·.q) = pfvs ts) (h6 : szs ts ≤ 600) (h15 : ts.length ≤ 15) : ∀ k e, L[k]? = some e → ∃ j l, Sz j (sumQ ((L.take k).map (·.q))) ∧ Sz l e.q ∧ j + l ≤ 38 := fun k e he => by
 have hkl := (List.getElem?_eq_some_iff.1 he).1
 have hll : L.length = ts.length := by have := congrArg List.length hq; unfold pfvs at this; simpa using this
 obtain ⟨t, ht⟩ : ∃ t, ts[k]? = some t := ⟨_, List.getElem?_eq_getElem (by omega)⟩
 have h1 : (L.map (·.q))[k]? = some e.q := by rw [List.getElem?_map, he]; rfl
 rw [hq, pfvs_at ht] at h1
 have h2 : pfv t = e.q := Option.some.inj h1
 have hs := szs_le ts (k + 1)
 rw [szs_take ht] at hs
 refine ⟨(szs (ts.take k) + 2 * k + 1) / 19 + 1, (t.size + 1) / 19 + 1, ?_, ?_, by omega⟩
 · rw [List.map_take, hq]
   exact (sum_szx ts k (by omega)).words (by omega)
 · rw [← h2]
   exact (pfv_szx t).words (by omega)
section
variable {wr W : World} {t : Int} {bx : List (Nat × Rat)} {L : List Ev} {a : Option Addr} {c : Nat}
theorem ea_box (a : Option Addr) (n c Tb : Nat) (W : World) (w : World) (hw : (W.alloc (.cells #[.slice a n c] 65)).alloc (.cells #[.pointer (some ⟨Tb, 0, none⟩)] 69) = w) :
 Below W.heap.size W w ∧ W.heap.size < w.heap.size ∧ w.cell? ⟨W.heap.size, 0, none⟩ = some (.slice a n c) ∧ W.heap.size + 1 < w.heap.size ∧ w.cell? ⟨W.heap.size + 1, 0, none⟩ = some (.pointer (some ⟨Tb, 0, none⟩)) := by
 have hb1 : Below W.heap.size W (W.alloc (.cells #[.slice a n c] 65)) := (Below.refl _ _).alloc (Nat.le_refl _) _
 have hb2 : Below (W.alloc (.cells #[.slice a n c] 65)).heap.size (W.alloc (.cells #[.slice a n c] 65)) w := by rw [← hw]; exact (Below.refl _ _).alloc (Nat.le_refl _) _
 have q1 := (Blk.new W 65 #[.slice a n c]).below hb2 (by simp)
 have q2 := Blk.new (W.alloc (.cells #[.slice a n c] 65)) 69 #[.pointer (some ⟨Tb, 0, none⟩)]
 rw [hw] at q2
 rw [World.size_alloc] at q2
 exact ⟨hb1.trans (hb2.mono hb1.size), q1.lt, q1.cell 0, q2.lt, q2.cell 0⟩
theorem tail_sum (V : Tl wr t bx W) (ht0 : 0 ≤ t) (ht1 : t ≤ 100000) (hL : L.length ≤ 1000) (hrow : ER wr a L) (hnum : ∀ e ∈ L, IsR wr e.V e.q) (hbig : ∀ k e, L[k]? = some e → ∃ j l, Sz j (sumQ ((L.take k).map (·.q))) ∧ Sz l e.q ∧ j + l ≤ 38) (htb : ∀ W, Below wr.heap.size wr W → TabB W) :
 Calls Tryz.prog 46 #[(.func (.func 87) #[] #[.pointer (some ⟨W.heap.size, 0, none⟩), .pointer (some ⟨W.heap.size + 1, 0, none⟩)])] ((W.alloc (.cells #[.slice a L.length c] 65)).alloc (.cells #[.pointer (some ⟨wr.heap.size, 0, none⟩)] 69))
  (fun e W' => ∃ v, e = .returned v ∧ IsR W' v (sumQ (L.map (·.q))) ∧ Tl wr (t + (L.length : Int)) bx W') := by
 obtain ⟨w, hw⟩ : ∃ w, ((W.alloc (.cells #[.slice a L.length c] 65)).alloc (.cells #[.pointer (some ⟨wr.heap.size, 0, none⟩)] 69)) = w := ⟨_, rfl⟩
 obtain ⟨h1, h2, h3, h4, h5⟩ := ea_box a L.length c wr.heap.size W w hw
 have Vw := V.below h1
 rw [hw]
 refine (callsIn_wide.1 (qsum_in 4 (Nat.le_refl _) L hL a c W.heap.size (W.heap.size + 1) wr.heap.size t ht0 ht1 w h2 h3 h4 h5 Vw.cnt (hrow.below Vw.wr (Nat.le_refl _)) (fun e he => (hnum e he).below Vw.wr (Nat.le_refl _)) hbig (fun X hX => htb X (Vw.btk_wr hX)))).mono ?_
 rintro e W' ⟨v, he, hv, hb, hT⟩
 exact ⟨v, he, hv, Vw.call hb hT⟩
theorem tail_least (V : Tl wr t bx W) (ht0 : 0 ≤ t) (ht1 : t ≤ 100000) (hL : L.length ≤ 1000) (hrow : ER wr a L) (hnum : ∀ e ∈ L, IsR wr e.V e.q) (hbig : ∀ e ∈ L, Sz 50 e.q) :
 Calls Tryz.prog 48 #[(.func (.func 87) #[] #[.pointer (some ⟨W.heap.size, 0, none⟩), .pointer (some ⟨W.heap.size + 1, 0, none⟩)])] ((W.alloc (.cells #[.slice a L.length c] 65)).alloc (.cells #[.pointer (some ⟨wr.heap.size, 0, none⟩)] 69))
  (fun e W' => ∃ v, e = .returned (.tuple #[v, .bool (bestO (-1) (L.map (·.q))).isSome]) ∧ IsR W' v ((bestO (-1) (L.map (·.q))).getD 0) ∧ Tl wr (t + (L.length : Int)) bx W') := by
 obtain ⟨w, hw⟩ : ∃ w, ((W.alloc (.cells #[.slice a L.length c] 65)).alloc (.cells #[.pointer (some ⟨wr.heap.size, 0, none⟩)] 69)) = w := ⟨_, rfl⟩
 obtain ⟨h1, h2, h3, h4, h5⟩ := ea_box a L.length c wr.heap.size W w hw
 have Vw := V.below h1
 rw [hw]
 refine (qleast_any L hL a c W.heap.size (W.heap.size + 1) wr.heap.size t ht0 ht1 w h2 h3 h4 h5 Vw.cnt (hrow.below Vw.wr (Nat.le_refl _)) (fun e he => (hnum e he).below Vw.wr (Nat.le_refl _)) hbig).mono ?_
 rintro e W' ⟨v, he, hv, hb, hT⟩
 exact ⟨v, he, hv, Vw.call hb hT⟩
theorem tail_most (V : Tl wr t bx W) (ht0 : 0 ≤ t) (ht1 : t ≤ 100000) (hL : L.length ≤ 1000) (hrow : ER wr a L) (hnum : ∀ e ∈ L, IsR wr e.V e.q) (hbig : ∀ e ∈ L, Sz 50 e.q) :
 Calls Tryz.prog 49 #[(.func (.func 87) #[] #[.pointer (some ⟨W.heap.size, 0, none⟩), .pointer (some ⟨W.heap.size + 1, 0, none⟩)])] ((W.alloc (.cells #[.slice a L.length c] 65)).alloc (.cells #[.pointer (some ⟨wr.heap.size, 0, none⟩)] 69))
  (fun e W' => ∃ v, e = .returned (.tuple #[v, .bool (bestO 1 (L.map (·.q))).isSome]) ∧ IsR W' v ((bestO 1 (L.map (·.q))).getD 0) ∧ Tl wr (t + (L.length : Int)) bx W') := by
 obtain ⟨w, hw⟩ : ∃ w, ((W.alloc (.cells #[.slice a L.length c] 65)).alloc (.cells #[.pointer (some ⟨wr.heap.size, 0, none⟩)] 69)) = w := ⟨_, rfl⟩
 obtain ⟨h1, h2, h3, h4, h5⟩ := ea_box a L.length c wr.heap.size W w hw
 have Vw := V.below h1
 rw [hw]
 refine (qmost_any L hL a c W.heap.size (W.heap.size + 1) wr.heap.size t ht0 ht1 w h2 h3 h4 h5 Vw.cnt (hrow.below Vw.wr (Nat.le_refl _)) (fun e he => (hnum e he).below Vw.wr (Nat.le_refl _)) hbig).mono ?_
 rintro e W' ⟨v, he, hv, hb, hT⟩
 exact ⟨v, he, hv, Vw.call hb hT⟩
end
end Go.Proofs.YtllmacokhjmdgaaGreatDoor
