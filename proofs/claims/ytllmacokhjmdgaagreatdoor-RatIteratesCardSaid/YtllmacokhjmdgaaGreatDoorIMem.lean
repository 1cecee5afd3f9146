/-
 Law 2: between two texts of RatIterates: the row of fractions, the document's sum, least and greatest in their boxes.
-/
import Derived.Test.YtllmacokhjmdgaaGreatDoorISz
namespace Go.Proofs.YtllmacokhjmdgaaGreatDoor
open Go.RowKit Go.Shelf
set_option linter.unusedVariables false
theorem rq_put {W : World} {v : Value} {x : Rat} {b i : Nat} {t : TypeId} {cs : Array Value} (h : RQ W v x) (hk : Blk W b t cs) (hp : PlainD cs) (y : Value) : RQ (W.setCell ⟨b, i, none⟩ y) v x := by
 obtain ⟨p, n, c, p', n', c', rfl, h1, h2⟩ := h
 exact ⟨p, n, c, p', n', c', rfl, rn_put h1 hk hp y, rn_put h2 hk hp y⟩
theorem fb_next (side : Int) {o : Option Rat} (x : Rat) (h : o.isSome = true) : (fb side o x).getD 0 = if cmpQ x (o.getD 0) = side then x else o.getD 0 := by
 cases o with
 | none => cases h
 | some b =>
  show (if cmpQ x b = side then some x else some b).getD 0 = if cmpQ x b = side then x else b
  split <;> rfl
theorem cmpQ_cases (x y : Rat) : cmpQ x y = -1 ∨ cmpQ x y = 0 ∨ cmpQ x y = 1 := by
 unfold cmpQ
 split
 · exact .inl rfl
 · split
   · exact .inr (.inr rfl)
   · exact .inr (.inl rfl)
/-- A document's fraction in a box of three cells, if P. -/
def BoxP (P : Prop) (W : World) (b : Nat) (x : Rat) : Prop := ∃ (z : Bool) (p : Option Addr) (n c : Nat) (p' : Option Addr) (n' c' : Nat), Blk W b 50 #[.bool z, .slice p n c, .slice p' n' c'] ∧ (P → RQ W (.agg #[.bool z, .slice p n c, .slice p' n' c']) x)
theorem BoxP.lt {P : Prop} {W : World} {b : Nat} {x : Rat} (h : BoxP P W b x) : b < W.heap.size := by
 obtain ⟨z, p, n, c, p', n', c', h1, h2⟩ := h
 exact h1.lt
theorem BoxP.below {P : Prop} {W W' : World} {b : Nat} {x : Rat} (h : BoxP P W b x) (hb : Below W.heap.size W W') : BoxP P W' b x := by
 obtain ⟨z, p, n, c, p', n', c', h1, h2⟩ := h
 exact ⟨z, p, n, c, p', n', c', h1.below hb h1.lt, fun hp => (h2 hp).below hb (Nat.le_refl _)⟩
theorem BoxP.app {P : Prop} {W W' : World} {b : Nat} {x : Rat} {v : Value} (h : BoxP P W b x) (hg : W.grownBy W' v.ownBlock) (hn : NoI W v) : BoxP P W' b x := by
 obtain ⟨z, p, n, c, p', n', c', h1, h2⟩ := h
 refine ⟨z, p, n, c, p', n', c', ?_, fun hp => rq_app (h2 hp) hg hn⟩
 have hne : some b ≠ v.ownBlock := fun e => by
  obtain ⟨cur, fr, h5, _⟩ := hn b e.symm
  rw [show W.heap[b]? = _ from h1] at h5
  cases h5
 exact (hg.block b h1.lt hne).trans h1
/-- Three cells of a document's box are written anew. -/
theorem rq_set3 {W : World} {v : Value} {x : Rat} {b : Nat} {z : Bool} {p : Option Addr} {n c : Nat} {p' : Option Addr} {n' c' : Nat} (h : RQ W v x) (hk : Blk W b 50 #[.bool z, .slice p n c, .slice p' n' c']) (u : Bool) (q : Option Addr) (m d : Nat) (q' : Option Addr) (m' d' : Nat) :
 RQ (set3 W b (.bool u) (.slice q m d) (.slice q' m' d')) v x :=
 rq_put (rq_put (rq_put h hk (plain_ref _ _ _ _ _ _ _) (.bool u)) (hk.set_ 0 (.bool u)) (plain_ref _ _ _ _ _ _ _) (.slice q m d)) ((hk.set_ 0 (.bool u)).set_ 1 (.slice q m d)) (plain_ref _ _ _ _ _ _ _) (.slice q' m' d')
theorem isR_set3 {W : World} {v : Value} {x : Rat} {b : Nat} {t : TypeId} {z : Bool} {p : Option Addr} {n c : Nat} {p' : Option Addr} {n' c' : Nat} (h : IsR W v x) (hk : Blk W b t #[.bool z, .slice p n c, .slice p' n' c']) (u : Bool) (q : Option Addr) (m d : Nat) (q' : Option Addr) (m' d' : Nat) :
 IsR (set3 W b (.bool u) (.slice q m d) (.slice q' m' d')) v x :=
 isR_put (isR_put (isR_put h hk (plain_rat _ _ _ _ _ _ _) (.bool u)) (hk.set_ 0 (.bool u)) (plain_rat _ _ _ _ _ _ _) (.slice q m d)) ((hk.set_ 0 (.bool u)).set_ 1 (.slice q m d)) (plain_rat _ _ _ _ _ _ _) (.slice q' m' d')
theorem BoxP.far {P : Prop} {W : World} {a b : Nat} {x : Rat} {z : Bool} {p : Option Addr} {n c : Nat} {p' : Option Addr} {n' c' : Nat} (h : BoxP P W a x) (hk : Blk W b 50 #[.bool z, .slice p n c, .slice p' n' c']) (hne : a ≠ b) (u : Bool) (q : Option Addr) (m d : Nat) (q' : Option Addr) (m' d' : Nat) :
 BoxP P (set3 W b (.bool u) (.slice q m d) (.slice q' m' d')) a x := by
 obtain ⟨z0, p0, n0, c0, p0', n0', c0', h1, h2⟩ := h
 have hf : ∀ (X : World) (i : Nat) (y : Value) (cs : Array Value), Blk X a 50 cs → Blk (X.setCell ⟨b, i, none⟩ y) a 50 cs := fun X i y cs h => h.far (by show a ≠ b; exact hne) y
 exact ⟨z0, p0, n0, c0, p0', n0', c0', hf _ _ _ _ (hf _ _ _ _ (hf _ _ _ _ h1)), fun hp => rq_set3 (h2 hp) hk u q m d q' m' d'⟩
theorem boxP_new {P : Prop} {W : World} {b : Nat} {x : Rat} {z : Bool} {p : Option Addr} {n c : Nat} {p' : Option Addr} {n' c' : Nat} (hk : Blk W b 50 #[.bool z, .slice p n c, .slice p' n' c']) {u : Bool} {q : Option Addr} {m d : Nat} {q' : Option Addr} {m' d' : Nat} (h : P → RQ W (.agg #[.bool u, .slice q m d, .slice q' m' d']) x) :
 BoxP P (set3 W b (.bool u) (.slice q m d) (.slice q' m' d')) b x :=
 ⟨u, q, m, d, q', m', d', blk_setr hk _ _ _, fun hp => rq_set3 (h hp) hk u q m d q' m' d'⟩
/-- Between two texts: memory w stands as it stood (below), the boxes b4, b5, b6 hold sum, least and greatest, va is the row of fractions L. -/
structure It (w : World) (b4 b5 b6 B : Nat) (va : Value) (L : List Ev) (S lo hi : Rat) (P Q : Prop) (W : World) : Prop where
 bel : Below w.heap.size w W
 row : W.ownsRow B 28 3 va L.length (evs L)
 no : NoI W va
 num : ∀ e ∈ L, IsR W e.V e.q
 sum : BoxP True W b4 S
 least : BoxP P W b5 lo
 most : BoxP Q W b6 hi
 big : B ≤ W.heap.size
section
variable {w : World} {b4 b5 b6 B : Nat} {va : Value} {L : List Ev} {S lo hi : Rat} {P Q : Prop} {W W' : World}
theorem It.below (h : It w b4 b5 b6 B va L S lo hi P Q W) (hb : Below W.heap.size W W') : It w b4 b5 b6 B va L S lo hi P Q W' :=
 ⟨h.bel.trans (hb.mono h.bel.size), own_below h.row hb, h.no.below hb (Nat.le_refl _), fun e he => (h.num e he).below hb (Nat.le_refl _), h.sum.below hb, h.least.below hb, h.most.below hb, Nat.le_trans h.big hb.size⟩
theorem It.weak {P' Q' : Prop} (h : It w b4 b5 b6 B va L S lo hi P Q W) (hp : P' → P) (hq : Q' → Q) : It w b4 b5 b6 B va L S lo hi P' Q' W := by
 obtain ⟨z, p, n, c, p', n', c', h1, h2⟩ := h.least
 obtain ⟨y, q, m, d, q', m', d', h3, h4⟩ := h.most
 exact ⟨h.bel, h.row, h.no, h.num, h.sum, ⟨z, p, n, c, p', n', c', h1, fun e => h2 (hp e)⟩, ⟨y, q, m, d, q', m', d', h3, fun e => h4 (hq e)⟩, h.big⟩
/-- A fraction is appended to the row. -/
theorem It.push (h : It w b4 b5 b6 B va L S lo hi P Q W) (hB : w.heap.size ≤ B) {cs : Array Value} {vb : Value} {p : Ev} (hp : IsR W p.V p.q) (hown : W'.ownsRow B 28 3 vb (L ++ [p]).length (evs (L ++ [p]))) (hno : NoI W' vb)
 (hg : (W.alloc (.cells cs 28)).grownBy W' va.ownBlock) (hb : Below B W W') : It w b4 b5 b6 B vb (L ++ [p]) S lo hi P Q W' := by
 have hal : Below W.heap.size W (W.alloc (.cells cs 28)) := (Below.refl _ _).alloc (Nat.le_refl _) _
 have h1 := h.below hal
 refine ⟨h.bel.trans (hb.mono hB), hown, hno, fun e he => ?_, h1.sum.app hg h1.no, h1.least.app hg h1.no, h1.most.app hg h1.no, Nat.le_trans h.big hb.size⟩
 rcases List.mem_append.1 he with he | he
 · exact isR_app (h1.num e he) hg h1.no
 · obtain rfl : e = p := by simpa using he
   exact isR_app (hp.below hal (Nat.le_refl _)) hg h1.no
/-- One of the three boxes is written anew. -/
theorem It.set4 (h : It w b4 b5 b6 B va L S lo hi P Q W) (h4 : w.heap.size ≤ b4) (h45 : b4 ≠ b5) (h46 : b4 ≠ b6) {S' : Rat} {z : Bool} {p : Option Addr} {n c : Nat} {p' : Option Addr} {n' c' : Nat} (hk : Blk W b4 50 #[.bool z, .slice p n c, .slice p' n' c'])
 {u : Bool} {q : Option Addr} {m d : Nat} {q' : Option Addr} {m' d' : Nat} (hn : RQ W (.agg #[.bool u, .slice q m d, .slice q' m' d']) S') : It w b4 b5 b6 B va L S' lo hi P Q (set3 W b4 (.bool u) (.slice q m d) (.slice q' m' d')) := by
 have hne : 50 ≠ 28 := by decide
 have hk1 := hk.set_ 0 (.bool u)
 have hk2 := hk1.set_ 1 (.slice q m d)
 exact ⟨below_set3 h.bel h4 _ _ _, own_set (own_set (own_set h.row hk hne 0 _) hk1 hne 1 _) hk2 hne 2 _, ((h.no.far hk hne 0 _).far hk1 hne 1 _).far hk2 hne 2 _, fun e he => isR_set3 (h.num e he) hk u q m d q' m' d',
  boxP_new hk (fun _ => hn), h.least.far hk (fun e => h45 e.symm) u q m d q' m' d', h.most.far hk (fun e => h46 e.symm) u q m d q' m' d', by simpa [set3] using h.big⟩
theorem It.set5 (h : It w b4 b5 b6 B va L S lo hi P Q W) (h4 : w.heap.size ≤ b5) (h45 : b4 ≠ b5) (h56 : b5 ≠ b6) {lo' : Rat} {z : Bool} {p : Option Addr} {n c : Nat} {p' : Option Addr} {n' c' : Nat} (hk : Blk W b5 50 #[.bool z, .slice p n c, .slice p' n' c'])
 {u : Bool} {q : Option Addr} {m d : Nat} {q' : Option Addr} {m' d' : Nat} (hn : RQ W (.agg #[.bool u, .slice q m d, .slice q' m' d']) lo') : It w b4 b5 b6 B va L S lo' hi True Q (set3 W b5 (.bool u) (.slice q m d) (.slice q' m' d')) := by
 have hne : 50 ≠ 28 := by decide
 have hk1 := hk.set_ 0 (.bool u)
 have hk2 := hk1.set_ 1 (.slice q m d)
 exact ⟨below_set3 h.bel h4 _ _ _, own_set (own_set (own_set h.row hk hne 0 _) hk1 hne 1 _) hk2 hne 2 _, ((h.no.far hk hne 0 _).far hk1 hne 1 _).far hk2 hne 2 _, fun e he => isR_set3 (h.num e he) hk u q m d q' m' d',
  h.sum.far hk h45 u q m d q' m' d', boxP_new hk (fun _ => hn), h.most.far hk (fun e => h56 e.symm) u q m d q' m' d', by simpa [set3] using h.big⟩
theorem It.set6 (h : It w b4 b5 b6 B va L S lo hi P Q W) (h4 : w.heap.size ≤ b6) (h46 : b4 ≠ b6) (h56 : b5 ≠ b6) {hi' : Rat} {z : Bool} {p : Option Addr} {n c : Nat} {p' : Option Addr} {n' c' : Nat} (hk : Blk W b6 50 #[.bool z, .slice p n c, .slice p' n' c'])
 {u : Bool} {q : Option Addr} {m d : Nat} {q' : Option Addr} {m' d' : Nat} (hn : RQ W (.agg #[.bool u, .slice q m d, .slice q' m' d']) hi') : It w b4 b5 b6 B va L S lo hi' P True (set3 W b6 (.bool u) (.slice q m d) (.slice q' m' d')) := by
 have hne : 50 ≠ 28 := by decide
 have hk1 := hk.set_ 0 (.bool u)
 have hk2 := hk1.set_ 1 (.slice q m d)
 exact ⟨below_set3 h.bel h4 _ _ _, own_set (own_set (own_set h.row hk hne 0 _) hk1 hne 1 _) hk2 hne 2 _, ((h.no.far hk hne 0 _).far hk1 hne 1 _).far hk2 hne 2 _, fun e he => isR_set3 (h.num e he) hk u q m d q' m' d',
  h.sum.far hk h46 u q m d q' m' d', h.least.far hk h56 u q m d q' m' d', boxP_new hk (fun _ => hn), by simpa [set3] using h.big⟩
end
end Go.Proofs.YtllmacokhjmdgaaGreatDoor
