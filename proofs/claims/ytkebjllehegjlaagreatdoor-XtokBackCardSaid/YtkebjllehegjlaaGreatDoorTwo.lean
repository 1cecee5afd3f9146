/-
  Two variables, each in a box of its own, each holding a slice of the call's own: what a round that appends to both of them leaves behind.
-/
import Derived.Test.YtkebjllehegjlaaGreatDoorStill
import Derived.RangeFuncBox
import Derived.RangeFuncNested
namespace Go.Proofs.YtkebjllehegjlaaGreatDoor
open Go.RowKit

/-- The boxes B1, B2 hold v1, v2; u1, u2 own xs, ys in blocks of their own, from n0 on; what is no cells lies as in W0, and what lies below n0. -/
structure Two (n0 : Nat) (W0 W : World) (B1 B2 : Nat) (T1 T2 E1 E2 : TypeId) (s1 s2 : Nat) (v1 v2 u1 u2 : Value) (k1 k2 : Nat) (xs ys : List Value) : Prop where
  b1 : Boxed W B1 T1 v1
  b2 : Boxed W B2 T2 v2
  o1 : W.ownsRow n0 E1 s1 u1 k1 xs
  o2 : W.ownsRow n0 E2 s2 u2 k2 ys
  ne : ∀ g, u1.ownBlock = some g → u2.ownBlock ≠ some g
  oth : KeepsOthers W0 W
  bel : Below n0 W0 W
  n0B : n0 ≤ B1 ∧ n0 ≤ B2 ∧ B1 ≠ B2 ∧ n0 ≤ W.heap.size

section
variable {n0 : Nat} {W0 W : World} {B1 B2 : Nat} {T1 T2 E1 E2 : TypeId} {s1 s2 : Nat} {v1 v2 u1 u2 : Value} {k1 k2 : Nat} {xs ys : List Value}

theorem own_lt {W : World} {b : Nat} {e : TypeId} {s : Nat} {v : Value} {n : Nat} {xs : List Value} (h : W.ownsRow b e s v n xs) (g : Nat) (hg : v.ownBlock = some g) : b ≤ g ∧ g < W.heap.size := h.lt g hg
theorem own_cells {W : World} {b : Nat} {e : TypeId} {s : Nat} {v : Value} {n : Nat} {xs : List Value} (h : W.ownsRow b e s v n xs) (j : Nat) (o : Obj) (hg : v.ownBlock = some j) (ho : W.heap[j]? = some o) : o.isCells = true := by
  rcases h.2 with ⟨rfl, _⟩ | ⟨g, cap, cur, rfl, _, hgb, _⟩
  · simp [Value.ownBlock] at hg
  · obtain rfl : g = j := by simpa [Value.ownBlock] using hg
    rw [hgb] at ho; cases ho; rfl
theorem own_far {W W' : World} {row : Option Nat} {b : Nat} {e : TypeId} {s : Nat} {v : Value} {n : Nat} {xs : List Value} (h : W.ownsRow b e s v n xs) (hg : W.grownBy W' row) (hne : ∀ g, row = some g → v.ownBlock ≠ some g) : W'.ownsRow b e s v n xs := by
  refine h.kept hg ?_
  cases hv : v.ownBlock with
  | none => exact .inl rfl
  | some g => exact .inr (fun e => hne g e.symm (by rw [hv]))

theorem Two.drew (h : Two n0 W0 W B1 B2 T1 T2 E1 E2 s1 s2 v1 v2 u1 u2 k1 k2 xs ys) : Two n0 W0 W.drew B1 B2 T1 T2 E1 E2 s1 s2 v1 v2 u1 u2 k1 k2 xs ys :=
  ⟨h.b1, h.b2, h.o1, h.o2, h.ne, h.oth.trans ⟨Nat.le_refl _, fun _ _ h _ => h⟩, h.bel.drew, h.n0B⟩
theorem Two.alloc (h : Two n0 W0 W B1 B2 T1 T2 E1 E2 s1 s2 v1 v2 u1 u2 k1 k2 xs ys) (o : Obj) : Two n0 W0 (W.alloc o) B1 B2 T1 T2 E1 E2 s1 s2 v1 v2 u1 u2 k1 k2 xs ys :=
  ⟨h.b1.alloc o, h.b2.alloc o, h.o1.alloc o, h.o2.alloc o, h.ne, h.oth.trans (KeepsOthers.alloc _ _), h.bel.alloc h.n0B.2.2.2 o, h.n0B.1, h.n0B.2.1, h.n0B.2.2.1, by rw [World.size_alloc]; have := h.n0B.2.2.2; omega⟩
theorem Two.app1 (h : Two n0 W0 W B1 B2 T1 T2 E1 E2 s1 s2 v1 v2 u1 u2 k1 k2 xs ys) (h1 : T1 ≠ E1) (h2 : T2 ≠ E1) {w1 : World} {g cap m : Nat} {zs : List Value} (hown : w1.ownsRow n0 E1 s1 (.slice (some ⟨g, 0, none⟩) m cap) m zs)
    (hg : W.grownBy w1 u1.ownBlock) (hat : u1.ownBlock = some g ∨ g = W.heap.size) : Two n0 W0 w1 B1 B2 T1 T2 E1 E2 s1 s2 v1 v2 (.slice (some ⟨g, 0, none⟩) m cap) u2 m k2 zs ys := by
  refine ⟨h.b1.kept hg (h.b1.not_row h1 h.o1), h.b2.kept hg (h.b2.not_row h2 h.o1), hown, own_far h.o2 hg h.ne, ?_, h.oth.trans (KeepsOthers.of_grownBy hg (own_cells h.o1)), h.bel.grown hg h.n0B.2.2.2 (fun j e => (own_lt h.o1 j e).1), h.n0B.1, h.n0B.2.1, h.n0B.2.2.1, Nat.le_trans h.n0B.2.2.2 hg.size⟩
  intro j hj hu
  obtain rfl : g = j := by simpa [Value.ownBlock] using hj
  rcases hat with e | e
  · exact h.ne g e hu
  · have := (own_lt h.o2 g hu).2; omega
theorem Two.app2 (h : Two n0 W0 W B1 B2 T1 T2 E1 E2 s1 s2 v1 v2 u1 u2 k1 k2 xs ys) (h1 : T1 ≠ E2) (h2 : T2 ≠ E2) {w1 : World} {g cap m : Nat} {zs : List Value} (hown : w1.ownsRow n0 E2 s2 (.slice (some ⟨g, 0, none⟩) m cap) m zs)
    (hg : W.grownBy w1 u2.ownBlock) (hat : u2.ownBlock = some g ∨ g = W.heap.size) : Two n0 W0 w1 B1 B2 T1 T2 E1 E2 s1 s2 v1 v2 u1 (.slice (some ⟨g, 0, none⟩) m cap) k1 m xs zs := by
  refine ⟨h.b1.kept hg (h.b1.not_row h1 h.o2), h.b2.kept hg (h.b2.not_row h2 h.o2), own_far h.o1 hg (fun j e e' => h.ne j e' e), hown, ?_, h.oth.trans (KeepsOthers.of_grownBy hg (own_cells h.o2)), h.bel.grown hg h.n0B.2.2.2 (fun j e => (own_lt h.o2 j e).1), h.n0B.1, h.n0B.2.1, h.n0B.2.2.1, Nat.le_trans h.n0B.2.2.2 hg.size⟩
  intro j hj hu
  obtain rfl : g = j := by simpa [Value.ownBlock] using hu
  rcases hat with e | e
  · exact h.ne g hj e
  · have := (own_lt h.o1 g hj).2; omega
theorem Two.set1 (h : Two n0 W0 W B1 B2 T1 T2 E1 E2 s1 s2 v1 v2 u1 u2 k1 k2 xs ys) (h1 : T1 ≠ E1) (h2 : T1 ≠ E2) (v : Value) : Two n0 W0 (W.setCell ⟨B1, 0, none⟩ v) B1 B2 T1 T2 E1 E2 s1 s2 v v2 u1 u2 k1 k2 xs ys :=
  ⟨h.b1.set v, h.b2.kept (grownBy_setCell' _ _ _) (fun e => h.n0B.2.2.1 (by cases e; rfl)), own_far h.o1 (grownBy_setCell' _ _ _) (fun g e e' => by cases e; exact h.b1.not_row h1 h.o1 e'.symm), own_far h.o2 (grownBy_setCell' _ _ _) (fun g e e' => by cases e; exact h.b1.not_row h2 h.o2 e'.symm),
    h.ne, h.oth.trans (KeepsOthers.setCell _ _ _), h.bel.setCell (p := ⟨B1, 0, none⟩) h.n0B.1 v, h.n0B.1, h.n0B.2.1, h.n0B.2.2.1, by rw [World.size_setCell]; exact h.n0B.2.2.2⟩
theorem Two.set2 (h : Two n0 W0 W B1 B2 T1 T2 E1 E2 s1 s2 v1 v2 u1 u2 k1 k2 xs ys) (h1 : T2 ≠ E1) (h2 : T2 ≠ E2) (v : Value) : Two n0 W0 (W.setCell ⟨B2, 0, none⟩ v) B1 B2 T1 T2 E1 E2 s1 s2 v1 v u1 u2 k1 k2 xs ys :=
  ⟨h.b1.kept (grownBy_setCell' _ _ _) (fun e => h.n0B.2.2.1 (by cases e; rfl)), h.b2.set v, own_far h.o1 (grownBy_setCell' _ _ _) (fun g e e' => by cases e; exact h.b2.not_row h1 h.o1 e'.symm), own_far h.o2 (grownBy_setCell' _ _ _) (fun g e e' => by cases e; exact h.b2.not_row h2 h.o2 e'.symm),
    h.ne, h.oth.trans (KeepsOthers.setCell _ _ _), h.bel.setCell (p := ⟨B2, 0, none⟩) h.n0B.2.1 v, h.n0B.1, h.n0B.2.1, h.n0B.2.2.1, by rw [World.size_setCell]; exact h.n0B.2.2.2⟩

/-- The block g holds the cells that are to be appended. -/
def Cellz (W : World) (g : Nat) (news : List Value) (E : TypeId) : Prop := W.heap[g]? = some (.cells news.toArray E (0, 0))
theorem Cellz.kept {W W' : World} {row : Option Nat} {g : Nat} {news : List Value} {E : TypeId} (h : Cellz W g news E) (hg : W.grownBy W' row) (hne : ∀ j, row = some j → g ≠ j) : Cellz W' g news E :=
  (hg.block g (Array.getElem?_eq_some_iff.1 h).1 (fun e => hne g e.symm rfl)).trans h

variable {P : Program} {o : Oper} {a : Act} {K : Act → World → Prop} {Q : Exit → Act → World → Prop}
/-- The append to the first one, in whatever step. -/
theorem wp_app1 (s x : Operand) (ho : o.op = .call { callee := .builtin .append, args := #[s, x], argTypes := #[T1, T1] })
    (i : TypeInfo) (z : Value) (bytes : Nat) (ht : P.underlying T1 = some (.slice E1)) (hi : P.info? E1 = some i) (hz : i.zero = some z) (hsize : i.size = s1) (hby : i.bytes = bytes) (hzs : z.cells.size = s1) (hsz : 0 < s1)
    (h : Two n0 W0 W B1 B2 T1 T2 E1 E2 s1 s2 v1 v2 u1 u2 k1 k2 xs ys) (h1 : T1 ≠ E1) (h2 : T2 ≠ E1) (hs : a.eval s = u1) (g0 : Nat) (news : List Value) (hx : a.eval x = .slice (some ⟨g0, 0, none⟩) 1 1) (hl : news.length = s1) (hn : Cellz W g0 news E1)
    (hone : ∀ u ∈ news, u.oneCell' = true) (h63 : k1 + 1 ≤ maxLen) (hbytes : (k1 + 1) * bytes ≤ 140737488355328)
    (hK : ∀ g cap w', Two n0 W0 w' B1 B2 T1 T2 E1 E2 s1 s2 v1 v2 (.slice (some ⟨g, 0, none⟩) (k1 + 1) cap) u2 (k1 + 1) k2 (xs ++ news) ys → W.grownBy w' u1.ownBlock → K (a.put o.dst (.slice (some ⟨g, 0, none⟩) (k1 + 1) cap)) w') : o.wp P a W K Q :=
  wp_append_lies W s x T1 ho n0 E1 i z s1 bytes ht hi hz hsize hby hzs hsz u1 k1 xs hs h.o1 ⟨g0, 0, none⟩ 1 1 news hx (by rw [hl]; omega) (fun j u hj => World.news_of_block hn j u (by simpa using hj)) hone (by omega) h63 hbytes h.n0B.2.2.2 _ rfl
    fun g cap w' hown hg hat _ => hK g cap w' (h.app1 h1 h2 hown hg hat) hg
theorem wp_app2 (s x : Operand) (ho : o.op = .call { callee := .builtin .append, args := #[s, x], argTypes := #[T2, T2] })
    (i : TypeInfo) (z : Value) (bytes : Nat) (ht : P.underlying T2 = some (.slice E2)) (hi : P.info? E2 = some i) (hz : i.zero = some z) (hsize : i.size = s2) (hby : i.bytes = bytes) (hzs : z.cells.size = s2) (hsz : 0 < s2)
    (h : Two n0 W0 W B1 B2 T1 T2 E1 E2 s1 s2 v1 v2 u1 u2 k1 k2 xs ys) (h1 : T1 ≠ E2) (h2 : T2 ≠ E2) (hs : a.eval s = u2) (g0 : Nat) (news : List Value) (hx : a.eval x = .slice (some ⟨g0, 0, none⟩) 1 1) (hl : news.length = s2) (hn : Cellz W g0 news E2)
    (hone : ∀ u ∈ news, u.oneCell' = true) (h63 : k2 + 1 ≤ maxLen) (hbytes : (k2 + 1) * bytes ≤ 140737488355328)
    (hK : ∀ g cap w', Two n0 W0 w' B1 B2 T1 T2 E1 E2 s1 s2 v1 v2 u1 (.slice (some ⟨g, 0, none⟩) (k2 + 1) cap) k1 (k2 + 1) xs (ys ++ news) → W.grownBy w' u2.ownBlock → K (a.put o.dst (.slice (some ⟨g, 0, none⟩) (k2 + 1) cap)) w') : o.wp P a W K Q :=
  wp_append_lies W s x T2 ho n0 E2 i z s2 bytes ht hi hz hsize hby hzs hsz u2 k2 ys hs h.o2 ⟨g0, 0, none⟩ 1 1 news hx (by rw [hl]; omega) (fun j u hj => World.news_of_block hn j u (by simpa using hj)) hone (by omega) h63 hbytes h.n0B.2.2.2 _ rfl
    fun g cap w' hown hg hat _ => hK g cap w' (h.app2 h1 h2 hown hg hat) hg
end
end Go.Proofs.YtkebjllehegjlaaGreatDoor
