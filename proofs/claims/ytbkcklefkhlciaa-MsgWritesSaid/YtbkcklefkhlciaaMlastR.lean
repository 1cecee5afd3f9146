/-
  last: the last field of a number and of a kind, and its place.
-/
import Derived.Test.YtbkcklefkhlciaaMtell
import Derived.Test.YtbkcklefkhlciaaMnil3
namespace Go.Proofs.Ytbkcklefkhlciaa
open Go.RowKit Go.Shelf
attribute [local go_sem] Oper.semAt_some
set_option linter.unusedVariables false
def LG (es : List Nat) (x : Nat × (Fd × Nat)) : Prop := x.1 < es.length ∧ x.2.1.data.size ≤ es.getD x.1 0 ∧ es.getD x.1 0 ≤ 1000000000
abbrev LA (es : List Nat) := { x : Nat × (Fd × Nat) // LG es x }
/-- What the variables hold behind what was told. -/
def lcs {es : List Nat} (l : List (LA es)) : Array Value := match l.getLast? with
  | none => #[.int .i64 0, .int .i64 0, .int .i64 0, .int .u64 0, .string ⟨#[]⟩]
  | some x => #[.int .i64 x.1.2.1.num, .int .i64 x.1.2.1.kind, .int .i64 (x.1.2.2 : Int), .int .u64 x.1.2.1.val, .string x.1.2.1.data]
def lat {es : List Nat} (l : List (LA es)) : Int := match l.getLast? with
  | none => 0
  | some x => ((es.getD x.1.1 0 - x.1.2.1.data.size : Nat) : Int)
def lok {es : List Nat} (l : List (LA es)) : Bool := match l.getLast? with
  | none => false
  | some _ => true
def lV {es : List Nat} (l : List (LA es)) : Value := .agg (lcs l)
theorem lcs_form {es : List Nat} (l : List (LA es)) : ∃ a b c d s, lcs l = #[.int .i64 a, .int .i64 b, .int .i64 c, .int .u64 d, .string s] := by
  unfold lcs
  split
  · exact ⟨_, _, _, _, _, rfl⟩
  · exact ⟨_, _, _, _, _, rfl⟩
def SLast (n : Nat) (g : Nat) : Prop := g < n ∨ (n + 5 ≤ g ∧ g < n + 9)
structure LSt (n m : Nat) (w : World) (cs : Array Value) (at_ : Int) (ok : Bool) (W : World) : Prop where
  r3 : Blk W n 31 #[.pointer (some ⟨m, 0, none⟩)]
  r6 : Blk W (n + 1) 77 #[.int .i64 0, .int .i64 0, .int .i64 0, .int .u64 0, .string ⟨#[]⟩]
  o : Blk W (n + 2) 77 cs
  a : Blk W (n + 3) 3 #[.int .i64 at_]
  k : Blk W (n + 4) 4 #[.bool ok]
  b : Below n w W
  h : n + 9 ≤ W.heap.size
theorem LSt.kept {n m : Nat} {w W W' : World} {cs : Array Value} {at_ : Int} {ok : Bool} {row : Option Nat} (h : LSt n m w cs at_ ok W) (hg : W.grownBy W' row) (hr : ∀ r, row = some r → n ≤ r ∧ ∃ o : Obj, W.heap[r]? = some o ∧ o.isCells = false) : LSt n m w cs at_ ok W' :=
  have hr' : ∀ r, row = some r → ∃ o : Obj, W.heap[r]? = some o ∧ o.isCells = false := fun r e => (hr r e).2
  ⟨blk_keep h.r3 hg hr', blk_keep h.r6 hg hr', blk_keep h.o hg hr', blk_keep h.a hg hr', blk_keep h.k hg hr', h.b.grown hg (by have := h.h; omega) (fun k e => (hr k e).1), Nat.le_trans h.h hg.size⟩
def LI (n m : Nat) (w : World) {es : List Nat} (pre : List (LA es)) (W : World) : Prop := LSt n m w (lcs pre) (lat pre) (lok pre) W
theorem li_own (n m : Nat) (w : World) (es : List Nat) (B : Nat) (hB : n ≤ B) : OwnFrom B (LI n m w (es := es)) := by
  intro pre W W' row h hg hr
  exact h.kept hg (fun r e => ⟨Nat.le_trans hB (hr r e).1, (hr r e).2⟩)
/-- Behind the three stores of a round. -/
theorem LSt.told {n m : Nat} {w W : World} {cs : Array Value} {at_ : Int} {ok : Bool} (h : LSt n m w cs at_ ok W) (hcs : ∃ a b c d s, cs = #[.int .i64 a, .int .i64 b, .int .i64 c, .int .u64 d, .string s]) (a b c d e : Value) (z : Int) :
    LSt n m w #[a, b, c, d, e] z true (((((((W.drew.setCell ⟨n + 2, 0, none⟩ a).setCell ⟨n + 2, 1, none⟩ b).setCell ⟨n + 2, 2, none⟩ c).setCell ⟨n + 2, 3, none⟩ d).setCell ⟨n + 2, 4, none⟩ e).setCell ⟨n + 3, 0, none⟩ (.int .i64 z)).setCell ⟨n + 4, 0, none⟩ (.bool true)) ∧
    KeepS (SLast n) W (((((((W.drew.setCell ⟨n + 2, 0, none⟩ a).setCell ⟨n + 2, 1, none⟩ b).setCell ⟨n + 2, 2, none⟩ c).setCell ⟨n + 2, 3, none⟩ d).setCell ⟨n + 2, 4, none⟩ e).setCell ⟨n + 3, 0, none⟩ (.int .i64 z)).setCell ⟨n + 4, 0, none⟩ (.bool true)) ∧
    KeepsOthers W (((((((W.drew.setCell ⟨n + 2, 0, none⟩ a).setCell ⟨n + 2, 1, none⟩ b).setCell ⟨n + 2, 2, none⟩ c).setCell ⟨n + 2, 3, none⟩ d).setCell ⟨n + 2, 4, none⟩ e).setCell ⟨n + 3, 0, none⟩ (.int .i64 z)).setCell ⟨n + 4, 0, none⟩ (.bool true)) := by
  obtain ⟨x0, x1, x2, x3, x4, rfl⟩ := hcs
  have hd : LSt n m w _ at_ ok W.drew := ⟨blk_drew' h.r3, blk_drew' h.r6, blk_drew' h.o, blk_drew' h.a, blk_drew' h.k, h.b.drew, h.h⟩
  have k0 : KeepS (SLast n) W W.drew := KeepS.drew W
  have o0 : KeepsOthers W W.drew := KeepsOthers.drew W
  generalize W.drew = V at hd k0 o0 ⊢
  have s0 : Blk (V.setCell ⟨n + 2, 0, none⟩ a) (n + 2) 77 #[a, _, _, _, _] := hd.o.set_ 0 a
  have s1 : Blk ((V.setCell ⟨n + 2, 0, none⟩ a).setCell ⟨n + 2, 1, none⟩ b) (n + 2) 77 #[a, b, _, _, _] := s0.set_ 1 b
  have s2 : Blk (((V.setCell ⟨n + 2, 0, none⟩ a).setCell ⟨n + 2, 1, none⟩ b).setCell ⟨n + 2, 2, none⟩ c) (n + 2) 77 #[a, b, c, _, _] := s1.set_ 2 c
  have s3 : Blk ((((V.setCell ⟨n + 2, 0, none⟩ a).setCell ⟨n + 2, 1, none⟩ b).setCell ⟨n + 2, 2, none⟩ c).setCell ⟨n + 2, 3, none⟩ d) (n + 2) 77 #[a, b, c, d, _] := s2.set_ 3 d
  have s4 : Blk (((((V.setCell ⟨n + 2, 0, none⟩ a).setCell ⟨n + 2, 1, none⟩ b).setCell ⟨n + 2, 2, none⟩ c).setCell ⟨n + 2, 3, none⟩ d).setCell ⟨n + 2, 4, none⟩ e) (n + 2) 77 #[a, b, c, d, e] := s3.set_ 4 e
  have f5 : ∀ {g : Nat} {t : TypeId} {cs : Array Value}, Blk V g t cs → g ≠ n + 2 → Blk (((((V.setCell ⟨n + 2, 0, none⟩ a).setCell ⟨n + 2, 1, none⟩ b).setCell ⟨n + 2, 2, none⟩ c).setCell ⟨n + 2, 3, none⟩ d).setCell ⟨n + 2, 4, none⟩ e) g t cs := fun h hne => five_far V (n + 2) a b c d e h hne
  have hS : ∀ g, n ≤ g → g < n + 5 → ¬ SLast n g := fun g h1 h2 hs => by rcases hs with h | h <;> omega
  refine ⟨⟨((f5 hd.r3 (by omega)).far (p := ⟨n + 3, 0, none⟩) (by simp) _).far (p := ⟨n + 4, 0, none⟩) (by simp) _, ((f5 hd.r6 (by omega)).far (p := ⟨n + 3, 0, none⟩) (by simp) _).far (p := ⟨n + 4, 0, none⟩) (by simp) _, (s4.far (p := ⟨n + 3, 0, none⟩) (by simp) _).far (p := ⟨n + 4, 0, none⟩) (by simp) _,
    ((f5 hd.a (by omega)).set_ 0 _).far (p := ⟨n + 4, 0, none⟩) (by simp) _, ((f5 hd.k (by omega)).far (p := ⟨n + 3, 0, none⟩) (by simp) _).set_ 0 _, ?_, by have := hd.h; simp; omega⟩, ?_, ?_⟩
  · exact ((((((hd.b.setCell (p := ⟨n + 2, 0, none⟩) (by simp) a).setCell (p := ⟨n + 2, 1, none⟩) (by simp) b).setCell (p := ⟨n + 2, 2, none⟩) (by simp) c).setCell (p := ⟨n + 2, 3, none⟩) (by simp) d).setCell (p := ⟨n + 2, 4, none⟩) (by simp) e).setCell (p := ⟨n + 3, 0, none⟩) (by simp) _).setCell (p := ⟨n + 4, 0, none⟩) (by simp) _
  · exact ((((((k0.trans (KeepS.set _ _ _ (hS _ (by omega) (by omega)))).trans (KeepS.set _ _ _ (hS _ (by omega) (by omega)))).trans (KeepS.set _ _ _ (hS _ (by omega) (by omega)))).trans (KeepS.set _ _ _ (hS _ (by omega) (by omega)))).trans (KeepS.set _ _ _ (hS _ (by omega) (by omega)))).trans (KeepS.set _ _ _ (hS _ (by omega) (by omega)))).trans (KeepS.set _ _ _ (hS _ (by omega) (by omega)))
  · exact ((((((o0.trans (KeepsOthers.setCell _ _ _)).trans (KeepsOthers.setCell _ _ _)).trans (KeepsOthers.setCell _ _ _)).trans (KeepsOthers.setCell _ _ _)).trans (KeepsOthers.setCell _ _ _)).trans (KeepsOthers.setCell _ _ _)).trans (KeepsOthers.setCell _ _ _)
set_option maxRecDepth 100000 in
set_option maxHeartbeats 4000000 in
theorem last_in (n : Nat) (hn : 4 ≤ n) (B m : Nat) (l : List (Fd × Nat)) (es : List Nat) (c : Int) (num kind : Int) (xs : List (LA es)) (hl : l.length ≤ 100000) (hxs : xs.map (·.1) = mtell num [kind] 0 l) (w : World) (hm : IsMsg B m w l es c) :
    CallsIn Fence.wide n Try.prog 46 #[.pointer (some ⟨m, 0, none⟩), .int .i64 num, .int .i64 kind] w (GaveV (.tuple #[lV xs, .int .i64 (lat xs), .bool (lok xs)]) w) := by
  obtain ⟨af, cf, ae, ce, c0, c1, c2, c3, hf, he⟩ := hm.cells
  have hml := hm.lt
  have hF : FHolds w af l := fholds_own (n := l.length) hf rfl
  have hE : ∀ i, i < es.length → ∃ ge, ae = some ⟨ge, 0, none⟩ ∧ ge < w.heap.size ∧ w.cell? ⟨ge, i, none⟩ = some (.int .i64 ((es.getD i 0 : Nat) : Int)) := by
    intro i hi
    obtain ⟨g, cap, hv, _, hlt⟩ := he.form (by omega)
    have hA : ae = some ⟨g, 0, none⟩ := by injection hv
    subst hA
    refine ⟨g, rfl, hlt, ?_⟩
    have h1 := he.cells (g := g) rfl i (iv (es.getD i 0)) (by rw [List.getElem?_map, List.getElem?_eq_getElem hi, List.getD_eq_getElem?_getD, List.getElem?_eq_getElem hi]; rfl)
    have h9 : (⟨g, 0, none⟩ : Addr).add i = ⟨g, i, none⟩ := by unfold Addr.add; split <;> simp_all
    rw [h9] at h1
    exact h1
  have HE := Lib.hid hE
  clear hf he c3 hm hE
  have h1 : 1 ≤ n := by omega
  refine callsIn_of_wp_marks Try.func46 rfl trivial ?_ rfl
  simp only [Try.ntmps46, List.size_toArray, List.length_cons, List.length_nil, Nat.reduceAdd, Nat.reduceSub, Array.replicate_succ, Array.replicate_zero, List.push_toArray, List.append_toArray, List.nil_append, List.cons_append]
  gi_wp2_with fail
  refine ⟨trivial, (callsIn_wide.2 (each_msg _ _ _ _ _ _)).mono ?_⟩
  rintro e w' ⟨rfl, rfl⟩
  gi_wp2_with fail
  obtain ⟨W0, hW⟩ : ∃ W0, ((((((((w.alloc (.cells #[.pointer (some ⟨m, 0, none⟩)] 31)).alloc (.cells #[.int .i64 0, .int .i64 0, .int .i64 0, .int .u64 0, .string ⟨#[]⟩] 77)).alloc (.cells #[.int .i64 0, .int .i64 0, .int .i64 0, .int .u64 0, .string ⟨#[]⟩] 77)).alloc (.cells #[.int .i64 0] 3)).alloc (.cells #[.bool false] 4)).alloc (.cells #[.int .i64 kind] 3)).alloc (.cells #[.pointer (some ⟨m, 0, none⟩)] 31)).alloc (.cells #[.int .i64 num] 3)).alloc (.cells #[.slice (some ⟨w.heap.size + 1 + 1 + 1 + 1 + 1, 0, none⟩) 1 1] 27) = W0 := ⟨_, rfl⟩
  have q0 := Blk.new w 31 #[.pointer (some ⟨m, 0, none⟩)]
  have q1 := Blk.new (w.alloc (.cells #[.pointer (some ⟨m, 0, none⟩)] 31)) 77 #[.int .i64 0, .int .i64 0, .int .i64 0, .int .u64 0, .string ⟨#[]⟩]
  have q2 := Blk.new ((w.alloc (.cells #[.pointer (some ⟨m, 0, none⟩)] 31)).alloc (.cells #[.int .i64 0, .int .i64 0, .int .i64 0, .int .u64 0, .string ⟨#[]⟩] 77)) 77 #[.int .i64 0, .int .i64 0, .int .i64 0, .int .u64 0, .string ⟨#[]⟩]
  have q3 := Blk.new (((w.alloc (.cells #[.pointer (some ⟨m, 0, none⟩)] 31)).alloc (.cells #[.int .i64 0, .int .i64 0, .int .i64 0, .int .u64 0, .string ⟨#[]⟩] 77)).alloc (.cells #[.int .i64 0, .int .i64 0, .int .i64 0, .int .u64 0, .string ⟨#[]⟩] 77)) 3 #[.int .i64 0]
  have q4 := Blk.new ((((w.alloc (.cells #[.pointer (some ⟨m, 0, none⟩)] 31)).alloc (.cells #[.int .i64 0, .int .i64 0, .int .i64 0, .int .u64 0, .string ⟨#[]⟩] 77)).alloc (.cells #[.int .i64 0, .int .i64 0, .int .i64 0, .int .u64 0, .string ⟨#[]⟩] 77)).alloc (.cells #[.int .i64 0] 3)) 4 #[.bool false]
  have q5 := Blk.new (((((w.alloc (.cells #[.pointer (some ⟨m, 0, none⟩)] 31)).alloc (.cells #[.int .i64 0, .int .i64 0, .int .i64 0, .int .u64 0, .string ⟨#[]⟩] 77)).alloc (.cells #[.int .i64 0, .int .i64 0, .int .i64 0, .int .u64 0, .string ⟨#[]⟩] 77)).alloc (.cells #[.int .i64 0] 3)).alloc (.cells #[.bool false] 4)) 3 #[.int .i64 kind]
  have q6 := Blk.new ((((((w.alloc (.cells #[.pointer (some ⟨m, 0, none⟩)] 31)).alloc (.cells #[.int .i64 0, .int .i64 0, .int .i64 0, .int .u64 0, .string ⟨#[]⟩] 77)).alloc (.cells #[.int .i64 0, .int .i64 0, .int .i64 0, .int .u64 0, .string ⟨#[]⟩] 77)).alloc (.cells #[.int .i64 0] 3)).alloc (.cells #[.bool false] 4)).alloc (.cells #[.int .i64 kind] 3)) 31 #[.pointer (some ⟨m, 0, none⟩)]
  have q7 := Blk.new (((((((w.alloc (.cells #[.pointer (some ⟨m, 0, none⟩)] 31)).alloc (.cells #[.int .i64 0, .int .i64 0, .int .i64 0, .int .u64 0, .string ⟨#[]⟩] 77)).alloc (.cells #[.int .i64 0, .int .i64 0, .int .i64 0, .int .u64 0, .string ⟨#[]⟩] 77)).alloc (.cells #[.int .i64 0] 3)).alloc (.cells #[.bool false] 4)).alloc (.cells #[.int .i64 kind] 3)).alloc (.cells #[.pointer (some ⟨m, 0, none⟩)] 31)) 3 #[.int .i64 num]
  have q8 := Blk.new ((((((((w.alloc (.cells #[.pointer (some ⟨m, 0, none⟩)] 31)).alloc (.cells #[.int .i64 0, .int .i64 0, .int .i64 0, .int .u64 0, .string ⟨#[]⟩] 77)).alloc (.cells #[.int .i64 0, .int .i64 0, .int .i64 0, .int .u64 0, .string ⟨#[]⟩] 77)).alloc (.cells #[.int .i64 0] 3)).alloc (.cells #[.bool false] 4)).alloc (.cells #[.int .i64 kind] 3)).alloc (.cells #[.pointer (some ⟨m, 0, none⟩)] 31)).alloc (.cells #[.int .i64 num] 3)) 27 #[.slice (some ⟨w.heap.size + 1 + 1 + 1 + 1 + 1, 0, none⟩) 1 1]
  simp only [World.size_alloc] at q0 q1 q2 q3 q4 q5 q6 q7 q8
  replace q0 := (((((((q0.alloc (.cells #[.int .i64 0, .int .i64 0, .int .i64 0, .int .u64 0, .string ⟨#[]⟩] 77)).alloc (.cells #[.int .i64 0, .int .i64 0, .int .i64 0, .int .u64 0, .string ⟨#[]⟩] 77)).alloc (.cells #[.int .i64 0] 3)).alloc (.cells #[.bool false] 4)).alloc (.cells #[.int .i64 kind] 3)).alloc (.cells #[.pointer (some ⟨m, 0, none⟩)] 31)).alloc (.cells #[.int .i64 num] 3)).alloc (.cells #[.slice (some ⟨w.heap.size + 1 + 1 + 1 + 1 + 1, 0, none⟩) 1 1] 27)
  replace q1 := ((((((q1.alloc (.cells #[.int .i64 0, .int .i64 0, .int .i64 0, .int .u64 0, .string ⟨#[]⟩] 77)).alloc (.cells #[.int .i64 0] 3)).alloc (.cells #[.bool false] 4)).alloc (.cells #[.int .i64 kind] 3)).alloc (.cells #[.pointer (some ⟨m, 0, none⟩)] 31)).alloc (.cells #[.int .i64 num] 3)).alloc (.cells #[.slice (some ⟨w.heap.size + 1 + 1 + 1 + 1 + 1, 0, none⟩) 1 1] 27)
  replace q2 := (((((q2.alloc (.cells #[.int .i64 0] 3)).alloc (.cells #[.bool false] 4)).alloc (.cells #[.int .i64 kind] 3)).alloc (.cells #[.pointer (some ⟨m, 0, none⟩)] 31)).alloc (.cells #[.int .i64 num] 3)).alloc (.cells #[.slice (some ⟨w.heap.size + 1 + 1 + 1 + 1 + 1, 0, none⟩) 1 1] 27)
  replace q3 := ((((q3.alloc (.cells #[.bool false] 4)).alloc (.cells #[.int .i64 kind] 3)).alloc (.cells #[.pointer (some ⟨m, 0, none⟩)] 31)).alloc (.cells #[.int .i64 num] 3)).alloc (.cells #[.slice (some ⟨w.heap.size + 1 + 1 + 1 + 1 + 1, 0, none⟩) 1 1] 27)
  replace q4 := (((q4.alloc (.cells #[.int .i64 kind] 3)).alloc (.cells #[.pointer (some ⟨m, 0, none⟩)] 31)).alloc (.cells #[.int .i64 num] 3)).alloc (.cells #[.slice (some ⟨w.heap.size + 1 + 1 + 1 + 1 + 1, 0, none⟩) 1 1] 27)
  replace q5 := ((q5.alloc (.cells #[.pointer (some ⟨m, 0, none⟩)] 31)).alloc (.cells #[.int .i64 num] 3)).alloc (.cells #[.slice (some ⟨w.heap.size + 1 + 1 + 1 + 1 + 1, 0, none⟩) 1 1] 27)
  replace q6 := (q6.alloc (.cells #[.int .i64 num] 3)).alloc (.cells #[.slice (some ⟨w.heap.size + 1 + 1 + 1 + 1 + 1, 0, none⟩) 1 1] 27)
  replace q7 := q7.alloc (.cells #[.slice (some ⟨w.heap.size + 1 + 1 + 1 + 1 + 1, 0, none⟩) 1 1] 27)
  have hsz : (((((((((w.alloc (.cells #[.pointer (some ⟨m, 0, none⟩)] 31)).alloc (.cells #[.int .i64 0, .int .i64 0, .int .i64 0, .int .u64 0, .string ⟨#[]⟩] 77)).alloc (.cells #[.int .i64 0, .int .i64 0, .int .i64 0, .int .u64 0, .string ⟨#[]⟩] 77)).alloc (.cells #[.int .i64 0] 3)).alloc (.cells #[.bool false] 4)).alloc (.cells #[.int .i64 kind] 3)).alloc (.cells #[.pointer (some ⟨m, 0, none⟩)] 31)).alloc (.cells #[.int .i64 num] 3)).alloc (.cells #[.slice (some ⟨w.heap.size + 1 + 1 + 1 + 1 + 1, 0, none⟩) 1 1] 27)).heap.size = w.heap.size + 9 := by simp
  have hb0 : Below w.heap.size w (((((((((w.alloc (.cells #[.pointer (some ⟨m, 0, none⟩)] 31)).alloc (.cells #[.int .i64 0, .int .i64 0, .int .i64 0, .int .u64 0, .string ⟨#[]⟩] 77)).alloc (.cells #[.int .i64 0, .int .i64 0, .int .i64 0, .int .u64 0, .string ⟨#[]⟩] 77)).alloc (.cells #[.int .i64 0] 3)).alloc (.cells #[.bool false] 4)).alloc (.cells #[.int .i64 kind] 3)).alloc (.cells #[.pointer (some ⟨m, 0, none⟩)] 31)).alloc (.cells #[.int .i64 num] 3)).alloc (.cells #[.slice (some ⟨w.heap.size + 1 + 1 + 1 + 1 + 1, 0, none⟩) 1 1] 27)) := by
    refine (((((((((Below.refl _ w).alloc ?_ _).alloc ?_ _).alloc ?_ _).alloc ?_ _).alloc ?_ _).alloc ?_ _).alloc ?_ _).alloc ?_ _).alloc ?_ _ <;> simp <;> omega
  rw [hW] at q0 q1 q2 q3 q4 q5 q6 q7 q8 hsz hb0 ⊢
  clear hW
  have hL0 : LI w.heap.size m w (es := es) [] W0 := ⟨q0, q1, q2, q3, q4, hb0, by omega⟩
  have hS0 : SeqIn (SLast w.heap.size) W0 (w.heap.size + 1 + 1 + 1 + 1 + 1 + 1) (w.heap.size + 1 + 1 + 1 + 1 + 1 + 1 + 1) (w.heap.size + 1 + 1 + 1 + 1 + 1 + 1 + 1 + 1) m num (w.heap.size + 1 + 1 + 1 + 1 + 1) 1 [kind] af cf l := by
    refine ⟨.inr (by omega), .inr (by omega), .inr (by omega), .inl hml, .inr (by omega), q6.cell 0, q7.cell 0, q8.cell 0, ?_, (hb0.cell (p := ⟨m, 0, none⟩) hml).trans c0, (hb0.cell (p := ⟨m, 1, none⟩) hml).trans c1, ?_⟩
    · intro j hj
      match j, hj with
      | 0, _ => exact q5.cell 0
    · intro i q hq
      obtain ⟨g, h1, h2, h3⟩ := hF i q hq
      exact ⟨g, h1, .inl h2, fun j u hu => (hb0.cell (p := ⟨g, i * 5 + j, none⟩) h2).trans (h3 j u hu)⟩
  have HC2 := Lib.hid c2
  clear q0 q1 q2 q3 q4 q5 q6 q7 q8 hb0 c0 c1 c2 hF
  refine wpIn_rangeFunc_ownH rfl h1 (gf := 57) (lb := #[.pointer (some ⟨w.heap.size + 1 + 1 + 1 + 1 + 1 + 1, 0, none⟩), .pointer (some ⟨w.heap.size + 1 + 1 + 1 + 1 + 1 + 1 + 1, 0, none⟩), .pointer (some ⟨w.heap.size + 1 + 1 + 1 + 1 + 1 + 1 + 1 + 1, 0, none⟩)]) rfl trivial (enters_of Try.func57 (by kernel_rfl) rfl)
    (seq_stops (fun x : LA es => x.1) xs (n - 1) (by omega) (SLast w.heap.size) _ _ _ m num _ 1 [kind] af cf l hl (by simp) hxs W0 hS0 (fun g hg => by rcases hg with h | h <;> omega)) KeepS.trans (fun W l' o o' _ h hc _ => KeepS.b W l' o o' h hc) (Below.refl _ _) (fun x => rfl)
    (fun pre W => LI w.heap.size m w pre W)
    (fun c pre W => False)
    (li_own w.heap.size m w es _ (by omega))
    (fun c => ?ix)
    hL0
    (fun x a' W => ∃ Bf, w.heap.size + 9 ≤ Bf ∧ Blk W Bf 77 #[.int .i64 x.1.2.1.num, .int .i64 x.1.2.1.kind, .int .i64 (x.1.2.2 : Int), .int .u64 x.1.2.1.val, .string x.1.2.1.data] ∧ a' = { tmps := #[.pointer (some ⟨m, 0, none⟩), .int .i64 num, .int .i64 kind, .pointer (some ⟨w.heap.size, 0, none⟩), undef, undef, .pointer (some ⟨w.heap.size + 1, 0, none⟩), .int .i64 0, .bool false, .pointer (some ⟨w.heap.size + 1 + 1, 0, none⟩), .pointer (some ⟨w.heap.size + 1 + 1 + 1, 0, none⟩), .pointer (some ⟨w.heap.size + 1 + 1 + 1 + 1, 0, none⟩), .int .i64 (x.1.1 : Int), .pointer (some ⟨Bf, 0, none⟩), .pointer (some ⟨m, 0, none⟩), .int .i64 num, .int .i64 kind, .slice (some ⟨w.heap.size + 1 + 1 + 1 + 1 + 1, 0, none⟩) 1 1, .func (.func 57) #[] #[.pointer (some ⟨w.heap.size + 1 + 1 + 1 + 1 + 1 + 1, 0, none⟩), .pointer (some ⟨w.heap.size + 1 + 1 + 1 + 1 + 1 + 1 + 1, 0, none⟩), .pointer (some ⟨w.heap.size + 1 + 1 + 1 + 1 + 1 + 1 + 1 + 1, 0, none⟩)], .int .i64 (x.1.1 : Int), fdV x.1.2.1 (x.1.2.2 : Int), undef, undef, undef, undef, undef, undef, undef, undef, undef, undef, undef, undef, undef, undef, undef], defers := [] })
    (fun x a' _ X Y row hs hg hr => by
      obtain ⟨Bf, h1, h3, h5⟩ := hs
      exact ⟨Bf, h1, blk_own _ _ _ () X Y row h3 hg (fun r e => (hr r e).2), h5⟩)
    ?assign ?body ?done ?stop
  case ix => exact fun pre X Y row h _ _ => h
  case assign =>
    rintro lp pre x W K hI hK
    have hlt := hI.h
    dsimp only [margs, fdV] at hK ⊢
    gi_wp2
    exact hK _ _ ((KeepsOthers.alloc _ _).from _) (KeepS.alloc _ _) ((li_own w.heap.size m w es _ (Nat.le_refl _)).alloc _ hI) ⟨W.heap.size, by omega, Blk.new W _ _, rfl⟩
  case body =>
    rintro lp pre x a' W hlp ⟨rr, hrr⟩ hI ⟨Bf, hBf, bF, rfl⟩ hlt
    obtain ⟨g1, g2, g3⟩ := x.2
    obtain ⟨ge, rfl, hge, hce⟩ := HE.out x.1.1 g1
    have hce' := (hI.b.cell (p := ⟨ge, x.1.1, none⟩) hge).trans hce
    have hm2 := (hI.b.cell (p := ⟨m, 2, none⟩) hml).trans HC2.out
    dsimp only [fdV]
    obtain ⟨dz, hdz⟩ : ∃ dz : Int, ((x.1.2.1.data.size : Nat) : Int) = dz := ⟨_, rfl⟩
    have hat : IntKind.i64.wrap (((es.getD x.1.1 0 : Nat) : Int) - dz) = ((es.getD x.1.1 0 - x.1.2.1.data.size : Nat) : Int) := by
      rw [IntWalk.i64_in _ ⟨by omega, by omega⟩]; omega
    have hK := hI.told (lcs_form pre) (.int .i64 x.1.2.1.num) (.int .i64 x.1.2.1.kind) (.int .i64 (x.1.2.2 : Int)) (.int .u64 x.1.2.1.val) (.string x.1.2.1.data) ((es.getD x.1.1 0 - x.1.2.1.data.size : Nat) : Int)
    have HK := Lib.hid hK
    have HI := Lib.hid hI
    have e1 : lcs (pre ++ [x]) = #[.int .i64 x.1.2.1.num, .int .i64 x.1.2.1.kind, .int .i64 (x.1.2.2 : Int), .int .u64 x.1.2.1.val, .string x.1.2.1.data] := by unfold lcs; simp
    have e2 : lat (pre ++ [x]) = ((es.getD x.1.1 0 - x.1.2.1.data.size : Nat) : Int) := by unfold lat; simp
    have e3 : lok (pre ++ [x]) = true := by unfold lok; simp
    have He := Lib.hid (And.intro e1 (And.intro e2 e3))
    have Hat := Lib.hid hat
    have Hdz := Lib.hid hdz
    clear hrr hK hI hat hdz e1 e2 e3
    gi_wp2_with fail
    obtain ⟨Y0, Y1, Y2, Y3, Y4, hY⟩ := lcs_form pre
    have ho := HI.out.o
    rw [hY] at ho
    refine round_tell _ _ _ W Bf (w.heap.size) m ge x.1.1 es.length ce (w.heap.size + 1 + 1) (w.heap.size + 1 + 1 + 1) (w.heap.size + 1 + 1 + 1 + 1) (x.1.1 : Int) _ _ _ _ _ dz _ _ (.int .i64 Y0) (.int .i64 Y1) (.int .i64 Y2) (.int .u64 Y3) (.string Y4) _ _ rfl (by omega) (by omega) Hdz Hat _ _ _ _ _ _ _ _ _ _ _ _ _ _ _ _ _ _ bF HI.out.r3 hm2 hce' ho HI.out.a HI.out.k (by omega) (by omega) (by omega) (by omega) (by omega) (by omega) (by omega) ?_
    clear ho hY
    revert HK
    generalize (((((((W.drew.setCell ⟨w.heap.size + 2, 0, none⟩ (.int .i64 x.1.2.1.num)).setCell ⟨w.heap.size + 2, 1, none⟩ (.int .i64 x.1.2.1.kind)).setCell ⟨w.heap.size + 2, 2, none⟩ (.int .i64 (x.1.2.2 : Int))).setCell ⟨w.heap.size + 2, 3, none⟩ (.int .u64 x.1.2.1.val)).setCell ⟨w.heap.size + 2, 4, none⟩ (.string x.1.2.1.data)).setCell ⟨w.heap.size + 3, 0, none⟩ (.int .i64 ((es.getD x.1.1 0 - x.1.2.1.data.size : Nat) : Int))).setCell ⟨w.heap.size + 4, 0, none⟩ (.bool true)) = WX
    intro HK
    gi_wp2
    refine ⟨HK.out.2.2.from _, HK.out.2.1, ?_⟩
    show LSt _ _ _ (lcs (pre ++ [x])) (lat (pre ++ [x])) (lok (pre ++ [x])) _
    rw [He.out.1, He.out.2.1, He.out.2.2]
    exact HK.out.1
  case done =>
    rintro D ys W hD hys hI hK
    subst hys
    obtain ⟨X0, X1, X2, X3, XS, hX⟩ := lcs_form ys
    obtain ⟨z, hz⟩ : ∃ z, lat ys = z := ⟨_, rfl⟩
    obtain ⟨ok, hok⟩ : ∃ ok, lok ys = ok := ⟨_, rfl⟩
    have hL : LSt w.heap.size m w #[.int .i64 X0, .int .i64 X1, .int .i64 X2, .int .u64 X3, .string XS] z ok W := by rw [← hX, ← hz, ← hok]; exact hI
    have HE2 := Lib.hid (And.intro hX (And.intro hz hok))
    have e20 : W.cell? ⟨w.heap.size + 1 + 1, 0, none⟩ = some (.int .i64 X0) := hL.o.cell 0
    have e21 : W.cell? ⟨w.heap.size + 1 + 1, 1, none⟩ = some (.int .i64 X1) := hL.o.cell 1
    have e22 : W.cell? ⟨w.heap.size + 1 + 1, 2, none⟩ = some (.int .i64 X2) := hL.o.cell 2
    have e23 : W.cell? ⟨w.heap.size + 1 + 1, 3, none⟩ = some (.int .u64 X3) := hL.o.cell 3
    have e24 : W.cell? ⟨w.heap.size + 1 + 1, 4, none⟩ = some (.string XS) := hL.o.cell 4
    have e3 : W.cell? ⟨w.heap.size + 1 + 1 + 1, 0, none⟩ = some (.int .i64 z) := hL.a.cell 0
    have e4 : W.cell? ⟨w.heap.size + 1 + 1 + 1 + 1, 0, none⟩ = some (.bool ok) := hL.k.cell 0
    have e10 := hL.r6.cell 0; have e11 := hL.r6.cell 1; have e12 := hL.r6.cell 2; have e13 := hL.r6.cell 3; have e14 := hL.r6.cell 4
    have f10 := hL.r6.frozen 0; have f11 := hL.r6.frozen 1; have f12 := hL.r6.frozen 2; have f13 := hL.r6.frozen 3; have f14 := hL.r6.frozen 4
    simp only [List.getElem?_toArray, List.getElem?_cons_zero, List.getElem?_cons_succ] at e10 e11 e12 e13 e14
    have hf := five W (w.heap.size + 1) _ _ _ _ _ hL.r6 (.int .i64 X0) (.int .i64 X1) (.int .i64 X2) (.int .u64 X3) (.string XS)
    have HX1 := Lib.hid hf.1
    have HX2 := Lib.hid (hf.2.1 w.heap.size w (by omega) hL.b)
    have HDe := Lib.hid (hf.2.2.2 D _ hK rfl)
    clear hf hL hI hK hX hz hok
    gi_wp2_with fail
    refine wpIn_wide.2 ?_
    go_region
    all_goals
      clear e20 e21 e22 e23 e24 e3 e4 e10 e11 e12 e13 e14 f10 f11 f12 f13 f14
      gi_wp2
      refine ⟨by simp, .inl ⟨_, _, rfl, run_takeDeferred HDe.out, ?_⟩⟩
      exact ⟨_, results_last _ (w.heap.size + 1) X0 X1 X2 X3 XS z ok _ rfl rfl rfl (HX1.out.putD HDe.out rfl), (by unfold lV; rw [HE2.out.1, HE2.out.2.1, HE2.out.2.2]), HX2.out.trans (belowK_b (w := w) (Nat.le_refl _) _ D _ _ (by omega) HDe.out rfl rfl)⟩
  case stop =>
    rintro D c pre W hD hpre hf hK
    exact hf.elim
theorem last_any (B m : Nat) (l : List (Fd × Nat)) (es : List Nat) (c : Int) (num kind : Int) (xs : List (LA es)) (hl : l.length ≤ 100000) (hxs : xs.map (·.1) = mtell num [kind] 0 l) (w : World) (hm : IsMsg B m w l es c) :
    Calls Try.prog 46 #[.pointer (some ⟨m, 0, none⟩), .int .i64 num, .int .i64 kind] w (GaveV (.tuple #[lV xs, .int .i64 (lat xs), .bool (lok xs)]) w) := callsIn_wide.1 (last_in 4 (Nat.le_refl _) B m l es c num kind xs hl hxs w hm)
set_option maxRecDepth 100000 in
set_option maxHeartbeats 1000000 in
/-- The last text, where there is one. -/
theorem text_some (B m : Nat) (l : List (Fd × Nat)) (es : List Nat) (c : Int) (num : Int) (xs : List (LA es)) (x : LA es) (hl : l.length ≤ 100000) (hxs : xs.map (·.1) = mtell num [2] 0 l) (hx : xs.getLast? = some x) (w : World) (hm : IsMsg B m w l es c) :
    Calls Try.prog 27 #[.pointer (some ⟨m, 0, none⟩), .int .i64 num] w (GaveV (.tuple #[.string x.1.2.1.data, .int .i64 ((es.getD x.1.1 0 - x.1.2.1.data.size : Nat) : Int), .bool true]) w) := by
  have HL := last_any B m l es c num 2 xs hl hxs w hm
  have e1 : lV xs = .agg #[.int .i64 x.1.2.1.num, .int .i64 x.1.2.1.kind, .int .i64 (x.1.2.2 : Int), .int .u64 x.1.2.1.val, .string x.1.2.1.data] := by unfold lV lcs; rw [hx]
  have e2 : lat xs = ((es.getD x.1.1 0 - x.1.2.1.data.size : Nat) : Int) := by unfold lat; rw [hx]
  have e3 : lok xs = true := by unfold lok; rw [hx]
  rw [e1, e2, e3] at HL
  have H := Lib.hid HL
  clear HL e1 e2 e3 hm hxs hx
  go_enter Try.func27, Try.ntmps27
  go_wp2_with fail
  refine H.out.mono ?_
  rintro e w1 ⟨rfl, hb⟩
  have Hb := Lib.hid hb
  clear hb
  go_wp2
  go_ret3
  exact ⟨rfl, Hb.out.alloc Hb.out.size _⟩
end Go.Proofs.Ytbkcklefkhlciaa
