/-
  Floats: all patterns of a message that were put packed.
-/
import Derived.Test.YtbkcklefkhlciaaMintsT
import Derived.Test.YtbkcklefkhlciaaMpat
namespace Go.Proofs.Ytbkcklefkhlciaa
open Go.RowKit Go.Shelf
attribute [local go_sem] Oper.semAt_some
set_option linter.unusedVariables false
/-- A field of packed patterns, and these. -/
def FG (x : (Nat × (Fd × Nat)) × List Nat) : Prop := x.1.2.1.kind = 2 ∧ x.1.2.1.data = fbs x.2 ∧ (∀ z ∈ x.2, z < 4294967296) ∧ x.2.length ≤ 6000
abbrev FA := { x : (Nat × (Fd × Nat)) × List Nat // FG x }
def fraw (x : FA) : Nat × (Fd × Nat) := x.1.1
def fvals (l : List FA) : List Nat := l.flatMap (fun x => x.1.2)
theorem fvals_snoc (l : List FA) (x : FA) : fvals (l ++ [x]) = fvals l ++ x.1.2 := by unfold fvals; simp
theorem fvals_len (l : List FA) : (fvals l).length ≤ 6000 * l.length := by
  induction l with
  | nil => exact Nat.le_refl _
  | cons x r ih =>
    have := x.2.2.2.2
    unfold fvals at *
    simp only [List.flatMap_cons, List.length_append, List.length_cons]
    omega
theorem lit_fbs (u : Nat) (r : List Nat) (hu : u < 4294967296) : lit ((fbs (u :: r)).data.toList.take 4) = u := by
  have hl : ((fx u 4).map UInt8.ofNat).length = 4 := by simp [fx_length]
  simp only [fbs]
  rw [list_app, txt_list, List.take_append_of_le_length (by rw [hl]; exact Nat.le_refl _), List.take_of_length_le (by rw [hl]; exact Nat.le_refl _), fx_lit]
  exact Nat.mod_eq_of_lt hu
theorem ur_own {w : World} {b n c : Nat} {a : Option Addr} {zs : List Nat} (h : w.ownsRow b 25 1 (.slice a n c) n (zs.map uv)) (hn : n = zs.length) : UR w a zs := by
  intro i hi
  obtain ⟨g, cap, hv, _, hlt⟩ := h.form (by omega)
  have hA : a = some ⟨g, 0, none⟩ := by injection hv
  subst hA
  refine ⟨_, rfl, hlt, ?_⟩
  have := h.cells (g := g) rfl i (uv (zs.getD i 0)) (by rw [List.getElem?_map, List.getElem?_eq_getElem hi, List.getD_eq_getElem?_getD, List.getElem?_eq_getElem hi]; rfl)
  exact this
structure FSt (n : Nat) (w : World) (zs : List Nat) (v : Value) (W : World) : Prop where
  o : Blk W (n + 2) 28 #[v]
  own : W.ownsRow (n + 7) 25 1 v zs.length (zs.map uv)
  r1 : Blk W n 28 #[.slice none 0 0]
  r2 : Blk W (n + 1) 60 #[.int .i64 0, .int .i64 0, .string ⟨#[]⟩]
  b : Below n w W
  h : n + 7 ≤ W.heap.size
def FI (n : Nat) (w : World) (l : List FA) (W : World) : Prop := ∃ v, FSt n w (fvals l) v W
theorem FSt.kept {n : Nat} {w W W' : World} {zs : List Nat} {v : Value} {row : Option Nat} (h : FSt n w zs v W) (hg : W.grownBy W' row) (hr : ∀ r, row = some r → n ≤ r ∧ ∃ o : Obj, W.heap[r]? = some o ∧ o.isCells = false) : FSt n w zs v W' :=
  have hr' : ∀ r, row = some r → ∃ o : Obj, W.heap[r]? = some o ∧ o.isCells = false := fun r e => (hr r e).2
  ⟨blk_keep h.o hg hr', own_keep h.own hg hr', blk_keep h.r1 hg hr', blk_keep h.r2 hg hr', h.b.grown hg (by have := h.h; omega) (fun k e => (hr k e).1), Nat.le_trans h.h hg.size⟩
theorem fi_own (n : Nat) (w : World) (B : Nat) (hB : n ≤ B) : OwnFrom B (FI n w) := by
  intro pre W W' row ⟨v, h⟩ hg hr
  exact ⟨v, h.kept hg (fun r e => ⟨Nat.le_trans hB (hr r e).1, (hr r e).2⟩)⟩
theorem FSt.drew {n : Nat} {w W : World} {zs : List Nat} {v : Value} (h : FSt n w zs v W) : FSt n w zs v W.drew := ⟨h.o, h.own, h.r1, h.r2, ⟨h.b.os, h.b.tape, h.b.output, h.b.size, h.b.block⟩, h.h⟩
/-- One number more: what holds behind the append, and behind the store. -/
theorem FSt.push {n : Nat} {w W W' : World} {zs : List Nat} {v : Value} {z : Nat} {va : Option Addr} {vn vc : Nat} (h : FSt n w zs v W) (own' : W'.ownsRow (n + 7) 25 1 (.slice va vn vc) (zs.length + 1) (zs.map uv ++ [uv z])) (gr : (W.alloc (.cells #[uv z] 25)).grownBy W' v.ownBlock) :
    Blk W' (n + 2) 28 #[v] ∧ FSt n w (zs ++ [z]) (.slice va vn vc) (W'.setCell ⟨n + 2, 0, none⟩ (.slice va vn vc)) ∧ KeepS (SInt n) W (W'.setCell ⟨n + 2, 0, none⟩ (.slice va vn vc)) ∧ KeepsOthers W (W'.setCell ⟨n + 2, 0, none⟩ (.slice va vn vc)) := by
  have hn : ∀ g, n + 7 ≤ g → ¬ SInt n g := fun g hg hs => by rcases hs with h | h <;> omega
  have hne : ∀ g, g < n + 7 → v.ownBlock ≠ some g := fun g hg e => by have := (h.own.lt _ e).1; omega
  have ho := blk_app1 h.o h.own (hne _ (by omega)) gr
  have own2 : W'.ownsRow (n + 7) 25 1 (.slice va vn vc) (zs ++ [z]).length ((zs ++ [z]).map uv) := by
    rw [List.map_append, List.length_append]; exact own'
  refine ⟨ho, ⟨ho.set_ 0 _, own_set own2 ho (by decide) 0 _, (blk_app1 h.r1 h.own (hne _ (by omega)) gr).far (p := ⟨n + 2, 0, none⟩) (by simp) _, (blk_app1 h.r2 h.own (hne _ (by omega)) gr).far (p := ⟨n + 2, 0, none⟩) (by simp) _, ?_, ?_⟩, ?_, ?_⟩
  · refine (((h.b.alloc (by have := h.h; omega) _).grown gr (by have := h.h; simp; omega) (fun k hk => by have := (h.own.lt k hk).1; omega))).setCell (p := ⟨n + 2, 0, none⟩) (by simp) _
  · have := gr.size; have := h.h; simp at *; omega
  · exact (row_keep h.own hn gr).trans (KeepS.set _ _ _ (fun hs => by rcases hs with h | h <;> omega))
  · exact (((KeepsOthers.alloc W _).trans (KeepsOthers.of_grownBy gr (own_cells (h.own.alloc _)))).trans (KeepsOthers.setCell _ _ _))
theorem results_flts (V : World) (R1 R2 k vc : Nat) (va : Option Addr) (c q : Int) (tmps : Array Value) (h2 : tmps.getD 4 undef = .pointer (some ⟨R1, 0, none⟩)) (h3 : tmps.getD 5 undef = .pointer (some ⟨R2, 0, none⟩))
    (p1 : Blk V R1 28 #[.slice va k vc]) (p2 : Blk V R2 60 #[.int .i64 c, .int .i64 q, .string ⟨#[]⟩]) :
    (results Try.f29 tmps).run Try.prog V = .ok (.tuple #[.slice va k vc, .agg #[.int .i64 c, .int .i64 q, .string ⟨#[]⟩]]) V := by
  have c1 := p1.cell 0
  have g20 := p2.cell 0; have g21 := p2.cell 1; have g22 := p2.cell 2
  simp only [List.getElem?_toArray, List.getElem?_cons_zero, List.getElem?_cons_succ] at c1 g20 g21 g22
  simp only [Array.getD_eq_getD_getElem?] at h2 h3
  simp [results, Try.f29, go_sem, h2, h3, c1, g20, g21, g22]
structure FRet (n : Nat) (w : World) (zs : List Nat) (v : Value) (V V' : World) : Prop where
  own : V'.ownsRow (n + 7) 25 1 v zs.length (zs.map uv)
  r1 : Blk V' n 28 #[v]
  r2 : Blk V' (n + 1) 60 #[.int .i64 0, .int .i64 0, .string ⟨#[]⟩]
  b : Below n w V'
  d : ∀ (D : Nat) (o : Obj), V.heap[D]? = some o → o.isCells = false → V'.heap[D]? = some o
theorem FSt.ret {n : Nat} {w V : World} {zs : List Nat} {v : Value} (h : FSt n w zs v V) :
    FRet n w zs v V ((((V.setCell ⟨n, 0, none⟩ v).setCell ⟨n + 1, 0, none⟩ (.int .i64 0)).setCell ⟨n + 1, 1, none⟩ (.int .i64 0)).setCell ⟨n + 1, 2, none⟩ (.string ⟨#[]⟩)) := by
  have r2a := h.r2.far (p := ⟨n, 0, none⟩) (by simp) v
  have r2b := r2a.set_ 0 (.int .i64 0)
  have r2c := r2b.set_ 1 (.int .i64 0)
  have r1a := h.r1.set_ 0 v
  refine ⟨own_set (own_set (own_set (own_set h.own h.r1 (by decide) 0 _) r2a (by decide) 0 _) r2b (by decide) 1 _) r2c (by decide) 2 _,
    ((r1a.far (p := ⟨n + 1, 0, none⟩) (by simp) _).far (p := ⟨n + 1, 1, none⟩) (by simp) _).far (p := ⟨n + 1, 2, none⟩) (by simp) _, r2c.set_ 2 _,
    (((h.b.setCell (p := ⟨n, 0, none⟩) (by simp) _).setCell (p := ⟨n + 1, 0, none⟩) (by simp) _).setCell (p := ⟨n + 1, 1, none⟩) (by simp) _).setCell (p := ⟨n + 1, 2, none⟩) (by simp) _, ?_⟩
  intro D o hD ho
  have q := (((KeepsOthers.setCell V ⟨n, 0, none⟩ v).trans (KeepsOthers.setCell _ ⟨n + 1, 0, none⟩ (.int .i64 0))).trans (KeepsOthers.setCell _ ⟨n + 1, 1, none⟩ (.int .i64 0))).trans (KeepsOthers.setCell _ ⟨n + 1, 2, none⟩ (.string ⟨#[]⟩))
  exact q.2 D o hD ho
theorem flt_start (w : World) (m : Nat) (num : Int) (l : List (Fd × Nat)) (af : Option Addr) (cf : Nat) (hml : m < w.heap.size) (c0 : w.cell? ⟨m, 0, none⟩ = some (.bool true)) (c1 : w.cell? ⟨m, 1, none⟩ = some (.slice af l.length cf)) (hF : FHolds w af l) (W0 : World)
    (hW : ((((((w.alloc (.cells #[.slice none 0 0] 28)).alloc (.cells #[.int .i64 0, .int .i64 0, .string ⟨#[]⟩] 60)).alloc (.cells #[.slice none 0 0] 28)).alloc (.cells #[.int .i64 5, .int .i64 2] 3)).alloc (.cells #[.pointer (some ⟨m, 0, none⟩)] 31)).alloc (.cells #[.int .i64 num] 3)).alloc (.cells #[.slice (some ⟨w.heap.size + 1 + 1 + 1, 0, none⟩) 2 2] 27) = W0) :
    FSt w.heap.size w [] (.slice none 0 0) W0 ∧ SeqIn (SInt w.heap.size) W0 (w.heap.size + 1 + 1 + 1 + 1) (w.heap.size + 1 + 1 + 1 + 1 + 1) (w.heap.size + 1 + 1 + 1 + 1 + 1 + 1) m num (w.heap.size + 1 + 1 + 1) 2 [5, 2] af cf l ∧ W0.heap.size = w.heap.size + 7 := by
  have q0 := Blk.new w 28 #[.slice none 0 0]
  have q1 := Blk.new (w.alloc (.cells #[.slice none 0 0] 28)) 60 #[.int .i64 0, .int .i64 0, .string ⟨#[]⟩]
  have q2 := Blk.new ((w.alloc (.cells #[.slice none 0 0] 28)).alloc (.cells #[.int .i64 0, .int .i64 0, .string ⟨#[]⟩] 60)) 28 #[.slice none 0 0]
  have q3 := Blk.new (((w.alloc (.cells #[.slice none 0 0] 28)).alloc (.cells #[.int .i64 0, .int .i64 0, .string ⟨#[]⟩] 60)).alloc (.cells #[.slice none 0 0] 28)) 3 #[.int .i64 5, .int .i64 2]
  have q4 := Blk.new ((((w.alloc (.cells #[.slice none 0 0] 28)).alloc (.cells #[.int .i64 0, .int .i64 0, .string ⟨#[]⟩] 60)).alloc (.cells #[.slice none 0 0] 28)).alloc (.cells #[.int .i64 5, .int .i64 2] 3)) 31 #[.pointer (some ⟨m, 0, none⟩)]
  have q5 := Blk.new (((((w.alloc (.cells #[.slice none 0 0] 28)).alloc (.cells #[.int .i64 0, .int .i64 0, .string ⟨#[]⟩] 60)).alloc (.cells #[.slice none 0 0] 28)).alloc (.cells #[.int .i64 5, .int .i64 2] 3)).alloc (.cells #[.pointer (some ⟨m, 0, none⟩)] 31)) 3 #[.int .i64 num]
  have q6 := Blk.new ((((((w.alloc (.cells #[.slice none 0 0] 28)).alloc (.cells #[.int .i64 0, .int .i64 0, .string ⟨#[]⟩] 60)).alloc (.cells #[.slice none 0 0] 28)).alloc (.cells #[.int .i64 5, .int .i64 2] 3)).alloc (.cells #[.pointer (some ⟨m, 0, none⟩)] 31)).alloc (.cells #[.int .i64 num] 3)) 27 #[.slice (some ⟨w.heap.size + 1 + 1 + 1, 0, none⟩) 2 2]
  simp only [World.size_alloc] at q0 q1 q2 q3 q4 q5 q6
  replace q0 := (((((q0.alloc (.cells #[.int .i64 0, .int .i64 0, .string ⟨#[]⟩] 60)).alloc (.cells #[.slice none 0 0] 28)).alloc (.cells #[.int .i64 5, .int .i64 2] 3)).alloc (.cells #[.pointer (some ⟨m, 0, none⟩)] 31)).alloc (.cells #[.int .i64 num] 3)).alloc (.cells #[.slice (some ⟨w.heap.size + 1 + 1 + 1, 0, none⟩) 2 2] 27)
  replace q1 := ((((q1.alloc (.cells #[.slice none 0 0] 28)).alloc (.cells #[.int .i64 5, .int .i64 2] 3)).alloc (.cells #[.pointer (some ⟨m, 0, none⟩)] 31)).alloc (.cells #[.int .i64 num] 3)).alloc (.cells #[.slice (some ⟨w.heap.size + 1 + 1 + 1, 0, none⟩) 2 2] 27)
  replace q2 := (((q2.alloc (.cells #[.int .i64 5, .int .i64 2] 3)).alloc (.cells #[.pointer (some ⟨m, 0, none⟩)] 31)).alloc (.cells #[.int .i64 num] 3)).alloc (.cells #[.slice (some ⟨w.heap.size + 1 + 1 + 1, 0, none⟩) 2 2] 27)
  replace q3 := ((q3.alloc (.cells #[.pointer (some ⟨m, 0, none⟩)] 31)).alloc (.cells #[.int .i64 num] 3)).alloc (.cells #[.slice (some ⟨w.heap.size + 1 + 1 + 1, 0, none⟩) 2 2] 27)
  replace q4 := (q4.alloc (.cells #[.int .i64 num] 3)).alloc (.cells #[.slice (some ⟨w.heap.size + 1 + 1 + 1, 0, none⟩) 2 2] 27)
  replace q5 := q5.alloc (.cells #[.slice (some ⟨w.heap.size + 1 + 1 + 1, 0, none⟩) 2 2] 27)
  have hsz : (((((((w.alloc (.cells #[.slice none 0 0] 28)).alloc (.cells #[.int .i64 0, .int .i64 0, .string ⟨#[]⟩] 60)).alloc (.cells #[.slice none 0 0] 28)).alloc (.cells #[.int .i64 5, .int .i64 2] 3)).alloc (.cells #[.pointer (some ⟨m, 0, none⟩)] 31)).alloc (.cells #[.int .i64 num] 3)).alloc (.cells #[.slice (some ⟨w.heap.size + 1 + 1 + 1, 0, none⟩) 2 2] 27)).heap.size = w.heap.size + 7 := by simp
  have hb : Below w.heap.size w (((((((w.alloc (.cells #[.slice none 0 0] 28)).alloc (.cells #[.int .i64 0, .int .i64 0, .string ⟨#[]⟩] 60)).alloc (.cells #[.slice none 0 0] 28)).alloc (.cells #[.int .i64 5, .int .i64 2] 3)).alloc (.cells #[.pointer (some ⟨m, 0, none⟩)] 31)).alloc (.cells #[.int .i64 num] 3)).alloc (.cells #[.slice (some ⟨w.heap.size + 1 + 1 + 1, 0, none⟩) 2 2] 27)) := by
    refine ((((((((Below.refl _ w).alloc ?_ _).alloc ?_ _).alloc ?_ _).alloc ?_ _).alloc ?_ _).alloc ?_ _).alloc ?_ _) <;> simp <;> omega
  rw [hW] at q0 q1 q2 q3 q4 q5 q6 hsz hb
  refine ⟨⟨q2, World.ownsRow_nil _ _ _ _, q0, q1, hb, by omega⟩, ⟨.inr (by omega), .inr (by omega), .inr (by omega), .inl hml, .inr (by omega), q4.cell 0, q5.cell 0, q6.cell 0, ?_, (hb.cell (p := ⟨m, 0, none⟩) hml).trans c0, (hb.cell (p := ⟨m, 1, none⟩) hml).trans c1, ?_⟩, hsz⟩
  · intro j hj
    match j, hj with
    | 0, _ => exact q3.cell 0
    | 1, _ => exact q3.cell 1
  · intro i p hp
    obtain ⟨g, h1, h2, h3⟩ := hF i p hp
    exact ⟨g, h1, .inl h2, fun j u hu => (hb.cell (p := ⟨g, i * 5 + j, none⟩) h2).trans (h3 j u hu)⟩
def FltsIs (zs : List Nat) (w : World) (e : Ending) (w' : World) : Prop := ∃ a c, e = .returned (.tuple #[.slice a zs.length c, .agg #[.int .i64 0, .int .i64 0, .string ⟨#[]⟩]]) ∧ UR w' a zs ∧ (zs ≠ [] → ∃ g, a = some ⟨g, 0, none⟩) ∧ Below w.heap.size w w'
set_option maxRecDepth 100000 in
set_option maxHeartbeats 4000000 in
theorem flts_in (n : Nat) (hn : 4 ≤ n) (B m : Nat) (l : List (Fd × Nat)) (es : List Nat) (num : Int) (xs : List FA) (hl : l.length ≤ 100000) (hxs : xs.map fraw = mtell num [5, 2] 0 l) (htot : (fvals xs).length ≤ 100000) (w : World) (hm : IsMsg B m w l es 0) :
    CallsIn Fence.wide n Try.prog 29 #[.pointer (some ⟨m, 0, none⟩), .int .i64 num] w (FltsIs (fvals xs) w) := by
  have h1 : 1 ≤ n := by omega
  obtain ⟨af, cf, ae, ce, c0, c1, c2, c3, hf, he⟩ := hm.cells
  have hml := hm.lt
  have hF : FHolds w af l := fholds_own (n := l.length) hf rfl
  clear hf he c2 c3 hm
  refine callsIn_of_wp_marks Try.func29 rfl trivial ?_ rfl
  simp only [Try.ntmps29, List.size_toArray, List.length_cons, List.length_nil, Nat.reduceAdd, Nat.reduceSub, Array.replicate_succ, Array.replicate_zero, List.push_toArray, List.append_toArray, List.nil_append, List.cons_append]
  gi_wp2_with fail
  refine ⟨trivial, (callsIn_wide.2 (each_msg _ _ _ _ _ _)).mono ?_⟩
  rintro e w' ⟨rfl, rfl⟩
  gi_wp2_with fail
  obtain ⟨W0, hWe⟩ : ∃ W0, ((((((w.alloc (.cells #[.slice none 0 0] 28)).alloc (.cells #[.int .i64 0, .int .i64 0, .string ⟨#[]⟩] 60)).alloc (.cells #[.slice none 0 0] 28)).alloc (.cells #[.int .i64 5, .int .i64 2] 3)).alloc (.cells #[.pointer (some ⟨m, 0, none⟩)] 31)).alloc (.cells #[.int .i64 num] 3)).alloc (.cells #[.slice (some ⟨w.heap.size + 1 + 1 + 1, 0, none⟩) 2 2] 27) = W0 := ⟨_, rfl⟩
  obtain ⟨hN0, hS0, hsz⟩ := flt_start w m num l af cf hml c0 c1 hF W0 hWe
  rw [hWe]
  clear hWe c0 c1 hF
  have HT := Lib.hid htot
  clear htot
  refine wpIn_rangeFunc_ownH rfl h1 (gf := 57) (lb := #[.pointer (some ⟨w.heap.size + 1 + 1 + 1 + 1, 0, none⟩), .pointer (some ⟨w.heap.size + 1 + 1 + 1 + 1 + 1, 0, none⟩), .pointer (some ⟨w.heap.size + 1 + 1 + 1 + 1 + 1 + 1, 0, none⟩)]) rfl trivial (enters_of Try.func57 (by kernel_rfl) rfl)
    (seq_stops fraw xs (n - 1) (by omega) (SInt w.heap.size) _ _ _ m num _ 2 [5, 2] af cf l hl (by simp) hxs W0 hS0 (fun g hg => by rcases hg with h | h <;> omega)) KeepS.trans (fun W l' o o' _ h hc _ => KeepS.b W l' o o' h hc) (Below.refl _ _) (fun x => rfl)
    (fun pre W => FI w.heap.size w pre W)
    (fun c pre W => False)
    (fi_own w.heap.size w _ (by omega))
    (fun c => ?ix)
    ⟨_, hN0⟩
    (fun x a' W => ∃ Bf, w.heap.size + 7 ≤ Bf ∧ Blk W Bf 77 #[.int .i64 (fraw x).2.1.num, .int .i64 (fraw x).2.1.kind, .int .i64 ((fraw x).2.2 : Int), .int .u64 (fraw x).2.1.val, .string (fraw x).2.1.data] ∧ a' = { tmps := #[.pointer (some ⟨m, 0, none⟩), .int .i64 num, undef, undef, .pointer (some ⟨w.heap.size, 0, none⟩), .pointer (some ⟨w.heap.size + 1, 0, none⟩), .pointer (some ⟨w.heap.size + 1 + 1, 0, none⟩), undef, .pointer (some ⟨Bf, 0, none⟩), undef, .pointer (some ⟨m, 0, none⟩), .int .i64 num, .slice (some ⟨w.heap.size + 1 + 1 + 1, 0, none⟩) 2 2, .func (.func 57) #[] #[.pointer (some ⟨w.heap.size + 1 + 1 + 1 + 1, 0, none⟩), .pointer (some ⟨w.heap.size + 1 + 1 + 1 + 1 + 1, 0, none⟩), .pointer (some ⟨w.heap.size + 1 + 1 + 1 + 1 + 1 + 1, 0, none⟩)], .int .i64 ((fraw x).1 : Int), fdV (fraw x).2.1 ((fraw x).2.2 : Int), undef, undef, undef, undef, undef, undef, undef, undef, undef, undef, undef, undef, undef, undef, undef, undef, undef, undef, undef, undef, undef, undef, undef, undef, undef, undef, undef, undef, undef], defers := [] })
    (fun x a' _ X Y row hs hg hr => by
      obtain ⟨Bf, h1, h3, h5⟩ := hs
      exact ⟨Bf, h1, blk_own _ _ _ () X Y row h3 hg (fun r e => (hr r e).2), h5⟩)
    ?assign ?body ?done ?stop
  case ix => exact fun pre X Y row h _ _ => h
  case assign =>
    rintro lp pre x W K hI hK
    have hlt := hI.choose_spec.h
    dsimp only [margs, fdV] at hK ⊢
    gi_wp2
    exact hK _ _ ((KeepsOthers.alloc _ _).from _) (KeepS.alloc _ _) ((fi_own w.heap.size w _ (Nat.le_refl _)).alloc _ hI) ⟨W.heap.size, by omega, Blk.new W _ _, rfl⟩
  case body =>
    rintro lp pre x a' W hlp ⟨rr, hrr⟩ hI ⟨Bf, hBf, bF, rfl⟩ hlt
    obtain ⟨v, hS⟩ := hI
    have g1 : (fraw x).2.1.kind = 2 := x.2.1
    have g2 : (fraw x).2.1.data = fbs x.1.2 := x.2.2.1
    have g3 := x.2.2.2.1
    have g4 := x.2.2.2.2
    obtain ⟨zx, hzx⟩ : ∃ zx, x.1.2 = zx := ⟨_, rfl⟩
    rw [hzx] at g2 g3 g4
    have Hiv : Hid (fvals (pre ++ [x]) = fvals pre ++ zx) := Lib.hid (by rw [fvals_snoc, hzx])
    dsimp only [fdV]
    obtain ⟨fnum, hfnum⟩ : ∃ a, (fraw x).2.1.num = a := ⟨_, rfl⟩
    obtain ⟨fval, hfval⟩ : ∃ a, (fraw x).2.1.val = a := ⟨_, rfl⟩
    obtain ⟨fat, hfat⟩ : ∃ a, (fraw x).2.2 = a := ⟨_, rfl⟩
    obtain ⟨fi, hfi⟩ : ∃ a, (fraw x).1 = a := ⟨_, rfl⟩
    obtain ⟨Dx, hDx⟩ : ∃ D, fbs zx = D := ⟨_, rfl⟩
    rw [hfnum, g1, hfval, hfat, g2, hDx] at bF
    rw [hfnum, g1, hfval, hfat, g2, hfi, hDx]
    have k1 : W.cell? ⟨Bf, 1, none⟩ = some (.int .i64 2) := bF.cell 1
    have k4 : W.cell? ⟨Bf, 4, none⟩ = some (.string Dx) := bF.cell 4
    have hs4 : Dx.size = 4 * zx.length := by rw [← hDx]; exact fbs_size zx
    have hrem : (((Dx.size : Nat) : Int) % 4 != 0) = false := by
      have e : ((Dx.size : Nat) : Int) % 4 = 0 := by omega
      rw [e]; rfl
    have HDx := Lib.hid hDx
    have HS := Lib.hid hS; have HG := Lib.hid g3
    obtain ⟨X, hX⟩ : ∃ X, pre ++ [x] = X := ⟨_, rfl⟩
    rw [hX] at Hiv ⊢
    clear hS bF g1 g2 g3 hfnum hfval hfat hfi hzx hX hrr hs4 hDx
    have Hpl : Hid ((fvals pre).length ≤ 600000000) := Lib.hid (by have := fvals_len pre; omega)
    gi_wp2_with fail
    clear hrem k1
    gi_loopw [9] (fun d wr => ∃ (dn rs : List Nat), Hid (zx = dn ++ rs) ∧ d = .string (fbs rs) ∧ Hid (∃ v, FSt w.heap.size w (fvals pre ++ dn) v wr) ∧ Hid (KeepS (SInt w.heap.size) W wr) ∧ Hid (KeepsOthers W wr)) (fun d _ => strLen d)
    case atStart => exact ⟨[], zx, Lib.hid rfl, by rw [HDx.out], Lib.hid ⟨v, by simpa using HS.out⟩, Lib.hid (fun _ _ _ _ h => h), Lib.hid ⟨Nat.le_refl _, fun _ _ h _ => h⟩⟩
    case round =>
      obtain ⟨dn, rs, hz, rfl, hN, hK, hO⟩ := hrel
      clear k4 HS
      cases rs with
      | nil =>
        have e : fbs [] = ⟨#[]⟩ := rfl
        rw [e]
        have Hz : Hid (zx = dn) := Lib.hid (by have := hz.out; rw [List.append_nil] at this; exact this)
        have HNI : Hid (FI w.heap.size w X wr) := Lib.hid (by
          obtain ⟨u, hu⟩ := hN.out
          refine ⟨u, ?_⟩
          rw [Hiv.out, Hz.out]
          exact hu)
        clear hz hN
        gi_wp2
        exact ⟨hO.out.from _, hK.out, HNI.out⟩
      | cons z r =>
        obtain ⟨u, hN⟩ := hN.out
        have HN := Lib.hid hN
        clear hN
        have hzr : z < 4294967296 := HG.out z (by rw [hz.out]; exact List.mem_append_right _ (List.mem_cons_self))
        obtain ⟨Dt, hDt⟩ : ∃ Dt, fbs (z :: r) = Dt := ⟨_, rfl⟩
        have hDs : Dt.size = 4 + 4 * r.length := by rw [← hDt, fbs_size]; simp only [List.length_cons]; omega
        have hext : Hid (Dt.extract 4 Dt.size = fbs r) := Lib.hid (by
          have h4 : 4 = (fx z 4).length := (fx_length z 4).symm
          rw [← hDt]
          exact (congrArg (fun k => (fbs (z :: r)).extract k (fbs (z :: r)).size) h4).trans (ext_front (fx z 4) (fbs r)))
        have hrl : r.length ≤ 6000 := by have h3 := congrArg List.length hz.out; rw [List.length_append, List.length_cons] at h3; omega
        have HC : Hid (∀ w, Calls Try.prog 49 #[.string Dt] w fun e w' => e = .returned (.int .u64 (z : Int)) ∧ w = w') := Lib.hid (fun w => by
          have h1 := pattern_any Dt w (by omega) (by omega)
          rw [← hDt, lit_fbs z r hzr, hDt] at h1
          exact h1)
        have hne : Dt.toList.isEmpty = false := by
          have h5 : ¬ Dt.toList = [] := fun e => by
            have h6 := em_iff Dt e
            omega
          cases hl : Dt.toList with
          | nil => exact absurd hl h5
          | cons _ _ => rfl
        rw [hDt]
        have Hm1 : Hid (strLen (.string (fbs r)) < strLen (.string Dt)) := Lib.hid (by show (fbs r).size < Dt.size; rw [fbs_size]; omega)
        have hlen : Hid ((fvals pre ++ dn).length ≤ 1000000000) := Lib.hid (by have h3 := congrArg List.length hz.out; have h2 := Hpl.out; rw [List.length_append, List.length_cons] at h3; rw [List.length_append]; omega)
        have hd4 : (4 : Int) ≤ (Dt.size : Int) := by omega
        clear hDt hDs hzr hrl
        obtain ⟨ZZ, hZZ⟩ : ∃ ZZ, fvals pre ++ dn = ZZ := ⟨_, rfl⟩
        rw [hZZ] at HN hlen
        have HZZ := Lib.hid hZZ
        clear hZZ
        gi_wp2_with fail
        refine round_pat lp (n - 1 - 1) (by omega) _ wr (w.heap.size + 7) (w.heap.size + 1 + 1) Dt z u ZZ _ _ _ _ _ _ _ _ _ _ _ _ _ _ _ _ _ _ _ _ _ _ _ _ _ _ _ _ _ _ _ _ _ _ _ _ _ _ _ _ _ _ _ HN.out.o HN.out.own HN.out.h hlen.out (fun e => by have := (HN.out.own.lt _ e).1; omega) HC ?_
        intro va vn vc w3 hown' hg3 _
        rw [List.map_append, List.length_append] at hown'
        obtain ⟨ho3, hN3, hK3, hO3⟩ := HN.out.drew.push (z := z) hown' hg3
        have HN3 : Hid (∃ v, FSt w.heap.size w (fvals pre ++ (dn ++ [z])) v (w3.setCell ⟨w.heap.size + 1 + 1, 0, none⟩ (.slice va vn vc))) := Lib.hid ⟨_, by rw [← List.append_assoc, HZZ.out]; exact hN3⟩
        have HK3 : Hid (KeepS (SInt w.heap.size) W (w3.setCell ⟨w.heap.size + 1 + 1, 0, none⟩ (.slice va vn vc))) := Lib.hid (hK.out.trans hK3)
        have HO3 : Hid (KeepsOthers W (w3.setCell ⟨w.heap.size + 1 + 1, 0, none⟩ (.slice va vn vc))) := Lib.hid (hO.out.trans ⟨hO3.1, hO3.2⟩)
        have Hz2 : Hid (zx = (dn ++ [z]) ++ r) := Lib.hid (by rw [hz.out]; simp)
        clear hown' hg3 ho3 hN3 hK3 hO3 HN hK hO hz HC
        obtain ⟨W9, hW9⟩ : ∃ W9, w3.setCell ⟨w.heap.size + 1 + 1, 0, none⟩ (.slice va vn vc) = W9 := ⟨_, rfl⟩
        have HW9 := Lib.hid hW9
        rw [hW9] at HN3 HK3 HO3 ⊢
        clear hW9
        gi_wp2_with fail
        go_roundw
        case rel => first | exact ⟨dn ++ [z], r, Hz2, by rw [hext.out], HN3, HK3, HO3⟩ | ((repeat apply Exists.intro); exact ⟨⟨dn ++ [z], r, Hz2, by rw [hext.out], HN3, HK3, HO3⟩, rfl⟩)
        case measure =>
          have e : strLen (.string (Dt.extract 4 Dt.size)) < strLen (.string Dt) := by rw [hext.out]; exact Hm1.out
          exact e
  case done =>
    rintro D ys W hD hys hI hK
    obtain ⟨v, hS⟩ := hI
    subst hys
    obtain ⟨va, vc, rfl⟩ : ∃ a c, v = .slice a (fvals ys).length c := by
      rcases hS.own.2 with ⟨rfl, hn⟩ | ⟨g, cap, cur, rfl, _⟩
      · exact ⟨none, 0, by rw [hn]⟩
      · exact ⟨_, _, rfl⟩
    obtain ⟨N, hN⟩ : ∃ N, (fvals ys).length = N := ⟨_, rfl⟩
    rw [hN] at hS
    have cO : W.cell? ⟨w.heap.size + 1 + 1, 0, none⟩ = some (.slice va N vc) := hS.o.cell 0
    have c1 : W.cell? ⟨w.heap.size, 0, none⟩ = some (.slice none 0 0) := hS.r1.cell 0
    have f1 := hS.r1.frozen 0
    have s2 := hS.r2.far (p := ⟨w.heap.size, 0, none⟩) (by simp) (.slice va N vc)
    have g20 := s2.cell 0; have g21 := s2.cell 1; have g22 := s2.cell 2
    have g2f0 := s2.frozen 0; have g2f1 := s2.frozen 1; have g2f2 := s2.frozen 2
    simp only [List.getElem?_toArray, List.getElem?_cons_zero, List.getElem?_cons_succ] at g20 g21 g22
    have HR := Lib.hid hS.ret
    have HDe := Lib.hid (HR.out.d D _ hK rfl)
    have HN := Lib.hid hN
    clear s2 hS hK hN
    gi_wp2
    refine ⟨by simp, .inl ⟨_, _, rfl, run_takeDeferred HDe.out, ?_⟩⟩
    refine ⟨_, results_flts _ w.heap.size (w.heap.size + 1) N vc va 0 0 _ rfl rfl (HR.out.r1.putD HDe.out rfl) (HR.out.r2.putD HDe.out rfl), va, vc, by rw [HN.out], ?_, fun hne => ?_, HR.out.b.trans (belowK_b (w := w) (Nat.le_refl _) _ D _ _ (by omega) HDe.out rfl rfl)⟩
    rotate_left
    · rcases HR.out.own.2 with ⟨h0, h1⟩ | ⟨g, cap, cur, h0, _⟩
      · exact absurd (List.length_eq_zero_iff.1 h1) hne
      · injection h0 with h0 _ _
        exact ⟨g, h0⟩
    have ho := ownsRow_putObj HR.out.own (.deferred none) HDe.out rfl
    rw [HN.out] at ho
    exact ur_own ho HN.out.symm
  case stop =>
    rintro D c pre W hD hpre hf hK
    exact hf.elim
theorem flts_any (B m : Nat) (l : List (Fd × Nat)) (es : List Nat) (num : Int) (xs : List FA) (hl : l.length ≤ 100000) (hxs : xs.map fraw = mtell num [5, 2] 0 l) (htot : (fvals xs).length ≤ 100000) (w : World) (hm : IsMsg B m w l es 0) :
    Calls Try.prog 29 #[.pointer (some ⟨m, 0, none⟩), .int .i64 num] w (FltsIs (fvals xs) w) :=
  callsIn_wide.1 (flts_in 4 (Nat.le_refl _) B m l es num xs hl hxs htot w hm)
end Go.Proofs.Ytbkcklefkhlciaa
