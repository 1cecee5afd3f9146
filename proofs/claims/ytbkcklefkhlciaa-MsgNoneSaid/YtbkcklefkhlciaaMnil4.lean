/-
  A message that is none: lists that are told of it, and what is put.
-/
import Derived.Test.YtbkcklefkhlciaaMnil3
namespace Go.Proofs.Ytbkcklefkhlciaa
open Go.RowKit Go.Shelf
attribute [local go_sem] Oper.semAt_some
set_option linter.unusedVariables false
structure RetG (T : TypeId) (n : Nat) (w : World) (v : Value) (V V' : World) : Prop where
  r1 : Blk V' n T #[v]
  r2 : Blk V' (n + 1) 60 #[.int .i64 0, .int .i64 0, .string ⟨#[]⟩]
  b : Below n w V'
  d : ∀ (D : Nat) (o : Obj), V.heap[D]? = some o → o.isCells = false → V'.heap[D]? = some o
theorem ret_g {T : TypeId} {n : Nat} {w V : World} {x v : Value} (h1 : Blk V n T #[x]) (h2 : Blk V (n + 1) 60 #[.int .i64 0, .int .i64 0, .string ⟨#[]⟩]) (hb : Below n w V) :
    RetG T n w v V ((((V.setCell ⟨n, 0, none⟩ v).setCell ⟨n + 1, 0, none⟩ (.int .i64 0)).setCell ⟨n + 1, 1, none⟩ (.int .i64 0)).setCell ⟨n + 1, 2, none⟩ (.string ⟨#[]⟩)) := by
  have r2a := h2.far (p := ⟨n, 0, none⟩) (by simp) v
  have r2b := r2a.set_ 0 (.int .i64 0)
  have r2c := r2b.set_ 1 (.int .i64 0)
  have r1a := h1.set_ 0 v
  refine ⟨((r1a.far (p := ⟨n + 1, 0, none⟩) (by simp) _).far (p := ⟨n + 1, 1, none⟩) (by simp) _).far (p := ⟨n + 1, 2, none⟩) (by simp) _, r2c.set_ 2 _,
    (((hb.setCell (p := ⟨n, 0, none⟩) (by simp) _).setCell (p := ⟨n + 1, 0, none⟩) (by simp) _).setCell (p := ⟨n + 1, 1, none⟩) (by simp) _).setCell (p := ⟨n + 1, 2, none⟩) (by simp) _, ?_⟩
  intro D o hD ho
  have q := (((KeepsOthers.setCell V ⟨n, 0, none⟩ v).trans (KeepsOthers.setCell _ ⟨n + 1, 0, none⟩ (.int .i64 0))).trans (KeepsOthers.setCell _ ⟨n + 1, 1, none⟩ (.int .i64 0))).trans (KeepsOthers.setCell _ ⟨n + 1, 2, none⟩ (.string ⟨#[]⟩))
  exact q.2 D o hD ho
theorem results_flts (V : World) (R1 R2 k vc : Nat) (va : Option Addr) (c q : Int) (tmps : Array Value) (h2 : tmps.getD 4 undef = .pointer (some ⟨R1, 0, none⟩)) (h3 : tmps.getD 5 undef = .pointer (some ⟨R2, 0, none⟩))
    (p1 : Blk V R1 28 #[.slice va k vc]) (p2 : Blk V R2 60 #[.int .i64 c, .int .i64 q, .string ⟨#[]⟩]) :
    (results Try.f29 tmps).run Try.prog V = .ok (.tuple #[.slice va k vc, .agg #[.int .i64 c, .int .i64 q, .string ⟨#[]⟩]]) V := by
  have c1 := p1.cell 0
  have g20 := p2.cell 0; have g21 := p2.cell 1; have g22 := p2.cell 2
  simp only [List.getElem?_toArray, List.getElem?_cons_zero, List.getElem?_cons_succ] at c1 g20 g21 g22
  simp only [Array.getD_eq_getD_getElem?] at h2 h3
  simp [results, Try.f29, go_sem, h2, h3, c1, g20, g21, g22]
set_option maxRecDepth 100000 in
set_option maxHeartbeats 2000000 in
theorem ints_nil_in (n : Nat) (hn : 4 ≤ n) (num : Int) (w : World) :
    CallsIn Fence.wide n Try.prog 28 #[.pointer none, .int .i64 num] w (GaveV (.tuple #[.slice none 0 0, .agg #[.int .i64 0, .int .i64 0, .string ⟨#[]⟩]]) w) := by
  have h1 : 1 ≤ n := by omega
  refine callsIn_of_wp_marks Try.func28 rfl trivial ?_ rfl
  simp only [Try.ntmps28, List.size_toArray, List.length_cons, List.length_nil, Nat.reduceAdd, Nat.reduceSub, Array.replicate_succ, Array.replicate_zero, List.push_toArray, List.append_toArray, List.nil_append, List.cons_append]
  gi_wp2_with fail
  refine ⟨trivial, (callsIn_wide.2 (each_msg _ _ _ _ _ _)).mono ?_⟩
  rintro e w' ⟨rfl, rfl⟩
  gi_wp2_with fail
  obtain ⟨W0, hW⟩ : ∃ W0, ((((((w.alloc (.cells #[.slice none 0 0] 27)).alloc (.cells #[.int .i64 0, .int .i64 0, .string ⟨#[]⟩] 60)).alloc (.cells #[.slice none 0 0] 27)).alloc (.cells #[.int .i64 0, .int .i64 2] 3)).alloc (.cells #[.pointer none] 31)).alloc (.cells #[.int .i64 num] 3)).alloc (.cells #[.slice (some ⟨w.heap.size + 1 + 1 + 1, 0, none⟩) 2 2] 27) = W0 := ⟨_, rfl⟩
  have q0 := Blk.new w 27 #[.slice none 0 0]
  have q1 := Blk.new (w.alloc (.cells #[.slice none 0 0] 27)) 60 #[.int .i64 0, .int .i64 0, .string ⟨#[]⟩]
  have q2 := Blk.new ((w.alloc (.cells #[.slice none 0 0] 27)).alloc (.cells #[.int .i64 0, .int .i64 0, .string ⟨#[]⟩] 60)) 27 #[.slice none 0 0]
  have q3 := Blk.new (((w.alloc (.cells #[.slice none 0 0] 27)).alloc (.cells #[.int .i64 0, .int .i64 0, .string ⟨#[]⟩] 60)).alloc (.cells #[.slice none 0 0] 27)) 3 #[.int .i64 0, .int .i64 2]
  have q4 := Blk.new ((((w.alloc (.cells #[.slice none 0 0] 27)).alloc (.cells #[.int .i64 0, .int .i64 0, .string ⟨#[]⟩] 60)).alloc (.cells #[.slice none 0 0] 27)).alloc (.cells #[.int .i64 0, .int .i64 2] 3)) 31 #[.pointer none]
  have q5 := Blk.new (((((w.alloc (.cells #[.slice none 0 0] 27)).alloc (.cells #[.int .i64 0, .int .i64 0, .string ⟨#[]⟩] 60)).alloc (.cells #[.slice none 0 0] 27)).alloc (.cells #[.int .i64 0, .int .i64 2] 3)).alloc (.cells #[.pointer none] 31)) 3 #[.int .i64 num]
  have q6 := Blk.new ((((((w.alloc (.cells #[.slice none 0 0] 27)).alloc (.cells #[.int .i64 0, .int .i64 0, .string ⟨#[]⟩] 60)).alloc (.cells #[.slice none 0 0] 27)).alloc (.cells #[.int .i64 0, .int .i64 2] 3)).alloc (.cells #[.pointer none] 31)).alloc (.cells #[.int .i64 num] 3)) 27 #[.slice (some ⟨w.heap.size + 1 + 1 + 1, 0, none⟩) 2 2]
  simp only [World.size_alloc] at q0 q1 q2 q3 q4 q5 q6
  replace q0 := (((((q0.alloc (.cells #[.int .i64 0, .int .i64 0, .string ⟨#[]⟩] 60)).alloc (.cells #[.slice none 0 0] 27)).alloc (.cells #[.int .i64 0, .int .i64 2] 3)).alloc (.cells #[.pointer none] 31)).alloc (.cells #[.int .i64 num] 3)).alloc (.cells #[.slice (some ⟨w.heap.size + 1 + 1 + 1, 0, none⟩) 2 2] 27)
  replace q1 := ((((q1.alloc (.cells #[.slice none 0 0] 27)).alloc (.cells #[.int .i64 0, .int .i64 2] 3)).alloc (.cells #[.pointer none] 31)).alloc (.cells #[.int .i64 num] 3)).alloc (.cells #[.slice (some ⟨w.heap.size + 1 + 1 + 1, 0, none⟩) 2 2] 27)
  replace q2 := (((q2.alloc (.cells #[.int .i64 0, .int .i64 2] 3)).alloc (.cells #[.pointer none] 31)).alloc (.cells #[.int .i64 num] 3)).alloc (.cells #[.slice (some ⟨w.heap.size + 1 + 1 + 1, 0, none⟩) 2 2] 27)
  replace q3 := ((q3.alloc (.cells #[.pointer none] 31)).alloc (.cells #[.int .i64 num] 3)).alloc (.cells #[.slice (some ⟨w.heap.size + 1 + 1 + 1, 0, none⟩) 2 2] 27)
  replace q4 := (q4.alloc (.cells #[.int .i64 num] 3)).alloc (.cells #[.slice (some ⟨w.heap.size + 1 + 1 + 1, 0, none⟩) 2 2] 27)
  replace q5 := q5.alloc (.cells #[.slice (some ⟨w.heap.size + 1 + 1 + 1, 0, none⟩) 2 2] 27)
  have hsz : (((((((w.alloc (.cells #[.slice none 0 0] 27)).alloc (.cells #[.int .i64 0, .int .i64 0, .string ⟨#[]⟩] 60)).alloc (.cells #[.slice none 0 0] 27)).alloc (.cells #[.int .i64 0, .int .i64 2] 3)).alloc (.cells #[.pointer none] 31)).alloc (.cells #[.int .i64 num] 3)).alloc (.cells #[.slice (some ⟨w.heap.size + 1 + 1 + 1, 0, none⟩) 2 2] 27)).heap.size = w.heap.size + 7 := by simp
  have hb0 : Below w.heap.size w (((((((w.alloc (.cells #[.slice none 0 0] 27)).alloc (.cells #[.int .i64 0, .int .i64 0, .string ⟨#[]⟩] 60)).alloc (.cells #[.slice none 0 0] 27)).alloc (.cells #[.int .i64 0, .int .i64 2] 3)).alloc (.cells #[.pointer none] 31)).alloc (.cells #[.int .i64 num] 3)).alloc (.cells #[.slice (some ⟨w.heap.size + 1 + 1 + 1, 0, none⟩) 2 2] 27)) := by
    refine (((((((Below.refl _ w).alloc ?_ _).alloc ?_ _).alloc ?_ _).alloc ?_ _).alloc ?_ _).alloc ?_ _).alloc ?_ _ <;> simp <;> omega
  rw [hW] at q0 q1 q2 q3 q4 q5 q6 hsz hb0 ⊢
  clear hW
  refine range_nil n (by omega) (w.heap.size + 1 + 1 + 1 + 1) (w.heap.size + 1 + 1 + 1 + 1 + 1) (w.heap.size + 1 + 1 + 1 + 1 + 1 + 1) rfl (by omega) (q4.cell 0) ?_
  intro D W hD hWb hDd
  have r0 := q0.below hWb (by omega)
  have r1 := q1.below hWb (by omega)
  have r2 := q2.below hWb (by omega)
  have e2 : W.cell? ⟨w.heap.size + 1 + 1, 0, none⟩ = some (.slice none 0 0) := r2.cell 0
  have c1 : W.cell? ⟨w.heap.size, 0, none⟩ = some (.slice none 0 0) := r0.cell 0
  have f1 := r0.frozen 0
  have s2 := r1.far (p := ⟨w.heap.size, 0, none⟩) (by simp) (.slice none 0 0)
  have g20 := s2.cell 0; have g21 := s2.cell 1; have g22 := s2.cell 2
  have g2f0 := s2.frozen 0; have g2f1 := s2.frozen 1; have g2f2 := s2.frozen 2
  simp only [List.getElem?_toArray, List.getElem?_cons_zero, List.getElem?_cons_succ] at g20 g21 g22
  have HR := Lib.hid (ret_g (v := .slice none 0 0) r0 r1 (hb0.trans (hWb.mono (by omega))))
  have HDe := Lib.hid (HR.out.d D _ hDd rfl)
  clear q0 q1 q2 q3 q4 q5 q6 r0 r1 r2 hb0 hWb hDd s2
  gi_wp2
  refine ⟨by simp, .inl ⟨_, _, rfl, run_takeDeferred HDe.out, ?_⟩⟩
  exact ⟨_, results_ints _ w.heap.size (w.heap.size + 1) 0 0 none 0 0 _ rfl rfl (HR.out.r1.putD HDe.out rfl) (HR.out.r2.putD HDe.out rfl), rfl, HR.out.b.trans (belowK_b (w := w) (Nat.le_refl _) _ D _ _ (by omega) HDe.out rfl rfl)⟩
theorem ints_nil (num : Int) (w : World) : Calls Try.prog 28 #[.pointer none, .int .i64 num] w (GaveV (.tuple #[.slice none 0 0, .agg #[.int .i64 0, .int .i64 0, .string ⟨#[]⟩]]) w) := callsIn_wide.1 (ints_nil_in 4 (Nat.le_refl _) num w)
set_option maxRecDepth 100000 in
set_option maxHeartbeats 2000000 in
theorem flts_nil_in (n : Nat) (hn : 4 ≤ n) (num : Int) (w : World) :
    CallsIn Fence.wide n Try.prog 29 #[.pointer none, .int .i64 num] w (GaveV (.tuple #[.slice none 0 0, .agg #[.int .i64 0, .int .i64 0, .string ⟨#[]⟩]]) w) := by
  have h1 : 1 ≤ n := by omega
  refine callsIn_of_wp_marks Try.func29 rfl trivial ?_ rfl
  simp only [Try.ntmps29, List.size_toArray, List.length_cons, List.length_nil, Nat.reduceAdd, Nat.reduceSub, Array.replicate_succ, Array.replicate_zero, List.push_toArray, List.append_toArray, List.nil_append, List.cons_append]
  gi_wp2_with fail
  refine ⟨trivial, (callsIn_wide.2 (each_msg _ _ _ _ _ _)).mono ?_⟩
  rintro e w' ⟨rfl, rfl⟩
  gi_wp2_with fail
  obtain ⟨W0, hW⟩ : ∃ W0, ((((((w.alloc (.cells #[.slice none 0 0] 28)).alloc (.cells #[.int .i64 0, .int .i64 0, .string ⟨#[]⟩] 60)).alloc (.cells #[.slice none 0 0] 28)).alloc (.cells #[.int .i64 5, .int .i64 2] 3)).alloc (.cells #[.pointer none] 31)).alloc (.cells #[.int .i64 num] 3)).alloc (.cells #[.slice (some ⟨w.heap.size + 1 + 1 + 1, 0, none⟩) 2 2] 27) = W0 := ⟨_, rfl⟩
  have q0 := Blk.new w 28 #[.slice none 0 0]
  have q1 := Blk.new (w.alloc (.cells #[.slice none 0 0] 28)) 60 #[.int .i64 0, .int .i64 0, .string ⟨#[]⟩]
  have q2 := Blk.new ((w.alloc (.cells #[.slice none 0 0] 28)).alloc (.cells #[.int .i64 0, .int .i64 0, .string ⟨#[]⟩] 60)) 28 #[.slice none 0 0]
  have q3 := Blk.new (((w.alloc (.cells #[.slice none 0 0] 28)).alloc (.cells #[.int .i64 0, .int .i64 0, .string ⟨#[]⟩] 60)).alloc (.cells #[.slice none 0 0] 28)) 3 #[.int .i64 5, .int .i64 2]
  have q4 := Blk.new ((((w.alloc (.cells #[.slice none 0 0] 28)).alloc (.cells #[.int .i64 0, .int .i64 0, .string ⟨#[]⟩] 60)).alloc (.cells #[.slice none 0 0] 28)).alloc (.cells #[.int .i64 5, .int .i64 2] 3)) 31 #[.pointer none]
  have q5 := Blk.new (((((w.alloc (.cells #[.slice none 0 0] 28)).alloc (.cells #[.int .i64 0, .int .i64 0, .string ⟨#[]⟩] 60)).alloc (.cells #[.slice none 0 0] 28)).alloc (.cells #[.int .i64 5, .int .i64 2] 3)).alloc (.cells #[.pointer none] 31)) 3 #[.int .i64 num]
  have q6 := Blk.new ((((((w.alloc (.cells #[.slice none 0 0] 28)).alloc (.cells #[.int .i64 0, .int .i64 0, .string ⟨#[]⟩] 60)).alloc (.cells #[.slice none 0 0] 28)).alloc (.cells #[.int .i64 5, .int .i64 2] 3)).alloc (.cells #[.pointer none] 31)).alloc (.cells #[.int .i64 num] 3)) 27 #[.slice (some ⟨w.heap.size + 1 + 1 + 1, 0, none⟩) 2 2]
  simp only [World.size_alloc] at q0 q1 q2 q3 q4 q5 q6
  replace q0 := (((((q0.alloc (.cells #[.int .i64 0, .int .i64 0, .string ⟨#[]⟩] 60)).alloc (.cells #[.slice none 0 0] 28)).alloc (.cells #[.int .i64 5, .int .i64 2] 3)).alloc (.cells #[.pointer none] 31)).alloc (.cells #[.int .i64 num] 3)).alloc (.cells #[.slice (some ⟨w.heap.size + 1 + 1 + 1, 0, none⟩) 2 2] 27)
  replace q1 := ((((q1.alloc (.cells #[.slice none 0 0] 28)).alloc (.cells #[.int .i64 5, .int .i64 2] 3)).alloc (.cells #[.pointer none] 31)).alloc (.cells #[.int .i64 num] 3)).alloc (.cells #[.slice (some ⟨w.heap.size + 1 + 1 + 1, 0, none⟩) 2 2] 27)
  replace q2 := (((q2.alloc (.cells #[.int .i64 5, .int .i64 2] 3)).alloc (.cells #[.pointer none] 31)).alloc (.cells #[.int .i64 num] 3)).alloc (.cells #[.slice (some ⟨w.heap.size + 1 + 1 + 1, 0, none⟩) 2 2] 27)
  replace q3 := ((q3.alloc (.cells #[.pointer none] 31)).alloc (.cells #[.int .i64 num] 3)).alloc (.cells #[.slice (some ⟨w.heap.size + 1 + 1 + 1, 0, none⟩) 2 2] 27)
  replace q4 := (q4.alloc (.cells #[.int .i64 num] 3)).alloc (.cells #[.slice (some ⟨w.heap.size + 1 + 1 + 1, 0, none⟩) 2 2] 27)
  replace q5 := q5.alloc (.cells #[.slice (some ⟨w.heap.size + 1 + 1 + 1, 0, none⟩) 2 2] 27)
  have hsz : (((((((w.alloc (.cells #[.slice none 0 0] 28)).alloc (.cells #[.int .i64 0, .int .i64 0, .string ⟨#[]⟩] 60)).alloc (.cells #[.slice none 0 0] 28)).alloc (.cells #[.int .i64 5, .int .i64 2] 3)).alloc (.cells #[.pointer none] 31)).alloc (.cells #[.int .i64 num] 3)).alloc (.cells #[.slice (some ⟨w.heap.size + 1 + 1 + 1, 0, none⟩) 2 2] 27)).heap.size = w.heap.size + 7 := by simp
  have hb0 : Below w.heap.size w (((((((w.alloc (.cells #[.slice none 0 0] 28)).alloc (.cells #[.int .i64 0, .int .i64 0, .string ⟨#[]⟩] 60)).alloc (.cells #[.slice none 0 0] 28)).alloc (.cells #[.int .i64 5, .int .i64 2] 3)).alloc (.cells #[.pointer none] 31)).alloc (.cells #[.int .i64 num] 3)).alloc (.cells #[.slice (some ⟨w.heap.size + 1 + 1 + 1, 0, none⟩) 2 2] 27)) := by
    refine (((((((Below.refl _ w).alloc ?_ _).alloc ?_ _).alloc ?_ _).alloc ?_ _).alloc ?_ _).alloc ?_ _).alloc ?_ _ <;> simp <;> omega
  rw [hW] at q0 q1 q2 q3 q4 q5 q6 hsz hb0 ⊢
  clear hW
  refine range_nil n (by omega) (w.heap.size + 1 + 1 + 1 + 1) (w.heap.size + 1 + 1 + 1 + 1 + 1) (w.heap.size + 1 + 1 + 1 + 1 + 1 + 1) rfl (by omega) (q4.cell 0) ?_
  intro D W hD hWb hDd
  have r0 := q0.below hWb (by omega)
  have r1 := q1.below hWb (by omega)
  have r2 := q2.below hWb (by omega)
  have e2 : W.cell? ⟨w.heap.size + 1 + 1, 0, none⟩ = some (.slice none 0 0) := r2.cell 0
  have c1 : W.cell? ⟨w.heap.size, 0, none⟩ = some (.slice none 0 0) := r0.cell 0
  have f1 := r0.frozen 0
  have s2 := r1.far (p := ⟨w.heap.size, 0, none⟩) (by simp) (.slice none 0 0)
  have g20 := s2.cell 0; have g21 := s2.cell 1; have g22 := s2.cell 2
  have g2f0 := s2.frozen 0; have g2f1 := s2.frozen 1; have g2f2 := s2.frozen 2
  simp only [List.getElem?_toArray, List.getElem?_cons_zero, List.getElem?_cons_succ] at g20 g21 g22
  have HR := Lib.hid (ret_g (v := .slice none 0 0) r0 r1 (hb0.trans (hWb.mono (by omega))))
  have HDe := Lib.hid (HR.out.d D _ hDd rfl)
  clear q0 q1 q2 q3 q4 q5 q6 r0 r1 r2 hb0 hWb hDd s2
  gi_wp2
  refine ⟨by simp, .inl ⟨_, _, rfl, run_takeDeferred HDe.out, ?_⟩⟩
  exact ⟨_, results_flts _ w.heap.size (w.heap.size + 1) 0 0 none 0 0 _ rfl rfl (HR.out.r1.putD HDe.out rfl) (HR.out.r2.putD HDe.out rfl), rfl, HR.out.b.trans (belowK_b (w := w) (Nat.le_refl _) _ D _ _ (by omega) HDe.out rfl rfl)⟩
theorem flts_nil (num : Int) (w : World) : Calls Try.prog 29 #[.pointer none, .int .i64 num] w (GaveV (.tuple #[.slice none 0 0, .agg #[.int .i64 0, .int .i64 0, .string ⟨#[]⟩]]) w) := callsIn_wide.1 (flts_nil_in 4 (Nat.le_refl _) num w)
set_option maxRecDepth 100000 in
set_option maxHeartbeats 2000000 in
theorem texts_nil_in (n : Nat) (hn : 4 ≤ n) (num : Int) (w : World) :
    CallsIn Fence.wide n Try.prog 30 #[.pointer none, .int .i64 num] w (GaveV (.slice none 0 0) w) := by
  have h1 : 1 ≤ n := by omega
  refine callsIn_of_wp_marks Try.func30 rfl trivial ?_ rfl
  simp only [Try.ntmps30, List.size_toArray, List.length_cons, List.length_nil, Nat.reduceAdd, Nat.reduceSub, Array.replicate_succ, Array.replicate_zero, List.push_toArray, List.append_toArray, List.nil_append, List.cons_append]
  gi_wp2_with fail
  refine ⟨trivial, (callsIn_wide.2 (each_msg _ _ _ _ _ _)).mono ?_⟩
  rintro e w' ⟨rfl, rfl⟩
  gi_wp2_with fail
  obtain ⟨W0, hW⟩ : ∃ W0, ((((w.alloc (.cells #[.slice none 0 0] 26)).alloc (.cells #[.int .i64 2] 3)).alloc (.cells #[.pointer none] 31)).alloc (.cells #[.int .i64 num] 3)).alloc (.cells #[.slice (some ⟨w.heap.size + 1, 0, none⟩) 1 1] 27) = W0 := ⟨_, rfl⟩
  have q0 := Blk.new w 26 #[.slice none 0 0]
  have q1 := Blk.new (w.alloc (.cells #[.slice none 0 0] 26)) 3 #[.int .i64 2]
  have q2 := Blk.new ((w.alloc (.cells #[.slice none 0 0] 26)).alloc (.cells #[.int .i64 2] 3)) 31 #[.pointer none]
  have q3 := Blk.new (((w.alloc (.cells #[.slice none 0 0] 26)).alloc (.cells #[.int .i64 2] 3)).alloc (.cells #[.pointer none] 31)) 3 #[.int .i64 num]
  have q4 := Blk.new ((((w.alloc (.cells #[.slice none 0 0] 26)).alloc (.cells #[.int .i64 2] 3)).alloc (.cells #[.pointer none] 31)).alloc (.cells #[.int .i64 num] 3)) 27 #[.slice (some ⟨w.heap.size + 1, 0, none⟩) 1 1]
  simp only [World.size_alloc] at q0 q1 q2 q3 q4
  replace q0 := (((q0.alloc (.cells #[.int .i64 2] 3)).alloc (.cells #[.pointer none] 31)).alloc (.cells #[.int .i64 num] 3)).alloc (.cells #[.slice (some ⟨w.heap.size + 1, 0, none⟩) 1 1] 27)
  replace q1 := ((q1.alloc (.cells #[.pointer none] 31)).alloc (.cells #[.int .i64 num] 3)).alloc (.cells #[.slice (some ⟨w.heap.size + 1, 0, none⟩) 1 1] 27)
  replace q2 := (q2.alloc (.cells #[.int .i64 num] 3)).alloc (.cells #[.slice (some ⟨w.heap.size + 1, 0, none⟩) 1 1] 27)
  replace q3 := q3.alloc (.cells #[.slice (some ⟨w.heap.size + 1, 0, none⟩) 1 1] 27)
  have hsz : (((((w.alloc (.cells #[.slice none 0 0] 26)).alloc (.cells #[.int .i64 2] 3)).alloc (.cells #[.pointer none] 31)).alloc (.cells #[.int .i64 num] 3)).alloc (.cells #[.slice (some ⟨w.heap.size + 1, 0, none⟩) 1 1] 27)).heap.size = w.heap.size + 5 := by simp
  have hb0 : Below w.heap.size w (((((w.alloc (.cells #[.slice none 0 0] 26)).alloc (.cells #[.int .i64 2] 3)).alloc (.cells #[.pointer none] 31)).alloc (.cells #[.int .i64 num] 3)).alloc (.cells #[.slice (some ⟨w.heap.size + 1, 0, none⟩) 1 1] 27)) := by
    refine (((((Below.refl _ w).alloc ?_ _).alloc ?_ _).alloc ?_ _).alloc ?_ _).alloc ?_ _ <;> simp <;> omega
  rw [hW] at q0 q1 q2 q3 q4 hsz hb0 ⊢
  clear hW
  refine range_nil n (by omega) (w.heap.size + 1 + 1) (w.heap.size + 1 + 1 + 1) (w.heap.size + 1 + 1 + 1 + 1) rfl (by omega) (q2.cell 0) ?_
  intro D W hD hWb hDd
  have r0 := q0.below hWb (by omega)
  have e0 : W.cell? ⟨w.heap.size, 0, none⟩ = some (.slice none 0 0) := r0.cell 0
  have HWb := Lib.hid (hb0.trans (hWb.mono (by omega)))
  have HDe := Lib.hid hDd
  clear q0 q1 q2 q3 q4 r0 hb0 hWb hDd
  gi_wp2
  trace_state
  refine ⟨by simp, .inl ⟨_, _, rfl, run_takeDeferred HDe.out, ?_⟩⟩
  exact ⟨_, results_tmp rfl _ _ _, rfl, HWb.out.trans (belowK_b (w := w) (Nat.le_refl _) _ D _ _ (by omega) HDe.out rfl rfl)⟩
theorem texts_nil (num : Int) (w : World) : Calls Try.prog 30 #[.pointer none, .int .i64 num] w (GaveV (.slice none 0 0) w) := callsIn_wide.1 (texts_nil_in 4 (Nat.le_refl _) num w)
set_option maxRecDepth 100000 in
set_option maxHeartbeats 2000000 in
theorem nums_nil (w : World) : Calls Try.prog 31 #[.pointer none] w (GaveV (.slice none 0 0) w) := by
  go_enter Try.func31, Try.ntmps31
  go_wp2_with fail
  refine (none_nil _).mono ?_
  rintro e w1 ⟨rfl, rfl⟩
  go_wp2
  go_ret
  exact ⟨rfl, Below.refl _ _⟩
set_option maxRecDepth 100000 in
set_option maxHeartbeats 2000000 in
theorem put_nil (a b c d : Int) (s : ByteArray) (w : World) : Calls Try.prog 37 #[.pointer none, .agg #[.int .i64 a, .int .i64 b, .int .i64 c, .int .u64 d, .string s]] w (GaveV (.pointer none) w) := by
  go_enter Try.func37, Try.ntmps37
  go_wp2_with fail
  refine (none_nil _).mono ?_
  rintro e w1 ⟨rfl, rfl⟩
  go_wp2_with fail
  refine (none_nil _).mono ?_
  rintro e w1 ⟨rfl, rfl⟩
  go_wp2
  go_ret
  exact ⟨rfl, (Below.refl _ _).alloc (Nat.le_refl _) _⟩
set_option maxRecDepth 100000 in
set_option maxHeartbeats 2000000 in
theorem putuint_nil (num v : Int) (w : World) : Calls Try.prog 10 #[.pointer none, .int .i64 num, .int .u64 v] w (GaveV (.pointer none) w) := by
  have HP := Lib.hid (fun a b c d s w => put_nil a b c d s w)
  go_enter Try.func10, Try.ntmps10
  go_wp2_with fail
  refine (HP.out _ _ _ _ _ _).mono ?_
  rintro e w1 ⟨rfl, hb⟩
  have Hb := Lib.hid hb
  clear hb
  go_wp2
  go_ret
  exact ⟨rfl, Hb.out⟩
set_option maxRecDepth 100000 in
set_option maxHeartbeats 2000000 in
theorem bytes_nil (w : World) : Calls Try.prog 23 #[.pointer none] w (GaveV (.tuple #[.string ⟨#[]⟩, .int .i64 1]) w) := by
  go_enter Try.func23, Try.ntmps23
  go_wp2_with fail
  refine (none_nil _).mono ?_
  rintro e w1 ⟨rfl, rfl⟩
  go_wp2
  go_ret2
  exact ⟨rfl, Below.refl _ _⟩
end Go.Proofs.Ytbkcklefkhlciaa
