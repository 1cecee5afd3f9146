/-
  A message that is none: what is told of it.
-/
import Derived.Test.YtbkcklefkhlciaaMnil
namespace Go.Proofs.Ytbkcklefkhlciaa
open Go.RowKit Go.Shelf
attribute [local go_sem] Oper.semAt_some
set_option linter.unusedVariables false
def zF : Value := .agg #[.int .i64 0, .int .i64 0, .int .i64 0, .int .u64 0, .string ⟨#[]⟩]
theorem results_last (V : World) (R : Nat) (a b c d : Int) (s : ByteArray) (at_ : Int) (ok : Bool) (tmps : Array Value) (h6 : tmps.getD 6 undef = .pointer (some ⟨R, 0, none⟩)) (h7 : tmps.getD 7 undef = .int .i64 at_) (h8 : tmps.getD 8 undef = .bool ok)
    (p : Blk V R 77 #[.int .i64 a, .int .i64 b, .int .i64 c, .int .u64 d, .string s]) :
    (results Try.f46 tmps).run Try.prog V = .ok (.tuple #[.agg #[.int .i64 a, .int .i64 b, .int .i64 c, .int .u64 d, .string s], .int .i64 at_, .bool ok]) V := by
  have g0 := p.cell 0; have g1 := p.cell 1; have g2 := p.cell 2; have g3 := p.cell 3; have g4 := p.cell 4
  simp only [List.getElem?_toArray, List.getElem?_cons_zero, List.getElem?_cons_succ] at g0 g1 g2 g3 g4
  simp only [Array.getD_eq_getD_getElem?] at h6 h7 h8
  simp [results, Try.f46, go_sem, h6, h7, h8, g0, g1, g2, g3, g4]
def GaveV (v : Value) (w : World) (e : Ending) (w' : World) : Prop := e = .returned v ∧ Below w.heap.size w w'
theorem blk_drew {W : World} {g : Nat} {t : TypeId} {cs : Array Value} (h : Blk W g t cs) : Blk W.drew g t cs := h
theorem five (W : World) (R : Nat) (x0 x1 x2 x3 x4 : Value) (h : Blk W R 77 #[x0, x1, x2, x3, x4]) (a b c d e : Value) :
    Blk (((((W.setCell ⟨R, 0, none⟩ a).setCell ⟨R, 1, none⟩ b).setCell ⟨R, 2, none⟩ c).setCell ⟨R, 3, none⟩ d).setCell ⟨R, 4, none⟩ e).drew R 77 #[a, b, c, d, e] ∧
      (∀ (B : Nat) (w : World), B ≤ R → Below B w W → Below B w (((((W.setCell ⟨R, 0, none⟩ a).setCell ⟨R, 1, none⟩ b).setCell ⟨R, 2, none⟩ c).setCell ⟨R, 3, none⟩ d).setCell ⟨R, 4, none⟩ e).drew) ∧
      KeepsOthers W (((((W.setCell ⟨R, 0, none⟩ a).setCell ⟨R, 1, none⟩ b).setCell ⟨R, 2, none⟩ c).setCell ⟨R, 3, none⟩ d).setCell ⟨R, 4, none⟩ e).drew :=
  have s0 : Blk (W.setCell ⟨R, 0, none⟩ a) R 77 #[a, x1, x2, x3, x4] := h.set_ 0 a
  have s1 : Blk ((W.setCell ⟨R, 0, none⟩ a).setCell ⟨R, 1, none⟩ b) R 77 #[a, b, x2, x3, x4] := s0.set_ 1 b
  have s2 : Blk (((W.setCell ⟨R, 0, none⟩ a).setCell ⟨R, 1, none⟩ b).setCell ⟨R, 2, none⟩ c) R 77 #[a, b, c, x3, x4] := s1.set_ 2 c
  have s3 : Blk ((((W.setCell ⟨R, 0, none⟩ a).setCell ⟨R, 1, none⟩ b).setCell ⟨R, 2, none⟩ c).setCell ⟨R, 3, none⟩ d) R 77 #[a, b, c, d, x4] := s2.set_ 3 d
  have s4 : Blk (((((W.setCell ⟨R, 0, none⟩ a).setCell ⟨R, 1, none⟩ b).setCell ⟨R, 2, none⟩ c).setCell ⟨R, 3, none⟩ d).setCell ⟨R, 4, none⟩ e) R 77 #[a, b, c, d, e] := s3.set_ 4 e
  ⟨blk_drew s4,
   fun B w hB hb => (((((hb.setCell (p := ⟨R, 0, none⟩) hB a).setCell (p := ⟨R, 1, none⟩) hB b).setCell (p := ⟨R, 2, none⟩) hB c).setCell (p := ⟨R, 3, none⟩) hB d).setCell (p := ⟨R, 4, none⟩) hB e).drew,
   (((((KeepsOthers.setCell _ _ _).trans (KeepsOthers.setCell _ _ _)).trans (KeepsOthers.setCell _ _ _)).trans (KeepsOthers.setCell _ _ _)).trans (KeepsOthers.setCell _ _ _)).trans (KeepsOthers.drew _)⟩
set_option maxRecDepth 100000 in
set_option maxHeartbeats 2000000 in
theorem last_nil_in (n : Nat) (hn : 4 ≤ n) (num kind : Int) (w : World) :
    CallsIn Fence.wide n Try.prog 46 #[.pointer none, .int .i64 num, .int .i64 kind] w (GaveV (.tuple #[zF, .int .i64 0, .bool false]) w) := by
  have h1 : 1 ≤ n := by omega
  refine callsIn_of_wp_marks Try.func46 rfl trivial ?_ rfl
  simp only [Try.ntmps46, List.size_toArray, List.length_cons, List.length_nil, Nat.reduceAdd, Nat.reduceSub, Array.replicate_succ, Array.replicate_zero, List.push_toArray, List.append_toArray, List.nil_append, List.cons_append]
  gi_wp2_with fail
  refine ⟨trivial, (callsIn_wide.2 (each_msg _ _ _ _ _ _)).mono ?_⟩
  rintro e w' ⟨rfl, rfl⟩
  gi_wp2_with fail
  obtain ⟨W0, hW⟩ : ∃ W0, ((((((((w.alloc (.cells #[.pointer none] 31)).alloc (.cells #[.int .i64 0, .int .i64 0, .int .i64 0, .int .u64 0, .string ⟨#[]⟩] 77)).alloc (.cells #[.int .i64 0, .int .i64 0, .int .i64 0, .int .u64 0, .string ⟨#[]⟩] 77)).alloc (.cells #[.int .i64 0] 3)).alloc (.cells #[.bool false] 4)).alloc (.cells #[.int .i64 kind] 3)).alloc (.cells #[.pointer none] 31)).alloc (.cells #[.int .i64 num] 3)).alloc (.cells #[.slice (some ⟨w.heap.size + 1 + 1 + 1 + 1 + 1, 0, none⟩) 1 1] 27) = W0 := ⟨_, rfl⟩
  have q0 := Blk.new w 31 #[.pointer none]
  have q1 := Blk.new (w.alloc (.cells #[.pointer none] 31)) 77 #[.int .i64 0, .int .i64 0, .int .i64 0, .int .u64 0, .string ⟨#[]⟩]
  have q2 := Blk.new ((w.alloc (.cells #[.pointer none] 31)).alloc (.cells #[.int .i64 0, .int .i64 0, .int .i64 0, .int .u64 0, .string ⟨#[]⟩] 77)) 77 #[.int .i64 0, .int .i64 0, .int .i64 0, .int .u64 0, .string ⟨#[]⟩]
  have q3 := Blk.new (((w.alloc (.cells #[.pointer none] 31)).alloc (.cells #[.int .i64 0, .int .i64 0, .int .i64 0, .int .u64 0, .string ⟨#[]⟩] 77)).alloc (.cells #[.int .i64 0, .int .i64 0, .int .i64 0, .int .u64 0, .string ⟨#[]⟩] 77)) 3 #[.int .i64 0]
  have q4 := Blk.new ((((w.alloc (.cells #[.pointer none] 31)).alloc (.cells #[.int .i64 0, .int .i64 0, .int .i64 0, .int .u64 0, .string ⟨#[]⟩] 77)).alloc (.cells #[.int .i64 0, .int .i64 0, .int .i64 0, .int .u64 0, .string ⟨#[]⟩] 77)).alloc (.cells #[.int .i64 0] 3)) 4 #[.bool false]
  have q5 := Blk.new (((((w.alloc (.cells #[.pointer none] 31)).alloc (.cells #[.int .i64 0, .int .i64 0, .int .i64 0, .int .u64 0, .string ⟨#[]⟩] 77)).alloc (.cells #[.int .i64 0, .int .i64 0, .int .i64 0, .int .u64 0, .string ⟨#[]⟩] 77)).alloc (.cells #[.int .i64 0] 3)).alloc (.cells #[.bool false] 4)) 3 #[.int .i64 kind]
  have q6 := Blk.new ((((((w.alloc (.cells #[.pointer none] 31)).alloc (.cells #[.int .i64 0, .int .i64 0, .int .i64 0, .int .u64 0, .string ⟨#[]⟩] 77)).alloc (.cells #[.int .i64 0, .int .i64 0, .int .i64 0, .int .u64 0, .string ⟨#[]⟩] 77)).alloc (.cells #[.int .i64 0] 3)).alloc (.cells #[.bool false] 4)).alloc (.cells #[.int .i64 kind] 3)) 31 #[.pointer none]
  have q7 := Blk.new (((((((w.alloc (.cells #[.pointer none] 31)).alloc (.cells #[.int .i64 0, .int .i64 0, .int .i64 0, .int .u64 0, .string ⟨#[]⟩] 77)).alloc (.cells #[.int .i64 0, .int .i64 0, .int .i64 0, .int .u64 0, .string ⟨#[]⟩] 77)).alloc (.cells #[.int .i64 0] 3)).alloc (.cells #[.bool false] 4)).alloc (.cells #[.int .i64 kind] 3)).alloc (.cells #[.pointer none] 31)) 3 #[.int .i64 num]
  have q8 := Blk.new ((((((((w.alloc (.cells #[.pointer none] 31)).alloc (.cells #[.int .i64 0, .int .i64 0, .int .i64 0, .int .u64 0, .string ⟨#[]⟩] 77)).alloc (.cells #[.int .i64 0, .int .i64 0, .int .i64 0, .int .u64 0, .string ⟨#[]⟩] 77)).alloc (.cells #[.int .i64 0] 3)).alloc (.cells #[.bool false] 4)).alloc (.cells #[.int .i64 kind] 3)).alloc (.cells #[.pointer none] 31)).alloc (.cells #[.int .i64 num] 3)) 27 #[.slice (some ⟨w.heap.size + 1 + 1 + 1 + 1 + 1, 0, none⟩) 1 1]
  simp only [World.size_alloc] at q0 q1 q2 q3 q4 q5 q6 q7 q8
  replace q0 := (((((((q0.alloc (.cells #[.int .i64 0, .int .i64 0, .int .i64 0, .int .u64 0, .string ⟨#[]⟩] 77)).alloc (.cells #[.int .i64 0, .int .i64 0, .int .i64 0, .int .u64 0, .string ⟨#[]⟩] 77)).alloc (.cells #[.int .i64 0] 3)).alloc (.cells #[.bool false] 4)).alloc (.cells #[.int .i64 kind] 3)).alloc (.cells #[.pointer none] 31)).alloc (.cells #[.int .i64 num] 3)).alloc (.cells #[.slice (some ⟨w.heap.size + 1 + 1 + 1 + 1 + 1, 0, none⟩) 1 1] 27)
  replace q1 := ((((((q1.alloc (.cells #[.int .i64 0, .int .i64 0, .int .i64 0, .int .u64 0, .string ⟨#[]⟩] 77)).alloc (.cells #[.int .i64 0] 3)).alloc (.cells #[.bool false] 4)).alloc (.cells #[.int .i64 kind] 3)).alloc (.cells #[.pointer none] 31)).alloc (.cells #[.int .i64 num] 3)).alloc (.cells #[.slice (some ⟨w.heap.size + 1 + 1 + 1 + 1 + 1, 0, none⟩) 1 1] 27)
  replace q2 := (((((q2.alloc (.cells #[.int .i64 0] 3)).alloc (.cells #[.bool false] 4)).alloc (.cells #[.int .i64 kind] 3)).alloc (.cells #[.pointer none] 31)).alloc (.cells #[.int .i64 num] 3)).alloc (.cells #[.slice (some ⟨w.heap.size + 1 + 1 + 1 + 1 + 1, 0, none⟩) 1 1] 27)
  replace q3 := ((((q3.alloc (.cells #[.bool false] 4)).alloc (.cells #[.int .i64 kind] 3)).alloc (.cells #[.pointer none] 31)).alloc (.cells #[.int .i64 num] 3)).alloc (.cells #[.slice (some ⟨w.heap.size + 1 + 1 + 1 + 1 + 1, 0, none⟩) 1 1] 27)
  replace q4 := (((q4.alloc (.cells #[.int .i64 kind] 3)).alloc (.cells #[.pointer none] 31)).alloc (.cells #[.int .i64 num] 3)).alloc (.cells #[.slice (some ⟨w.heap.size + 1 + 1 + 1 + 1 + 1, 0, none⟩) 1 1] 27)
  replace q5 := ((q5.alloc (.cells #[.pointer none] 31)).alloc (.cells #[.int .i64 num] 3)).alloc (.cells #[.slice (some ⟨w.heap.size + 1 + 1 + 1 + 1 + 1, 0, none⟩) 1 1] 27)
  replace q6 := (q6.alloc (.cells #[.int .i64 num] 3)).alloc (.cells #[.slice (some ⟨w.heap.size + 1 + 1 + 1 + 1 + 1, 0, none⟩) 1 1] 27)
  replace q7 := q7.alloc (.cells #[.slice (some ⟨w.heap.size + 1 + 1 + 1 + 1 + 1, 0, none⟩) 1 1] 27)
  have hsz : (((((((((w.alloc (.cells #[.pointer none] 31)).alloc (.cells #[.int .i64 0, .int .i64 0, .int .i64 0, .int .u64 0, .string ⟨#[]⟩] 77)).alloc (.cells #[.int .i64 0, .int .i64 0, .int .i64 0, .int .u64 0, .string ⟨#[]⟩] 77)).alloc (.cells #[.int .i64 0] 3)).alloc (.cells #[.bool false] 4)).alloc (.cells #[.int .i64 kind] 3)).alloc (.cells #[.pointer none] 31)).alloc (.cells #[.int .i64 num] 3)).alloc (.cells #[.slice (some ⟨w.heap.size + 1 + 1 + 1 + 1 + 1, 0, none⟩) 1 1] 27)).heap.size = w.heap.size + 9 := by simp
  have hb0 : Below w.heap.size w (((((((((w.alloc (.cells #[.pointer none] 31)).alloc (.cells #[.int .i64 0, .int .i64 0, .int .i64 0, .int .u64 0, .string ⟨#[]⟩] 77)).alloc (.cells #[.int .i64 0, .int .i64 0, .int .i64 0, .int .u64 0, .string ⟨#[]⟩] 77)).alloc (.cells #[.int .i64 0] 3)).alloc (.cells #[.bool false] 4)).alloc (.cells #[.int .i64 kind] 3)).alloc (.cells #[.pointer none] 31)).alloc (.cells #[.int .i64 num] 3)).alloc (.cells #[.slice (some ⟨w.heap.size + 1 + 1 + 1 + 1 + 1, 0, none⟩) 1 1] 27)) := by
    refine (((((((((Below.refl _ w).alloc ?_ _).alloc ?_ _).alloc ?_ _).alloc ?_ _).alloc ?_ _).alloc ?_ _).alloc ?_ _).alloc ?_ _).alloc ?_ _ <;> simp <;> omega
  rw [hW] at q0 q1 q2 q3 q4 q5 q6 q7 q8 hsz hb0 ⊢
  clear hW
  refine range_nil n (by omega) (w.heap.size + 1 + 1 + 1 + 1 + 1 + 1) (w.heap.size + 1 + 1 + 1 + 1 + 1 + 1 + 1) (w.heap.size + 1 + 1 + 1 + 1 + 1 + 1 + 1 + 1) rfl (by omega) (q6.cell 0) ?_
  intro D W hD hWb hDd
  have r1 := q1.below hWb (by omega)
  have r2 := q2.below hWb (by omega)
  have r3 := q3.below hWb (by omega)
  have r4 := q4.below hWb (by omega)
  have e20 := r2.cell 0; have e21 := r2.cell 1; have e22 := r2.cell 2; have e23 := r2.cell 3; have e24 := r2.cell 4
  have e3 := r3.cell 0; have e4 := r4.cell 0
  have e10 := r1.cell 0; have e11 := r1.cell 1; have e12 := r1.cell 2; have e13 := r1.cell 3; have e14 := r1.cell 4
  have f10 := r1.frozen 0; have f11 := r1.frozen 1; have f12 := r1.frozen 2; have f13 := r1.frozen 3; have f14 := r1.frozen 4
  simp only [List.getElem?_toArray, List.getElem?_cons_zero, List.getElem?_cons_succ] at e20 e21 e22 e23 e24 e3 e4 e10 e11 e12 e13 e14
  have HR1 := Lib.hid r1
  have HWb := Lib.hid (hb0.trans (hWb.mono (by omega)))
  have HD := Lib.hid hDd
  clear q0 q1 q2 q3 q4 q5 q6 q7 q8 r1 r2 r3 r4 hb0 hWb hDd
  gi_wp2_with fail
  refine wpIn_wide.2 ?_
  go_region
  have hf := five W (w.heap.size + 1) _ _ _ _ _ HR1.out (.int .i64 0) (.int .i64 0) (.int .i64 0) (.int .u64 0) (.string ⟨#[]⟩)
  have HX1 := Lib.hid hf.1
  have HX2 := Lib.hid (hf.2.1 w.heap.size w (by omega) HWb.out)
  have HDe := Lib.hid (hf.2.2.2 D _ HD.out rfl)
  clear hf e20 e21 e22 e23 e24 e3 e4 e10 e11 e12 e13 e14 f10 f11 f12 f13 f14
  gi_wp2
  refine ⟨by simp, .inl ⟨_, _, rfl, run_takeDeferred HDe.out, ?_⟩⟩
  exact ⟨_, results_last _ (w.heap.size + 1) 0 0 0 0 ⟨#[]⟩ 0 false _ rfl rfl rfl (HX1.out.putD HDe.out rfl), rfl, HX2.out.trans (belowK_b (w := w) (Nat.le_refl _) _ D _ _ (by omega) HDe.out rfl rfl)⟩
theorem last_nil (num kind : Int) (w : World) : Calls Try.prog 46 #[.pointer none, .int .i64 num, .int .i64 kind] w (GaveV (.tuple #[zF, .int .i64 0, .bool false]) w) := callsIn_wide.1 (last_nil_in 4 (Nat.le_refl _) num kind w)
set_option maxRecDepth 100000 in
set_option maxHeartbeats 2000000 in
theorem uint_nil (num : Int) (w : World) : Calls Try.prog 24 #[.pointer none, .int .i64 num] w (GaveV (.tuple #[.int .u64 0, .bool false]) w) := by
  have HL := Lib.hid (fun k w => last_nil num k w)
  unfold zF at HL
  go_enter Try.func24, Try.ntmps24
  go_wp2_with fail
  refine (HL.out _ _).mono ?_
  rintro e w1 ⟨rfl, hb⟩
  have Hb := Lib.hid hb
  clear hb
  go_wp2
  go_ret2
  exact ⟨rfl, Hb.out.alloc Hb.out.size _⟩
set_option maxRecDepth 100000 in
set_option maxHeartbeats 2000000 in
theorem float_nil (num : Int) (w : World) : Calls Try.prog 26 #[.pointer none, .int .i64 num] w (GaveV (.tuple #[.int .u64 0, .bool false]) w) := by
  have HL := Lib.hid (fun k w => last_nil num k w)
  unfold zF at HL
  go_enter Try.func26, Try.ntmps26
  go_wp2_with fail
  refine (HL.out _ _).mono ?_
  rintro e w1 ⟨rfl, hb⟩
  have Hb := Lib.hid hb
  clear hb
  go_wp2
  go_ret2
  exact ⟨rfl, Hb.out.alloc Hb.out.size _⟩
set_option maxRecDepth 100000 in
set_option maxHeartbeats 2000000 in
theorem text_nil (num : Int) (w : World) : Calls Try.prog 27 #[.pointer none, .int .i64 num] w (GaveV (.tuple #[.string ⟨#[]⟩, .int .i64 0, .bool false]) w) := by
  have HL := Lib.hid (fun k w => last_nil num k w)
  unfold zF at HL
  go_enter Try.func27, Try.ntmps27
  go_wp2_with fail
  refine (HL.out _ _).mono ?_
  rintro e w1 ⟨rfl, hb⟩
  have Hb := Lib.hid hb
  clear hb
  go_wp2
  go_ret3
  exact ⟨rfl, Hb.out.alloc Hb.out.size _⟩
set_option maxRecDepth 100000 in
set_option maxHeartbeats 2000000 in
theorem int_nil (num : Int) (w : World) : Calls Try.prog 25 #[.pointer none, .int .i64 num] w (GaveV (.tuple #[.int .i64 0, .bool false]) w) := by
  have HL := Lib.hid (fun w => uint_nil num w)
  go_enter Try.func25, Try.ntmps25
  go_wp2_with fail
  refine (HL.out _).mono ?_
  rintro e w1 ⟨rfl, hb⟩
  have Hb := Lib.hid hb
  clear hb
  go_wp2
  go_ret2
  exact ⟨rfl, Hb.out⟩
end Go.Proofs.Ytbkcklefkhlciaa
