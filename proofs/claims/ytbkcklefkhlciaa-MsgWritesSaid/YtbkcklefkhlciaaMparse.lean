/-
  Parse, walked.
-/
import Derived.Test.YtbkcklefkhlciaaMparse0
import Derived.Test.YtbkcklefkhlciaaMlast
namespace Go.Proofs.Ytbkcklefkhlciaa
open Go.RowKit Go.Shelf
attribute [local go_sem] Oper.semAt_some
set_option linter.unusedVariables false
set_option maxRecDepth 100000 in
set_option maxHeartbeats 4000000 in
theorem parse_in (n : Nat) (hn : 4 ≤ n) (ps : List (Fd × ByteArray)) (s : ByteArray) (hs : s.size ≤ 60000) (hcat : cat ps = s) (hgood : ∀ p ∈ ps, GoodB p) (w : World) :
    CallsIn Fence.wide n Try.prog 33 #[.string s] w (ParseIs ps w) := by
  have h1 : 1 ≤ n := by omega
  have hpall : pall s = (places 0 ps).map Pt.pair := by rw [← hcat]; exact pall_cat ps hgood (by rw [hcat]; exact hs)
  have Hpall := Lib.hid hpall
  have Hgood := Lib.hid hgood
  have Hcat := Lib.hid hcat
  clear hpall hgood hcat
  refine callsIn_of_wp_marks Try.func33 rfl trivial ?_ rfl
  simp only [Try.ntmps33, List.size_toArray, List.length_cons, List.length_nil, Nat.reduceAdd, Nat.reduceSub, Array.replicate_succ, Array.replicate_zero, List.push_toArray, List.append_toArray, List.nil_append, List.cons_append]
  gi_wp2_with fail
  refine ⟨trivial, (callsIn_wide.2 (new_exact _)).mono ?_⟩
  rintro e w' ⟨rfl, rfl⟩
  gi_wp2_with fail
  refine ⟨trivial, (callsIn_wide.2 (each_any s _)).mono ?_⟩
  rintro e w' ⟨rfl, rfl⟩
  gi_wp2_with fail
  have hW0 : PSt w.heap.size s w [] [] (.slice none 0 0) (.slice none 0 0) (((((w.alloc (.cells #[.pointer none] 31)).alloc (.cells #[.int .i64 0, .int .i64 0, .string ⟨#[]⟩] 60)).alloc (.cells #[.bool true, .slice none 0 0, .slice none 0 0, .int .i64 0] 75)).alloc (.cells #[.pointer (some ⟨w.heap.size + 1 + 1, 0, none⟩)] 31)).alloc (.cells #[.string s] 9)) := by
    have q1 := Blk.new w 31 #[.pointer none]
    have q2 := Blk.new (w.alloc (.cells #[.pointer none] 31)) 60 #[.int .i64 0, .int .i64 0, .string ⟨#[]⟩]
    have q3 := Blk.new ((w.alloc (.cells #[.pointer none] 31)).alloc (.cells #[.int .i64 0, .int .i64 0, .string ⟨#[]⟩] 60)) 75 #[.bool true, .slice none 0 0, .slice none 0 0, .int .i64 0]
    have q4 := Blk.new (((w.alloc (.cells #[.pointer none] 31)).alloc (.cells #[.int .i64 0, .int .i64 0, .string ⟨#[]⟩] 60)).alloc (.cells #[.bool true, .slice none 0 0, .slice none 0 0, .int .i64 0] 75)) 31 #[.pointer (some ⟨w.heap.size + 1 + 1, 0, none⟩)]
    have q5 := Blk.new ((((w.alloc (.cells #[.pointer none] 31)).alloc (.cells #[.int .i64 0, .int .i64 0, .string ⟨#[]⟩] 60)).alloc (.cells #[.bool true, .slice none 0 0, .slice none 0 0, .int .i64 0] 75)).alloc (.cells #[.pointer (some ⟨w.heap.size + 1 + 1, 0, none⟩)] 31)) 9 #[.string s]
    simp only [World.size_alloc] at q1 q2 q3 q4 q5
    exact ⟨(q3.alloc _).alloc _, World.ownsRow_nil _ _ _ _, World.ownsRow_nil _ _ _ _, (((q1.alloc _).alloc _).alloc _).alloc _, ((q2.alloc _).alloc _).alloc _, q4.alloc _, q5, (((((Below.refl _ w).alloc (Nat.le_refl _) _).alloc (by simp) _).alloc (by simp; omega) _).alloc (by simp; omega) _).alloc (by simp; omega) _, by simp; omega⟩
  have hsz : (((((w.alloc (.cells #[.pointer none] 31)).alloc (.cells #[.int .i64 0, .int .i64 0, .string ⟨#[]⟩] 60)).alloc (.cells #[.bool true, .slice none 0 0, .slice none 0 0, .int .i64 0] 75)).alloc (.cells #[.pointer (some ⟨w.heap.size + 1 + 1, 0, none⟩)] 31)).alloc (.cells #[.string s] 9)).heap.size = w.heap.size + 5 := by simp
  obtain ⟨W0, hWe⟩ : ∃ W0, ((((w.alloc (.cells #[.pointer none] 31)).alloc (.cells #[.int .i64 0, .int .i64 0, .string ⟨#[]⟩] 60)).alloc (.cells #[.bool true, .slice none 0 0, .slice none 0 0, .int .i64 0] 75)).alloc (.cells #[.pointer (some ⟨w.heap.size + 1 + 1, 0, none⟩)] 31)).alloc (.cells #[.string s] 9) = W0 := ⟨_, rfl⟩
  rw [hWe] at hW0 hsz ⊢
  clear hWe
  have hs1 : s.size ≤ 1000000 := by omega
  refine wpIn_rangeFunc_ownH rfl h1 (gf := 61) (lb := #[.pointer (some ⟨w.heap.size + 1 + 1 + 1 + 1, 0, none⟩)]) rfl trivial (enters_of Try.func61 (by kernel_rfl) rfl)
    (each_good (n - 1) (by omega) (w.heap.size + 1 + 1 + 1 + 1) s hs1 (places 0 ps) Hpall.out W0 (by omega) (hW0.bs.cell 0)) KeepCell.trans (fun W l' o o' _ h hc hw => KeepCell.b (n := 0) W l' o o' (by omega) h hc hw) (Below.refl _ _) (fun x => rfl)
    (fun pre W => PI w.heap.size s w pre W)
    (fun c pre W => False)
    (pi_own w.heap.size s w _ (by omega))
    (fun c => ?ix)
    ⟨_, _, hW0⟩
    (fun x a' W => ∃ Bf Bw, w.heap.size + 5 ≤ Bf ∧ w.heap.size + 5 ≤ Bw ∧ Blk W Bf 77 (Pt.pair x).fC ∧ Blk W Bw 60 (Pt.pair x).dC ∧ w.heap.size + 2 < W.heap.size ∧ (∀ v, W.cell? ⟨w.heap.size + 2, 1, none⟩ = some v → v.ownBlock ≠ some Bf) ∧ a' = { tmps := #[.string s, undef, .pointer (some ⟨w.heap.size, 0, none⟩), .pointer (some ⟨w.heap.size + 1, 0, none⟩), .pointer (some ⟨w.heap.size + 1 + 1 + 1, 0, none⟩), .pointer (some ⟨Bf, 0, none⟩), .pointer (some ⟨Bw, 0, none⟩), .pointer (some ⟨w.heap.size + 1 + 1, 0, none⟩), .string s, .func (.func 61) #[] #[.pointer (some ⟨w.heap.size + 1 + 1 + 1 + 1, 0, none⟩)], (Pt.pair x).fV, (Pt.pair x).dV, undef, undef, undef, undef, undef, undef, undef, undef, undef, undef, undef, undef, undef, undef, undef, undef, undef, undef, undef, undef, undef, undef, undef, undef, undef, undef, undef, undef, undef, undef, undef, undef, undef, undef, undef, undef, undef, undef, undef, undef, undef, undef, undef, undef, undef, undef, undef], defers := [] })
    (fun x a' _ X Y row hs hg hr => by
      obtain ⟨Bf, Bw, h1, h2, h3, h4, h6, h7, h5⟩ := hs
      refine ⟨Bf, Bw, h1, h2, blk_own _ _ _ () X Y row h3 hg (fun r e => (hr r e).2), blk_own _ _ _ () X Y row h4 hg (fun r e => (hr r e).2), Nat.lt_of_lt_of_le h6 hg.size, fun v hv => h7 v ?_, h5⟩
      rw [← hv]
      exact (hg.cell_far ⟨w.heap.size + 2, 1, none⟩ h6 (fun e => by have := (hr _ e.symm).1; simp at this; omega)).symm)
    ?assign ?body ?done ?stop
  case ix => exact fun pre X Y row h _ _ => h
  case assign =>
    rintro l pre x W K hI hK
    obtain ⟨fv, ev, hP⟩ := hI
    have hb4 := hP.bs.lt
    obtain ⟨f, k⟩ := x
    dsimp only [Pt.pair, Pt.args, fdV, zeroV, diagV, Pt.fV, Pt.dV, Pt.fC, Pt.dC] at hK ⊢
    gi_wp2
    refine hK _ _ (((KeepsOthers.alloc _ _).trans (KeepsOthers.alloc _ _)).from _) ((KeepCell.alloc _ _).trans (KeepCell.alloc _ _)) ((pi_own w.heap.size s w _ (Nat.le_refl _)).alloc _ ((pi_own w.heap.size s w _ (Nat.le_refl _)).alloc _ ⟨fv, ev, hP⟩)) ⟨W.heap.size, W.heap.size + 1, by omega, by omega, (Blk.new W _ _).alloc _, ?_, by simp; omega, ?_, rfl⟩
    · have := Blk.new (W.alloc (.cells #[.int .i64 f.num, .int .i64 f.kind, .int .i64 (k : Int), .int .u64 f.val, .string f.data] 77)) 60 #[.int .i64 0, .int .i64 0, .string ⟨#[]⟩]
      rwa [World.size_alloc] at this
    · intro v hv e
      have h1 := ((hP.m.alloc (.cells #[.int .i64 f.num, .int .i64 f.kind, .int .i64 (k : Int), .int .u64 f.val, .string f.data] 77)).alloc (.cells #[.int .i64 0, .int .i64 0, .string ⟨#[]⟩] 60)).cell 1
      rw [h1] at hv
      cases hv
      have := (hP.f.lt _ e).2
      omega
  case body =>
    rintro l pre x a' W hl ⟨rr, hrr⟩ hI ⟨Bf, Bw, hBf, hBw, bF, bW, _, hnb, rfl⟩ hlt
    obtain ⟨fv, ev, hP⟩ := hI
    have hNB := hnb fv (hP.m.cell 1)
    clear hnb
    obtain ⟨f, k⟩ := x
    dsimp only [Pt.pair, Pt.args, fdV, zeroV, diagV, Pt.fV, Pt.dV, Pt.fC, Pt.dC] at bF bW ⊢
    have f2 : W.cell? ⟨Bf, 2, none⟩ = some (.int .i64 (k : Int)) := bF.cell 2
    have w0 : W.cell? ⟨Bw, 0, none⟩ = some (.int .i64 0) := bW.cell 0
    have HP := Lib.hid hP; have HbF := Lib.hid bF
    have HnB : Hid (fv.ownBlock ≠ some Bf) := Lib.hid hNB
    clear hP bF bW hrr
    by_cases hk : 0 < k
    · have hk1 : (0 : Int) < (k : Int) := by omega
      gi_wp2_with fail
      refine round_ends _ _ _ (w.heap.size) W (w.heap.size + 1 + 1 + 1) (w.heap.size + 1 + 1) (Bf) (fv) (ev) (0) (.int .i64 f.num) (.int .i64 f.kind) (.int .i64 (k : Int)) (.int .u64 f.val) (.string f.data) (rfl) (rfl) (eo pre) (k) ((k : Int)) (rfl) _ _ _ _ _ _ _ _ _ _ _ _ _ _ _ _ _ _ _ _ _ _ _ _ _ _ _ _ _ _ _ _ _ _ _ _ _ _ _ _ _ _ _ _ _ _ (HP.out.o) (HP.out.m) (HbF.out) (HP.out.e) (HP.out.h) (by have := eo_len pre; omega) (own_ne HP.out.e HP.out.o (by decide)) (own_ne HP.out.e HP.out.m (by decide)) (own_ne HP.out.e HbF.out (by decide)) ?_
      intro va vn vc W' own' gr'
      have P5 : Hid (PSt w.heap.size s w pre (eo pre ++ [k]) fv (.slice va vn vc) (W'.setCell ⟨w.heap.size + 1 + 1, 2, none⟩ (.slice va vn vc))) := Lib.hid (HP.out.ends own' gr')
      have K5 : Hid (KeepsOthers W (W'.setCell ⟨w.heap.size + 1 + 1, 2, none⟩ (.slice va vn vc))) := Lib.hid ((ko_app HP.out.e gr').trans (KeepsOthers.setCell _ _ _))
      have F5 : Hid (Blk (W'.setCell ⟨w.heap.size + 1 + 1, 2, none⟩ (.slice va vn vc)) Bf 77 #[.int .i64 f.num, .int .i64 f.kind, .int .i64 (k : Int), .int .u64 f.val, .string f.data]) := Lib.hid (blk_app2 HbF.out HP.out.e (own_ne HP.out.e HbF.out (by decide)) gr' _ _ (by omega) _)
      have hfvB : fv.ownBlock ≠ some Bf := HnB.out
      clear own' gr'
      revert P5 K5 F5
      generalize W'.setCell ⟨w.heap.size + 1 + 1, 2, none⟩ (.slice va vn vc) = W5
      intro P5 K5 F5
      have heo : Hid (eo (pre ++ [(f, k)]) = eo pre ++ [k]) := Lib.hid (by rw [eo_snoc, if_pos hk])
      clear f2 w0
      gi_wp2_with fail
      refine round_flds _ _ _ (w.heap.size) W5 (w.heap.size + 1 + 1 + 1) (w.heap.size + 1 + 1) (Bf) (fv) ((.slice va vn vc)) (0) (.int .i64 f.num) (.int .i64 f.kind) (.int .i64 (k : Int)) (.int .u64 f.val) (.string f.data) (rfl) (rfl) (pre) ((f, k)) (rfl) _ _ _ _ _ _ _ _ _ _ _ _ _ _ _ _ _ _ _ _ _ _ _ _ _ _ _ _ _ _ _ _ _ _ _ _ _ _ _ _ _ _ _ _ _ _ _ (P5.out.o) (P5.out.m) (F5.out) (P5.out.f) (P5.out.h) (by omega) (own_ne P5.out.f P5.out.o (by decide)) (own_ne P5.out.f P5.out.m (by decide)) (hfvB) ?_
      intro ua un uc W' own' gr'
      have P6 : Hid (PSt w.heap.size s w (pre ++ [(f, k)]) (eo pre ++ [k]) (.slice ua un uc) (.slice va vn vc) (W'.setCell ⟨w.heap.size + 1 + 1, 1, none⟩ (.slice ua un uc))) := Lib.hid (P5.out.flds own' gr')
      have K6 : Hid (KeepsOthers W (W'.setCell ⟨w.heap.size + 1 + 1, 1, none⟩ (.slice ua un uc))) := Lib.hid (K5.out.trans ((ko_app P5.out.f gr').trans (KeepsOthers.setCell _ _ _)))
      clear own' gr'
      revert P6 K6
      generalize W'.setCell ⟨w.heap.size + 1 + 1, 1, none⟩ (.slice ua un uc) = W6
      intro P6 K6
      gi_wp2
      refine ⟨K6.out.from _, ?_, ?_⟩
      · intro u hu
        have e1 : W.cell? ⟨w.heap.size + 1 + 1 + 1 + 1, 0, none⟩ = some (.string s) := HP.out.bs.cell 0
        rw [e1] at hu
        cases hu
        exact P6.out.bs.cell 0
      · exact ⟨_, _, by rw [heo.out]; exact P6.out⟩
    · have hk1 : ¬ (0 : Int) < (k : Int) := by omega
      have hfvB : fv.ownBlock ≠ some Bf := HnB.out
      have heo : Hid (eo (pre ++ [(f, k)]) = eo pre) := Lib.hid (by rw [eo_snoc, if_neg hk]; simp)
      have P5 := HP; have F5 := HbF
      have K5 : Hid (KeepsOthers W W) := Lib.hid ⟨Nat.le_refl _, fun _ _ h _ => h⟩
      gi_wp2_with fail
      refine round_flds _ _ _ (w.heap.size) W (w.heap.size + 1 + 1 + 1) (w.heap.size + 1 + 1) (Bf) (fv) (ev) (0) (.int .i64 f.num) (.int .i64 f.kind) (.int .i64 (k : Int)) (.int .u64 f.val) (.string f.data) (rfl) (rfl) (pre) ((f, k)) (rfl) _ _ _ _ _ _ _ _ _ _ _ _ _ _ _ _ _ _ _ _ _ _ _ _ _ _ _ _ _ _ _ _ _ _ _ _ _ _ _ _ _ _ _ _ _ _ _ (P5.out.o) (P5.out.m) (F5.out) (P5.out.f) (P5.out.h) (by omega) (own_ne P5.out.f P5.out.o (by decide)) (own_ne P5.out.f P5.out.m (by decide)) (hfvB) ?_
      intro ua un uc W' own' gr'
      have P6 : Hid (PSt w.heap.size s w (pre ++ [(f, k)]) (eo pre) (.slice ua un uc) ev (W'.setCell ⟨w.heap.size + 1 + 1, 1, none⟩ (.slice ua un uc))) := Lib.hid (P5.out.flds own' gr')
      have K6 : Hid (KeepsOthers W (W'.setCell ⟨w.heap.size + 1 + 1, 1, none⟩ (.slice ua un uc))) := Lib.hid (K5.out.trans ((ko_app P5.out.f gr').trans (KeepsOthers.setCell _ _ _)))
      clear own' gr'
      revert P6 K6
      generalize W'.setCell ⟨w.heap.size + 1 + 1, 1, none⟩ (.slice ua un uc) = W6
      intro P6 K6
      gi_wp2
      refine ⟨K6.out.from _, ?_, ?_⟩
      · intro u hu
        have e1 : W.cell? ⟨w.heap.size + 1 + 1 + 1 + 1, 0, none⟩ = some (.string s) := HP.out.bs.cell 0
        rw [e1] at hu
        cases hu
        exact P6.out.bs.cell 0
      · exact ⟨_, _, by rw [heo.out]; exact P6.out⟩
  case done =>
    rintro D ys W hD hys hI hK
    obtain ⟨fv, ev, hP⟩ := hI
    obtain ⟨af, cf, rfl⟩ : ∃ a c, fv = .slice a ys.length c := by
      rcases hP.f.2 with ⟨rfl, hn⟩ | ⟨g, cap, cur, rfl, _⟩
      · exact ⟨none, 0, by rw [hn]⟩
      · exact ⟨_, _, rfl⟩
    subst hys
    obtain ⟨N, hN⟩ : ∃ N, (places 0 ps).length = N := ⟨_, rfl⟩
    have cO : W.cell? ⟨w.heap.size + 1 + 1 + 1, 0, none⟩ = some (.pointer (some ⟨w.heap.size + 1 + 1, 0, none⟩)) := hP.o.cell 0
    have m1 : W.cell? ⟨w.heap.size + 1 + 1, 1, none⟩ = some (.slice af N cf) := by rw [← hN]; exact hP.m.cell 1
    have HP := Lib.hid hP
    have HK := Lib.hid hK
    have hNp : N = ps.length := by rw [← hN, places_length]
    have HNp := Lib.hid hNp
    clear hP hK hN
    by_cases hN0 : N = 0
    · subst hN0
      have hps : ps = [] := List.length_eq_zero_iff.1 HNp.out.symm
      have Hes : Hid (eo (places 0 ps) = ends 0 ps) := Lib.hid (by rw [hps]; rfl)
      clear hps hNp
      have c1 : W.cell? ⟨w.heap.size, 0, none⟩ = some (.pointer none) := HP.out.r1.cell 0
      have f1 := HP.out.r1.frozen 0
      have s2 := HP.out.r2.far (p := ⟨w.heap.size, 0, none⟩) (by simp) (.pointer (some ⟨w.heap.size + 1 + 1, 0, none⟩))
      have g20 := s2.cell 0; have g21 := s2.cell 1; have g22 := s2.cell 2
      have g2f0 := s2.frozen 0; have g2f1 := s2.frozen 1; have g2f2 := s2.frozen 2
      simp only [List.getElem?_toArray, List.getElem?_cons_zero, List.getElem?_cons_succ] at g20 g21 g22
      have HR := Lib.hid HP.out.ret
      have HDe := Lib.hid (HR.out.d D _ HK.out rfl)
      clear s2
      gi_wp2
      refine ⟨by simp, .inl ⟨_, _, rfl, run_takeDeferred HDe.out, ?_⟩⟩
      refine ⟨_, results_parse _ w.heap.size (w.heap.size + 1) (w.heap.size + 1 + 1) 0 0 _ rfl rfl (HR.out.r1.putD HDe.out rfl) (HR.out.r2.putD HDe.out rfl), w.heap.size + 1 + 1, rfl, ?_, HR.out.b.trans (belowK_b (w := w) (Nat.le_refl _) _ D _ _ (by omega) HDe.out rfl rfl)⟩
      have hmm := HR.out.msg.putD (.deferred none) HDe.out rfl
      unfold MsgP
      rw [← Hes.out]
      exact hmm
    · have hNi : (0 : Int) < (N : Int) := by omega
      have hps : ps ≠ [] := fun e => hN0 (by rw [hNp, e]; rfl)
      have Hes : Hid (eo (places 0 ps) ++ [s.size] = ends 0 ps) := Lib.hid (by have := eo_cat ps Hgood.out hps; rw [Hcat.out] at this; exact this)
      have hel : (eo (places 0 ps)).length ≤ 1000000 := by
        have h1 := eo_len (places 0 ps)
        have h2 := pall_len s hs
        rw [Hpall.out] at h2
        have h3 := h2.1
        rw [List.length_map] at h3
        omega
      have Hel := Lib.hid hel
      clear hps hNp hel
      gi_wp2_with fail
      refine round_last _ _ _ _ w.heap.size W (w.heap.size + 1 + 1 + 1) (w.heap.size + 1 + 1) s _ ev 0 (eo (places 0 ps)) (s.size : Int) rfl hs1 _ _ _ _ _ _ _ _ _ _ _ _ _ _ _ _ _ _ _ _ _ _ _ _ _ _ _ _ _ _ _ _ _ _ _ _ _ _ _ _ _ _ _ _ _ _ HP.out.o HP.out.m HP.out.e HP.out.h Hel.out (own_ne HP.out.e HP.out.o (by decide)) (own_ne HP.out.e HP.out.m (by decide)) ?_
      intro va vn vc W' own' gr'
      have P5 : Hid (PSt w.heap.size s w (places 0 ps) (eo (places 0 ps) ++ [s.size]) (.slice af (places 0 ps).length cf) (.slice va vn vc) (W'.setCell ⟨w.heap.size + 1 + 1, 2, none⟩ (.slice va vn vc))) := Lib.hid (HP.out.ends own' gr')
      have K5 : Hid ((W'.setCell ⟨w.heap.size + 1 + 1, 2, none⟩ (.slice va vn vc)).heap[D]? = some (.deferred (some []))) := Lib.hid (((ko_app HP.out.e gr').trans (KeepsOthers.setCell _ _ _)).2 D _ HK.out rfl)
      clear own' gr'
      revert P5 K5
      generalize W'.setCell ⟨w.heap.size + 1 + 1, 2, none⟩ (.slice va vn vc) = W5
      intro P5 K5
      clear cO m1
      have cO : W5.cell? ⟨w.heap.size + 1 + 1 + 1, 0, none⟩ = some (.pointer (some ⟨w.heap.size + 1 + 1, 0, none⟩)) := P5.out.o.cell 0
      have c1 : W5.cell? ⟨w.heap.size, 0, none⟩ = some (.pointer none) := P5.out.r1.cell 0
      have f1 := P5.out.r1.frozen 0
      have s2 := P5.out.r2.far (p := ⟨w.heap.size, 0, none⟩) (by simp) (.pointer (some ⟨w.heap.size + 1 + 1, 0, none⟩))
      have g20 := s2.cell 0; have g21 := s2.cell 1; have g22 := s2.cell 2
      have g2f0 := s2.frozen 0; have g2f1 := s2.frozen 1; have g2f2 := s2.frozen 2
      simp only [List.getElem?_toArray, List.getElem?_cons_zero, List.getElem?_cons_succ] at g20 g21 g22
      have HR := Lib.hid P5.out.ret
      have HDe := Lib.hid (HR.out.d D _ K5.out rfl)
      clear s2
      gi_wp2
      refine ⟨by simp, .inl ⟨_, _, rfl, run_takeDeferred HDe.out, ?_⟩⟩
      refine ⟨_, results_parse _ w.heap.size (w.heap.size + 1) (w.heap.size + 1 + 1) 0 0 _ rfl rfl (HR.out.r1.putD HDe.out rfl) (HR.out.r2.putD HDe.out rfl), w.heap.size + 1 + 1, rfl, ?_, HR.out.b.trans (belowK_b (w := w) (Nat.le_refl _) _ D _ _ (by omega) HDe.out rfl rfl)⟩
      have hmm := HR.out.msg.putD (.deferred none) HDe.out rfl
      unfold MsgP
      rw [← Hes.out]
      exact hmm
  case stop =>
    rintro D c pre W hD hpre hf hK
    exact hf.elim
theorem parse_any (ps : List (Fd × ByteArray)) (s : ByteArray) (hs : s.size ≤ 60000) (hcat : cat ps = s) (hgood : ∀ p ∈ ps, GoodB p) (w : World) : Calls Try.prog 33 #[.string s] w (ParseIs ps w) :=
  callsIn_wide.1 (parse_in 4 (Nat.le_refl _) ps s hs hcat hgood w)
end Go.Proofs.Ytbkcklefkhlciaa
