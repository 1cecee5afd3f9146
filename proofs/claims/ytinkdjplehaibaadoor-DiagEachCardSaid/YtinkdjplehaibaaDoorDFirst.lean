/-
  diag: the first reason.
-/
import Derived.Test.YtinkdjplehaibaaDoorDToldF
namespace Go.Proofs.YtinkdjplehaibaaDoor
open Go.RowKit Go.Shelf
set_option linter.unusedVariables false
attribute [local go_sem] Oper.semAt_some
def FarN (n : Nat) (W : World) (g : Nat) (cs : Array Value) : Prop := n + 2 ≤ g ∧ Blk W g 40 cs
theorem farN_below (n : Nat) (W W' : World) (g : Nat) (cs : Array Value) (h : FarN n W g cs) (hb : Below W.heap.size W W') : FarN n W' g cs :=
  ⟨h.1, h.2.kept (grown_below hb (Nat.le_refl _)) (by simp)⟩
theorem farN_put (n : Nat) (W : World) (l : Nat) (o o' : Obj) (h : W.heap[l]? = some o) (hc : o.isCells = false) : Keeps (FarN n) W (W.putObj l o') :=
  fun g cs hf => ⟨hf.1, hf.2.putD h hc⟩
theorem each_stopsN (n : Nat) (hn : 1 ≤ n) (m Bs n0 : Nat) (p : Value) (ds : List Dg) (w : World) (hB : Bs < w.heap.size) (hc : w.cell? ⟨Bs, 0, none⟩ = some p) (hp : IsP n0 w p ds) (h3 : m + 2 ≤ w.heap.size) :
    SeqStopsK Fence.wide n Tryd.prog 53 #[.pointer (some ⟨Bs, 0, none⟩)] dArgs (Keeps (FarN m)) (fun ys => ys = en 0 ds) (fun pre => pre <+: en 0 ds) 100 w := fun l J Jx W hW hJ _ hY h0 => by
  have hc' := (hW.cell (p := ⟨Bs, 0, none⟩) (by simpa using hB)).trans hc
  have hs := hW.size
  exact each1_in n hn l Bs n0 p ds (FarN m) (fun W g cs h => h.2) (fun W W' g cs h hb => farN_below m W W' g cs h hb) W.heap.size J Jx hJ hY W hc' (hp.kept hW) (fun W1 g cs hb hgs hbk => ⟨by omega, hbk⟩) h0
theorem results_first (V : World) (R1 R2 : Nat) (a b c x : Value) (tmps : Array Value) (h2 : tmps.getD 2 undef = .pointer (some ⟨R1, 0, none⟩)) (h3 : tmps.getD 3 undef = .pointer (some ⟨R2, 0, none⟩))
    (p1 : Blk V R1 40 #[a, b, c]) (p2 : Blk V R2 4 #[x]) :
    (results Tryd.f14 tmps).run Tryd.prog V = .ok (.tuple #[.agg #[a, b, c], x]) V := by
  have g20 := p1.cell 0; have g21 := p1.cell 1; have g22 := p1.cell 2
  have c1 := p2.cell 0
  simp only [List.getElem?_toArray, List.getElem?_cons_zero, List.getElem?_cons_succ] at c1 g20 g21 g22
  simp only [Array.getD_eq_getD_getElem?] at h2 h3
  simp [results, Tryd.f14, go_sem, h2, h3, c1, g20, g21, g22]
def zD : Dg := ⟨0, 0, ⟨#[]⟩⟩
def FirstIs (ds : List Dg) (w : World) (e : Ending) (w' : World) : Prop :=
  e = .returned (.tuple #[(ds.headD zD).V, .bool (!ds.isEmpty)]) ∧ Below w.heap.size w w'
/-- Between two rounds: none has been told. -/
structure FstI (w : World) (pre : List (Nat × Dg)) (W : World) : Prop where
  none_ : pre = []
  r1 : Blk W w.heap.size 40 #[.int .i64 0, .int .i64 0, .string ⟨#[]⟩]
  r2 : Blk W (w.heap.size + 1) 4 #[.bool false]
  below : Below w.heap.size w W
theorem fstI_own (w : World) (B : Nat) (hB : w.heap.size ≤ B) : OwnFrom B (FstI w) := by
  intro pre W W' row h hg hr
  exact ⟨h.none_, blk_own _ _ _ () W W' row h.r1 hg (fun r e => (hr r e).2), blk_own _ _ _ () W W' row h.r2 hg (fun r e => (hr r e).2), h.below.grown hg h.below.size (fun k e => Nat.le_trans hB (hr k e).1)⟩
set_option maxRecDepth 100000 in
set_option maxHeartbeats 4000000 in
theorem first_in (n : Nat) (hn : 4 ≤ n) (n0 : Nat) (pa : Option Addr) (ds : List Dg) (w : World) (hp : IsP n0 w (.pointer pa) ds) :
    CallsIn Fence.wide n Tryd.prog 14 #[.pointer pa] w (FirstIs ds w) := by
  have h1 : 1 ≤ n := by omega
  refine callsIn_of_wp_marks Tryd.func14 rfl trivial ?_ rfl
  simp only [Tryd.ntmps14, List.size_toArray, List.length_cons, List.length_nil, Nat.reduceAdd, Nat.reduceSub, Array.replicate_succ, Array.replicate_zero, List.push_toArray, List.append_toArray, List.nil_append, List.cons_append]
  have Hp := Lib.hid hp
  clear hp
  gi_wp2_with fail
  refine ⟨trivial, (callsIn_wide.2 (each_any pa _)).mono ?_⟩
  rintro e w' ⟨rfl, rfl⟩
  gi_wp2_with fail
  have b1 := Blk.new w 40 #[.int .i64 0, .int .i64 0, .string ⟨#[]⟩]
  have b2 := Blk.new (w.alloc (.cells #[.int .i64 0, .int .i64 0, .string ⟨#[]⟩] 40)) 4 #[.bool false]
  have b3 := Blk.new ((w.alloc (.cells #[.int .i64 0, .int .i64 0, .string ⟨#[]⟩] 40)).alloc (.cells #[.bool false] 4)) 25 #[.pointer pa]
  replace b1 := (b1.alloc (.cells #[.bool false] 4)).alloc (.cells #[.pointer pa] 25)
  replace b2 := b2.alloc (.cells #[.pointer pa] 25)
  simp only [World.size_alloc] at b2 b3
  have hB0 : Below w.heap.size w (((w.alloc (.cells #[.int .i64 0, .int .i64 0, .string ⟨#[]⟩] 40)).alloc (.cells #[.bool false] 4)).alloc (.cells #[.pointer pa] 25)) := (((Below.refl _ w).alloc (Nat.le_refl _) _).alloc (by simp) _).alloc (by simp; omega) _
  have hsz : (((w.alloc (.cells #[.int .i64 0, .int .i64 0, .string ⟨#[]⟩] 40)).alloc (.cells #[.bool false] 4)).alloc (.cells #[.pointer pa] 25)).heap.size = w.heap.size + 3 := by simp
  obtain ⟨W0, hW0⟩ : ∃ W0, ((w.alloc (.cells #[.int .i64 0, .int .i64 0, .string ⟨#[]⟩] 40)).alloc (.cells #[.bool false] 4)).alloc (.cells #[.pointer pa] 25) = W0 := ⟨_, rfl⟩
  rw [hW0] at b1 b2 b3 hB0 hsz ⊢
  clear hW0
  have hp0 : IsP n0 W0 (.pointer pa) ds := Hp.out.kept hB0
  have hI0 : FstI w [] W0 := ⟨rfl, b1, b2, hB0⟩
  refine wpIn_rangeFunc_ownH rfl h1 (gf := 53) (lb := #[.pointer (some ⟨w.heap.size + 1 + 1, 0, none⟩)]) rfl trivial (enters_of Tryd.func53 (by kernel_rfl) rfl)
    (each_stopsN (n - 1) (by omega) w.heap.size (w.heap.size + 1 + 1) n0 (.pointer pa) ds W0 (by omega) (b3.cell 0) hp0 (by omega)) keeps_trans (fun W l' o o' _ h hc _ => farN_put w.heap.size W l' o o' h hc) (Below.refl _ _) (fun x => rfl)
    (fun pre W => FstI w pre W)
    (fun c pre W => c = .ret ∧ (∃ x, pre = [x] ∧ Blk W w.heap.size 40 #[.int .i64 x.2.code, .int .i64 x.2.at_, .string x.2.what]) ∧ Blk W (w.heap.size + 1) 4 #[.bool true] ∧ Below w.heap.size w W)
    (fstI_own w _ (by omega))
    (fun c => ?ix)
    hI0
    (fun x a' W => ∃ Bd, w.heap.size + 2 ≤ Bd ∧ Blk W Bd 40 #[.int .i64 x.2.code, .int .i64 x.2.at_, .string x.2.what] ∧ a' = { tmps := #[.pointer pa, undef, .pointer (some ⟨w.heap.size, 0, none⟩), .pointer (some ⟨w.heap.size + 1, 0, none⟩), undef, .pointer (some ⟨Bd, 0, none⟩), .pointer pa, .func (.func 53) #[] #[.pointer (some ⟨w.heap.size + 1 + 1, 0, none⟩)], .int .i64 (x.1 : Int), .agg #[.int .i64 x.2.code, .int .i64 x.2.at_, .string x.2.what], undef, undef], defers := [] })
    (fun x a' _ X Y row hs hg hr => by
      obtain ⟨Bd, h1, h2, h3⟩ := hs
      exact ⟨Bd, h1, blk_own _ _ _ () X Y row h2 hg (fun r e => (hr r e).2), h3⟩)
    ?assign ?body ?done ?stop
  case ix =>
    intro pre X Y row h hg hr
    obtain ⟨h1, ⟨x, h2, h3⟩, h4, h5⟩ := h
    exact ⟨h1, ⟨x, h2, blk_own _ _ _ () X Y row h3 hg (fun r e => (hr r e).2)⟩, blk_own _ _ _ () X Y row h4 hg (fun r e => (hr r e).2), h5.grown hg h5.size (fun k e => by have := (hr k e).1; omega)⟩
  case assign =>
    rintro l pre x W K hI hK
    have hlt2 := hI.r2.lt
    have hlt := hI.below.size
    have bd := Blk.new W 40 #[.int .i64 x.2.code, .int .i64 x.2.at_, .string x.2.what]
    have HI := Lib.hid hI
    have HKp : Hid (Keeps (FarN w.heap.size) W (W.alloc (.cells #[.int .i64 x.2.code, .int .i64 x.2.at_, .string x.2.what] 40))) := Lib.hid (fun g cs h => farN_below _ _ _ _ _ h ((Below.refl _ _).alloc (Nat.le_refl _) _))
    have HBd := Lib.hid bd
    clear hI bd
    dsimp only [dArgs] at hK ⊢
    gi_wp2
    exact hK _ _ ((KeepsOthers.alloc _ _).from _) HKp.out ((fstI_own w _ (Nat.le_refl _)).alloc _ HI.out) ⟨W.heap.size, by omega, HBd.out, rfl⟩
  case body =>
    rintro l pre x a' W hl ⟨rr, hrr⟩ hI ⟨Bd, hBd, bD, rfl⟩ hlt
    have hnil := hI.none_
    subst hnil
    obtain ⟨d0, d1, d2⟩ := dcells bD
    have r1 := hI.r1
    have g20 := r1.cell 0; have g21 := r1.cell 1; have g22 := r1.cell 2
    have g2f0 := r1.frozen 0; have g2f1 := r1.frozen 1; have g2f2 := r1.frozen 2
    simp only [List.getElem?_toArray, List.getElem?_cons_zero, List.getElem?_cons_succ] at g20 g21 g22
    have p1 := ((r1.set_ 0 (.int .i64 x.2.code)).set_ 1 (.int .i64 x.2.at_)).set_ 2 (.string x.2.what)
    have p2 := ((hI.r2.far (p := ⟨w.heap.size, 0, none⟩) (by simp) (.int .i64 x.2.code)).far (p := ⟨w.heap.size, 1, none⟩) (by simp) (.int .i64 x.2.at_)).far (p := ⟨w.heap.size, 2, none⟩) (by simp) (.string x.2.what)
    have c3 := p2.cell 0; have f3 := p2.frozen 0
    simp only [List.getElem?_toArray, List.getElem?_cons_zero] at c3
    have P1 := Lib.hid (p1.far (p := ⟨w.heap.size + 1, 0, none⟩) (by simp) (.bool true))
    have P2 := Lib.hid (p2.set_ 0 (.bool true))
    have q5 : Below w.heap.size w ((((W.setCell ⟨w.heap.size, 0, none⟩ (.int .i64 x.2.code)).setCell ⟨w.heap.size, 1, none⟩ (.int .i64 x.2.at_)).setCell ⟨w.heap.size, 2, none⟩ (.string x.2.what)).setCell ⟨w.heap.size + 1, 0, none⟩ (.bool true)) :=
      (((hI.below.setCell (p := ⟨w.heap.size, 0, none⟩) (by simp) _).setCell (p := ⟨w.heap.size, 1, none⟩) (by simp) _).setCell (p := ⟨w.heap.size, 2, none⟩) (by simp) _).setCell (p := ⟨w.heap.size + 1, 0, none⟩) (by simp) _
    have q6 : KeepsOthers W ((((W.setCell ⟨w.heap.size, 0, none⟩ (.int .i64 x.2.code)).setCell ⟨w.heap.size, 1, none⟩ (.int .i64 x.2.at_)).setCell ⟨w.heap.size, 2, none⟩ (.string x.2.what)).setCell ⟨w.heap.size + 1, 0, none⟩ (.bool true)) :=
      (((KeepsOthers.setCell _ _ _).trans (KeepsOthers.setCell _ _ _)).trans (KeepsOthers.setCell _ _ _)).trans (KeepsOthers.setCell _ _ _)
    have Q5 := Lib.hid q5; have Q6 := Lib.hid q6
    clear p1 p2 q5 q6 hI r1 bD hrr
    gi_wp2_with fail
    exact ⟨Q6.out.from _, rfl, ⟨x, rfl, P1.out⟩, P2.out, Q5.out⟩
  case done =>
    rintro D ys W hD hys hI hK
    have hnil := hI.none_
    subst hnil
    have hds : ds = [] := by
      cases ds with
      | nil => rfl
      | cons d r => cases hys
    subst hds
    have r1 := hI.r1
    have g20 := r1.cell 0; have g21 := r1.cell 1; have g22 := r1.cell 2
    have g2f0 := r1.frozen 0; have g2f1 := r1.frozen 1; have g2f2 := r1.frozen 2
    simp only [List.getElem?_toArray, List.getElem?_cons_zero, List.getElem?_cons_succ] at g20 g21 g22
    have p1 := ((r1.set_ 0 (.int .i64 0)).set_ 1 (.int .i64 0)).set_ 2 (.string ⟨#[]⟩)
    have p2 := ((hI.r2.far (p := ⟨w.heap.size, 0, none⟩) (by simp) (.int .i64 0)).far (p := ⟨w.heap.size, 1, none⟩) (by simp) (.int .i64 0)).far (p := ⟨w.heap.size, 2, none⟩) (by simp) (.string ⟨#[]⟩)
    have c3 := p2.cell 0; have f3 := p2.frozen 0
    simp only [List.getElem?_toArray, List.getElem?_cons_zero] at c3
    have P1 := Lib.hid (p1.far (p := ⟨w.heap.size + 1, 0, none⟩) (by simp) (.bool false))
    have P2 := Lib.hid (p2.set_ 0 (.bool false))
    have q5 : Below w.heap.size w ((((W.setCell ⟨w.heap.size, 0, none⟩ (.int .i64 0)).setCell ⟨w.heap.size, 1, none⟩ (.int .i64 0)).setCell ⟨w.heap.size, 2, none⟩ (.string ⟨#[]⟩)).setCell ⟨w.heap.size + 1, 0, none⟩ (.bool false)) :=
      (((hI.below.setCell (p := ⟨w.heap.size, 0, none⟩) (by simp) _).setCell (p := ⟨w.heap.size, 1, none⟩) (by simp) _).setCell (p := ⟨w.heap.size, 2, none⟩) (by simp) _).setCell (p := ⟨w.heap.size + 1, 0, none⟩) (by simp) _
    have hDe : ((((W.setCell ⟨w.heap.size, 0, none⟩ (.int .i64 0)).setCell ⟨w.heap.size, 1, none⟩ (.int .i64 0)).setCell ⟨w.heap.size, 2, none⟩ (.string ⟨#[]⟩)).setCell ⟨w.heap.size + 1, 0, none⟩ (.bool false)).heap[D]? = some (.deferred (some [])) :=
      (Below.heap_setCell _ ⟨w.heap.size + 1, 0, none⟩ _ D (by simp; omega)).trans ((Below.heap_setCell _ ⟨w.heap.size, 2, none⟩ _ D (by simp; omega)).trans ((Below.heap_setCell _ ⟨w.heap.size, 1, none⟩ _ D (by simp; omega)).trans ((Below.heap_setCell _ ⟨w.heap.size, 0, none⟩ _ D (by simp; omega)).trans hK)))
    have Q5 := Lib.hid q5; have HDe := Lib.hid hDe
    clear p1 p2 q5 hDe hI r1 hK hys
    gi_wp2_with fail
    refine ⟨by simp, .inl ⟨_, _, rfl, run_takeDeferred HDe.out, ?_⟩⟩
    refine ⟨_, results_first _ w.heap.size (w.heap.size + 1) (.int .i64 0) (.int .i64 0) (.string ⟨#[]⟩) (.bool false) _ rfl rfl (P1.out.putD HDe.out rfl) (P2.out.putD HDe.out rfl), rfl, Q5.out.trans (belowK_b (w := w) (Nat.le_refl _) _ D _ _ (by omega) HDe.out rfl rfl)⟩
  case stop =>
    rintro D c pre W hD hpre ⟨rfl, ⟨x, rfl, hr1⟩, hr2, hbel⟩ hK
    obtain ⟨r, hds⟩ : ∃ r, ds = x.2 :: r := by
      cases ds with
      | nil => obtain ⟨t, ht⟩ := hpre; cases ht
      | cons d r =>
        obtain ⟨t, ht⟩ := hpre
        simp [en] at ht
        exact ⟨r, by rw [ht.1]⟩
    subst hds
    have Hr1 := Lib.hid hr1; have Hr2 := Lib.hid hr2; have Hb := Lib.hid hbel; have HK := Lib.hid hK
    clear hr1 hr2 hbel hpre hK
    gi_wp2
    refine ⟨by simp, .inl ⟨_, _, rfl, run_takeDeferred HK.out, ?_⟩⟩
    refine ⟨_, results_first _ w.heap.size (w.heap.size + 1) (.int .i64 x.2.code) (.int .i64 x.2.at_) (.string x.2.what) (.bool true) _ rfl rfl (Hr1.out.putD HK.out rfl) (Hr2.out.putD HK.out rfl), rfl, Hb.out.trans (belowK_b (w := w) (Nat.le_refl _) _ D _ _ (by omega) HK.out rfl rfl)⟩
theorem first_any (n0 : Nat) (pa : Option Addr) (ds : List Dg) (w : World) (hp : IsP n0 w (.pointer pa) ds) :
    Calls Tryd.prog 14 #[.pointer pa] w (FirstIs ds w) :=
  callsIn_wide.1 (first_in 4 (Nat.le_refl _) n0 pa ds w hp)
end Go.Proofs.YtinkdjplehaibaaDoor
