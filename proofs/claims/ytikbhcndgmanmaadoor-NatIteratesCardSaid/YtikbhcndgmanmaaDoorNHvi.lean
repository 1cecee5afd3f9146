/-
  Law 1: halves of the statements: how many numbers the iterator tells.
-/
import Derived.Test.YtikbhcndgmanmaaDoorNHvs
namespace Go.Proofs.YtikbhcndgmanmaaDoor
open Go.RowKit Go.Shelf
set_option linter.unusedVariables false
attribute [local go_sem] Oper.semAt_some
theorem halves_stops (n : Nat) (hn : 1 ≤ n) (m Bs N : Nat) (sa : Option Addr) (sn sc : Nat) (w : World) (hB : Bs < w.heap.size) (hc : w.cell? ⟨Bs, 0, none⟩ = some (.slice sa sn sc)) (hN : IsN w (.agg #[.slice sa sn sc]) N)
    (hF : ∀ ad n c, Value.agg #[.slice sa sn sc] = .agg #[.slice (some ad) n c] → ∃ o, FarH m w ad.block o) (hL : LiveH m w) :
    SeqStopsK Fence.wide n Tryd.prog 55 #[.pointer (some ⟨Bs, 0, none⟩)] (fun x => #[hvV x]) (Kp (LiveH m) (FarH m)) (fun ys => ys.map (·.2) = hlv N) (fun pre => pre.map (·.2) <+: hlv N) (hlv N).length w := fun l J Jx W hW hJ _ hY h0 => by
  have hc' := (hW.cell (p := ⟨Bs, 0, none⟩) (by simpa using hB)).trans hc
  exact halves1_in n hn l Bs N sa sn sc (farH_ok m) W.heap.size J Jx hJ (fun pre x W hj _ _ hlt => hY pre x W hj hlt) W hc' (FN.below (farH_ok m) ⟨hN, hF⟩ hW) ((farH_ok m).live hL hW) h0
/-- Between two rounds. -/
structure HvI (w : World) (stop : Int) (pre : List Hv) (W : World) : Prop where
  rows : ∃ v xs, Boxed W (w.heap.size + 1) 23 v ∧ W.ownsRow (w.heap.size + 1) 30 1 v pre.length xs
  stop : Boxed W w.heap.size 3 (.int .i64 stop)
  below : Below w.heap.size w W
theorem hvI_own (w : World) (stop : Int) (B : Nat) (hB : w.heap.size ≤ B) : OwnFrom B (HvI w stop) := by
  intro pre W W' row h hg hr
  obtain ⟨v, xs, h1, h2⟩ := h.rows
  exact ⟨⟨v, xs, box_own h1 hg hr, own_far h2 hg (fun g eg ev => by
      obtain ⟨_, o, hh, hc⟩ := hr g eg
      rw [own_cells h2 g o ev hh] at hc; cases hc)⟩, box_own h.stop hg hr, h.below.grown hg h.below.size (fun k e => Nat.le_trans hB (hr k e).1)⟩
/-- What halves hands back. -/
def HalvesIs (N : Nat) (stop : Int) (w : World) (e : Ending) (W' : World) : Prop :=
  ∃ v xs k, e = .returned v ∧ (k = (hlv N).length ∧ (stop ≤ 0 ∨ (k : Int) < stop) ∨ k ≤ (hlv N).length ∧ 0 < stop ∧ (k : Int) = stop) ∧ W'.ownsRow w.heap.size 30 1 v k xs ∧ Below w.heap.size w W'
/-- A round's own variables. -/
def RoundH (w : World) (Bs : Nat) (stop : Int) (x : Hv) (a' : Act) (W : World) : Prop :=
  ∃ Bd v, Blk W Bd 30 #[.slice x.1.1 x.1.2.1 x.1.2.2] ∧ Boxed W (w.heap.size + 1) 23 v ∧ v.ownBlock ≠ some Bd ∧
    a' = { tmps := #[.func (.func 55) #[] #[.pointer (some ⟨Bs, 0, none⟩)], .int .i64 stop, undef, .pointer (some ⟨w.heap.size, 0, none⟩), .slice none 0 0, .pointer (some ⟨w.heap.size + 1, 0, none⟩), .pointer (some ⟨Bd, 0, none⟩), .func (.func 55) #[] #[.pointer (some ⟨Bs, 0, none⟩)], hvV x, undef, undef, undef, undef, undef, undef, undef, undef, undef], defers := [] }
theorem Tryd.infoNat : (Tryd.prog.info? 30).map (fun i => (i.zero, i.size, i.bytes)) = some (some (.agg #[.slice none 0 0]), 1, 24) := by kernel_rfl
theorem own_mono {W : World} {b b' : Nat} {e : TypeId} {s : Nat} {v : Value} {n : Nat} {xs : List Value} (h : W.ownsRow b e s v n xs) (hb : b' ≤ b) : W.ownsRow b' e s v n xs := by
  refine ⟨h.1, ?_⟩
  rcases h.2 with h' | ⟨g, cap, cur, h1, h2, h3⟩
  · exact .inl h'
  · exact .inr ⟨g, cap, cur, h1, Nat.le_trans hb h2, h3⟩
theorem hv_round {w W w1 : World} {stop : Int} {pre : List Hv} {u1 : Value} {g' cap' : Nat} {xs ys : List Value} {tmp : Obj} (hI : HvI w stop pre W) (hb1 : Boxed W (w.heap.size + 1) 23 u1) (ho1 : W.ownsRow (w.heap.size + 1) 30 1 u1 pre.length xs) (x : Hv)
    (h : Boxed (w1.setCell ⟨w.heap.size + 1, 0, none⟩ (.slice (some ⟨g', 0, none⟩) (pre.length + 1) cap')) (w.heap.size + 1) 23 (.slice (some ⟨g', 0, none⟩) (pre.length + 1) cap') ∧
      (w1.setCell ⟨w.heap.size + 1, 0, none⟩ (.slice (some ⟨g', 0, none⟩) (pre.length + 1) cap')).ownsRow (w.heap.size + 1) 30 1 (.slice (some ⟨g', 0, none⟩) (pre.length + 1) cap') (pre.length + 1) ys ∧
      KeepsOthers W (w1.setCell ⟨w.heap.size + 1, 0, none⟩ (.slice (some ⟨g', 0, none⟩) (pre.length + 1) cap')) ∧ Below (w.heap.size + 1) W (w1.setCell ⟨w.heap.size + 1, 0, none⟩ (.slice (some ⟨g', 0, none⟩) (pre.length + 1) cap')) ∧
      (W.alloc tmp).grownBy w1 u1.ownBlock ∧ ((Value.slice (some ⟨g', 0, none⟩) (pre.length + 1) cap').ownBlock = u1.ownBlock ∨ (Value.slice (some ⟨g', 0, none⟩) (pre.length + 1) cap').ownBlock = some (W.alloc tmp).heap.size) ∧
      Boxed (w1.setCell ⟨w.heap.size + 1, 0, none⟩ (.slice (some ⟨g', 0, none⟩) (pre.length + 1) cap')) w.heap.size 3 (.int .i64 stop)) :
    HvI w stop (pre ++ [x]) (w1.setCell ⟨w.heap.size + 1, 0, none⟩ (.slice (some ⟨g', 0, none⟩) (pre.length + 1) cap')) ∧ KeepsOthers W (w1.setCell ⟨w.heap.size + 1, 0, none⟩ (.slice (some ⟨g', 0, none⟩) (pre.length + 1) cap')) ∧
      Kp (LiveH w.heap.size) (FarH w.heap.size) W (w1.setCell ⟨w.heap.size + 1, 0, none⟩ (.slice (some ⟨g', 0, none⟩) (pre.length + 1) cap')) := by
  obtain ⟨hv2, hr2, hk2, hb2, hgrow, hat, hstp⟩ := h
  have hsz := hb2.size
  have hlt := hb1.lt
  refine ⟨⟨⟨_, ys, hv2, by rw [List.length_append, List.length_singleton]; exact hr2⟩, hstp, hI.below.trans (hb2.mono (by omega))⟩, hk2, fun _ => ⟨_, _, _, hv2, hr2, by omega⟩, fun g o ⟨h1, h2, h3⟩ => ?_⟩
  rcases h3 with h3 | ⟨h3, v, h4, h5⟩
  · exact ⟨(hb2.block g (by omega)).trans h1, h2, .inl h3⟩
  · obtain rfl := box_uniq h4 hb1
    have hgl := (Array.getElem?_eq_some_iff.1 h1).1
    have e1 : w1.heap[g]? = W.heap[g]? := (hgrow.block g (by simp; omega) (fun e => h5 e.symm)).trans (Below.heap_alloc _ _ _ hgl)
    refine ⟨(Below.heap_setCell _ _ _ g (by show g ≠ w.heap.size + 1; omega)).trans (e1.trans h1), h2, .inr ⟨h3, _, hv2, fun e => ?_⟩⟩
    rcases hat with hat | hat
    · exact h5 (hat.symm.trans e)
    · rw [e] at hat
      simp at hat
      omega
set_option maxRecDepth 100000 in
set_option maxHeartbeats 8000000 in
theorem halves_in (n : Nat) (hn : 4 ≤ n) (Bs N : Nat) (sa : Option Addr) (sn sc : Nat) (stop : Int) (w : World) (hB : Bs < w.heap.size) (hc : w.cell? ⟨Bs, 0, none⟩ = some (.slice sa sn sc)) (hN : IsN w (.agg #[.slice sa sn sc]) N) :
    CallsIn Fence.wide n Tryd.prog 35 #[.func (.func 55) #[] #[.pointer (some ⟨Bs, 0, none⟩)], .int .i64 stop] w (HalvesIs N stop w) := by
  have h1 : 1 ≤ n := by omega
  obtain ⟨i0, hi, hz0, hz1, hz2⟩ := info_parts Tryd.infoNat
  obtain ⟨NL, hNL⟩ : ∃ NL, (hlv N).length = NL := ⟨_, rfl⟩
  have hNL6 : NL ≤ 640000 := by
    obtain ⟨L, hL, hL6⟩ := isN_len hN
    rw [← hNL, hlv_len L N hL]; exact hL6
  refine callsIn_of_wp_marks Tryd.func35 rfl trivial ?_ rfl
  simp only [Tryd.ntmps35, List.size_toArray, List.length_cons, List.length_nil, Nat.reduceAdd, Nat.reduceSub, Array.replicate_succ, Array.replicate_zero, List.push_toArray, List.append_toArray, List.nil_append, List.cons_append]
  gi_wp2_with fail
  have bS := Boxed.new w 3 (.int .i64 stop)
  have b1 := Boxed.new (w.alloc (.cells #[.int .i64 stop] 3)) 23 (.slice none 0 0)
  rw [World.size_alloc] at b1
  obtain ⟨W0, hW0⟩ : ∃ W0, (w.alloc (.cells #[.int .i64 stop] 3)).alloc (.cells #[.slice none 0 0] 23) = W0 := ⟨_, rfl⟩
  have hB0 : Below w.heap.size w W0 := by rw [← hW0]; exact ((Below.refl _ w).alloc (Nat.le_refl _) _).alloc (by simp) _
  have hsz : W0.heap.size = w.heap.size + 2 := by rw [← hW0]; simp
  have q1 : Boxed W0 (w.heap.size + 1) 23 (.slice none 0 0) := by rw [← hW0]; exact b1
  have hI0 : HvI w stop [] W0 := ⟨⟨_, [], q1, World.ownsRow_nil _ _ _ _⟩, by rw [← hW0]; exact bS.alloc _, hB0⟩
  have hL0 : LiveH w.heap.size W0 := ⟨_, 0, [], q1, World.ownsRow_nil _ _ _ _, by omega⟩
  have hc0 : W0.cell? ⟨Bs, 0, none⟩ = some (.slice sa sn sc) := (hB0.cell (p := ⟨Bs, 0, none⟩) hB).trans hc
  have hN0 : IsN W0 (.agg #[.slice sa sn sc]) N := hN.below hB0 (Nat.le_refl _)
  have hF0 : ∀ ad n c, Value.agg #[.slice sa sn sc] = .agg #[.slice (some ad) n c] → ∃ o, FarH w.heap.size W0 ad.block o := fun ad n c e => by
    obtain ⟨a, c', us, he, h2, h3, _, _, _, _, h5⟩ := hN
    rw [e] at he
    have h1 := congrArg (fun v => match v with | Value.agg xs => xs[0]? | _ => none) he
    simp at h1
    obtain ⟨rfl, hn', rfl⟩ := h1
    have hne : us ≠ [] := fun e => by have := (h5 e).1; cases this
    obtain ⟨ad', hade, hlt, hcc⟩ := h3 0 (List.length_pos_iff.2 hne)
    cases hade
    obtain ⟨o, ho⟩ : ∃ o, w.heap[ad.block]? = some o := ⟨_, Array.getElem?_eq_getElem hlt⟩
    refine ⟨o, (hB0.block _ hlt).trans ho, ?_, .inl hlt⟩
    unfold World.cell? at hcc
    rw [add_block, ho] at hcc
    cases o <;> first | rfl | simp at hcc
  rw [hW0]
  clear hW0 bS b1
  refine wpIn_rangeFunc_ownH rfl h1 (gf := 55) (lb := #[.pointer (some ⟨Bs, 0, none⟩)]) rfl trivial (enters_of Tryd.func55 (by kernel_rfl) rfl)
    (halves_stops (n - 1) (by omega) w.heap.size Bs N sa sn sc W0 (by omega) hc0 hN0 hF0 hL0) Kp.trans (fun W l' o o' _ h hc _ => kpH_put w.heap.size W l' o o' h hc) (Below.refl _ _) (fun x => rfl)
    (fun pre W => HvI w stop pre W ∧ (stop ≤ 0 ∨ (pre.length : Int) < stop))
    (fun c pre W => c = .exit 0 ∧ HvI w stop pre W ∧ 0 < stop ∧ (pre.length : Int) = stop)
    (OwnFrom.and (hvI_own w stop _ (by omega)) (ownFrom_pure _ _))
    (fun c => OwnFrom.and (ownFrom_pure _ (fun _ => c = .exit 0)) (OwnFrom.and (hvI_own w stop _ (by omega)) (ownFrom_pure _ _)))
    ⟨hI0, by simp; omega⟩
    (fun x a' W => RoundH w Bs stop x a' W)
    (fun x a' _ X Y row hs hg hr => by
      obtain ⟨Bd, v, h2, h3, h4, h5⟩ := hs
      exact ⟨Bd, v, h2.kept hg (fun e => by
        obtain ⟨_, o, ho, hc⟩ := hr Bd e.symm
        rw [show X.heap[Bd]? = _ from h2] at ho; cases ho; cases hc), box_own h3 hg hr, h4, h5⟩)
    ?assign ?body ?done ?stop
  case assign =>
    rintro l pre x W K ⟨hI, hst⟩ hK
    have hbw := hI.below
    have hlt := hbw.size
    obtain ⟨v, xs, hb1, ho1⟩ := hI.rows
    obtain ⟨⟨x0, x1, x2⟩, M⟩ := x
    have hk4 : Blk (W.alloc (.cells #[.slice x0 x1 x2] 30)) W.heap.size 30 #[.slice x0 x1 x2] := Blk.new W _ _
    have hbb : Below W.heap.size W (W.alloc (.cells #[.slice x0 x1 x2] 30)) := (Below.refl _ W).alloc (Nat.le_refl _) _
    have hgb := grown_below hbb (Nat.le_refl _)
    have HR : Hid (∀ a', a' = _ → RoundH w Bs stop ((x0, x1, x2), M) a' (W.alloc (.cells #[.slice x0 x1 x2] 30))) := Lib.hid (fun a' ha => ⟨W.heap.size, v, hk4, hb1.kept hgb (by simp), fun e => by have := (own_lt ho1 _ e).2; omega, ha⟩)
    have HI := Lib.hid hI
    have HKp : Hid (Kp (LiveH w.heap.size) (FarH w.heap.size) W (W.alloc (.cells #[.slice x0 x1 x2] 30))) := Lib.hid ⟨fun h => (farH_ok _).live h hbb, fun g o h => (farH_ok _).far h hbb⟩
    have HI2 := Lib.hid (hvI_own w stop _ (Nat.le_refl _) pre W _ none hI hgb (fun r e => by cases e))
    clear hb1 ho1 hk4 hI hbb hgb
    unfold hvV
    gi_wp2
    refine hK _ _ ((KeepsOthers.alloc _ _).from _) HKp.out ⟨HI2.out, hst⟩ (HR.out _ rfl)
  case body =>
    rintro l pre x a' W hl hrr ⟨hI, hst⟩ ⟨Bd, u1, bD, bu1, n19, rfl⟩ hlt
    obtain ⟨v, xs, hb1, ho1⟩ := hI.rows
    obtain rfl := box_uniq bu1 hb1
    obtain ⟨⟨x0, x1, x2⟩, M⟩ := x
    rw [hNL] at hlt
    have hp : pre.length ≤ 1000000 := by omega
    have hbw := hI.below.size
    have hc1 := hb1.cell
    have hcD := bD.cell 0
    simp only [List.getElem?_toArray, List.getElem?_cons_zero] at hcD
    have hBl := hb1.lt
    have HI := Lib.hid hI
    have Hb1 := Lib.hid hb1
    have Ho1 := Lib.hid ho1
    clear bD bu1 hb1 ho1 hI
    by_cases hse : (pre.length : Int) + 1 = stop <;>
    gi_wp2_with (gi_at_builtin; refine wpListIn_append_at _ rfl _ _ 23 rfl (w.heap.size + 1) 30 i0 (.agg #[.slice none 0 0]) 1 24 Tryd.underlying23 hi hz0 hz1 hz2 rfl (by decide) u1 pre.length xs rfl (Ho1.out.alloc _) ⟨W.heap.size, 0, none⟩ 1 1 [.slice x0 x1 x2] rfl rfl (cell_one_new _ _ _) (by simp [Value.oneCell']) (by unfold maxLen; omega) (by omega) (by simp; omega) ?_; intro v' w1 hown' hgrow hat; obtain ⟨g', cap', rfl⟩ := ownsRow_succ hown'; obtain ⟨hv1, hv2, hr2, hk2, hb2⟩ := Hb1.out.appended (by decide) Ho1.out (show w.heap.size + 1 ≤ W.heap.size by omega) (Nat.le_refl _) hown' hgrow; have hc2 := hv1.cell; have hf2 := hv1.frozen; have hc3 := hv2.cell; have hstp : Boxed (w1.setCell ⟨w.heap.size + 1, 0, none⟩ (.slice (some ⟨g', 0, none⟩) (pre.length + 1) cap')) w.heap.size 3 (.int .i64 stop) := (hb2.block w.heap.size (by omega)).trans HI.out.stop; have hc4 := hstp.cell; have HX := Lib.hid (And.intro hv2 (And.intro hr2 (And.intro hk2 (And.intro hb2 (And.intro hgrow (And.intro hat hstp)))))); clear hv1 hv2 hr2 hk2 hb2 hgrow hat hstp hown')
    · obtain ⟨hI', hk2, hKp⟩ := hv_round HI.out Hb1.out Ho1.out ((x0, x1, x2), M) HX.out
      exact ⟨hk2.from _, rfl, hI', by omega, by simp; omega⟩
    · obtain ⟨hI', hk2, hKp⟩ := hv_round HI.out Hb1.out Ho1.out ((x0, x1, x2), M) HX.out
      exact ⟨hk2.from _, hKp, hI', by simp; omega⟩
  case done =>
    rintro D ys W hD hys ⟨hI, hst⟩ hK
    obtain ⟨v, xs, hb1, ho1⟩ := hI.rows
    have hc1 := hb1.cell
    have HI := Lib.hid hI
    have hyl : ys.length = NL := by rw [← hNL, ← hys, List.length_map]
    clear hb1 hI
    gi_wp2_with fail
    have hB' : Below w.heap.size w W := HI.out.below
    have hr1 : W.ownsRow w.heap.size 30 1 v ys.length xs := own_mono (b := w.heap.size + 1) ho1 (by omega)
    refine ⟨by simp, .inl ⟨_, _, rfl, run_takeDeferred hK, ?_⟩⟩
    refine ⟨v, ?_, v, xs, ys.length, rfl, .inl ⟨by rw [hNL]; exact hyl, hst⟩, ownsRow_putObj hr1 _ hK rfl, hB'.trans (belowK_b (w := w) (Nat.le_refl _) _ D _ _ (by omega) hK rfl rfl)⟩
    simp [results, Tryd.f35, go_sem]
  case stop =>
    rintro D c pre W hD hpre ⟨rfl, hI, hst, hst'⟩ hK
    obtain ⟨v, xs, hb1, ho1⟩ := hI.rows
    have hc1 := hb1.cell
    have HI := Lib.hid hI
    have hyl : pre.length ≤ NL := by
      rw [← hNL]
      have := hpre.length_le
      rwa [List.length_map] at this
    clear hb1 hI
    gi_wp2_with fail
    have hB' : Below w.heap.size w W := HI.out.below
    have hr1 : W.ownsRow w.heap.size 30 1 v pre.length xs := own_mono (b := w.heap.size + 1) ho1 (by omega)
    refine ⟨by simp, .inl ⟨_, _, rfl, run_takeDeferred hK, ?_⟩⟩
    refine ⟨v, ?_, v, xs, pre.length, rfl, .inr ⟨by rw [hNL]; exact hyl, hst, hst'⟩, ownsRow_putObj hr1 _ hK rfl, hB'.trans (belowK_b (w := w) (Nat.le_refl _) _ D _ _ (by omega) hK rfl rfl)⟩
    simp [results, Tryd.f35, go_sem]
theorem halves_any (Bs N : Nat) (sa : Option Addr) (sn sc : Nat) (stop : Int) (w : World) (hB : Bs < w.heap.size) (hc : w.cell? ⟨Bs, 0, none⟩ = some (.slice sa sn sc)) (hN : IsN w (.agg #[.slice sa sn sc]) N) :
    Calls Tryd.prog 35 #[.func (.func 55) #[] #[.pointer (some ⟨Bs, 0, none⟩)], .int .i64 stop] w (HalvesIs N stop w) :=
  callsIn_wide.1 (halves_in 4 (Nat.le_refl _) Bs N sa sn sc stop w hB hc hN)
end Go.Proofs.YtikbhcndgmanmaaDoor
