/-
  told of law 5: what the iterator over reasons tells, in two slices of the call's own; the first ones, if one asks for so many.
-/
import Derived.Test.YtinkdjplehaibaaDoorDToldR
import Derived.WalkSmall
namespace Go.Proofs.YtinkdjplehaibaaDoor
open Go.RowKit Go.Shelf
attribute [local go_sem] Oper.semAt_some
def iR (l : List (Nat × Dg)) : List Value := l.map (fun x => .int .i64 (x.1 : Int))
def dR (l : List (Nat × Dg)) : List Value := dgs (l.map (·.2))
theorem iR_snoc (l : List (Nat × Dg)) (x : Nat × Dg) : iR (l ++ [x]) = iR l ++ [.int .i64 (x.1 : Int)] := by simp [iR]
theorem dR_snoc (l : List (Nat × Dg)) (x : Nat × Dg) : dR (l ++ [x]) = dR l ++ [.int .i64 x.2.code, .int .i64 x.2.at_, .string x.2.what] := by simp [dR, dgs, Dg.cells]
/-- A block of reasons that lies apart from what told holds. -/
def Far (n : Nat) (W : World) (g : Nat) (cs : Array Value) : Prop :=
  n + 3 ≤ g ∧ Blk W g 40 cs ∧ ∃ v1 v2, Boxed W (n + 1) 52 v1 ∧ Boxed W (n + 2) 22 v2 ∧ v1.ownBlock ≠ some g ∧ v2.ownBlock ≠ some g
theorem far_below (n : Nat) (W W' : World) (g : Nat) (cs : Array Value) (h : Far n W g cs) (hb : Below W.heap.size W W') : Far n W' g cs := by
  obtain ⟨h1, h2, v1, v2, b1, b2, h3⟩ := h
  have hg := grown_below hb (Nat.le_refl _)
  exact ⟨h1, h2.kept hg (by simp), v1, v2, b1.kept hg (by simp), b2.kept hg (by simp), h3⟩
theorem far_put (n : Nat) (W : World) (l : Nat) (o o' : Obj) (h : W.heap[l]? = some o) (hc : o.isCells = false) : Keeps (Far n) W (W.putObj l o') := by
  rintro g cs ⟨h1, h2, v1, v2, b1, b2, h3⟩
  exact ⟨h1, h2.putD h hc, v1, v2, Blk.putD (cs := #[v1]) b1 h hc, Blk.putD (cs := #[v2]) b2 h hc, h3⟩
theorem keeps_trans {Fa : World → Nat → Array Value → Prop} {A B C : World} (h : Keeps Fa A B) (k : Keeps Fa B C) : Keeps Fa A C := fun g cs x => k g cs (h g cs x)
theorem each_stops (n : Nat) (hn : 1 ≤ n) (m Bs n0 : Nat) (p : Value) (ds : List Dg) (w : World) (hB : Bs < w.heap.size) (hc : w.cell? ⟨Bs, 0, none⟩ = some p) (hp : IsP n0 w p ds) (h3 : w.heap.size = m + 3)
    (hb1 : Boxed w (m + 1) 52 (.slice none 0 0)) (hb2 : Boxed w (m + 2) 22 (.slice none 0 0)) :
    SeqStopsK Fence.wide n Tryd.prog 53 #[.pointer (some ⟨Bs, 0, none⟩)] dArgs (Keeps (Far m)) (fun ys => ys = en 0 ds) (fun pre => pre <+: en 0 ds) 100 w := fun l J Jx W hW hJ _ hY h0 => by
  have hc' := (hW.cell (p := ⟨Bs, 0, none⟩) (by simpa using hB)).trans hc
  have hg := grown_below hW (Nat.le_refl _)
  have hs := hW.size
  refine each1_in n hn l Bs n0 p ds (Far m) (fun W g cs h => h.2.1) (fun W W' g cs h hb => far_below m W W' g cs h hb) W.heap.size J Jx hJ hY W hc' (hp.kept hW) (fun W1 g cs hb hgs hbk => ?_) h0
  have hg1 := grown_below hb (Nat.le_refl _)
  exact ⟨by omega, hbk, _, _, (hb1.kept hg (by simp)).kept hg1 (by simp), (hb2.kept hg (by simp)).kept hg1 (by simp), by simp [Value.ownBlock], by simp [Value.ownBlock]⟩
/-- Between two rounds. -/
structure TwoI (w : World) (stop : Int) (pre : List (Nat × Dg)) (W : World) : Prop where
  rows : ∃ v1 v2, Boxed W (w.heap.size + 1) 52 v1 ∧ Boxed W (w.heap.size + 2) 22 v2 ∧ W.ownsRow (w.heap.size + 1) 3 1 v1 pre.length (iR pre) ∧ W.ownsRow (w.heap.size + 1) 40 3 v2 pre.length (dR pre) ∧ (∀ g, v1.ownBlock = some g → v2.ownBlock ≠ some g)
  stop : Boxed W w.heap.size 3 (.int .i64 stop)
  below : Below w.heap.size w W
theorem box_own {n : Nat} {t : TypeId} {v : Value} {B : Nat} {W W' : World} {row : Option Nat} (h : Boxed W n t v) (hg : W.grownBy W' row) (hr : ∀ r, row = some r → B ≤ r ∧ ∃ o, W.heap[r]? = some o ∧ o.isCells = false) : Boxed W' n t v := h.kept hg (fun e => by
  obtain ⟨_, o, ho, hc⟩ := hr n e.symm
  rw [show W.heap[n]? = _ from h] at ho; cases ho; cases hc)
theorem twoI_own (w : World) (stop : Int) (B : Nat) (hB : w.heap.size ≤ B) : OwnFrom B (TwoI w stop) := by
  intro pre W W' row h hg hr
  have hrow : ∀ {b : Nat} {e : TypeId} {s : Nat} {v : Value} {n : Nat} {xs : List Value}, W.ownsRow b e s v n xs → W'.ownsRow b e s v n xs := fun {b e s v n xs} ho => own_far ho hg (fun g eg ev => by
    obtain ⟨_, o, hh, hc⟩ := hr g eg
    rw [own_cells ho g o ev hh] at hc; cases hc)
  obtain ⟨v1, v2, h1, h2, h3, h4, h5⟩ := h.rows
  exact ⟨⟨v1, v2, box_own h1 hg hr, box_own h2 hg hr, hrow h3, hrow h4, h5⟩, box_own h.stop hg hr, h.below.grown hg h.below.size (fun k e => Nat.le_trans hB (hr k e).1)⟩
theorem own_mono {W : World} {b b' : Nat} {e : TypeId} {s : Nat} {v : Value} {n : Nat} {xs : List Value} (h : W.ownsRow b e s v n xs) (hb : b' ≤ b) : W.ownsRow b' e s v n xs := by
  refine ⟨h.1, ?_⟩
  rcases h.2 with h' | ⟨g, cap, cur, h1, h2, h3⟩
  · exact .inl h'
  · exact .inr ⟨g, cap, cur, h1, Nat.le_trans hb h2, h3⟩
/-- What told hands back. -/
def Tells (ds : List Dg) (stop : Int) (w : World) (e : Ending) (W' : World) : Prop :=
  ∃ v1 v2 xs, e = .returned (.tuple #[v1, v2]) ∧ (xs = en 0 ds ∧ (stop ≤ 0 ∨ (xs.length : Int) < stop) ∨ xs <+: en 0 ds ∧ 0 < stop ∧ (xs.length : Int) = stop) ∧
    W'.ownsRow w.heap.size 3 1 v1 xs.length (iR xs) ∧ W'.ownsRow w.heap.size 40 3 v2 xs.length (dR xs) ∧ Below w.heap.size w W'
/-- A round's own variables. -/
def RoundI (w : World) (Bs : Nat) (stop : Int) (x : Nat × Dg) (a' : Act) (W : World) : Prop :=
  ∃ Bd v1 v2, Blk W Bd 40 #[.int .i64 x.2.code, .int .i64 x.2.at_, .string x.2.what] ∧
    Boxed W (w.heap.size + 1) 52 v1 ∧ Boxed W (w.heap.size + 2) 22 v2 ∧ v1.ownBlock ≠ some Bd ∧ v2.ownBlock ≠ some Bd ∧
    a' = { tmps := #[.func (.func 53) #[] #[.pointer (some ⟨Bs, 0, none⟩)], .int .i64 stop, undef, .pointer (some ⟨w.heap.size, 0, none⟩), .slice none 0 0, .slice none 0 0, .pointer (some ⟨w.heap.size + 1, 0, none⟩), .pointer (some ⟨w.heap.size + 2, 0, none⟩), .int .i64 (x.1 : Int), .pointer (some ⟨Bd, 0, none⟩), .func (.func 53) #[] #[.pointer (some ⟨Bs, 0, none⟩)], .int .i64 (x.1 : Int), .agg #[.int .i64 x.2.code, .int .i64 x.2.at_, .string x.2.what], undef, undef, undef, undef, undef, undef, undef, undef, undef, undef, undef, undef, undef, undef], defers := [] }
theorem box_uniq {W : World} {B : Nat} {t : TypeId} {v v' : Value} (h : Boxed W B t v) (h' : Boxed W B t v') : v = v' := by
  have := (show W.heap[B]? = _ from h).symm.trans h'
  simpa using this
set_option maxRecDepth 100000 in
set_option maxHeartbeats 8000000 in
theorem told_in (n : Nat) (hn : 4 ≤ n) (Bs n0 : Nat) (p : Value) (ds : List Dg) (stop : Int) (w : World) (hB : Bs < w.heap.size) (hc : w.cell? ⟨Bs, 0, none⟩ = some p) (hp : IsP n0 w p ds) :
    CallsIn Fence.wide n Tryd.prog 20 #[.func (.func 53) #[] #[.pointer (some ⟨Bs, 0, none⟩)], .int .i64 stop] w (Tells ds stop w) := by
  have h1 : 1 ≤ n := by omega
  refine callsIn_of_wp_marks Tryd.func20 rfl trivial ?_ rfl
  simp only [Tryd.ntmps20, List.size_toArray, List.length_cons, List.length_nil, Nat.reduceAdd, Nat.reduceSub, Array.replicate_succ, Array.replicate_zero, List.push_toArray, List.append_toArray, List.nil_append, List.cons_append]
  gi_wp2_with fail
  have bS := Boxed.new w 3 (.int .i64 stop)
  have b1 := Boxed.new (w.alloc (.cells #[.int .i64 stop] 3)) 52 (.slice none 0 0)
  have b2 := Boxed.new ((w.alloc (.cells #[.int .i64 stop] 3)).alloc (.cells #[.slice none 0 0] 52)) 22 (.slice none 0 0)
  rw [World.size_alloc] at b1
  rw [World.size_alloc, World.size_alloc] at b2
  have hB0 : Below w.heap.size w (((w.alloc (.cells #[.int .i64 stop] 3)).alloc (.cells #[.slice none 0 0] 52)).alloc (.cells #[.slice none 0 0] 22)) := (((Below.refl _ w).alloc (Nat.le_refl _) _).alloc (by simp) _).alloc (by simp; omega) _
  have hI0 : TwoI w stop [] (((w.alloc (.cells #[.int .i64 stop] 3)).alloc (.cells #[.slice none 0 0] 52)).alloc (.cells #[.slice none 0 0] 22)) :=
    ⟨⟨_, _, b1.alloc _, b2, World.ownsRow_nil _ _ _ _, World.ownsRow_nil _ _ _ _, fun g e => by cases e⟩, (bS.alloc _).alloc _, hB0⟩
  have hsz : (((w.alloc (.cells #[.int .i64 stop] 3)).alloc (.cells #[.slice none 0 0] 52)).alloc (.cells #[.slice none 0 0] 22)).heap.size = w.heap.size + 3 := by simp
  obtain ⟨W0, hW0⟩ : ∃ W0, ((w.alloc (.cells #[.int .i64 stop] 3)).alloc (.cells #[.slice none 0 0] 52)).alloc (.cells #[.slice none 0 0] 22) = W0 := ⟨_, rfl⟩
  rw [hW0] at hI0 hB0 hsz ⊢
  have hc0 : W0.cell? ⟨Bs, 0, none⟩ = some p := (hB0.cell (p := ⟨Bs, 0, none⟩) hB).trans hc
  have hp0 : IsP n0 W0 p ds := hp.kept hB0
  have q1 : Boxed W0 (w.heap.size + 1) 52 (.slice none 0 0) := by rw [← hW0]; exact b1.alloc _
  have q2 : Boxed W0 (w.heap.size + 2) 22 (.slice none 0 0) := by rw [← hW0]; exact b2
  clear hW0 bS b1 b2
  refine wpIn_rangeFunc_ownH rfl h1 (gf := 53) (lb := #[.pointer (some ⟨Bs, 0, none⟩)]) rfl trivial (enters_of Tryd.func53 (by kernel_rfl) rfl)
    (each_stops (n - 1) (by omega) w.heap.size Bs n0 p ds W0 (by omega) hc0 hp0 hsz q1 q2) keeps_trans (fun W l' o o' _ h hc _ => far_put w.heap.size W l' o o' h hc) (Below.refl _ _) (fun x => rfl)
    (fun pre W => TwoI w stop pre W ∧ (stop ≤ 0 ∨ (pre.length : Int) < stop))
    (fun c pre W => c = .exit 0 ∧ TwoI w stop pre W ∧ 0 < stop ∧ (pre.length : Int) = stop)
    (OwnFrom.and (twoI_own w stop _ (by omega)) (ownFrom_pure _ _))
    (fun c => OwnFrom.and (ownFrom_pure _ (fun _ => c = .exit 0)) (OwnFrom.and (twoI_own w stop _ (by omega)) (ownFrom_pure _ _)))
    ⟨hI0, by simp; omega⟩
    (fun x a' W => RoundI w Bs stop x a' W)
    (fun x a' _ X Y row hs hg hr => by
      obtain ⟨Bd, v1, v2, h2, h3, h4, h5, h6, h7⟩ := hs
      exact ⟨Bd, v1, v2, blk_own _ _ _ () X Y row h2 hg (fun r e => (hr r e).2), box_own h3 hg hr, box_own h4 hg hr, h5, h6, h7⟩)
    ?assign ?body ?done ?stop
  case assign =>
    rintro l pre x W K ⟨hI, hst⟩ hK
    have hbw := hI.below
    have hlt := hbw.size
    obtain ⟨v1, v2, hb1, hb2, ho1, ho2, hne⟩ := hI.rows
    have hl1 := hb1.lt
    have hl2 := hb2.lt
    have q1 : ∀ g, v1.ownBlock = some g → g < W.heap.size := fun g e => (own_lt ho1 g e).2
    have q2 : ∀ g, v2.ownBlock = some g → g < W.heap.size := fun g e => (own_lt ho2 g e).2
    have bd := Blk.new W 40 #[.int .i64 x.2.code, .int .i64 x.2.at_, .string x.2.what]
    have HR : Hid (∀ a', a' = _ → RoundI w Bs stop x a' (W.alloc (.cells #[.int .i64 x.2.code, .int .i64 x.2.at_, .string x.2.what] 40))) := Lib.hid (fun a' ha => ⟨W.heap.size, v1, v2, bd, hb1.alloc _, hb2.alloc _, fun e => by have := q1 _ e; omega, fun e => by have := q2 _ e; omega, ha⟩)
    have HI := Lib.hid hI
    have HKp : Hid (Keeps (Far w.heap.size) W (W.alloc (.cells #[.int .i64 x.2.code, .int .i64 x.2.at_, .string x.2.what] 40))) := Lib.hid (fun g cs h => far_below _ _ _ _ _ h ((Below.refl _ _).alloc (Nat.le_refl _) _))
    clear hb1 hb2 ho1 ho2 hne q1 q2 bd hI
    unfold dArgs
    gi_wp2
    refine hK _ _ ((KeepsOthers.alloc _ _).from _) HKp.out ⟨(twoI_own w stop _ (Nat.le_refl _)).alloc _ HI.out, hst⟩ (HR.out _ rfl)
  case body =>
    rintro l pre x a' W hl hrr ⟨hI, hst⟩ ⟨Bd, u1, u2, bD, bu1, bu2, n19, n29, rfl⟩ hlt
    obtain ⟨v1, v2, hb1, hb2, ho1, ho2, hne⟩ := hI.rows
    obtain rfl := box_uniq bu1 hb1
    obtain rfl := box_uniq bu2 hb2
    have hp : pre.length ≤ 1000000 := by omega
    have hT0 : Two (fun g => ∃ cs, Far w.heap.size W g cs) (w.heap.size + 1) W W (w.heap.size + 1) (w.heap.size + 2) 52 22 3 40 1 3 u1 u2 u1 u2 pre.length pre.length (iR pre) (dR pre) :=
      ⟨hb1, hb2, ho1, ho2, hne, KeepsOthers.refl W, Below.refl _ W, ⟨by omega, by omega, by omega, by have := hb1.lt; omega⟩, fun g hg => by
        obtain ⟨cs, f1, f2, w1, w2, c1, c2, f3, f4⟩ := hg
        rw [box_uniq hb1 c1, box_uniq hb2 c2]
        exact ⟨f2.lt, rfl, by omega, by omega, f3, f4⟩⟩
    have HI := Lib.hid hI
    have HD := Lib.hid bD
    clear bD bu1 bu2 hb1 hb2 ho1 ho2 hne hI
    gi_wp2_with fail
    refine round_two _ _ _ _ _ _ _ _ _ Bd u1 u2 pre.length (iR pre) (dR pre) (x.1 : Int) x.2.code x.2.at_ x.2.what _ _ _ _ _ _ _ _ _ _ _ _ _ _ _ hT0 hp HD.out n19 n29 ?_
    intro x15 x19 g1 c1 g2 c2 W' hT
    have hbox : Boxed W' w.heap.size 3 (.int .i64 stop) := (hT.bel.block w.heap.size (by omega)).trans HI.out.stop
    have hI' : TwoI w stop (pre ++ [x]) W' := by
      have e1 : (pre ++ [x]).length = pre.length + 1 := by simp
      refine ⟨⟨_, _, hT.b1, hT.b2, ?_, ?_, hT.ne⟩, hbox, HI.out.below.trans (hT.bel.mono (by omega))⟩
      · rw [e1, iR_snoc]; exact hT.o1
      · rw [e1, dR_snoc]; exact hT.o2
    have hc1 := hT.b2.cell
    have hc0' := hbox.cell
    have hlen : ((pre ++ [x]).length : Int) = (pre.length : Int) + 1 := by simp
    have HI' := Lib.hid hI'
    have HT := Lib.hid hT
    have HKp : Hid (Keeps (Far w.heap.size) W W') := Lib.hid (fun g cs h => by
      obtain ⟨f1, f2, f3, f4, f5, f6⟩ := hT.far g ⟨cs, h⟩
      exact ⟨h.1, f2.trans h.2.1, _, _, hT.b1, hT.b2, f5, f6⟩)
    clear hI' hT hT0
    by_cases hst2 : (pre.length : Int) + 1 = stop
    · gi_wp2_with fail
      exact ⟨HT.out.oth.from _, rfl, HI'.out, by omega, by rw [hlen]; exact hst2⟩
    · gi_wp2_with fail
      exact ⟨HT.out.oth.from _, HKp.out, HI'.out, by rw [hlen]; omega⟩
  case done =>
    rintro D ys W hD hys ⟨hI, hst⟩ hK
    obtain ⟨v1, v2, hb1, hb2, ho1, ho2, hne⟩ := hI.rows
    have hc1 := hb1.cell
    have hc2 := hb2.cell
    have HI := Lib.hid hI
    clear hb1 hb2 hI
    gi_wp2_with fail
    refine wpIn_wide.2 ?_
    go_quiet (fail)
    gi_wp2
    have hK' : (W.drewN nq).heap[D]? = some (.deferred (some [])) := by simpa using hK
    have hB' : Below w.heap.size w (W.drewN nq) := below_drewN HI.out.below nq
    have hr1 : (W.drewN nq).ownsRow w.heap.size 3 1 v1 ys.length (iR ys) := own_mono (b := w.heap.size + 1) ho1 (by omega)
    have hr2 : (W.drewN nq).ownsRow w.heap.size 40 3 v2 ys.length (dR ys) := own_mono (b := w.heap.size + 1) ho2 (by omega)
    refine ⟨by simp, .inl ⟨_, _, rfl, run_takeDeferred hK', ?_⟩⟩
    refine ⟨.tuple #[v1, v2], ?_, v1, v2, ys, rfl, .inl ⟨hys, hst⟩, ownsRow_putObj hr1 _ hK' rfl, ownsRow_putObj hr2 _ hK' rfl, hB'.trans (belowK_b (w := w) (Nat.le_refl _) _ D _ _ (by omega) hK' rfl rfl)⟩
    simp [results, Tryd.f20, go_sem]
  case stop =>
    rintro D c pre W hD hpre ⟨rfl, hI, hst, hst'⟩ hK
    obtain ⟨v1, v2, hb1, hb2, ho1, ho2, hne⟩ := hI.rows
    have hc1 := hb1.cell
    have hc2 := hb2.cell
    have HI := Lib.hid hI
    clear hb1 hb2 hI
    gi_wp2_with fail
    refine wpIn_wide.2 ?_
    go_quiet (fail)
    gi_wp2
    have hK' : (W.drewN nq).heap[D]? = some (.deferred (some [])) := by simpa using hK
    have hB' : Below w.heap.size w (W.drewN nq) := below_drewN HI.out.below nq
    have hr1 : (W.drewN nq).ownsRow w.heap.size 3 1 v1 pre.length (iR pre) := own_mono (b := w.heap.size + 1) ho1 (by omega)
    have hr2 : (W.drewN nq).ownsRow w.heap.size 40 3 v2 pre.length (dR pre) := own_mono (b := w.heap.size + 1) ho2 (by omega)
    refine ⟨by simp, .inl ⟨_, _, rfl, run_takeDeferred hK', ?_⟩⟩
    refine ⟨.tuple #[v1, v2], ?_, v1, v2, pre, rfl, .inr ⟨hpre, hst, hst'⟩, ownsRow_putObj hr1 _ hK' rfl, ownsRow_putObj hr2 _ hK' rfl, hB'.trans (belowK_b (w := w) (Nat.le_refl _) _ D _ _ (by omega) hK' rfl rfl)⟩
    simp [results, Tryd.f20, go_sem]
theorem told_any (Bs n0 : Nat) (p : Value) (ds : List Dg) (stop : Int) (w : World) (hB : Bs < w.heap.size) (hc : w.cell? ⟨Bs, 0, none⟩ = some p) (hp : IsP n0 w p ds) :
    Calls Tryd.prog 20 #[.func (.func 53) #[] #[.pointer (some ⟨Bs, 0, none⟩)], .int .i64 stop] w (Tells ds stop w) :=
  callsIn_wide.1 (told_in 4 (Nat.le_refl _) Bs n0 p ds stop w hB hc hp)
end Go.Proofs.YtinkdjplehaibaaDoor
