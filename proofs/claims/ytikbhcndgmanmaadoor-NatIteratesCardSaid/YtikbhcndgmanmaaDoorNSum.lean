/-
  Law 1: numbers that an iterator tells are added: each of the statements, and Sum.
-/
import Derived.Test.YtikbhcndgmanmaaDoorNHvT
import Derived.Test.YtikbhcndgmanmaaDoorNAddZ
import Derived.Test.YtikbhcndgmanmaaDoorNAlive
namespace Go.Proofs.YtikbhcndgmanmaaDoor
open Go.RowKit Go.Shelf
set_option linter.unusedVariables false
attribute [local go_sem] Oper.semAt_some
/-- The row at a holds these numbers' words. -/
def LR (W : World) (a : Option Addr) (L : List Hv) : Prop := ∀ i x, L[i]? = some x → ∃ ad, a = some ad ∧ ad.block < W.heap.size ∧ W.cell? (ad.add i) = some (hvS x)
theorem LR.below {W W' : World} {a : Option Addr} {L : List Hv} {B : Nat} (h : LR W a L) (hb : Below B W W') (hB : W.heap.size ≤ B) : LR W' a L := fun i x hx => by
  obtain ⟨ad, e, h1, h2⟩ := h i x hx
  exact ⟨ad, e, Nat.lt_of_lt_of_le h1 hb.size, (hb.cell (by rw [add_block]; omega)).trans h2⟩
theorem isN_grown_own {W W' : World} {row : Option Nat} {v : Value} {N : Nat} (h : IsN W v N) (hg : W.grownBy W' row) (hr : ∀ r, row = some r → ∃ o : Obj, W.heap[r]? = some o ∧ o.isCells = false) : IsN W' v N := by
  obtain ⟨a, c, us, rfl, h2, h3, h4⟩ := h
  refine ⟨a, c, us, rfl, h2, fun j hj => ?_, h4⟩
  obtain ⟨ad, rfl, hlt, hc⟩ := h3 j hj
  obtain ⟨o, ho⟩ : ∃ o, W.heap[(ad.add j).block]? = some o := ⟨_, Array.getElem?_eq_getElem (by rw [add_block]; exact hlt)⟩
  have hcl : o.isCells = true := by
    unfold World.cell? at hc
    rw [ho] at hc
    cases o <;> first | rfl | simp at hc
  have e := grownBy_keeps_cells hg hr ho hcl
  exact ⟨ad, rfl, Nat.lt_of_lt_of_le hlt hg.size, by rw [← hc]; exact cell_same e⟩
set_option maxRecDepth 100000 in
set_option maxHeartbeats 2000000 in
theorem each_stops (n : Nat) (hn : 1 ≤ n) (L : List Hv) (hL : L.length ≤ 1000) (a : Option Addr) (c Bs : Nat) (w : World) (hB : Bs < w.heap.size) (hc : w.cell? ⟨Bs, 0, none⟩ = some (.slice a L.length c)) (hrow : LR w a L) :
    SeqStopsK Fence.wide n Tryd.prog 54 #[.pointer (some ⟨Bs, 0, none⟩)] (fun x : {x : Hv // x ∈ L} => #[hvV x.1]) (Below w.heap.size) (fun ys => ys.map (·.1) = L) (fun pre => True) L.length w := by
  intro l J Jx W hW hJ _ hY h0
  refine callsIn_of_wp Tryd.func54 rfl trivial ?_ rfl
  simp only [Tryd.ntmps54, List.size_toArray, List.length_cons, List.length_nil, Nat.reduceAdd, Nat.reduceSub, Array.replicate_succ, Array.replicate_zero, List.push_toArray, List.append_toArray, List.nil_append, List.cons_append]
  have HW := Lib.hid hW
  have HC : Hid (∀ W', Below w.heap.size w W' → W'.cell? ⟨Bs, 0, none⟩ = some (.slice a L.length c)) := Lib.hid (fun W' h => (h.cell (p := ⟨Bs, 0, none⟩) (by simpa using hB)).trans hc)
  have HR : Hid (∀ W', Below w.heap.size w W' → LR W' a L) := Lib.hid (fun W' h => hrow.below h (Nat.le_refl _))
  have HJ := Lib.hid h0
  have H0 : Hid ((([] : List {x : Hv // x ∈ L}).map (·.1)) = L.take 0) := Lib.hid (by simp)
  obtain ⟨m, hm⟩ : ∃ m, L.length = m := ⟨_, rfl⟩
  have Hm := Lib.hid hm
  rw [hm] at HC hL hY
  clear hc hrow hW h0 hB hm
  gi_wp2_with fail
  gi_loopw [3] (fun iv wr => ∃ (k : Nat) (pre : List {x : Hv // x ∈ L}), k ≤ m ∧ iv = .int .i64 (k : Int) ∧ Hid (pre.map (·.1) = L.take k) ∧ Hid (J pre wr) ∧ Hid (Below w.heap.size w wr))
    (fun iv _ => m - (intOf iv).toNat)
  case atStart => exact ⟨0, [], by omega, rfl, H0, HJ, HW⟩
  case round =>
    clear H0 HJ
    obtain ⟨k, pre, hk, rfl, hpre, hj, hb⟩ := hrel
    have hcw := HC.out wr hb.out
    by_cases hlt : k < m
    · have hkL : k < L.length := by rw [Hm.out]; exact hlt
      obtain ⟨x, hx⟩ : ∃ x, L[k]? = some x := ⟨_, List.getElem?_eq_getElem hkL⟩
      have hmem : x ∈ L := List.mem_of_getElem? hx
      obtain ⟨ad, had, hadl, hca⟩ := HR.out wr hb.out k x hx
      have hpl : pre.length = k := by
        have := congrArg List.length hpre.out
        rw [List.length_map, List.length_take] at this
        omega
      have hnext : Hid ((pre ++ [(⟨x, hmem⟩ : {x : Hv // x ∈ L})]).map (·.1) = L.take (k + 1)) := Lib.hid (by rw [List.map_append, hpre.out, List.take_add_one, hx]; rfl)
      obtain ⟨⟨x0, x1, x2⟩, M⟩ := x
      subst had
      have hi0 : (0 : Int) ≤ (k : Int) := by omega
      have hi1 : (k : Int) < (m : Int) := by omega
      obtain ⟨fn, tmps, assign, body, hy, hYR⟩ := hY pre ⟨((x0, x1, x2), M), hmem⟩ wr hj.out (by omega)
      replace hy : (Instr.yield l #[.agg #[.slice x0 x1 x2]]).run Tryd.prog wr = .ok (.round l fn tmps assign body) wr := hy
      replace hca : wr.cell? (ad.add k) = some (.slice x0 x1 x2) := hca
      clear hx hkL hj
      gi_wp2_with fail
      refine hYR.mono ?_
      rintro e W3 (⟨rfl, hJ3, hk3⟩ | ⟨rfl, hJx3⟩)
      · have hJ3' := Lib.hid hJ3
        have hb3 : Hid (Below w.heap.size w W3) := Lib.hid (hb.out.trans hk3)
        have hcw3 := HC.out W3 hb3.out
        clear hJ3 hYR hy hpre hk3 hcw hca hb hadl
        gi_wp2_with fail
        go_roundw
        case rel => exact ⟨k + 1, _, by omega, by go_num, hnext, hJ3', hb3⟩
        case measure => simp [intOf]; omega
      · have hJx' := Lib.hid hJx3
        clear hJx3 hYR hy hpre hcw hca hb hadl
        gi_wp2_with fail
        refine bodyPost_ret (results_none rfl _ _ _) rfl ?_
        exact ⟨⟨_, rfl⟩, .inr ⟨_, trivial, hJx'.out⟩⟩
    · obtain rfl : k = m := by omega
      have hend : Hid (pre.map (·.1) = L) := Lib.hid (by rw [hpre.out, List.take_of_length_le (by rw [Hm.out]; exact Nat.le_refl _)])
      have hi1 : ¬ (k : Int) < (k : Int) := by omega
      clear hpre
      gi_wp2_with fail
      go_end0
      exact ⟨⟨_, rfl⟩, .inl ⟨pre, hend.out, hj.out⟩⟩
theorem isN_apart {W : World} {v : Value} {S b : Nat} {x : Option Addr} {y z : Nat} (h : IsN W v S) (hk : Blk W b 30 #[.slice x y z]) : ∀ ad n c, v = .agg #[.slice (some ad) n c] → ad.block ≠ b := by
  intro ad n c e hb
  obtain ⟨a', c'', us, he, _, hu', _, _, _, _, hnil⟩ := h
  rw [e] at he
  have h1 := congrArg (fun v => match v with | Value.agg xs => xs[0]? | _ => none) he
  simp at h1
  obtain ⟨rfl, hn', rfl⟩ := h1
  obtain ⟨ad', hade, hl, hc⟩ := hu' 0 (List.length_pos_iff.2 (fun e => by have := (hnil e).1; cases this))
  cases hade
  unfold World.cell? at hc
  rw [add_block, hb, show W.heap[b]? = _ from hk] at hc
  simp only at hc
  split at hc
  · cases hc
  · have : ∀ k : Nat, (#[Value.slice x y z] : Array Value)[k]? ≠ some (.int .u64 ((us.getD 0 0 : Nat) : Int)) := fun k => by
      cases k with
      | zero => simp
      | succ k => simp
    exact this _ hc
theorem isN_store {W : World} {v : Value} {S b : Nat} {x : Value} (h : IsN W v S) (hf : ∀ ad n c, v = .agg #[.slice (some ad) n c] → ad.block ≠ b) : IsN (W.setCell ⟨b, 0, none⟩ x) v S := by
  obtain ⟨a, c, us, rfl, h2, h3, h4⟩ := h
  refine ⟨a, c, us, rfl, h2, fun k hk => ?_, h4⟩
  obtain ⟨ad, rfl, hlt, hc⟩ := h3 k hk
  have := hf ad _ _ rfl
  refine ⟨ad, rfl, by rw [World.size_setCell]; exact hlt, ?_⟩
  rw [World.cell?_setCell_other _ _ _ _ (fun e => by have h9 := congrArg Addr.block e; rw [add_block] at h9; simp at h9; omega)]
  exact hc
theorem w_up {x j : Nat} (k : Nat) (h : x < 18446744073709551616 ^ j) (hk : j ≤ k) : x < 18446744073709551616 ^ k := Nat.lt_of_lt_of_le h (w64_mono hk)
def sumN {L : List Hv} (pre : List {x : Hv // x ∈ L}) : Nat := (pre.map (fun x => x.1.2)).sum
theorem sumN_le {L : List Hv} (hbig : ∀ x ∈ L, x.2 < 18446744073709551616 ^ 100) (pre : List {x : Hv // x ∈ L}) : sumN pre ≤ pre.length * 18446744073709551616 ^ 100 := by
  induction pre with
  | nil => simp [sumN]
  | cons x r ih =>
    unfold sumN at *
    rw [List.map_cons, List.sum_cons, List.length_cons, Nat.add_mul, Nat.one_mul]
    have := hbig x.1 x.2
    omega
theorem sumN_lt {L : List Hv} (hbig : ∀ x ∈ L, x.2 < 18446744073709551616 ^ 100) (pre : List {x : Hv // x ∈ L}) (hl : pre.length ≤ 1000) : sumN pre < 18446744073709551616 ^ 9000 := by
  have h1 := sumN_le hbig pre
  have h2 : pre.length * 18446744073709551616 ^ 100 < 18446744073709551616 ^ 101 := by
    rw [Nat.pow_succ 18446744073709551616 100, Nat.mul_comm]
    exact Nat.mul_lt_mul_of_pos_left (by omega) (Nat.pow_pos (by decide))
  exact w_up 9000 (Nat.lt_of_le_of_lt h1 h2) (by omega)
/-- Between two rounds of Sum. -/
structure SumI (w : World) {L : List Hv} (pre : List {x : Hv // x ∈ L}) (W : World) : Prop where
  box : ∃ x y z, Blk W (w.heap.size + 1) 30 #[.slice x y z] ∧ IsN W (.agg #[.slice x y z]) (sumN pre)
  res : Blk W w.heap.size 30 #[.slice none 0 0]
  bel : Below w.heap.size w W
theorem blk_own {W W' : World} {row : Option Nat} {b : Nat} {t : TypeId} {cs : Array Value} (h : Blk W b t cs) (hg : W.grownBy W' row) (hr : ∀ r, row = some r → ∃ o : Obj, W.heap[r]? = some o ∧ o.isCells = false) : Blk W' b t cs := (grownBy_keeps_cells hg hr h rfl).trans h
theorem sumI_own (w : World) {L : List Hv} (B : Nat) (hB : w.heap.size ≤ B) : OwnFrom B (SumI w (L := L)) := by
  intro pre W W' row h hg hr
  obtain ⟨x, y, z, h1, h2⟩ := h.box
  have hr' : ∀ r, row = some r → ∃ o : Obj, W.heap[r]? = some o ∧ o.isCells = false := fun r e => (hr r e).2
  exact ⟨⟨x, y, z, blk_own h1 hg hr', isN_grown_own h2 hg hr'⟩, blk_own h.res hg hr', h.bel.grown hg h.bel.size (fun k e => Nat.le_trans hB (hr k e).1)⟩
/-- A round's own variable. -/
def RoundS (w : World) (f : Value) {L : List Hv} (x : {x : Hv // x ∈ L}) (a' : Act) (W : World) : Prop :=
  ∃ Bd, w.heap.size + 2 ≤ Bd ∧ Blk W Bd 30 #[.slice x.1.1.1 x.1.1.2.1 x.1.1.2.2] ∧
    a' = { tmps := #[f, undef, .pointer (some ⟨w.heap.size, 0, none⟩), .pointer (some ⟨w.heap.size + 1, 0, none⟩), .pointer (some ⟨Bd, 0, none⟩), f, .bool false, undef, f, hvV x.1, undef, undef, undef, undef], defers := [] }
set_option maxRecDepth 100000 in
set_option maxHeartbeats 4000000 in
theorem sum_in (n : Nat) (hn : 4 ≤ n) (L : List Hv) (hL : L.length ≤ 1000) (a : Option Addr) (c Bs : Nat) (w : World) (hB : Bs < w.heap.size) (hc : w.cell? ⟨Bs, 0, none⟩ = some (.slice a L.length c)) (hrow : LR w a L)
    (hnum : ∀ x ∈ L, IsN w (hvV x) x.2) (hbig : ∀ x ∈ L, x.2 < 18446744073709551616 ^ 100) :
    CallsIn Fence.wide n Tryd.prog 32 #[.func (.func 54) #[] #[.pointer (some ⟨Bs, 0, none⟩)]] w (GaveV ((L.map (·.2)).sum) w) := by
  have h1 : 1 ≤ n := by omega
  have HSeq := Lib.hid (each_stops (n - 1) (by omega) L hL a c Bs w hB hc hrow)
  have HNum := Lib.hid hnum
  have HBig := Lib.hid hbig
  have hfn : ∀ W, (binOp .eql 60 (.func (.func 54) #[] #[.pointer (some ⟨Bs, 0, none⟩)]) .nilFunc).run Tryd.prog W = .ok (.bool false) W := fun W => run_eql_func_nil _ _ _ _ (by kernel_rfl) W
  clear hB hc hrow hnum hbig
  refine callsIn_of_wp_marks Tryd.func32 rfl trivial ?_ rfl
  simp only [Tryd.ntmps32, List.size_toArray, List.length_cons, List.length_nil, Nat.reduceAdd, Nat.reduceSub, Array.replicate_succ, Array.replicate_zero, List.push_toArray, List.append_toArray, List.nil_append, List.cons_append]
  gi_wp2_with fail
  have q0 := Blk.new w 30 #[.slice none 0 0]
  have q1 := Blk.new (w.alloc (.cells #[.slice none 0 0] 30)) 30 #[.slice none 0 0]
  rw [World.size_alloc] at q1
  obtain ⟨W0, hW0⟩ : ∃ W0, (w.alloc (.cells #[.slice none 0 0] 30)).alloc (.cells #[.slice none 0 0] 30) = W0 := ⟨_, rfl⟩
  have hB0 : Below w.heap.size w W0 := by rw [← hW0]; exact ((Below.refl _ w).alloc (Nat.le_refl _) _).alloc (by simp) _
  have hsz : W0.heap.size = w.heap.size + 2 := by rw [← hW0]; simp
  have hI0 : SumI w (L := L) [] W0 := ⟨⟨none, 0, 0, by rw [← hW0]; exact q1, isN_zero _⟩, by rw [← hW0]; exact q0.below ((Below.refl _ _).alloc (Nat.le_refl _) _) q0.lt, hB0⟩
  rw [hW0]
  clear hW0 q0 q1
  refine wpIn_rangeFunc_ownH rfl h1 (gf := 54) (lb := #[.pointer (some ⟨Bs, 0, none⟩)]) rfl trivial (enters_of Tryd.func54 (by kernel_rfl) rfl)
    HSeq.out (fun h k => h.trans k) (fun W l' o o' hl h hc hw => belowK_b (w := W0) (by omega) W l' o o' hl h hc hw) hB0 (fun x => rfl)
    (fun pre W => SumI w pre W) (fun c pre W => False) (sumI_own w _ (by omega)) (fun c => ownFrom_pure _ _) hI0
    (fun x a' W => RoundS w (.func (.func 54) #[] #[.pointer (some ⟨Bs, 0, none⟩)]) x a' W)
    (fun x a' _ X Y row hs hg hr => by
      obtain ⟨Bd, h2, h3, h4⟩ := hs
      exact ⟨Bd, h2, blk_own h3 hg (fun r e => (hr r e).2), h4⟩)
    ?assign ?body ?done ?stop
  case assign =>
    rintro l pre ⟨⟨⟨x0, x1, x2⟩, M⟩, hx⟩ W K hI hK
    have hlt := hI.bel.size
    have h0 := hI.box
    obtain ⟨u0, u1, u2, hb0, _⟩ := h0
    have hbl := hb0.lt
    have hk4 : Blk (W.alloc (.cells #[.slice x0 x1 x2] 30)) W.heap.size 30 #[.slice x0 x1 x2] := Blk.new W _ _
    have hbb : Below W.heap.size W (W.alloc (.cells #[.slice x0 x1 x2] 30)) := (Below.refl _ W).alloc (Nat.le_refl _) _
    have HR : Hid (∀ a', a' = _ → RoundS w (.func (.func 54) #[] #[.pointer (some ⟨Bs, 0, none⟩)]) (L := L) ⟨((x0, x1, x2), M), hx⟩ a' (W.alloc (.cells #[.slice x0 x1 x2] 30))) := Lib.hid (fun a' ha => ⟨W.heap.size, by omega, hk4, ha⟩)
    have HI2 := Lib.hid (sumI_own w (L := L) _ (Nat.le_refl _) pre W _ none hI (grown_below hbb (Nat.le_refl _)) (fun r e => by cases e))
    have HB2 : Hid (Below w.heap.size W (W.alloc (.cells #[.slice x0 x1 x2] 30))) := Lib.hid (hbb.mono hlt)
    clear hk4 hbb hI hb0
    unfold hvV
    gi_wp2
    refine hK _ _ ((KeepsOthers.alloc _ _).from _) HB2.out HI2.out (HR.out _ rfl)
  case body =>
    rintro l pre ⟨⟨⟨x0, x1, x2⟩, M⟩, hx⟩ a' W hl hrr hI ⟨Bd, hBd, bD, rfl⟩ hlt
    obtain ⟨u0, u1, u2, hb0, hN0⟩ := hI.box
    have HRes := Lib.hid hI.res
    have HBel := Lib.hid hI.bel
    have hcs := hb0.cell 0; have hfs := hb0.frozen 0
    have hcd := bD.cell 0
    simp only [List.getElem?_toArray, List.getElem?_cons_zero] at hcs hcd
    have hM := w_up 9000 (HBig.out _ hx) (by omega)
    have HAdd := Lib.hid (add_any (sumN pre) M _ _ W hN0 ((HNum.out _ hx).below hI.bel (Nat.le_refl _)) (sumN_lt HBig.out pre (by omega)) hM)
    have Hb0 := Lib.hid hb0
    have hS : Hid (sumN pre + M = sumN (pre ++ [(⟨((x0, x1, x2), M), hx⟩ : {x : Hv // x ∈ L})])) := Lib.hid (by unfold sumN; simp)
    clear hI hN0 hb0 bD hM
    unfold hvV
    gi_wp2_with fail
    refine ⟨trivial, fun _ => by omega, (CallsIn.inRound l (callsIn_wide.2 HAdd.out)).mono ?_⟩
    rintro e w2 ⟨x, y, z, rfl, hN2, hb2⟩
    have hk2 : Blk w2 (w.heap.size + 1) 30 #[.slice u0 u1 u2] := Hb0.out.below hb2 Hb0.out.lt
    have hk20 := hk2.cell 0; have hk2f := hk2.frozen 0
    simp only [List.getElem?_toArray, List.getElem?_cons_zero] at hk20
    have HI3 : Hid (SumI w (pre ++ [(⟨((x0, x1, x2), M), hx⟩ : {x : Hv // x ∈ L})]) (w2.setCell ⟨w.heap.size + 1, 0, none⟩ (.slice x y z))) := Lib.hid
      ⟨⟨x, y, z, hk2.set_ 0 _, by rw [← hS.out]; exact isN_store hN2 (isN_apart hN2 hk2)⟩, (HRes.out.below hb2 HRes.out.lt).far (by show w.heap.size ≠ w.heap.size + 1; omega) _,
        (HBel.out.trans (hb2.mono HBel.out.size)).setCell (p := ⟨w.heap.size + 1, 0, none⟩) (by show w.heap.size ≤ w.heap.size + 1; omega) _⟩
    have HB3 : Hid (Below w.heap.size W (w2.setCell ⟨w.heap.size + 1, 0, none⟩ (.slice x y z))) := Lib.hid ((hb2.mono HBel.out.size).setCell (p := ⟨w.heap.size + 1, 0, none⟩) (by show w.heap.size ≤ w.heap.size + 1; omega) _)
    have HK3 : Hid (KeepsFrom W0.heap.size W (w2.setCell ⟨w.heap.size + 1, 0, none⟩ (.slice x y z))) := Lib.hid ⟨by simpa using hb2.size, fun k o hk ho _ => by
      have hk' := (Array.getElem?_eq_some_iff.1 ho).1
      exact (Below.heap_setCell _ _ _ k (by show k ≠ w.heap.size + 1; omega)).trans ((hb2.block k hk').trans ho)⟩
    clear hk2 hN2 hb2 hcs hfs hcd HAdd
    gi_wp2_with fail
    exact ⟨HK3.out, HB3.out, HI3.out⟩
  case done =>
    rintro D ys W hD hys hI hK
    obtain ⟨u0, u1, u2, hb0, hN0⟩ := hI.box
    have hsum : sumN ys = (L.map (·.2)).sum := by
      have e : ys.map (fun x => x.1.2) = (ys.map (·.1)).map (·.2) := by rw [List.map_map]; rfl
      unfold sumN
      rw [e, hys]
    rw [hsum] at hN0
    have hres := hI.res
    have hcs := hb0.cell 0
    have hcr := hres.cell 0; have hfr := hres.frozen 0
    simp only [List.getElem?_toArray, List.getElem?_cons_zero] at hcs hcr
    have HN := Lib.hid (isN_store (x := .slice u0 u1 u2) hN0 (isN_apart hN0 hres))
    have HRs : Hid (Blk (W.setCell ⟨w.heap.size, 0, none⟩ (.slice u0 u1 u2)) w.heap.size 30 #[.slice u0 u1 u2]) := Lib.hid (hres.set_ 0 _)
    have HB : Hid (Below w.heap.size w (W.setCell ⟨w.heap.size, 0, none⟩ (.slice u0 u1 u2))) := Lib.hid (hI.bel.setCell (p := ⟨w.heap.size, 0, none⟩) (Nat.le_refl _) _)
    have HK : Hid ((W.setCell ⟨w.heap.size, 0, none⟩ (.slice u0 u1 u2)).heap[D]? = some (.deferred (some []))) := Lib.hid ((Below.heap_setCell _ _ _ D (by show D ≠ w.heap.size; omega)).trans hK)
    clear hb0 hN0 hres hI hK
    gi_wp2_with fail
    refine ⟨by simp, .inl ⟨_, _, rfl, run_takeDeferred HK.out, ?_⟩⟩
    have hg := grownBy_putObj' (W.setCell ⟨w.heap.size, 0, none⟩ (.slice u0 u1 u2)) D (.deferred none)
    have hr : ∀ r, some D = some r → ∃ o : Obj, (W.setCell ⟨w.heap.size, 0, none⟩ (.slice u0 u1 u2)).heap[r]? = some o ∧ o.isCells = false := fun r e => by cases e; exact ⟨_, HK.out, rfl⟩
    exact ⟨_, res_nat rfl _ _ w.heap.size (.slice u0 u1 u2) rfl (blk_own HRs.out hg hr), u0, u1, u2, rfl, isN_grown_own HN.out hg hr, HB.out.trans (belowK_b (w := w) (Nat.le_refl _) _ D _ _ (by omega) HK.out rfl rfl)⟩
  case stop =>
    rintro D c pre W _ _ h _
    exact h.elim
theorem sum_any (L : List Hv) (hL : L.length ≤ 1000) (a : Option Addr) (c Bs : Nat) (w : World) (hB : Bs < w.heap.size) (hc : w.cell? ⟨Bs, 0, none⟩ = some (.slice a L.length c)) (hrow : LR w a L)
    (hnum : ∀ x ∈ L, IsN w (hvV x) x.2) (hbig : ∀ x ∈ L, x.2 < 18446744073709551616 ^ 100) :
    Calls Tryd.prog 32 #[.func (.func 54) #[] #[.pointer (some ⟨Bs, 0, none⟩)]] w (GaveV ((L.map (·.2)).sum) w) :=
  callsIn_wide.1 (sum_in 4 (Nat.le_refl _) L hL a c Bs w hB hc hrow hnum hbig)
theorem run_equalIn_nil_nil {P : Program} (d : Nat) (t : TypeId) (a b : Array TypeId) (c : Bool) (h : P.underlying t = some (.func a b c)) (w : World) : (Op.equalIn (d + 1) t .nilFunc .nilFunc).run P w = .ok true w := by
  simp [Op.equalIn, run_underlying h]
theorem run_eql_nil_nil {P : Program} (t : TypeId) (h : isFunc (P.underlying t) = true) (w : World) : (binOp .eql t .nilFunc .nilFunc).run P w = .ok (.bool true) w := by
  have ⟨a, b, c, h⟩ : ∃ a b c, P.underlying t = some (.func a b c) := by
    unfold isFunc at h
    split at h
    · exact ⟨_, _, _, by assumption⟩
    · cases h
  have e : (Op.equal t .nilFunc .nilFunc).run P w = .ok true w := run_equalIn_nil_nil 9999 t a b c h w
  simp only [binOp]
  simp [e]
set_option maxRecDepth 100000 in
theorem sum_nil (w : World) : Calls Tryd.prog 32 #[.nilFunc] w fun e w' => e = .returned (.agg #[.slice none 0 0]) ∧ Below w.heap.size w w' := by
  have q0 := Blk.new w 30 #[.slice none 0 0]
  have hnn : ∀ W, (binOp .eql 60 .nilFunc .nilFunc).run Tryd.prog W = .ok (.bool true) W := fun W => run_eql_nil_nil _ (by kernel_rfl) W
  have q1 : Blk ((w.alloc (.cells #[.slice none 0 0] 30)).alloc (.cells #[.slice none 0 0] 30)) w.heap.size 30 #[.slice none 0 0] := q0.below ((Below.refl _ _).alloc (Nat.le_refl _) _) q0.lt
  have HQ := Lib.hid q1
  have qc := q1.cell 0; have qf := q1.frozen 0
  simp only [List.getElem?_toArray, List.getElem?_cons_zero] at qc
  have HB : Hid (Below w.heap.size w ((w.alloc (.cells #[.slice none 0 0] 30)).alloc (.cells #[.slice none 0 0] 30))) := Lib.hid (((Below.refl _ w).alloc (Nat.le_refl _) _).alloc (by simp) _)
  clear q0 q1
  go_enter Tryd.func32, Tryd.ntmps32
  go_wp2_with fail
  refine bodyPost_ret (res_nat rfl _ _ w.heap.size (.slice none 0 0) rfl HQ.out) rfl ?_
  exact ⟨rfl, HB.out⟩
set_option maxRecDepth 100000 in
theorem each_fn (a : Option Addr) (n c : Nat) (w : World) :
    Calls Tryd.prog 33 #[.slice a n c] w fun e w' => e = .returned (.func (.func 54) #[] #[.pointer (some ⟨w.heap.size, 0, none⟩)]) ∧ w.alloc (.cells #[.slice a n c] 23) = w' := by
  go_enter Tryd.func33, Tryd.ntmps33
  go_wp2
  go_ret
  exact ⟨rfl, rfl⟩
end Go.Proofs.YtikbhcndgmanmaaDoor
