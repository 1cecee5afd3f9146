/-
 Law 2: of fractions that an iterator tells, the one ahead of all others.
-/
import Derived.Test.YtllmacokhjmdgaaGreatDoorIAny
namespace Go.Proofs.YtllmacokhjmdgaaGreatDoor
open Go.RowKit Go.Shelf
set_option linter.unusedVariables false
attribute [local go_sem] Oper.semAt_some
/-- The one that is ahead, or none. -/
def fb (side : Int) (o : Option Rat) (x : Rat) : Option Rat := match o with | none => some x | some b => if cmpQ x b = side then some x else some b
def bestO (side : Int) (l : List Rat) : Option Rat := l.foldl (fb side) none
theorem bestO_snoc (side : Int) (l : List Rat) (x : Rat) : bestO side (l ++ [x]) = fb side (bestO side l) x := by simp [bestO]
def qls {L : List Ev} (pre : List {x : Ev // x ∈ L}) : List Rat := pre.map (fun x => x.1.q)
/-- Between two rounds. -/
structure FirR (Tb : Nat) (side : Int) (w : World) {L : List Ev} (pre : List {x : Ev // x ∈ L}) (W : World) : Prop where
 sid : Blk W w.heap.size 3 #[.int .i64 side]
 res : Blk W (w.heap.size + 1) 28 #[.bool false, .slice none 0 0, .slice none 0 0]
 best : BoxR W (w.heap.size + 2) ((bestO side (qls pre)).getD 0)
 fnd : Blk W (w.heap.size + 3) 4 #[.bool (bestO side (qls pre)).isSome]
 btk : Btk Tb w W
theorem firR_own (Tb : Nat) (side : Int) (w : World) {L : List Ev} (B : Nat) (hB : w.heap.size ≤ B) : OwnFrom B (FirR Tb side w (L := L)) := by
 intro pre W W' row h hg hr
 have hr' : ∀ r, row = some r → ∃ o : Obj, W.heap[r]? = some o ∧ o.isCells = false := fun r e => (hr r e).2
 exact ⟨blk_grown h.sid hg hr', blk_grown h.res hg hr', h.best.grown hg hr', blk_grown h.fnd hg hr', h.btk.grown hg (fun k e => Nat.le_trans hB (hr k e).1)⟩
/-- A round's own variable. -/
def RoundF (w : World) (f : Value) (side : Int) {L : List Ev} (x : {x : Ev // x ∈ L}) (a' : Act) (W : World) : Prop :=
 ∃ Bd, w.heap.size + 4 ≤ Bd ∧ Blk W Bd 28 #[.bool x.1.b, .slice x.1.p x.1.n x.1.c, .slice x.1.p' x.1.n' x.1.c'] ∧
  a' = { tmps := #[f, .int .i64 side, undef, .pointer (some ⟨w.heap.size, 0, none⟩), .pointer (some ⟨w.heap.size + 1, 0, none⟩), .bool false, .pointer (some ⟨w.heap.size + 2, 0, none⟩), .pointer (some ⟨w.heap.size + 3, 0, none⟩), .pointer (some ⟨Bd, 0, none⟩), f, .bool false, undef, undef, f, x.1.V, undef, undef, undef, undef, undef, undef, undef, undef, undef, undef, undef, undef], defers := [] }
theorem plain_bool (z : Bool) : Plain #[.bool z] := fun k z => by
 cases k with
 | zero => simp
 | succ k => simp
theorem bestO_mem (side : Int) : ∀ (l : List Rat) (x : Rat), bestO side l = some x → x ∈ l := by
 intro l
 have key : ∀ (l : List Rat) (o : Option Rat) (x : Rat), l.foldl (fb side) o = some x → o = some x ∨ x ∈ l := by
  intro l
  induction l with
  | nil => intro o x h; exact .inl h
  | cons y r ih =>
   intro o x h
   rcases ih _ x h with h1 | h1
   · unfold fb at h1
     split at h1
     · cases h1; exact .inr (by simp)
     · split at h1
       · cases h1; exact .inr (by simp)
       · exact .inl h1
   · exact .inr (by simp [h1])
 intro x h
 rcases key l none x h with h1 | h1
 · cases h1
 · exact h1
theorem bestO_sz {side : Int} {L : List Ev} {x : Rat} (hbig : ∀ e ∈ L, Sz 50 e.q) (pre : List {x : Ev // x ∈ L}) (h : bestO side (qls pre) = some x) : Sz 50 x := by
 have hm := bestO_mem side _ _ h
 unfold qls at hm
 obtain ⟨e, _, he⟩ := List.mem_map.1 hm
 rw [← he]
 exact hbig _ e.2
set_option maxRecDepth 100000 in
set_option maxHeartbeats 8000000 in
theorem first_in (n : Nat) (hn : 4 ≤ n) (side : Int) (L : List Ev) (hL : L.length ≤ 1000) (a : Option Addr) (c Bs Bt Tb : Nat) (t0 : Int) (ht0 : 0 ≤ t0) (ht1 : t0 ≤ 100000) (w : World) (hB : Bs < w.heap.size) (hc : w.cell? ⟨Bs, 0, none⟩ = some (.slice a L.length c))
 (hBt : Bt < w.heap.size) (hct : w.cell? ⟨Bt, 0, none⟩ = some (.pointer (some ⟨Tb, 0, none⟩))) (hT : Blk w Tb 3 #[.int .i64 t0]) (hrow : ER w a L) (hnum : ∀ e ∈ L, IsR w e.V e.q) (hbig : ∀ e ∈ L, Sz 50 e.q) :
 CallsIn Fence.wide n Tryz.prog 88 #[(.func (.func 87) #[] #[.pointer (some ⟨Bs, 0, none⟩), .pointer (some ⟨Bt, 0, none⟩)]), .int .i64 side] w
  (fun e W' => ∃ v, e = .returned (.tuple #[v, .bool (bestO side (L.map (·.q))).isSome]) ∧ IsR W' v ((bestO side (L.map (·.q))).getD 0) ∧ Btk Tb w W' ∧ Blk W' Tb 3 #[.int .i64 (t0 + (L.length : Int))]) := by
 have h1 : 1 ≤ n := by omega
 have HNum := Lib.hid hnum
 have HBig := Lib.hid hbig
 have hTl := hT.lt
 have hfn : ∀ W, (binOp .eql 67 (.func (.func 87) #[] #[.pointer (some ⟨Bs, 0, none⟩), .pointer (some ⟨Bt, 0, none⟩)]) .nilFunc).run Tryz.prog W = .ok (.bool false) W := fun W => run_eql_func_nil _ _ _ _ (by kernel_rfl) W
 clear hnum hbig
 refine callsIn_of_wp_marks Tryz.func88 rfl trivial ?_ rfl
 simp only [Tryz.ntmps88, List.size_toArray, List.length_cons, List.length_nil, Nat.reduceAdd, Nat.reduceSub, Array.replicate_succ, Array.replicate_zero, List.push_toArray, List.append_toArray, List.nil_append, List.cons_append]
 gi_wp2_with fail
 obtain ⟨W0, hW0⟩ : ∃ W0, (((w.alloc (.cells #[.int .i64 side] 3)).alloc (.cells #[.bool false, .slice none 0 0, .slice none 0 0] 28)).alloc (.cells #[.bool false, .slice none 0 0, .slice none 0 0] 28)).alloc (.cells #[.bool false] 4) = W0 := ⟨_, rfl⟩
 have q0 := Blk.new w 3 #[.int .i64 side]
 have q1 := Blk.new (w.alloc (.cells #[.int .i64 side] 3)) 28 #[.bool false, .slice none 0 0, .slice none 0 0]
 have q2 := Blk.new ((w.alloc (.cells #[.int .i64 side] 3)).alloc (.cells #[.bool false, .slice none 0 0, .slice none 0 0] 28)) 28 #[.bool false, .slice none 0 0, .slice none 0 0]
 have q3 := Blk.new (((w.alloc (.cells #[.int .i64 side] 3)).alloc (.cells #[.bool false, .slice none 0 0, .slice none 0 0] 28)).alloc (.cells #[.bool false, .slice none 0 0, .slice none 0 0] 28)) 4 #[.bool false]
 simp only [World.size_alloc] at q1 q2 q3
 have hB0 : Below w.heap.size w W0 := by rw [← hW0]; exact ((((Below.refl _ w).alloc (Nat.le_refl _) _).alloc (by simp) _).alloc (by simp; omega) _).alloc (by simp; omega) _
 have hsz : W0.heap.size = w.heap.size + 4 := by rw [← hW0]; simp
 have up : ∀ (X : World) (b : Nat) (t : TypeId) (cs : Array Value) (o : Obj), Blk X b t cs → Blk (X.alloc o) b t cs := fun X b t cs o h => h.below ((Below.refl _ _).alloc (Nat.le_refl _) _) h.lt
 have hI0 : FirR Tb side w (L := L) [] W0 := ⟨by rw [← hW0]; exact up _ _ _ _ _ (up _ _ _ _ _ (up _ _ _ _ _ q0)), by rw [← hW0]; exact up _ _ _ _ _ (up _ _ _ _ _ q1), ⟨false, none, 0, 0, none, 0, 0, by rw [← hW0]; exact up _ _ _ _ _ q2, isR_zero _⟩, by rw [← hW0]; exact q3, Btk.of_below hT hB0⟩
 have HSeq := Lib.hid (each_told (n - 1) (by omega) L hL a c Bs Bt Tb t0 ht0 ht1 w hB hc hBt hct hT hrow W0 hB0)
 have HT := Lib.hid hT
 rw [hW0]
 clear hW0 q0 q1 q2 q3 up hB hc hBt hct hrow
 refine wpIn_range_told rfl h1 (gf := 87) (lb := #[.pointer (some ⟨Bs, 0, none⟩), .pointer (some ⟨Bt, 0, none⟩)]) rfl trivial (enters_of Tryz.func87 (by kernel_rfl) rfl)
  (Tb := Tb) (by omega) HSeq.out (fun h k => h.trans k) (fun W l' o o' hl h hc hw => belowK_b (w := w) (by omega) W l' o o' (by omega) h hc hw) (fun x => rfl)
  (fun pre W => FirR Tb side w pre W) (fun c pre W => False) (firR_own Tb side w _ (by omega))
  (fun pre W z h => by
   obtain ⟨t, hTt⟩ := h.btk.blk HT.out
   exact ⟨h.sid.far (by show w.heap.size ≠ Tb; omega) _, h.res.far (by show w.heap.size + 1 ≠ Tb; omega) _, h.best.count hTt _ (by omega), h.fnd.far (by show w.heap.size + 3 ≠ Tb; omega) _, h.btk.count HT.out z⟩)
  (fun c => ownFrom_pure _ _)
  (OwnFrom.and (ownFrom_pure _ _) (fun ys X Y row hs hg hr => blk_grown hs hg (fun r e => (hr r e).2))) (ownFrom_pure _ _) hI0
  (fun x a' W => RoundF w (.func (.func 87) #[] #[.pointer (some ⟨Bs, 0, none⟩), .pointer (some ⟨Bt, 0, none⟩)]) side x a' W)
  (fun x a' _ X Y row hs hg hr => by
   obtain ⟨Bd, h2, h3, h4⟩ := hs
   exact ⟨Bd, h2, blk_grown h3 hg (fun r e => (hr r e).2), h4⟩)
  ?assign ?body ?done ?stop
 case assign =>
  rintro l pre ⟨⟨b, p, nn_, cc_, p', n', c', q⟩, hx⟩ W K hI hK
  have hlt := hI.btk.size
  have hbl := hI.fnd.lt
  have hk4 : Blk (W.alloc (.cells #[.bool b, .slice p nn_ cc_, .slice p' n' c'] 28)) W.heap.size 28 #[.bool b, .slice p nn_ cc_, .slice p' n' c'] := Blk.new W _ _
  have hbb : Below W.heap.size W (W.alloc (.cells #[.bool b, .slice p nn_ cc_, .slice p' n' c'] 28)) := (Below.refl _ W).alloc (Nat.le_refl _) _
  have HR : Hid (∀ a', a' = _ → RoundF w (.func (.func 87) #[] #[.pointer (some ⟨Bs, 0, none⟩), .pointer (some ⟨Bt, 0, none⟩)]) side (L := L) ⟨⟨b, p, nn_, cc_, p', n', c', q⟩, hx⟩ a' (W.alloc (.cells #[.bool b, .slice p nn_ cc_, .slice p' n' c'] 28))) := Lib.hid (fun a' ha => ⟨W.heap.size, by omega, hk4, ha⟩)
  have HI2 := Lib.hid (firR_own Tb side w (L := L) _ (Nat.le_refl _) pre W _ none hI (grown_below hbb (Nat.le_refl _)) (fun r e => by cases e))
  have HB2 : Hid (Below w.heap.size W (W.alloc (.cells #[.bool b, .slice p nn_ cc_, .slice p' n' c'] 28))) := Lib.hid (hbb.mono (by omega))
  clear hk4 hbb hI
  unfold Ev.V
  gi_wp2
  refine hK _ _ ((KeepsOthers.alloc _ _).from _) HB2.out HI2.out (HR.out _ rfl)
 case body =>
  rintro l pre ⟨⟨b, p, nn_, cc_, p', n', c', q⟩, hx⟩ a' W hl hrr hI ⟨Bd, hBd, bD, rfl⟩ hlt hod
  have HSt := Lib.hid hI
  obtain ⟨z0, u0, u1, u2, u3, u4, u5, hb0, hN0⟩ := hI.best
  have Hb0 := Lib.hid hb0; have Hsd := Lib.hid hI.sid; have HbD := Lib.hid bD
  have hfn := hI.fnd
  have hWs := hI.btk.size
  have HNq : Hid (IsR W (.agg #[.bool b, .slice p nn_ cc_, .slice p' n' c']) q) := Lib.hid (hI.btk.isR HT.out (HNum.out _ hx))
  have hsn : qls (pre ++ [(⟨⟨b, p, nn_, cc_, p', n', c', q⟩, hx⟩ : {x : Ev // x ∈ L})]) = qls pre ++ [q] := by simp [qls]
  cases ho : bestO side (qls pre) with
  | none =>
   rw [ho] at hfn
   have Hfn : Hid (Blk W (w.heap.size + 3) 4 #[.bool false]) := Lib.hid hfn
   have HNEW : Hid (fb side (bestO side (qls pre)) q = some q) := Lib.hid (by rw [ho]; rfl)
   have HF : Hid (∀ W1, Below W.heap.size W W1 → W1.cell? ⟨w.heap.size + 3, 0, none⟩ = some (.bool false) ∧ W1.cell? ⟨w.heap.size, 0, none⟩ = some (.int .i64 side) ∧ W1.cell? ⟨Bd, 0, none⟩ = some (.bool b) ∧ W1.cell? ⟨Bd, 1, none⟩ = some (.slice p nn_ cc_) ∧ W1.cell? ⟨Bd, 2, none⟩ = some (.slice p' n' c') ∧ W1.cell? ⟨w.heap.size + 2, 0, none⟩ = some (.bool z0) ∧ W1.cell? ⟨w.heap.size + 2, 1, none⟩ = some (.slice u0 u1 u2) ∧ W1.cell? ⟨w.heap.size + 2, 2, none⟩ = some (.slice u3 u4 u5)) := Lib.hid (fun W1 h => ⟨by rw [(Hfn.out.below h Hfn.out.lt).cell 0]; rfl, by rw [(Hsd.out.below h Hsd.out.lt).cell 0]; rfl, by rw [(HbD.out.below h HbD.out.lt).cell 0]; rfl, by rw [(HbD.out.below h HbD.out.lt).cell 1]; rfl, by rw [(HbD.out.below h HbD.out.lt).cell 2]; rfl, by rw [(Hb0.out.below h Hb0.out.lt).cell 0]; rfl, by rw [(Hb0.out.below h Hb0.out.lt).cell 1]; rfl, by rw [(Hb0.out.below h Hb0.out.lt).cell 2]; rfl⟩)
   clear hfn hb0 hN0 hI bD hod
   unfold Ev.V
   gi_wp2_with fail
   refine wpIn_region_inv 9 (fun a0 dj a W1 => ∃ v0 v1 v2 v3 v4 v5 v6 v7 v8 : Value, a = puts a0 [(15, v0), (16, v1), (17, v2), (18, v3), (19, v4), (20, v5), (21, v6), (22, v7), (23, v8)] ∧ Below W.heap.size W W1 ∧ (dj 0 = true → v0 = .bool false) ∧ (dj 1 = true → v1 = .bool true) ∧ (dj 2 = true → v2 = .bool true) ∧ (dj 3 = true → v3 = undef) ∧ (dj 4 = true → v4 = undef) ∧ (dj 5 = true → v5 = undef) ∧ (dj 6 = true → v6 = undef) ∧ (dj 7 = true → v7 = undef) ∧ (dj 8 = true → v8 = .bool true)) (by kernel_rfl) (by kernel_rfl) (by kernel_rfl) ?_ ?_ ?_ ?_
   · intro dj hcl i hi1 hi2 hd j hj
     exact absurd (Nat.lt_of_lt_of_le hi2 (of_decide_eq_true (by kernel_rfl))) (Nat.not_lt.2 hi1)
   · refine ⟨undef, undef, undef, undef, undef, undef, undef, undef, undef, (by simp only [pus]), (Below.refl _ _).drew, (fun h => by cases h), (fun h => by cases h), (fun h => by cases h), (fun h => by cases h), (fun h => by cases h), (fun h => by cases h), (fun h => by cases h), (fun h => by cases h), (fun h => by cases h)⟩
   · intro dj a W1 i hi hdi hcl hdep hI K hK
     obtain ⟨v0, v1, v2, v3, v4, v5, v6, v7, v8, rfl, hB, p0, p1, p2, p3, p4, p5, p6, p7, p8⟩ := hI
     have HF1 := HF.out W1 hB
     obtain rfl | rfl | rfl | rfl | rfl | rfl | rfl | rfl | rfl : i = 0 ∨ i = 1 ∨ i = 2 ∨ i = 3 ∨ i = 4 ∨ i = 5 ∨ i = 6 ∨ i = 7 ∨ i = 8 := by omega
     · simp only [pus]
       refine any_opIn (o := _) rfl (by kernel_rfl) ?_
       obtain ⟨f0, s0, d0, d1, d2, e0, e1, e2⟩ := HF1
       gi_wp2_with fail
       refine hK.out _ _ ?_
       exact ⟨.bool false, v1, v2, v3, v4, v5, v6, v7, v8, (by simp only [pus]), hB, (fun _ => rfl), p1, p2, p3, p4, p5, p6, p7, p8⟩
     · obtain rfl := p0 (hdep 0 (by kernel_rfl))
       simp only [pus]
       refine any_opIn (o := _) rfl (by kernel_rfl) ?_
       gi_wp2_with fail
       refine hK.out _ _ ?_
       exact ⟨.bool false, .bool true, v2, v3, v4, v5, v6, v7, v8, (by simp only [pus]), hB, (fun _ => rfl), (fun _ => rfl), p2, p3, p4, p5, p6, p7, p8⟩
     · obtain rfl := p1 (hdep 1 (by kernel_rfl))
       simp only [pus]
       refine any_opIn (o := _) rfl (by kernel_rfl) ?_
       gi_wp2_with fail
       refine hK.out _ _ ?_
       exact ⟨v0, .bool true, .bool true, v3, v4, v5, v6, v7, v8, (by simp only [pus]), hB, p0, (fun _ => rfl), (fun _ => rfl), p3, p4, p5, p6, p7, p8⟩
     · obtain rfl := p2 (hdep 2 (by kernel_rfl))
       simp only [pus]
       refine any_noIn (o := ⟨some 18, .load 28 (.tmp 8), 28, "sum.go:103", #[⟨2, .guard⟩], some (2, false)⟩) rfl (by kernel_rfl) (fun _ _ => trivial) ?_
       refine hK.out _ _ ?_
       simp only [las]
       exact ⟨v0, v1, .bool true, undef, v4, v5, v6, v7, v8, (by simp only [pus]), hB, p0, p1, (fun _ => rfl), (fun _ => rfl), p4, p5, p6, p7, p8⟩
     · obtain rfl := p2 (hdep 2 (by kernel_rfl))
       simp only [pus]
       refine any_noIn (o := ⟨some 19, .load 28 (.tmp 6), 28, "sum.go:103", #[⟨2, .guard⟩], some (2, false)⟩) rfl (by kernel_rfl) (fun _ _ => trivial) ?_
       refine hK.out _ _ ?_
       simp only [las]
       exact ⟨v0, v1, .bool true, v3, undef, v5, v6, v7, v8, (by simp only [pus]), hB, p0, p1, (fun _ => rfl), p3, (fun _ => rfl), p5, p6, p7, p8⟩
     · obtain rfl := p2 (hdep 2 (by kernel_rfl))
       obtain rfl := p3 (hdep 3 (by kernel_rfl))
       obtain rfl := p4 (hdep 4 (by kernel_rfl))
       simp only [pus]
       refine any_noIn (o := ⟨some 20, .call ⟨.value (.func 23), #[.tmp 18, .tmp 19], #[28, 28]⟩, 3, "sum.go:103", #[⟨3, .data⟩, ⟨4, .data⟩, ⟨2, .chain⟩, ⟨2, .guard⟩], some (2, false)⟩) rfl (by kernel_rfl) (fun _ _ => trivial) ?_
       refine hK.out _ _ ?_
       simp only [las]
       exact ⟨v0, v1, .bool true, undef, undef, undef, v6, v7, v8, (by simp only [pus]), hB, p0, p1, (fun _ => rfl), (fun _ => rfl), (fun _ => rfl), (fun _ => rfl), p6, p7, p8⟩
     · obtain rfl := p2 (hdep 2 (by kernel_rfl))
       simp only [pus]
       refine any_noIn (o := ⟨some 21, .load 3 (.tmp 3), 3, "sum.go:103", #[⟨2, .guard⟩], some (2, false)⟩) rfl (by kernel_rfl) (fun _ _ => trivial) ?_
       refine hK.out _ _ ?_
       simp only [las]
       exact ⟨v0, v1, .bool true, v3, v4, v5, undef, v7, v8, (by simp only [pus]), hB, p0, p1, (fun _ => rfl), p3, p4, p5, (fun _ => rfl), p7, p8⟩
     · obtain rfl := p2 (hdep 2 (by kernel_rfl))
       obtain rfl := p5 (hdep 5 (by kernel_rfl))
       obtain rfl := p6 (hdep 6 (by kernel_rfl))
       simp only [pus]
       refine any_noIn (o := ⟨some 22, .binOp .eql 3 (.tmp 20) (.tmp 21) 3, 4, "sum.go:103", #[⟨5, .data⟩, ⟨6, .data⟩, ⟨2, .guard⟩], some (2, false)⟩) rfl (by kernel_rfl) (fun _ _ => trivial) ?_
       refine hK.out _ _ ?_
       simp only [las]
       exact ⟨v0, v1, .bool true, v3, v4, undef, undef, undef, v8, (by simp only [pus]), hB, p0, p1, (fun _ => rfl), p3, p4, (fun _ => rfl), (fun _ => rfl), (fun _ => rfl), p8⟩
     · obtain rfl := p2 (hdep 2 (by kernel_rfl))
       obtain rfl := p7 (hdep 7 (by kernel_rfl))
       simp only [pus]
       refine any_opIn (o := _) rfl (by kernel_rfl) ?_
       gi_wp2_with fail
       refine hK.out _ _ ?_
       exact ⟨v0, v1, .bool true, v3, v4, v5, v6, undef, .bool true, (by simp only [pus]), hB, p0, p1, (fun _ => rfl), p3, p4, p5, p6, (fun _ => rfl), (fun _ => rfl)⟩
   · intro dj a W1 hd hI
     obtain ⟨v0, v1, v2, v3, v4, v5, v6, v7, v8, rfl, hB, p0, p1, p2, p3, p4, p5, p6, p7, p8⟩ := hI
     obtain rfl := p0 (hd 0 (by omega))
     obtain rfl := p1 (hd 1 (by omega))
     obtain rfl := p2 (hd 2 (by omega))
     obtain rfl := p3 (hd 3 (by omega))
     obtain rfl := p4 (hd 4 (by omega))
     obtain rfl := p5 (hd 5 (by omega))
     obtain rfl := p6 (hd 6 (by omega))
     obtain rfl := p7 (hd 7 (by omega))
     obtain rfl := p8 (hd 8 (by omega))
     simp only [pus]
     refine wpAnyIn_done (by kernel_rfl) ?_ _
     have hk2 : Blk W1 (w.heap.size + 2) 28 #[.bool z0, .slice u0 u1 u2, .slice u3 u4 u5] := Hb0.out.below hB Hb0.out.lt
     have hkd : Blk W1 Bd 28 #[.bool b, .slice p nn_ cc_, .slice p' n' c'] := HbD.out.below hB HbD.out.lt
     have hkf := Hfn.out.below hB Hfn.out.lt
     have hks := Hsd.out.below hB Hsd.out.lt
     have hkr := HSt.out.res.below hB HSt.out.res.lt
     have hNq := HNq.out.below hB (Nat.le_refl _)
     have d0 := hkd.cell 0; have d1 := hkd.cell 1; have d2 := hkd.cell 2
     have e0 := hk2.cell 0; have e1 := hk2.cell 1; have e2 := hk2.cell 2
     have g0 := hk2.frozen 0; have g1 := hk2.frozen 1; have g2 := hk2.frozen 2
     have f0 := hkf.cell 0; have f1 := hkf.frozen 0
     simp only [List.getElem?_toArray, List.getElem?_cons_zero, List.getElem?_cons_succ] at d0 d1 d2 e0 e1 e2 f0
     obtain ⟨WE, hWE⟩ : ∃ X, (set3 W1 (w.heap.size + 2) (.bool b) (.slice p nn_ cc_) (.slice p' n' c')).setCell ⟨w.heap.size + 3, 0, none⟩ (.bool true) = X := ⟨_, rfl⟩
     have hBE : Below w.heap.size W WE := by
      rw [← hWE]
      exact (below_set3 (hB.mono hWs) (by omega) _ _ _).setCell (p := ⟨w.heap.size + 3, 0, none⟩) (by show w.heap.size ≤ w.heap.size + 3; omega) _
     have far3 : ∀ (X : World) (k : Nat) (t : TypeId) (cs : Array Value) (y0 y1 y2 u : Value), k ≠ w.heap.size + 2 → k ≠ w.heap.size + 3 → Blk X k t cs → Blk ((set3 X (w.heap.size + 2) y0 y1 y2).setCell ⟨w.heap.size + 3, 0, none⟩ u) k t cs := fun X k t cs y0 y1 y2 u h1 h2 h => (((h.far (p := ⟨w.heap.size + 2, 0, none⟩) h1 _).far (p := ⟨w.heap.size + 2, 1, none⟩) h1 _).far (p := ⟨w.heap.size + 2, 2, none⟩) h1 _).far (p := ⟨w.heap.size + 3, 0, none⟩) h2 _
     have hbk3 := blk_set3 hk2 (.bool b) (.slice p nn_ cc_) (.slice p' n' c')
     have hN3 := isR_put (isR_put (isR_put hNq hk2 (plain_rat _ _ _ _ _ _ _) (i := 0) (.bool b)) (hk2.set_ 0 (.bool b)) (plain_rat _ _ _ _ _ _ _) (i := 1) (.slice p nn_ cc_)) ((hk2.set_ 0 (.bool b)).set_ 1 (.slice p nn_ cc_)) (plain_rat _ _ _ _ _ _ _) (i := 2) (.slice p' n' c')
     have hkf3 : Blk (set3 W1 (w.heap.size + 2) (.bool b) (.slice p nn_ cc_) (.slice p' n' c')) (w.heap.size + 3) 4 #[.bool false] := ((hkf.far (p := ⟨w.heap.size + 2, 0, none⟩) (by show w.heap.size + 3 ≠ w.heap.size + 2; omega) _).far (p := ⟨w.heap.size + 2, 1, none⟩) (by show w.heap.size + 3 ≠ w.heap.size + 2; omega) _).far (p := ⟨w.heap.size + 2, 2, none⟩) (by show w.heap.size + 3 ≠ w.heap.size + 2; omega) _
     have HIE : Hid (FirR Tb side w (pre ++ [(⟨⟨b, p, nn_, cc_, p', n', c', q⟩, hx⟩ : {x : Ev // x ∈ L})]) WE) := Lib.hid (by
      rw [← hWE]
      refine ⟨far3 _ _ _ _ _ _ _ _ (by omega) (by omega) hks, far3 _ _ _ _ _ _ _ _ (by omega) (by omega) hkr, ⟨b, p, nn_, cc_, p', n', c', hbk3.far (p := ⟨w.heap.size + 3, 0, none⟩) (by show w.heap.size + 2 ≠ w.heap.size + 3; omega) _, ?_⟩, ?_, ?_⟩
      · rw [hsn, bestO_snoc, HNEW.out]
        exact isR_put hN3 hkf3 (plain_bool _) _
      · rw [hsn, bestO_snoc, HNEW.out]
        exact hkf3.set_ 0 _
      · rw [hWE]; exact HSt.out.btk.trans hBE)
     have HKE : Hid (KeepsFrom (w.heap.size + 4) W WE) := Lib.hid ⟨by rw [← hWE]; simpa using hB.size, fun k o hk ho _ => by
      have hk' := (Array.getElem?_eq_some_iff.1 ho).1
      have hne : ∀ (i : Nat), k ≠ (⟨w.heap.size + 2, i, none⟩ : Addr).block := fun i => by show k ≠ w.heap.size + 2; omega
      rw [← hWE]
      exact (Below.heap_setCell _ _ _ k (by show k ≠ w.heap.size + 3; omega)).trans ((Below.heap_setCell _ _ _ k (hne 2)).trans ((Below.heap_setCell _ _ _ k (hne 1)).trans ((Below.heap_setCell _ _ _ k (hne 0)).trans ((hB.block k hk').trans ho))))⟩
     have HBE := Lib.hid hBE
     have HWE := Lib.hid hWE
     clear hWE hBE far3 hbk3 hN3 hkf3 hk2 hkd hkf hks hkr hNq
     gi_wp2_with fail
     rw [HWE.out]
     exact ⟨⟨HKE.out, HBE.out⟩, HIE.out⟩
  | some bq =>
   rw [ho] at hfn hN0
   have Hfn : Hid (Blk W (w.heap.size + 3) 4 #[.bool true]) := Lib.hid hfn
   have hN0' : IsR W (.agg #[.bool z0, .slice u0 u1 u2, .slice u3 u4 u5]) bq := hN0
   have Hszb := Lib.hid (bestO_sz HBig.out pre ho)
   obtain ⟨C, hC⟩ : ∃ C, cmpQ q bq = C := ⟨_, rfl⟩
   have HCm : Hid (∀ W1, Below W.heap.size W W1 → Calls Tryz.prog 23 #[.agg #[.bool b, .slice p nn_ cc_, .slice p' n' c'], .agg #[.bool z0, .slice u0 u1 u2, .slice u3 u4 u5]] W1 fun e W2 => e = .returned (.int .i64 C) ∧ Below W1.heap.size W1 W2) := Lib.hid (fun W1 h => by
    rw [← hC]
    exact cmpr_any q bq _ _ W1 (HNq.out.below h (Nat.le_refl _)) (hN0'.below h (Nat.le_refl _)) (HBig.out _ hx) Hszb.out)
   have HF : Hid (∀ W1, Below W.heap.size W W1 → W1.cell? ⟨w.heap.size + 3, 0, none⟩ = some (.bool true) ∧ W1.cell? ⟨w.heap.size, 0, none⟩ = some (.int .i64 side) ∧ W1.cell? ⟨Bd, 0, none⟩ = some (.bool b) ∧ W1.cell? ⟨Bd, 1, none⟩ = some (.slice p nn_ cc_) ∧ W1.cell? ⟨Bd, 2, none⟩ = some (.slice p' n' c') ∧ W1.cell? ⟨w.heap.size + 2, 0, none⟩ = some (.bool z0) ∧ W1.cell? ⟨w.heap.size + 2, 1, none⟩ = some (.slice u0 u1 u2) ∧ W1.cell? ⟨w.heap.size + 2, 2, none⟩ = some (.slice u3 u4 u5)) := Lib.hid (fun W1 h => ⟨by rw [(Hfn.out.below h Hfn.out.lt).cell 0]; rfl, by rw [(Hsd.out.below h Hsd.out.lt).cell 0]; rfl, by rw [(HbD.out.below h HbD.out.lt).cell 0]; rfl, by rw [(HbD.out.below h HbD.out.lt).cell 1]; rfl, by rw [(HbD.out.below h HbD.out.lt).cell 2]; rfl, by rw [(Hb0.out.below h Hb0.out.lt).cell 0]; rfl, by rw [(Hb0.out.below h Hb0.out.lt).cell 1]; rfl, by rw [(Hb0.out.below h Hb0.out.lt).cell 2]; rfl⟩)
   by_cases hcs : C = side
   · have HNEW : Hid (fb side (bestO side (qls pre)) q = some q) := Lib.hid (by rw [ho]; show (if cmpQ q bq = side then some q else some bq) = _; rw [hC, if_pos hcs])
     have hbe : (C == side) = true := by simp [hcs]
     clear hfn hb0 hN0 hN0' hI bD hod hC hcs
     unfold Ev.V
     gi_wp2_with fail
     refine wpIn_region_inv 9 (fun a0 dj a W1 => ∃ v0 v1 v2 v3 v4 v5 v6 v7 v8 : Value, a = puts a0 [(15, v0), (16, v1), (17, v2), (18, v3), (19, v4), (20, v5), (21, v6), (22, v7), (23, v8)] ∧ Below W.heap.size W W1 ∧ (dj 0 = true → v0 = .bool true) ∧ (dj 1 = true → v1 = .bool false) ∧ (dj 2 = true → v2 = .bool false) ∧ (dj 3 = true → v3 = .agg #[.bool b, .slice p nn_ cc_, .slice p' n' c']) ∧ (dj 4 = true → v4 = .agg #[.bool z0, .slice u0 u1 u2, .slice u3 u4 u5]) ∧ (dj 5 = true → v5 = .int .i64 C) ∧ (dj 6 = true → v6 = .int .i64 side) ∧ (dj 7 = true → v7 = .bool true) ∧ (dj 8 = true → v8 = .bool true)) (by kernel_rfl) (by kernel_rfl) (by kernel_rfl) ?_ ?_ ?_ ?_
     · intro dj hcl i hi1 hi2 hd j hj
       exact absurd (Nat.lt_of_lt_of_le hi2 (of_decide_eq_true (by kernel_rfl))) (Nat.not_lt.2 hi1)
     · refine ⟨undef, undef, undef, undef, undef, undef, undef, undef, undef, (by simp only [pus]), (Below.refl _ _).drew, (fun h => by cases h), (fun h => by cases h), (fun h => by cases h), (fun h => by cases h), (fun h => by cases h), (fun h => by cases h), (fun h => by cases h), (fun h => by cases h), (fun h => by cases h)⟩
     · intro dj a W1 i hi hdi hcl hdep hI K hK
       obtain ⟨v0, v1, v2, v3, v4, v5, v6, v7, v8, rfl, hB, p0, p1, p2, p3, p4, p5, p6, p7, p8⟩ := hI
       have HF1 := HF.out W1 hB
       obtain rfl | rfl | rfl | rfl | rfl | rfl | rfl | rfl | rfl : i = 0 ∨ i = 1 ∨ i = 2 ∨ i = 3 ∨ i = 4 ∨ i = 5 ∨ i = 6 ∨ i = 7 ∨ i = 8 := by omega
       · simp only [pus]
         refine any_opIn (o := _) rfl (by kernel_rfl) ?_
         obtain ⟨f0, s0, d0, d1, d2, e0, e1, e2⟩ := HF1
         gi_wp2_with fail
         refine hK.out _ _ ?_
         exact ⟨.bool true, v1, v2, v3, v4, v5, v6, v7, v8, (by simp only [pus]), hB, (fun _ => rfl), p1, p2, p3, p4, p5, p6, p7, p8⟩
       · obtain rfl := p0 (hdep 0 (by kernel_rfl))
         simp only [pus]
         refine any_opIn (o := _) rfl (by kernel_rfl) ?_
         gi_wp2_with fail
         refine hK.out _ _ ?_
         exact ⟨.bool true, .bool false, v2, v3, v4, v5, v6, v7, v8, (by simp only [pus]), hB, (fun _ => rfl), (fun _ => rfl), p2, p3, p4, p5, p6, p7, p8⟩
       · obtain rfl := p1 (hdep 1 (by kernel_rfl))
         simp only [pus]
         refine any_opIn (o := _) rfl (by kernel_rfl) ?_
         gi_wp2_with fail
         refine hK.out _ _ ?_
         exact ⟨v0, .bool false, .bool false, v3, v4, v5, v6, v7, v8, (by simp only [pus]), hB, p0, (fun _ => rfl), (fun _ => rfl), p3, p4, p5, p6, p7, p8⟩
       · obtain rfl := p2 (hdep 2 (by kernel_rfl))
         simp only [pus]
         refine any_opIn (o := _) rfl (by kernel_rfl) ?_
         obtain ⟨f0, s0, d0, d1, d2, e0, e1, e2⟩ := HF1
         gi_wp2_with fail
         refine hK.out _ _ ?_
         exact ⟨v0, v1, .bool false, .agg #[.bool b, .slice p nn_ cc_, .slice p' n' c'], v4, v5, v6, v7, v8, (by simp only [pus]), hB, p0, p1, (fun _ => rfl), (fun _ => rfl), p4, p5, p6, p7, p8⟩
       · obtain rfl := p2 (hdep 2 (by kernel_rfl))
         simp only [pus]
         refine any_opIn (o := _) rfl (by kernel_rfl) ?_
         obtain ⟨f0, s0, d0, d1, d2, e0, e1, e2⟩ := HF1
         gi_wp2_with fail
         refine hK.out _ _ ?_
         exact ⟨v0, v1, .bool false, v3, .agg #[.bool z0, .slice u0 u1 u2, .slice u3 u4 u5], v5, v6, v7, v8, (by simp only [pus]), hB, p0, p1, (fun _ => rfl), p3, (fun _ => rfl), p5, p6, p7, p8⟩
       · obtain rfl := p2 (hdep 2 (by kernel_rfl))
         obtain rfl := p3 (hdep 3 (by kernel_rfl))
         obtain rfl := p4 (hdep 4 (by kernel_rfl))
         simp only [pus]
         refine any_opIn (o := _) rfl (by kernel_rfl) ?_
         have hC := Lib.hid (HCm.out W1 hB)
         go_simp
         refine ⟨trivial, fun _ => by omega, (CallsIn.inRound l (callsIn_wide.2 hC.out)).mono ?_⟩
         rintro e W2 ⟨rfl, hb⟩
         refine hK.out _ _ ?_
         exact ⟨v0, v1, .bool false, .agg #[.bool b, .slice p nn_ cc_, .slice p' n' c'], .agg #[.bool z0, .slice u0 u1 u2, .slice u3 u4 u5], .int .i64 C, v6, v7, v8, (by simp only [pus]), (hB.trans (hb.mono hB.size)), p0, p1, (fun _ => rfl), (fun _ => rfl), (fun _ => rfl), (fun _ => rfl), p6, p7, p8⟩
       · obtain rfl := p2 (hdep 2 (by kernel_rfl))
         simp only [pus]
         refine any_opIn (o := _) rfl (by kernel_rfl) ?_
         obtain ⟨f0, s0, d0, d1, d2, e0, e1, e2⟩ := HF1
         gi_wp2_with fail
         refine hK.out _ _ ?_
         exact ⟨v0, v1, .bool false, v3, v4, v5, .int .i64 side, v7, v8, (by simp only [pus]), hB, p0, p1, (fun _ => rfl), p3, p4, p5, (fun _ => rfl), p7, p8⟩
       · obtain rfl := p2 (hdep 2 (by kernel_rfl))
         obtain rfl := p5 (hdep 5 (by kernel_rfl))
         obtain rfl := p6 (hdep 6 (by kernel_rfl))
         simp only [pus]
         refine any_opIn (o := _) rfl (by kernel_rfl) ?_
         gi_wp2_with fail
         refine hK.out _ _ ?_
         exact ⟨v0, v1, .bool false, v3, v4, .int .i64 C, .int .i64 side, .bool true, v8, (by simp only [pus]), hB, p0, p1, (fun _ => rfl), p3, p4, (fun _ => rfl), (fun _ => rfl), (fun _ => rfl), p8⟩
       · obtain rfl := p2 (hdep 2 (by kernel_rfl))
         obtain rfl := p7 (hdep 7 (by kernel_rfl))
         simp only [pus]
         refine any_opIn (o := _) rfl (by kernel_rfl) ?_
         gi_wp2_with fail
         refine hK.out _ _ ?_
         exact ⟨v0, v1, .bool false, v3, v4, v5, v6, .bool true, .bool true, (by simp only [pus]), hB, p0, p1, (fun _ => rfl), p3, p4, p5, p6, (fun _ => rfl), (fun _ => rfl)⟩
     · intro dj a W1 hd hI
       obtain ⟨v0, v1, v2, v3, v4, v5, v6, v7, v8, rfl, hB, p0, p1, p2, p3, p4, p5, p6, p7, p8⟩ := hI
       obtain rfl := p0 (hd 0 (by omega))
       obtain rfl := p1 (hd 1 (by omega))
       obtain rfl := p2 (hd 2 (by omega))
       obtain rfl := p3 (hd 3 (by omega))
       obtain rfl := p4 (hd 4 (by omega))
       obtain rfl := p5 (hd 5 (by omega))
       obtain rfl := p6 (hd 6 (by omega))
       obtain rfl := p7 (hd 7 (by omega))
       obtain rfl := p8 (hd 8 (by omega))
       simp only [pus]
       refine wpAnyIn_done (by kernel_rfl) ?_ _
       have hk2 : Blk W1 (w.heap.size + 2) 28 #[.bool z0, .slice u0 u1 u2, .slice u3 u4 u5] := Hb0.out.below hB Hb0.out.lt
       have hkd : Blk W1 Bd 28 #[.bool b, .slice p nn_ cc_, .slice p' n' c'] := HbD.out.below hB HbD.out.lt
       have hkf := Hfn.out.below hB Hfn.out.lt
       have hks := Hsd.out.below hB Hsd.out.lt
       have hkr := HSt.out.res.below hB HSt.out.res.lt
       have hNq := HNq.out.below hB (Nat.le_refl _)
       have d0 := hkd.cell 0; have d1 := hkd.cell 1; have d2 := hkd.cell 2
       have e0 := hk2.cell 0; have e1 := hk2.cell 1; have e2 := hk2.cell 2
       have g0 := hk2.frozen 0; have g1 := hk2.frozen 1; have g2 := hk2.frozen 2
       have f0 := hkf.cell 0; have f1 := hkf.frozen 0
       simp only [List.getElem?_toArray, List.getElem?_cons_zero, List.getElem?_cons_succ] at d0 d1 d2 e0 e1 e2 f0
       obtain ⟨WE, hWE⟩ : ∃ X, (set3 W1 (w.heap.size + 2) (.bool b) (.slice p nn_ cc_) (.slice p' n' c')).setCell ⟨w.heap.size + 3, 0, none⟩ (.bool true) = X := ⟨_, rfl⟩
       have hBE : Below w.heap.size W WE := by
        rw [← hWE]
        exact (below_set3 (hB.mono hWs) (by omega) _ _ _).setCell (p := ⟨w.heap.size + 3, 0, none⟩) (by show w.heap.size ≤ w.heap.size + 3; omega) _
       have far3 : ∀ (X : World) (k : Nat) (t : TypeId) (cs : Array Value) (y0 y1 y2 u : Value), k ≠ w.heap.size + 2 → k ≠ w.heap.size + 3 → Blk X k t cs → Blk ((set3 X (w.heap.size + 2) y0 y1 y2).setCell ⟨w.heap.size + 3, 0, none⟩ u) k t cs := fun X k t cs y0 y1 y2 u h1 h2 h => (((h.far (p := ⟨w.heap.size + 2, 0, none⟩) h1 _).far (p := ⟨w.heap.size + 2, 1, none⟩) h1 _).far (p := ⟨w.heap.size + 2, 2, none⟩) h1 _).far (p := ⟨w.heap.size + 3, 0, none⟩) h2 _
       have hbk3 := blk_set3 hk2 (.bool b) (.slice p nn_ cc_) (.slice p' n' c')
       have hN3 := isR_put (isR_put (isR_put hNq hk2 (plain_rat _ _ _ _ _ _ _) (i := 0) (.bool b)) (hk2.set_ 0 (.bool b)) (plain_rat _ _ _ _ _ _ _) (i := 1) (.slice p nn_ cc_)) ((hk2.set_ 0 (.bool b)).set_ 1 (.slice p nn_ cc_)) (plain_rat _ _ _ _ _ _ _) (i := 2) (.slice p' n' c')
       have hkf3 : Blk (set3 W1 (w.heap.size + 2) (.bool b) (.slice p nn_ cc_) (.slice p' n' c')) (w.heap.size + 3) 4 #[.bool true] := ((hkf.far (p := ⟨w.heap.size + 2, 0, none⟩) (by show w.heap.size + 3 ≠ w.heap.size + 2; omega) _).far (p := ⟨w.heap.size + 2, 1, none⟩) (by show w.heap.size + 3 ≠ w.heap.size + 2; omega) _).far (p := ⟨w.heap.size + 2, 2, none⟩) (by show w.heap.size + 3 ≠ w.heap.size + 2; omega) _
       have HIE : Hid (FirR Tb side w (pre ++ [(⟨⟨b, p, nn_, cc_, p', n', c', q⟩, hx⟩ : {x : Ev // x ∈ L})]) WE) := Lib.hid (by
        rw [← hWE]
        refine ⟨far3 _ _ _ _ _ _ _ _ (by omega) (by omega) hks, far3 _ _ _ _ _ _ _ _ (by omega) (by omega) hkr, ⟨b, p, nn_, cc_, p', n', c', hbk3.far (p := ⟨w.heap.size + 3, 0, none⟩) (by show w.heap.size + 2 ≠ w.heap.size + 3; omega) _, ?_⟩, ?_, ?_⟩
        · rw [hsn, bestO_snoc, HNEW.out]
          exact isR_put hN3 hkf3 (plain_bool _) _
        · rw [hsn, bestO_snoc, HNEW.out]
          exact hkf3.set_ 0 _
        · rw [hWE]; exact HSt.out.btk.trans hBE)
       have HKE : Hid (KeepsFrom (w.heap.size + 4) W WE) := Lib.hid ⟨by rw [← hWE]; simpa using hB.size, fun k o hk ho _ => by
        have hk' := (Array.getElem?_eq_some_iff.1 ho).1
        have hne : ∀ (i : Nat), k ≠ (⟨w.heap.size + 2, i, none⟩ : Addr).block := fun i => by show k ≠ w.heap.size + 2; omega
        rw [← hWE]
        exact (Below.heap_setCell _ _ _ k (by show k ≠ w.heap.size + 3; omega)).trans ((Below.heap_setCell _ _ _ k (hne 2)).trans ((Below.heap_setCell _ _ _ k (hne 1)).trans ((Below.heap_setCell _ _ _ k (hne 0)).trans ((hB.block k hk').trans ho))))⟩
       have HBE := Lib.hid hBE
       have HWE := Lib.hid hWE
       clear hWE hBE far3 hbk3 hN3 hkf3 hk2 hkd hkf hks hkr hNq
       gi_wp2_with fail
       rw [HWE.out]
       exact ⟨⟨HKE.out, HBE.out⟩, HIE.out⟩
   · have HNEW : Hid (fb side (bestO side (qls pre)) q = some bq) := Lib.hid (by rw [ho]; show (if cmpQ q bq = side then some q else some bq) = _; rw [hC, if_neg hcs])
     have hbe : (C == side) = false := by simp [hcs]
     clear hfn hb0 hN0 hN0' hI bD hod hC hcs
     unfold Ev.V
     gi_wp2_with fail
     refine wpIn_region_inv 9 (fun a0 dj a W1 => ∃ v0 v1 v2 v3 v4 v5 v6 v7 v8 : Value, a = puts a0 [(15, v0), (16, v1), (17, v2), (18, v3), (19, v4), (20, v5), (21, v6), (22, v7), (23, v8)] ∧ Below W.heap.size W W1 ∧ (dj 0 = true → v0 = .bool true) ∧ (dj 1 = true → v1 = .bool false) ∧ (dj 2 = true → v2 = .bool false) ∧ (dj 3 = true → v3 = .agg #[.bool b, .slice p nn_ cc_, .slice p' n' c']) ∧ (dj 4 = true → v4 = .agg #[.bool z0, .slice u0 u1 u2, .slice u3 u4 u5]) ∧ (dj 5 = true → v5 = .int .i64 C) ∧ (dj 6 = true → v6 = .int .i64 side) ∧ (dj 7 = true → v7 = .bool false) ∧ (dj 8 = true → v8 = .bool false)) (by kernel_rfl) (by kernel_rfl) (by kernel_rfl) ?_ ?_ ?_ ?_
     · intro dj hcl i hi1 hi2 hd j hj
       exact absurd (Nat.lt_of_lt_of_le hi2 (of_decide_eq_true (by kernel_rfl))) (Nat.not_lt.2 hi1)
     · refine ⟨undef, undef, undef, undef, undef, undef, undef, undef, undef, (by simp only [pus]), (Below.refl _ _).drew, (fun h => by cases h), (fun h => by cases h), (fun h => by cases h), (fun h => by cases h), (fun h => by cases h), (fun h => by cases h), (fun h => by cases h), (fun h => by cases h), (fun h => by cases h)⟩
     · intro dj a W1 i hi hdi hcl hdep hI K hK
       obtain ⟨v0, v1, v2, v3, v4, v5, v6, v7, v8, rfl, hB, p0, p1, p2, p3, p4, p5, p6, p7, p8⟩ := hI
       have HF1 := HF.out W1 hB
       obtain rfl | rfl | rfl | rfl | rfl | rfl | rfl | rfl | rfl : i = 0 ∨ i = 1 ∨ i = 2 ∨ i = 3 ∨ i = 4 ∨ i = 5 ∨ i = 6 ∨ i = 7 ∨ i = 8 := by omega
       · simp only [pus]
         refine any_opIn (o := _) rfl (by kernel_rfl) ?_
         obtain ⟨f0, s0, d0, d1, d2, e0, e1, e2⟩ := HF1
         gi_wp2_with fail
         refine hK.out _ _ ?_
         exact ⟨.bool true, v1, v2, v3, v4, v5, v6, v7, v8, (by simp only [pus]), hB, (fun _ => rfl), p1, p2, p3, p4, p5, p6, p7, p8⟩
       · obtain rfl := p0 (hdep 0 (by kernel_rfl))
         simp only [pus]
         refine any_opIn (o := _) rfl (by kernel_rfl) ?_
         gi_wp2_with fail
         refine hK.out _ _ ?_
         exact ⟨.bool true, .bool false, v2, v3, v4, v5, v6, v7, v8, (by simp only [pus]), hB, (fun _ => rfl), (fun _ => rfl), p2, p3, p4, p5, p6, p7, p8⟩
       · obtain rfl := p1 (hdep 1 (by kernel_rfl))
         simp only [pus]
         refine any_opIn (o := _) rfl (by kernel_rfl) ?_
         gi_wp2_with fail
         refine hK.out _ _ ?_
         exact ⟨v0, .bool false, .bool false, v3, v4, v5, v6, v7, v8, (by simp only [pus]), hB, p0, (fun _ => rfl), (fun _ => rfl), p3, p4, p5, p6, p7, p8⟩
       · obtain rfl := p2 (hdep 2 (by kernel_rfl))
         simp only [pus]
         refine any_opIn (o := _) rfl (by kernel_rfl) ?_
         obtain ⟨f0, s0, d0, d1, d2, e0, e1, e2⟩ := HF1
         gi_wp2_with fail
         refine hK.out _ _ ?_
         exact ⟨v0, v1, .bool false, .agg #[.bool b, .slice p nn_ cc_, .slice p' n' c'], v4, v5, v6, v7, v8, (by simp only [pus]), hB, p0, p1, (fun _ => rfl), (fun _ => rfl), p4, p5, p6, p7, p8⟩
       · obtain rfl := p2 (hdep 2 (by kernel_rfl))
         simp only [pus]
         refine any_opIn (o := _) rfl (by kernel_rfl) ?_
         obtain ⟨f0, s0, d0, d1, d2, e0, e1, e2⟩ := HF1
         gi_wp2_with fail
         refine hK.out _ _ ?_
         exact ⟨v0, v1, .bool false, v3, .agg #[.bool z0, .slice u0 u1 u2, .slice u3 u4 u5], v5, v6, v7, v8, (by simp only [pus]), hB, p0, p1, (fun _ => rfl), p3, (fun _ => rfl), p5, p6, p7, p8⟩
       · obtain rfl := p2 (hdep 2 (by kernel_rfl))
         obtain rfl := p3 (hdep 3 (by kernel_rfl))
         obtain rfl := p4 (hdep 4 (by kernel_rfl))
         simp only [pus]
         refine any_opIn (o := _) rfl (by kernel_rfl) ?_
         have hC := Lib.hid (HCm.out W1 hB)
         go_simp
         refine ⟨trivial, fun _ => by omega, (CallsIn.inRound l (callsIn_wide.2 hC.out)).mono ?_⟩
         rintro e W2 ⟨rfl, hb⟩
         refine hK.out _ _ ?_
         exact ⟨v0, v1, .bool false, .agg #[.bool b, .slice p nn_ cc_, .slice p' n' c'], .agg #[.bool z0, .slice u0 u1 u2, .slice u3 u4 u5], .int .i64 C, v6, v7, v8, (by simp only [pus]), (hB.trans (hb.mono hB.size)), p0, p1, (fun _ => rfl), (fun _ => rfl), (fun _ => rfl), (fun _ => rfl), p6, p7, p8⟩
       · obtain rfl := p2 (hdep 2 (by kernel_rfl))
         simp only [pus]
         refine any_opIn (o := _) rfl (by kernel_rfl) ?_
         obtain ⟨f0, s0, d0, d1, d2, e0, e1, e2⟩ := HF1
         gi_wp2_with fail
         refine hK.out _ _ ?_
         exact ⟨v0, v1, .bool false, v3, v4, v5, .int .i64 side, v7, v8, (by simp only [pus]), hB, p0, p1, (fun _ => rfl), p3, p4, p5, (fun _ => rfl), p7, p8⟩
       · obtain rfl := p2 (hdep 2 (by kernel_rfl))
         obtain rfl := p5 (hdep 5 (by kernel_rfl))
         obtain rfl := p6 (hdep 6 (by kernel_rfl))
         simp only [pus]
         refine any_opIn (o := _) rfl (by kernel_rfl) ?_
         gi_wp2_with fail
         refine hK.out _ _ ?_
         exact ⟨v0, v1, .bool false, v3, v4, .int .i64 C, .int .i64 side, .bool false, v8, (by simp only [pus]), hB, p0, p1, (fun _ => rfl), p3, p4, (fun _ => rfl), (fun _ => rfl), (fun _ => rfl), p8⟩
       · obtain rfl := p2 (hdep 2 (by kernel_rfl))
         obtain rfl := p7 (hdep 7 (by kernel_rfl))
         simp only [pus]
         refine any_opIn (o := _) rfl (by kernel_rfl) ?_
         gi_wp2_with fail
         refine hK.out _ _ ?_
         exact ⟨v0, v1, .bool false, v3, v4, v5, v6, .bool false, .bool false, (by simp only [pus]), hB, p0, p1, (fun _ => rfl), p3, p4, p5, p6, (fun _ => rfl), (fun _ => rfl)⟩
     · intro dj a W1 hd hI
       obtain ⟨v0, v1, v2, v3, v4, v5, v6, v7, v8, rfl, hB, p0, p1, p2, p3, p4, p5, p6, p7, p8⟩ := hI
       obtain rfl := p0 (hd 0 (by omega))
       obtain rfl := p1 (hd 1 (by omega))
       obtain rfl := p2 (hd 2 (by omega))
       obtain rfl := p3 (hd 3 (by omega))
       obtain rfl := p4 (hd 4 (by omega))
       obtain rfl := p5 (hd 5 (by omega))
       obtain rfl := p6 (hd 6 (by omega))
       obtain rfl := p7 (hd 7 (by omega))
       obtain rfl := p8 (hd 8 (by omega))
       simp only [pus]
       refine wpAnyIn_done (by kernel_rfl) ?_ _
       have HIE : Hid (FirR Tb side w (pre ++ [(⟨⟨b, p, nn_, cc_, p', n', c', q⟩, hx⟩ : {x : Ev // x ∈ L})]) W1) := Lib.hid (by
        refine ⟨Hsd.out.below hB Hsd.out.lt, HSt.out.res.below hB HSt.out.res.lt, ?_, ?_, HSt.out.btk.trans (hB.mono hWs)⟩
        · rw [hsn, bestO_snoc, HNEW.out, ← ho]
          exact HSt.out.best.below hB
        · rw [hsn, bestO_snoc, HNEW.out]
          exact Hfn.out.below hB Hfn.out.lt)
       have HKE : Hid (KeepsFrom (w.heap.size + 4) W W1) := Lib.hid ⟨hB.size, fun k o hk ho _ => (hB.block k (Array.getElem?_eq_some_iff.1 ho).1).trans ho⟩
       have HBE := Lib.hid (hB.mono hWs)
       gi_wp2_with fail
       exact ⟨⟨HKE.out, HBE.out⟩, HIE.out⟩
 case done =>
  rintro D ys W hD ⟨hys, hTe⟩ hI hK
  obtain ⟨Wd, hWd⟩ : ∃ X, W.drew = X := ⟨_, rfl⟩
  have HWd := Lib.hid hWd
  have hId := firR_own Tb side w (L := L) _ (Nat.le_refl _) ys W Wd none hI (grown_below (B := W.heap.size) (by rw [← hWd]; exact (Below.refl _ _).drew) (Nat.le_refl _)) (fun r e => by cases e)
  have hTd : Blk Wd Tb 3 #[.int .i64 (t0 + (L.length : Int))] := by rw [← hWd]; exact hTe
  have hKd : Wd.heap[D]? = some (.deferred (some [])) := by rw [← hWd]; exact hK
  obtain ⟨z0, u0, u1, u2, u3, u4, u5, hb0, hN0⟩ := hId.best
  have hq : qls ys = L.map (·.q) := by
   have e : ys.map (fun x => x.1.q) = (ys.map (·.1)).map (·.q) := by rw [List.map_map]; rfl
   unfold qls
   rw [e, hys]
  have hfn := hId.fnd
  rw [hq] at hN0 hfn
  obtain ⟨fd, hfd⟩ : ∃ z, (bestO side (L.map (·.q))).isSome = z := ⟨_, rfl⟩
  rw [hfd] at hfn
  have Hfd := Lib.hid hfd
  have hres := hId.res
  have HN : Hid (IsR (set3 Wd (w.heap.size + 1) (.bool z0) (.slice u0 u1 u2) (.slice u3 u4 u5)) (.agg #[.bool z0, .slice u0 u1 u2, .slice u3 u4 u5]) ((bestO side (L.map (·.q))).getD 0)) := Lib.hid (isR_put (isR_put (isR_put hN0 hres (plain_rat _ _ _ _ _ _ _) (i := 0) (.bool z0)) (hres.set_ 0 (.bool z0)) (plain_rat _ _ _ _ _ _ _) (i := 1) (.slice u0 u1 u2)) ((hres.set_ 0 (.bool z0)).set_ 1 (.slice u0 u1 u2)) (plain_rat _ _ _ _ _ _ _) (i := 2) (.slice u3 u4 u5))
  have HRs := Lib.hid (blk_set3 hres (.bool z0) (.slice u0 u1 u2) (.slice u3 u4 u5))
  have hBe : Below w.heap.size Wd (set3 Wd (w.heap.size + 1) (.bool z0) (.slice u0 u1 u2) (.slice u3 u4 u5)) := below_set3 (Below.refl _ _) (by omega) _ _ _
  have HBt := Lib.hid (hId.btk.trans hBe)
  have HTe := Lib.hid (hTd.below hBe hTl)
  have hne : ∀ (i : Nat), D ≠ (⟨w.heap.size + 1, i, none⟩ : Addr).block := fun i => by show D ≠ w.heap.size + 1; omega
  have HK : Hid ((set3 Wd (w.heap.size + 1) (.bool z0) (.slice u0 u1 u2) (.slice u3 u4 u5)).heap[D]? = some (.deferred (some []))) := Lib.hid ((Below.heap_setCell _ _ _ D (hne 2)).trans ((Below.heap_setCell _ _ _ D (hne 1)).trans ((Below.heap_setCell _ _ _ D (hne 0)).trans hKd)))
  have HS1 : Hid (Wd.cell? ⟨w.heap.size + 1 + 1, 0, none⟩ = some (.bool z0) ∧ Wd.cell? ⟨w.heap.size + 1 + 1, 1, none⟩ = some (.slice u0 u1 u2) ∧ Wd.cell? ⟨w.heap.size + 1 + 1, 2, none⟩ = some (.slice u3 u4 u5) ∧ Wd.cell? ⟨w.heap.size + 1 + 1 + 1, 0, none⟩ = some (.bool fd)) := Lib.hid ⟨by rw [show w.heap.size + 1 + 1 = w.heap.size + 2 from rfl, hb0.cell 0]; rfl, by rw [show w.heap.size + 1 + 1 = w.heap.size + 2 from rfl, hb0.cell 1]; rfl, by rw [show w.heap.size + 1 + 1 = w.heap.size + 2 from rfl, hb0.cell 2]; rfl, by rw [show w.heap.size + 1 + 1 + 1 = w.heap.size + 3 from rfl, hfn.cell 0]; rfl⟩
  have HS2 : Hid (World.cell? (set3 Wd (w.heap.size + 1) (.bool z0) (.slice u0 u1 u2) (.slice u3 u4 u5)) ⟨w.heap.size + 1 + 1, 0, none⟩ = some (.bool z0) ∧ World.cell? (set3 Wd (w.heap.size + 1) (.bool z0) (.slice u0 u1 u2) (.slice u3 u4 u5)) ⟨w.heap.size + 1 + 1, 1, none⟩ = some (.slice u0 u1 u2) ∧ World.cell? (set3 Wd (w.heap.size + 1) (.bool z0) (.slice u0 u1 u2) (.slice u3 u4 u5)) ⟨w.heap.size + 1 + 1, 2, none⟩ = some (.slice u3 u4 u5) ∧ World.cell? (set3 Wd (w.heap.size + 1) (.bool z0) (.slice u0 u1 u2) (.slice u3 u4 u5)) ⟨w.heap.size + 1 + 1 + 1, 0, none⟩ = some (.bool fd)) := Lib.hid ⟨by rw [cell_set3 (by omega)]; exact HS1.out.1, by rw [cell_set3 (by omega)]; exact HS1.out.2.1, by rw [cell_set3 (by omega)]; exact HS1.out.2.2.1, by rw [cell_set3 (by omega)]; exact HS1.out.2.2.2⟩
  have HR1 : Hid (Wd.cell? ⟨w.heap.size + 1, 0, none⟩ = some (.bool false) ∧ Wd.cell? ⟨w.heap.size + 1, 1, none⟩ = some (.slice none 0 0) ∧ Wd.cell? ⟨w.heap.size + 1, 2, none⟩ = some (.slice none 0 0) ∧ Wd.frozen? ⟨w.heap.size + 1, 0, none⟩ = false ∧ Wd.frozen? ⟨w.heap.size + 1, 1, none⟩ = false ∧ Wd.frozen? ⟨w.heap.size + 1, 2, none⟩ = false) := Lib.hid ⟨by rw [hres.cell 0]; rfl, by rw [hres.cell 1]; rfl, by rw [hres.cell 2]; rfl, hres.frozen 0, hres.frozen 1, hres.frozen 2⟩
  clear hWd hN0 hI hId hK hKd hTd hTe hBe hys hq hfd hb0 hfn hres
  gi_wp2_with fail
  refine wpIn_region_inv 4 (fun a0 dj a W1 => ∃ v0 v1 v3 : Value, a = puts a0 [(25, v0), (26, v1), (5, v3)] ∧ (dj 2 = false → W1 = Wd) ∧ (dj 2 = true → W1 = (set3 Wd (w.heap.size + 1) (.bool z0) (.slice u0 u1 u2) (.slice u3 u4 u5))) ∧ (dj 0 = true → v0 = .agg #[.bool z0, .slice u0 u1 u2, .slice u3 u4 u5]) ∧ (dj 1 = true → v1 = .bool fd) ∧ (dj 3 = true → v3 = .bool fd)) (by kernel_rfl) (by kernel_rfl) (by kernel_rfl) ?_ ?_ ?_ ?_
  · intro dj hcl i hi1 hi2 hd j hj
    exact absurd (Nat.lt_of_lt_of_le hi2 (of_decide_eq_true (by kernel_rfl))) (Nat.not_lt.2 hi1)
  · exact ⟨undef, undef, .bool false, (by simp only [pus]), (fun _ => HWd.out), (fun h => by cases h), (fun h => by cases h), (fun h => by cases h), (fun h => by cases h)⟩
  · intro dj a W1 i hi hdi hcl hdep hI K hK
    obtain ⟨v0, v1, v3, rfl, hA, hB, p0, p1, p3⟩ := hI
    obtain rfl | rfl | rfl | rfl : i = 0 ∨ i = 1 ∨ i = 2 ∨ i = 3 := by omega
    · have h2 : dj 2 = false := by
       cases h : dj 2 with
       | false => rfl
       | true => have := hcl 2 0 (by kernel_rfl) h; rw [hdi] at this; cases this
      obtain rfl := hA h2
      obtain ⟨e0, e1, e2, f0⟩ := HS1.out
      simp only [pus]
      refine any_opIn (o := _) rfl (by kernel_rfl) ?_
      gi_wp2_with fail
      refine hK.out _ _ ?_
      exact ⟨.agg #[.bool z0, .slice u0 u1 u2, .slice u3 u4 u5], v1, v3, (by simp only [pus]), (fun _ => rfl), (fun h => absurd (show dj 2 = true from h) (by rw [h2]; decide)), (fun _ => rfl), p1, p3⟩
    · simp only [pus]
      refine any_opIn (o := _) rfl (by kernel_rfl) ?_
      cases h2 : dj 2 with
      | false =>
       obtain rfl := hA h2
       obtain ⟨e0, e1, e2, f0⟩ := HS1.out
       gi_wp2_with fail
       refine hK.out _ _ ?_
       exact ⟨v0, .bool fd, v3, (by simp only [pus]), (fun _ => rfl), (fun h => absurd (show dj 2 = true from h) (by rw [h2]; decide)), p0, (fun _ => rfl), p3⟩
      | true =>
       obtain rfl := hB h2
       obtain ⟨e0, e1, e2, f0⟩ := HS2.out
       gi_wp2_with fail
       refine hK.out _ _ ?_
       exact ⟨v0, .bool fd, v3, (by simp only [pus]), (fun h => absurd (show dj 2 = false from h) (by rw [h2]; decide)), (fun _ => rfl), p0, (fun _ => rfl), p3⟩
    · obtain rfl := hA hdi
      obtain rfl := p0 (hdep 0 (by kernel_rfl))
      obtain ⟨g0, g1, g2, k0, k1, k2⟩ := HR1.out
      simp only [pus]
      refine any_opIn (o := _) rfl (by kernel_rfl) ?_
      gi_wp2_with fail
      refine hK.out _ _ ?_
      exact ⟨.agg #[.bool z0, .slice u0 u1 u2, .slice u3 u4 u5], v1, v3, (by simp only [pus]), (fun h => by rw [upd_self] at h; cases h), (fun _ => rfl), (fun _ => rfl), p1, p3⟩
    · obtain rfl := p1 (hdep 1 (by kernel_rfl))
      simp only [pus]
      refine any_opIn (o := _) rfl (by kernel_rfl) ?_
      gi_wp2_with fail
      refine hK.out _ _ ?_
      exact ⟨v0, .bool fd, .bool fd, (by simp only [pus]), hA, hB, p0, (fun _ => rfl), (fun _ => rfl)⟩
  · intro dj a W1 hd hI
    obtain ⟨v0, v1, v3, rfl, hA, hB, p0, p1, p3⟩ := hI
    obtain rfl := hB (hd 2 (by omega))
    obtain rfl := p0 (hd 0 (by omega))
    obtain rfl := p1 (hd 1 (by omega))
    obtain rfl := p3 (hd 3 (by omega))
    simp only [pus]
    refine wpAnyIn_done (by kernel_rfl) ?_ _
    gi_wp2_with fail
    refine ⟨by simp, .inl ⟨_, _, rfl, run_takeDeferred HK.out, ?_⟩⟩
    have hg := grownBy_putObj' (set3 Wd (w.heap.size + 1) (.bool z0) (.slice u0 u1 u2) (.slice u3 u4 u5)) D (.deferred none)
    have hr : ∀ r, some D = some r → ∃ o : Obj, (set3 Wd (w.heap.size + 1) (.bool z0) (.slice u0 u1 u2) (.slice u3 u4 u5)).heap[r]? = some o ∧ o.isCells = false := fun r e => by cases e; exact ⟨_, HK.out, rfl⟩
    exact ⟨_, res_rat2 rfl _ _ (w.heap.size + 1) z0 u0 u1 u2 u3 u4 u5 (.bool fd) rfl rfl (blk_grown HRs.out hg hr), _, by rw [Hfd.out], isR_grown_own HN.out hg hr, HBt.out.grown hg (fun r e => by cases e; omega), blk_grown HTe.out hg hr⟩
 case stop =>
  rintro D c pre W _ _ h _
  exact h.elim
end Go.Proofs.YtllmacokhjmdgaaGreatDoor
