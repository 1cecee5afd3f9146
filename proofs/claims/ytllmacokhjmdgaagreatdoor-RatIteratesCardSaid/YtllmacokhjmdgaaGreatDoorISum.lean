/-
 Law 2: fractions that an iterator tells are added.
-/
import Derived.Test.YtllmacokhjmdgaaGreatDoorIEach
namespace Go.Proofs.YtllmacokhjmdgaaGreatDoor
open Go.RowKit Go.Shelf
set_option linter.unusedVariables false
attribute [local go_sem] Oper.semAt_some
theorem addr_big (x y : Rat) (j k : Nat) (va vb : Value) (w : World) (ha : IsR w va x) (hb : IsR w vb y) (hx : Sz j x) (hy : Sz k y) (hjk : j + k ≤ 38) (htb : TabB w) : Calls Tryz.prog 28 #[va, vb] w (GaveR (x + y) w) := addr_any x y j k va vb w ha hb hx hy (by omega) htb
def sumQ (l : List Rat) : Rat := l.foldl (· + ·) 0
theorem sumQ_snoc (l : List Rat) (x : Rat) : sumQ (l ++ [x]) = sumQ l + x := by simp [sumQ]
theorem isR_grown_own {W W' : World} {row : Option Nat} {v : Value} {x : Rat} (h : IsR W v x) (hg : W.grownBy W' row) (hr : ∀ r, row = some r → ∃ o : Obj, W.heap[r]? = some o ∧ o.isCells = false) : IsR W' v x := by
 have key : ∀ {u : Value} {N : Nat}, IsN W u N → IsN W' u N := fun {u N} h => by
  obtain ⟨a, c, us, rfl, h2, h3, h4⟩ := h
  refine ⟨a, c, us, rfl, h2, fun j hj => ?_, h4⟩
  obtain ⟨ad, rfl, hlt, hc⟩ := h3 j hj
  obtain ⟨o, ho⟩ : ∃ o, W.heap[(ad.add j).block]? = some o := ⟨_, Array.getElem?_eq_getElem (by rw [add_block]; exact hlt)⟩
  have hcl : o.isCells = true := by
   unfold World.cell? at hc
   rw [ho] at hc
   cases o <;> first | rfl | simp at hc
  have e := grownBy_keeps_cells hg hr ho hcl
  exact ⟨ad, rfl, Nat.lt_of_lt_of_le hlt hg.size, by rw [← hc]; exact cell_same e⟩
 obtain ⟨p, n, c, p', n', c', rfl, h1, h2⟩ := h
 exact ⟨p, n, c, p', n', c', rfl, key h1, key h2⟩
theorem blk_grown {W W' : World} {row : Option Nat} {b : Nat} {t : TypeId} {cs : Array Value} (h : Blk W b t cs) (hg : W.grownBy W' row) (hr : ∀ r, row = some r → ∃ o : Obj, W.heap[r]? = some o ∧ o.isCells = false) : Blk W' b t cs := (grownBy_keeps_cells hg hr h rfl).trans h
/-- A fraction in a box of three cells. -/
def BoxR (W : World) (b : Nat) (x : Rat) : Prop := ∃ (z : Bool) (p : Option Addr) (n c : Nat) (p' : Option Addr) (n' c' : Nat), Blk W b 28 #[.bool z, .slice p n c, .slice p' n' c'] ∧ IsR W (.agg #[.bool z, .slice p n c, .slice p' n' c']) x
theorem BoxR.below {W W' : World} {b : Nat} {x : Rat} (h : BoxR W b x) (hb : Below W.heap.size W W') : BoxR W' b x := by
 obtain ⟨z, p, n, c, p', n', c', h1, h2⟩ := h
 exact ⟨z, p, n, c, p', n', c', h1.below hb h1.lt, h2.below hb (Nat.le_refl _)⟩
theorem BoxR.count {W : World} {b Tb : Nat} {x : Rat} {t : Int} (h : BoxR W b x) (hT : Blk W Tb 3 #[.int .i64 t]) (u : Value) (hne : b ≠ Tb) : BoxR (W.setCell ⟨Tb, 0, none⟩ u) b x := by
 obtain ⟨z, p, n, c, p', n', c', h1, h2⟩ := h
 exact ⟨z, p, n, c, p', n', c', h1.far (by show b ≠ Tb; exact hne) u, isR_put h2 hT (plain_int t) u⟩
theorem BoxR.grown {W W' : World} {row : Option Nat} {b : Nat} {x : Rat} (h : BoxR W b x) (hg : W.grownBy W' row) (hr : ∀ r, row = some r → ∃ o : Obj, W.heap[r]? = some o ∧ o.isCells = false) : BoxR W' b x := by
 obtain ⟨z, p, n, c, p', n', c', h1, h2⟩ := h
 exact ⟨z, p, n, c, p', n', c', blk_grown h1 hg hr, isR_grown_own h2 hg hr⟩
theorem Btk.grown {Tb : Nat} {w W W' : World} {row : Option Nat} (h : Btk Tb w W) (hg : W.grownBy W' row) (hr : ∀ r, row = some r → w.heap.size ≤ r) : Btk Tb w W' := by
 obtain ⟨u, h⟩ := h
 refine ⟨u, h.grown hg ?_ hr⟩
 have := h.size
 rwa [World.size_setCell] at this
def qsum {L : List Ev} (pre : List {x : Ev // x ∈ L}) : Rat := sumQ (pre.map (fun x => x.1.q))
theorem qsum_sizes {L : List Ev} {pre : List {x : Ev // x ∈ L}} {x : {x : Ev // x ∈ L}} (hbig : ∀ k e, L[k]? = some e → ∃ j l, Sz j (sumQ ((L.take k).map (·.q))) ∧ Sz l e.q ∧ j + l ≤ 38)
 (hod : (pre ++ [x]).map (·.1) = L.take (pre.length + 1)) : ∃ j l, Sz j (qsum pre) ∧ Sz l x.1.q ∧ j + l ≤ 38 := by
 have h1 : pre.length < L.length := by
  have := congrArg List.length hod
  rw [List.length_map, List.length_append, List.length_singleton, List.length_take] at this
  omega
 obtain ⟨e, he⟩ : ∃ e, L[pre.length]? = some e := ⟨_, List.getElem?_eq_getElem h1⟩
 rw [List.take_add_one, he, List.map_append] at hod
 have hp := List.append_inj hod (by rw [List.length_map, List.length_take]; omega)
 have hx : x.1 = e := by simpa using hp.2
 obtain ⟨j, l, hj, hl, hjl⟩ := hbig _ _ he
 refine ⟨j, l, ?_, by rw [hx]; exact hl, hjl⟩
 have : qsum pre = sumQ ((L.take pre.length).map (·.q)) := by
  unfold qsum
  rw [← hp.1, List.map_map]
  rfl
 rw [this]
 exact hj
/-- Between two rounds of Sum. -/
structure SumR (Tb : Nat) (w : World) {L : List Ev} (pre : List {x : Ev // x ∈ L}) (W : World) : Prop where
 box : BoxR W (w.heap.size + 1) (qsum pre)
 res : Blk W w.heap.size 28 #[.bool false, .slice none 0 0, .slice none 0 0]
 btk : Btk Tb w W
theorem sumR_own (Tb : Nat) (w : World) {L : List Ev} (B : Nat) (hB : w.heap.size ≤ B) : OwnFrom B (SumR Tb w (L := L)) := by
 intro pre W W' row h hg hr
 have hr' : ∀ r, row = some r → ∃ o : Obj, W.heap[r]? = some o ∧ o.isCells = false := fun r e => (hr r e).2
 exact ⟨h.box.grown hg hr', blk_grown h.res hg hr', h.btk.grown hg (fun k e => Nat.le_trans hB (hr k e).1)⟩
/-- A round's own variable. -/
def RoundQ (w : World) (f : Value) {L : List Ev} (x : {x : Ev // x ∈ L}) (a' : Act) (W : World) : Prop :=
 ∃ Bd, w.heap.size + 2 ≤ Bd ∧ Blk W Bd 28 #[.bool x.1.b, .slice x.1.p x.1.n x.1.c, .slice x.1.p' x.1.n' x.1.c'] ∧
  a' = { tmps := #[f, undef, .pointer (some ⟨w.heap.size, 0, none⟩), .pointer (some ⟨w.heap.size + 1, 0, none⟩), .pointer (some ⟨Bd, 0, none⟩), f, .bool false, undef, f, x.1.V, undef, undef, undef, undef], defers := [] }
set_option maxRecDepth 100000 in
set_option maxHeartbeats 4000000 in
theorem qsum_in (n : Nat) (hn : 4 ≤ n) (L : List Ev) (hL : L.length ≤ 1000) (a : Option Addr) (c Bs Bt Tb : Nat) (t0 : Int) (ht0 : 0 ≤ t0) (ht1 : t0 ≤ 100000) (w : World) (hB : Bs < w.heap.size) (hc : w.cell? ⟨Bs, 0, none⟩ = some (.slice a L.length c))
 (hBt : Bt < w.heap.size) (hct : w.cell? ⟨Bt, 0, none⟩ = some (.pointer (some ⟨Tb, 0, none⟩))) (hT : Blk w Tb 3 #[.int .i64 t0]) (hrow : ER w a L) (hnum : ∀ e ∈ L, IsR w e.V e.q)
 (hbig : ∀ k e, L[k]? = some e → ∃ j l, Sz j (sumQ ((L.take k).map (·.q))) ∧ Sz l e.q ∧ j + l ≤ 38) (htb : ∀ W, Btk Tb w W → TabB W) :
 CallsIn Fence.wide n Tryz.prog 46 #[.func (.func 87) #[] #[.pointer (some ⟨Bs, 0, none⟩), .pointer (some ⟨Bt, 0, none⟩)]] w
  (fun e W' => ∃ v, e = .returned v ∧ IsR W' v (sumQ (L.map (·.q))) ∧ Btk Tb w W' ∧ Blk W' Tb 3 #[.int .i64 (t0 + (L.length : Int))]) := by
 have h1 : 1 ≤ n := by omega
 obtain ⟨f, hf⟩ : ∃ f : Value, f = .func (.func 87) #[] #[.pointer (some ⟨Bs, 0, none⟩), .pointer (some ⟨Bt, 0, none⟩)] := ⟨_, rfl⟩
 have HNum := Lib.hid hnum
 have HBig := Lib.hid hbig
 have HTb := Lib.hid htb
 have hTl := hT.lt
 have hfn : ∀ W, (binOp .eql 67 (.func (.func 87) #[] #[.pointer (some ⟨Bs, 0, none⟩), .pointer (some ⟨Bt, 0, none⟩)]) .nilFunc).run Tryz.prog W = .ok (.bool false) W := fun W => run_eql_func_nil _ _ _ _ (by kernel_rfl) W
 clear hnum hbig htb hf
 refine callsIn_of_wp_marks Tryz.func46 rfl trivial ?_ rfl
 simp only [Tryz.ntmps46, List.size_toArray, List.length_cons, List.length_nil, Nat.reduceAdd, Nat.reduceSub, Array.replicate_succ, Array.replicate_zero, List.push_toArray, List.append_toArray, List.nil_append, List.cons_append]
 gi_wp2_with fail
 have q0 := Blk.new w 28 #[.bool false, .slice none 0 0, .slice none 0 0]
 have q1 := Blk.new (w.alloc (.cells #[.bool false, .slice none 0 0, .slice none 0 0] 28)) 28 #[.bool false, .slice none 0 0, .slice none 0 0]
 rw [World.size_alloc] at q1
 obtain ⟨W0, hW0⟩ : ∃ W0, (w.alloc (.cells #[.bool false, .slice none 0 0, .slice none 0 0] 28)).alloc (.cells #[.bool false, .slice none 0 0, .slice none 0 0] 28) = W0 := ⟨_, rfl⟩
 have hB0 : Below w.heap.size w W0 := by rw [← hW0]; exact ((Below.refl _ w).alloc (Nat.le_refl _) _).alloc (by simp) _
 have hsz : W0.heap.size = w.heap.size + 2 := by rw [← hW0]; simp
 have hI0 : SumR Tb w (L := L) [] W0 := ⟨⟨false, none, 0, 0, none, 0, 0, by rw [← hW0]; exact q1, isR_zero _⟩, by rw [← hW0]; exact q0.below ((Below.refl _ _).alloc (Nat.le_refl _) _) q0.lt, Btk.of_below hT hB0⟩
 have HSeq := Lib.hid (each_told (n - 1) (by omega) L hL a c Bs Bt Tb t0 ht0 ht1 w hB hc hBt hct hT hrow W0 hB0)
 have HT := Lib.hid hT
 rw [hW0]
 clear hW0 q0 q1 hB hc hBt hct hrow
 refine wpIn_range_told rfl h1 (gf := 87) (lb := #[.pointer (some ⟨Bs, 0, none⟩), .pointer (some ⟨Bt, 0, none⟩)]) rfl trivial (enters_of Tryz.func87 (by kernel_rfl) rfl)
  (Tb := Tb) (by omega) HSeq.out (fun h k => h.trans k) (fun W l' o o' hl h hc hw => belowK_b (w := w) (by omega) W l' o o' (by omega) h hc hw) (fun x => rfl)
  (fun pre W => SumR Tb w pre W) (fun c pre W => False) (sumR_own Tb w _ (by omega))
  (fun pre W z h => by
   obtain ⟨t, hTt⟩ := h.btk.blk HT.out
   exact ⟨h.box.count hTt _ (by omega), h.res.far (by show w.heap.size ≠ Tb; omega) _, h.btk.count HT.out z⟩)
  (fun c => ownFrom_pure _ _)
  (OwnFrom.and (ownFrom_pure _ _) (fun ys X Y row hs hg hr => blk_grown hs hg (fun r e => (hr r e).2))) (ownFrom_pure _ _) hI0
  (fun x a' W => RoundQ w (.func (.func 87) #[] #[.pointer (some ⟨Bs, 0, none⟩), .pointer (some ⟨Bt, 0, none⟩)]) x a' W)
  (fun x a' _ X Y row hs hg hr => by
   obtain ⟨Bd, h2, h3, h4⟩ := hs
   exact ⟨Bd, h2, blk_grown h3 hg (fun r e => (hr r e).2), h4⟩)
  ?assign ?body ?done ?stop
 case assign =>
  rintro l pre ⟨⟨b, p, nn_, cc_, p', n', c', q⟩, hx⟩ W K hI hK
  have hlt := hI.btk.size
  have hbl := hI.box
  obtain ⟨_, _, _, _, _, _, _, hb0, _⟩ := hbl
  have hbl := hb0.lt
  have hk4 : Blk (W.alloc (.cells #[.bool b, .slice p nn_ cc_, .slice p' n' c'] 28)) W.heap.size 28 #[.bool b, .slice p nn_ cc_, .slice p' n' c'] := Blk.new W _ _
  have hbb : Below W.heap.size W (W.alloc (.cells #[.bool b, .slice p nn_ cc_, .slice p' n' c'] 28)) := (Below.refl _ W).alloc (Nat.le_refl _) _
  have HR : Hid (∀ a', a' = _ → RoundQ w (.func (.func 87) #[] #[.pointer (some ⟨Bs, 0, none⟩), .pointer (some ⟨Bt, 0, none⟩)]) (L := L) ⟨⟨b, p, nn_, cc_, p', n', c', q⟩, hx⟩ a' (W.alloc (.cells #[.bool b, .slice p nn_ cc_, .slice p' n' c'] 28))) := Lib.hid (fun a' ha => ⟨W.heap.size, by omega, hk4, ha⟩)
  have HI2 := Lib.hid (sumR_own Tb w (L := L) _ (Nat.le_refl _) pre W _ none hI (grown_below hbb (Nat.le_refl _)) (fun r e => by cases e))
  have HB2 : Hid (Below w.heap.size W (W.alloc (.cells #[.bool b, .slice p nn_ cc_, .slice p' n' c'] 28))) := Lib.hid (hbb.mono (by omega))
  clear hk4 hbb hI hb0
  unfold Ev.V
  gi_wp2
  refine hK _ _ ((KeepsOthers.alloc _ _).from _) HB2.out HI2.out (HR.out _ rfl)
 case body =>
  rintro l pre ⟨⟨b, p, nn_, cc_, p', n', c', q⟩, hx⟩ a' W hl hrr hI ⟨Bd, hBd, bD, rfl⟩ hlt hod
  obtain ⟨z0, u0, u1, u2, u3, u4, u5, hb0, hN0⟩ := hI.box
  have HRes := Lib.hid hI.res
  have HBt := Lib.hid hI.btk
  have hcs0 := hb0.cell 0; have hcs1 := hb0.cell 1; have hcs2 := hb0.cell 2
  have hcd0 := bD.cell 0; have hcd1 := bD.cell 1; have hcd2 := bD.cell 2
  simp only [List.getElem?_toArray, List.getElem?_cons_zero, List.getElem?_cons_succ] at hcs0 hcs1 hcs2 hcd0 hcd1 hcd2
  obtain ⟨jj, ll, hj, hl', hjl⟩ := qsum_sizes HBig.out hod
  have HAdd := Lib.hid (addr_big (qsum pre) q jj ll _ _ W hN0 (hI.btk.isR HT.out (HNum.out _ hx)) hj hl' hjl (HTb.out W hI.btk))
  have Hb0 := Lib.hid hb0
  have hS : Hid (qsum pre + q = qsum (pre ++ [(⟨⟨b, p, nn_, cc_, p', n', c', q⟩, hx⟩ : {x : Ev // x ∈ L})])) := Lib.hid (by unfold qsum; rw [List.map_append, List.map_cons, List.map_nil, sumQ_snoc])
  have hWs := hI.btk.size
  clear hI hN0 hb0 bD hj hl' hod
  unfold Ev.V
  gi_wp2_with fail
  refine ⟨trivial, fun _ => by omega, (CallsIn.inRound l (callsIn_wide.2 HAdd.out)).mono ?_⟩
  rintro e w2 ⟨v, rfl, hN2, hb2⟩
  obtain ⟨p2, n2, c2, p3, n3, c3, rfl, hv1, hv2⟩ := hN2
  obtain ⟨z2, hz2⟩ : ∃ z, decide ((qsum pre + q).num < 0) = z := ⟨_, rfl⟩
  have hN2 : IsR w2 (.agg #[.bool z2, .slice p2 n2 c2, .slice p3 n3 c3]) (qsum pre + q) := ⟨p2, n2, c2, p3, n3, c3, by rw [hz2], hv1, hv2⟩
  rw [hz2]
  have hk2 : Blk w2 (w.heap.size + 1) 28 #[.bool z0, .slice u0 u1 u2, .slice u3 u4 u5] := Hb0.out.below hb2 Hb0.out.lt
  have hk20 := hk2.cell 0; have hk21 := hk2.cell 1; have hk22 := hk2.cell 2
  have hf0 := hk2.frozen 0; have hf1 := hk2.frozen 1; have hf2 := hk2.frozen 2
  simp only [List.getElem?_toArray, List.getElem?_cons_zero, List.getElem?_cons_succ] at hk20 hk21 hk22
  have hblk3 := blk_set3 hk2 (.bool z2) (.slice p2 n2 c2) (.slice p3 n3 c3)
  have hres2 : Blk w2 w.heap.size 28 #[.bool false, .slice none 0 0, .slice none 0 0] := HRes.out.below hb2 HRes.out.lt
  have hfar : ∀ (X : World) (i : Nat) (u : Value), Blk X w.heap.size 28 #[.bool false, .slice none 0 0, .slice none 0 0] → Blk (X.setCell ⟨w.heap.size + 1, i, none⟩ u) w.heap.size 28 #[.bool false, .slice none 0 0, .slice none 0 0] := fun X i u h => h.far (by show w.heap.size ≠ w.heap.size + 1; omega) u
  have hB3 : Below w.heap.size W (set3 w2 (w.heap.size + 1) (.bool z2) (.slice p2 n2 c2) (.slice p3 n3 c3)) := below_set3 (hb2.mono hWs) (by omega) _ _ _
  have HI3 : Hid (SumR Tb w (pre ++ [(⟨⟨b, p, nn_, cc_, p', n', c', q⟩, hx⟩ : {x : Ev // x ∈ L})]) (set3 w2 (w.heap.size + 1) (.bool z2) (.slice p2 n2 c2) (.slice p3 n3 c3))) := Lib.hid
   ⟨⟨z2, p2, n2, c2, p3, n3, c3, hblk3, by
    rw [← hS.out]
    exact isR_put (isR_put (isR_put hN2 hk2 (plain_rat _ _ _ _ _ _ _) (i := 0) (.bool z2)) (hk2.set_ 0 (.bool z2)) (plain_rat _ _ _ _ _ _ _) (i := 1) (.slice p2 n2 c2)) ((hk2.set_ 0 (.bool z2)).set_ 1 (.slice p2 n2 c2)) (plain_rat _ _ _ _ _ _ _) (i := 2) (.slice p3 n3 c3)⟩,
    hfar _ _ _ (hfar _ _ _ (hfar _ _ _ hres2)), HBt.out.trans hB3⟩
  have HB3 := Lib.hid hB3
  have HK3 : Hid (KeepsFrom W0.heap.size W (set3 w2 (w.heap.size + 1) (.bool z2) (.slice p2 n2 c2) (.slice p3 n3 c3))) := Lib.hid ⟨by simpa using hb2.size, fun k o hk ho _ => by
   have hk' := (Array.getElem?_eq_some_iff.1 ho).1
   have hne : ∀ (i : Nat), k ≠ (⟨w.heap.size + 1, i, none⟩ : Addr).block := fun i => by show k ≠ w.heap.size + 1; omega
   exact (Below.heap_setCell _ _ _ k (hne 2)).trans ((Below.heap_setCell _ _ _ k (hne 1)).trans ((Below.heap_setCell _ _ _ k (hne 0)).trans ((hb2.block k hk').trans ho)))⟩
  clear hk2 hN2 hb2 hcs0 hcs1 hcs2 hcd0 hcd1 hcd2 HAdd hblk3 hres2 hfar hB3 hv1 hv2
  gi_wp2_with fail
  exact ⟨⟨HK3.out, HB3.out⟩, HI3.out⟩
 case done =>
  rintro D ys W hD ⟨hys, hTe⟩ hI hK
  obtain ⟨z0, u0, u1, u2, u3, u4, u5, hb0, hN0⟩ := hI.box
  have hsum : qsum ys = sumQ (L.map (·.q)) := by
   have e : ys.map (fun x => x.1.q) = (ys.map (·.1)).map (·.q) := by rw [List.map_map]; rfl
   unfold qsum
   rw [e, hys]
  rw [hsum] at hN0
  have hres := hI.res
  have hcs0 := hb0.cell 0; have hcs1 := hb0.cell 1; have hcs2 := hb0.cell 2
  have hcr0 := hres.cell 0; have hcr1 := hres.cell 1; have hcr2 := hres.cell 2
  have hfr0 := hres.frozen 0; have hfr1 := hres.frozen 1; have hfr2 := hres.frozen 2
  simp only [List.getElem?_toArray, List.getElem?_cons_zero, List.getElem?_cons_succ] at hcs0 hcs1 hcs2 hcr0 hcr1 hcr2
  have HN : Hid (IsR (set3 W w.heap.size (.bool z0) (.slice u0 u1 u2) (.slice u3 u4 u5)) (.agg #[.bool z0, .slice u0 u1 u2, .slice u3 u4 u5]) (sumQ (L.map (·.q)))) := Lib.hid (isR_put (isR_put (isR_put hN0 hres (plain_rat _ _ _ _ _ _ _) (i := 0) (.bool z0)) (hres.set_ 0 (.bool z0)) (plain_rat _ _ _ _ _ _ _) (i := 1) (.slice u0 u1 u2)) ((hres.set_ 0 (.bool z0)).set_ 1 (.slice u0 u1 u2)) (plain_rat _ _ _ _ _ _ _) (i := 2) (.slice u3 u4 u5))
  have HRs := Lib.hid (blk_set3 hres (.bool z0) (.slice u0 u1 u2) (.slice u3 u4 u5))
  have hBe : Below w.heap.size W (set3 W w.heap.size (.bool z0) (.slice u0 u1 u2) (.slice u3 u4 u5)) := below_set3 (Below.refl _ _) (Nat.le_refl _) _ _ _
  have HBt := Lib.hid (hI.btk.trans hBe)
  have HTe := Lib.hid (hTe.below hBe hTl)
  have hne : ∀ (i : Nat), D ≠ (⟨w.heap.size, i, none⟩ : Addr).block := fun i => by show D ≠ w.heap.size; omega
  have HK : Hid ((set3 W w.heap.size (.bool z0) (.slice u0 u1 u2) (.slice u3 u4 u5)).heap[D]? = some (.deferred (some []))) := Lib.hid ((Below.heap_setCell _ _ _ D (hne 2)).trans ((Below.heap_setCell _ _ _ D (hne 1)).trans ((Below.heap_setCell _ _ _ D (hne 0)).trans hK)))
  clear hb0 hN0 hres hI hK hBe hTe
  gi_wp2_with fail
  refine ⟨by simp, .inl ⟨_, _, rfl, run_takeDeferred HK.out, ?_⟩⟩
  have hg := grownBy_putObj' (set3 W w.heap.size (.bool z0) (.slice u0 u1 u2) (.slice u3 u4 u5)) D (.deferred none)
  have hr : ∀ r, some D = some r → ∃ o : Obj, (set3 W w.heap.size (.bool z0) (.slice u0 u1 u2) (.slice u3 u4 u5)).heap[r]? = some o ∧ o.isCells = false := fun r e => by cases e; exact ⟨_, HK.out, rfl⟩
  exact ⟨_, res_rat rfl _ _ w.heap.size z0 u0 u1 u2 u3 u4 u5 rfl (blk_grown HRs.out hg hr), _, rfl, isR_grown_own HN.out hg hr, HBt.out.grown hg (fun r e => by cases e; omega), blk_grown HTe.out hg hr⟩
 case stop =>
  rintro D c pre W _ _ h _
  exact h.elim
end Go.Proofs.YtllmacokhjmdgaaGreatDoor
