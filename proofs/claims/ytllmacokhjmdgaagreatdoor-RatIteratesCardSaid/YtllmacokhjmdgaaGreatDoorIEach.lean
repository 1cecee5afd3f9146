/-
 Law 2: fractions in a row, and the iterator over them that counts how many were taken.
-/
import Derived.Test.YtllmacokhjmdgaaGreatDoorIRng
import Derived.Deep.Slices
import Derived.Deep.Fields
namespace Go.Proofs.YtllmacokhjmdgaaGreatDoor
open Go.RowKit Go.Shelf
set_option linter.unusedVariables false
attribute [local go_sem] Oper.semAt_some
/-- A fraction as it stands in a row, and what it is. -/
structure Ev where
 b : Bool
 p : Option Addr
 n : Nat
 c : Nat
 p' : Option Addr
 n' : Nat
 c' : Nat
 q : Rat
def Ev.cells (e : Ev) : List Value := [.bool e.b, .slice e.p e.n e.c, .slice e.p' e.n' e.c']
def Ev.V (e : Ev) : Value := .agg #[.bool e.b, .slice e.p e.n e.c, .slice e.p' e.n' e.c']
/-- The row at a holds these fractions. -/
def ER (W : World) (a : Option Addr) (L : List Ev) : Prop := ∀ i e, L[i]? = some e → ∃ ad, a = some ad ∧ ad.block < W.heap.size ∧ ∀ j u, e.cells[j]? = some u → W.cell? (ad.add (i * 3 + j)) = some u
theorem ER.below {W W' : World} {a : Option Addr} {L : List Ev} {B : Nat} (h : ER W a L) (hb : Below B W W') (hB : W.heap.size ≤ B) : ER W' a L := fun i e he => by
 obtain ⟨ad, e1, h1, h2⟩ := h i e he
 exact ⟨ad, e1, Nat.lt_of_lt_of_le h1 hb.size, fun j u hu => (hb.cell (by rw [add_block]; omega)).trans (h2 j u hu)⟩
theorem add_posE (p : Addr) (j : Nat) (hj : j ≠ 0) : p.add j = ⟨p.block, p.off + j, none⟩ := by unfold Addr.add; rw [if_neg hj]
/-- A store into the counter's box. -/
theorem ER.count {W : World} {a : Option Addr} {L : List Ev} {Tb : Nat} {t : Int} (h : ER W a L) (hT : Blk W Tb 3 #[.int .i64 t]) (u : Value) : ER (W.setCell ⟨Tb, 0, none⟩ u) a L := fun i e he => by
 obtain ⟨ad, e1, h1, h2⟩ := h i e he
 refine ⟨ad, e1, by rw [World.size_setCell]; exact h1, fun j v hv => ?_⟩
 have hc := h2 j v hv
 have hne : (ad.add (i * 3 + j)).block ≠ Tb := fun hb => by
  unfold World.cell? at hc
  rw [hb, show W.heap[Tb]? = _ from hT] at hc
  simp only at hc
  have hvn : ∀ z, v ≠ .int .i64 z := fun z hz => by
   subst hz
   match j, hv with
   | 0, hv => simp [Ev.cells] at hv
   | 1, hv => simp [Ev.cells] at hv
   | 2, hv => simp [Ev.cells] at hv
   | j + 3, hv => simp [Ev.cells] at hv
  split at hc
  · cases hc
  · rename_i hx
    rcases Nat.eq_zero_or_pos (ad.add (i * 3 + j)).off with h0 | h0
    · rw [h0] at hc
      simp at hc
      exact hvn _ hc.symm
    · rw [Array.getElem?_eq_none (by simp; omega)] at hc
      cases hc
 rw [World.cell?_setCell_other _ _ _ _ (fun e => hne (congrArg Addr.block e).symm)]
 exact hc
theorem plain_int (t : Int) : Plain #[.int .i64 t] := fun k z => by
 cases k with
 | zero => simp
 | succ k => simp
/-- Everything but the counter stands as it stood. -/
def Btk (Tb : Nat) (w W : World) : Prop := ∃ u : Int, Below w.heap.size (w.setCell ⟨Tb, 0, none⟩ (.int .i64 u)) W
theorem Btk.count {Tb : Nat} {w W : World} {t : Int} (h : Btk Tb w W) (hT : Blk w Tb 3 #[.int .i64 t]) (u : Int) : Btk Tb w (W.setCell ⟨Tb, 0, none⟩ (.int .i64 u)) := by
 obtain ⟨v, hb⟩ := h
 refine ⟨u, ?_⟩
 have hlt := hT.lt
 refine ⟨hb.os, hb.tape, hb.output, by rw [World.size_setCell, World.size_setCell]; have := hb.size; rw [World.size_setCell] at this; exact this, fun i hi => ?_⟩
 by_cases e : i = Tb
 · subst e
   have h1 : Blk W i 3 #[.int .i64 v] := (hT.set_ 0 _).below hb (by simpa using hlt)
   exact (h1.set_ 0 _).trans (hT.set_ 0 _).symm
 · rw [Below.heap_setCell W ⟨Tb, 0, none⟩ _ i (by show i ≠ Tb; exact e), Below.heap_setCell w ⟨Tb, 0, none⟩ _ i (by show i ≠ Tb; exact e)]
   have := hb.block i hi
   rwa [Below.heap_setCell w ⟨Tb, 0, none⟩ _ i (by show i ≠ Tb; exact e)] at this
theorem Btk.of_below {Tb : Nat} {w W : World} {t : Int} (hT : Blk w Tb 3 #[.int .i64 t]) (h : Below w.heap.size w W) : Btk Tb w W := by
 refine ⟨t, h.os, h.tape, h.output, by rw [World.size_setCell]; exact h.size, fun i hi => ?_⟩
 by_cases e : i = Tb
 · subst e
   exact (h.block i hi).trans (hT.trans ((hT.set_ 0 (.int .i64 t)).symm))
 · rw [Below.heap_setCell w ⟨Tb, 0, none⟩ _ i (by show i ≠ Tb; exact e)]
   exact h.block i hi
theorem Btk.trans {Tb : Nat} {w W W' : World} (h : Btk Tb w W) (hb : Below w.heap.size W W') : Btk Tb w W' := by
 obtain ⟨u, h⟩ := h
 exact ⟨u, h.trans hb⟩
theorem Btk.blk {Tb : Nat} {w W : World} {t : Int} (h : Btk Tb w W) (hT : Blk w Tb 3 #[.int .i64 t]) : ∃ z : Int, Blk W Tb 3 #[.int .i64 z] := by
 obtain ⟨u, h⟩ := h
 exact ⟨u, (hT.set_ 0 _).below h (by simpa using hT.lt)⟩
theorem Btk.size {Tb : Nat} {w W : World} (h : Btk Tb w W) : w.heap.size ≤ W.heap.size := by
 obtain ⟨u, h⟩ := h
 have := h.size
 rwa [World.size_setCell] at this
theorem Btk.cell {Tb : Nat} {w W : World} (h : Btk Tb w W) {b i : Nat} (hne : b ≠ Tb) (hb : b < w.heap.size) : W.cell? ⟨b, i, none⟩ = w.cell? ⟨b, i, none⟩ := by
 obtain ⟨u, h⟩ := h
 rw [h.cell (p := ⟨b, i, none⟩) (by simpa using hb), World.cell?_setCell_other _ _ _ _ (fun e => hne (congrArg Addr.block e).symm)]
theorem Btk.isR {Tb : Nat} {w W : World} {t : Int} {v : Value} {x : Rat} (h : Btk Tb w W) (hT : Blk w Tb 3 #[.int .i64 t]) (hv : IsR w v x) : IsR W v x := by
 obtain ⟨u, h⟩ := h
 exact (isR_put hv hT (plain_int t) (.int .i64 u)).below h (by rw [World.size_setCell]; exact Nat.le_refl _)
theorem Btk.er {Tb : Nat} {w W : World} {t : Int} {a : Option Addr} {L : List Ev} (h : Btk Tb w W) (hT : Blk w Tb 3 #[.int .i64 t]) (hv : ER w a L) : ER W a L := by
 obtain ⟨u, h⟩ := h
 exact (hv.count hT (.int .i64 u)).below h (by rw [World.size_setCell]; exact Nat.le_refl _)
theorem cell_apart {w : World} {b Tb : Nat} {t : Int} {v : Value} (hT : Blk w Tb 3 #[.int .i64 t]) (hc : w.cell? ⟨b, 0, none⟩ = some v) (hv : v ≠ .int .i64 t) : b ≠ Tb := fun e => by
 subst e
 rw [hT.cell 0] at hc
 simp at hc
 exact hv hc.symm
set_option maxRecDepth 100000 in
set_option maxHeartbeats 4000000 in
theorem each_told (n : Nat) (hn : 1 ≤ n) (L : List Ev) (hL : L.length ≤ 1000) (a : Option Addr) (c Bs Bt Tb : Nat) (t0 : Int) (ht0 : 0 ≤ t0) (ht1 : t0 ≤ 100000) (w : World) (hB : Bs < w.heap.size) (hc : w.cell? ⟨Bs, 0, none⟩ = some (.slice a L.length c))
 (hBt : Bt < w.heap.size) (hct : w.cell? ⟨Bt, 0, none⟩ = some (.pointer (some ⟨Tb, 0, none⟩))) (hT : Blk w Tb 3 #[.int .i64 t0]) (hrow : ER w a L) (w0 : World) (hw0 : Below w.heap.size w w0) :
 Told Fence.wide n Tryz.prog 87 #[.pointer (some ⟨Bs, 0, none⟩), .pointer (some ⟨Bt, 0, none⟩)] (fun x : {x : Ev // x ∈ L} => #[x.1.V]) (Below w.heap.size) Tb (fun pre x => (pre ++ [x]).map (·.1) = L.take (pre.length + 1))
  (fun ys W => ys.map (·.1) = L ∧ Blk W Tb 3 #[.int .i64 (t0 + (L.length : Int))]) (fun _ _ => True) L.length w0 := by
 intro l J Jx W hW hJ hJt hY h0
 replace hW : Below w.heap.size w W := hw0.trans (hW.mono hw0.size)
 clear hw0
 have hTl := hT.lt
 refine callsIn_of_wp Tryz.func87 rfl trivial ?_ rfl
 simp only [Tryz.ntmps87, List.size_toArray, List.length_cons, List.length_nil, Nat.reduceAdd, Nat.reduceSub, Array.replicate_succ, Array.replicate_zero, List.push_toArray, List.append_toArray, List.nil_append, List.cons_append]
 have hsT : Bs ≠ Tb := cell_apart hT hc (by simp)
 have htT : Bt ≠ Tb := cell_apart hT hct (by simp)
 have HW := Lib.hid (Btk.of_below hT hW)
 have HT0 : Hid (Blk W Tb 3 #[.int .i64 (t0 + ((0 : Nat) : Int))]) := Lib.hid (by rw [show t0 + ((0 : Nat) : Int) = t0 by omega]; exact hT.below hW hTl)
 have HC : Hid (∀ W', Btk Tb w W' → W'.cell? ⟨Bs, 0, none⟩ = some (.slice a L.length c) ∧ W'.cell? ⟨Bt, 0, none⟩ = some (.pointer (some ⟨Tb, 0, none⟩))) := Lib.hid (fun W' h => ⟨(h.cell hsT hB).trans hc, (h.cell htT hBt).trans hct⟩)
 have HR : Hid (∀ W', Btk Tb w W' → ER W' a L) := Lib.hid (fun W' h => h.er hT hrow)
 have HCt : Hid (∀ W' (u : Int), Btk Tb w W' → Btk Tb w (W'.setCell ⟨Tb, 0, none⟩ (.int .i64 u))) := Lib.hid (fun W' u h => h.count hT u)
 have HTl := Lib.hid hTl
 have HJt := Lib.hid hJt
 have HJ := Lib.hid h0
 have H0 : Hid ((([] : List {x : Ev // x ∈ L}).map (·.1)) = L.take 0) := Lib.hid (by simp)
 obtain ⟨m, hm⟩ : ∃ m, L.length = m := ⟨_, rfl⟩
 have Hm := Lib.hid hm
 rw [hm] at HC hL hY
 clear hc hct hrow hW h0 hB hBt hm hT hTl hsT htT hJt
 gi_wp2_with fail
 gi_loopw [4] (fun iv wr => ∃ (k : Nat) (pre : List {x : Ev // x ∈ L}), k ≤ m ∧ iv = .int .i64 (k : Int) ∧ Hid (pre.map (·.1) = L.take k) ∧ Hid (J pre wr) ∧ Hid (Btk Tb w wr) ∧ Hid (Blk wr Tb 3 #[.int .i64 (t0 + (k : Int))]))
  (fun iv _ => m - (intOf iv).toNat)
 case atStart => exact ⟨0, [], by omega, rfl, H0, HJ, HW, HT0⟩
 case round =>
  clear H0 HJ HW HT0
  obtain ⟨k, pre, hk, rfl, hpre, hj, hb, hT⟩ := hrel
  obtain ⟨hcw, hct⟩ := HC.out wr hb.out
  by_cases hlt : k < m
  · have hkL : k < L.length := by rw [Hm.out]; exact hlt
    obtain ⟨x, hx⟩ : ∃ x, L[k]? = some x := ⟨_, List.getElem?_eq_getElem hkL⟩
    have hmem : x ∈ L := List.mem_of_getElem? hx
    have hpl : pre.length = k := by
     have := congrArg List.length hpre.out
     rw [List.length_map, List.length_take] at this
     omega
    have hnext : Hid ((pre ++ [(⟨x, hmem⟩ : {x : Ev // x ∈ L})]).map (·.1) = L.take (k + 1)) := Lib.hid (by rw [List.map_append, hpre.out, List.take_add_one, hx]; rfl)
    have hi0 : (0 : Int) ≤ (k : Int) := by omega
    have hi1 : (k : Int) < (m : Int) := by omega
    have tc := hT.out.cell 0; have tf := hT.out.frozen 0
    simp only [List.getElem?_toArray, List.getElem?_cons_zero] at tc
    obtain ⟨t1, ht1e⟩ : ∃ t1, t0 + (k : Int) = t1 := ⟨_, rfl⟩
    rw [ht1e] at tc
    have hb1 : Hid (Btk Tb w (wr.setCell ⟨Tb, 0, none⟩ (.int .i64 (t1 + 1)))) := Lib.hid (HCt.out _ _ hb.out)
    have hT1 : Hid (Blk (wr.setCell ⟨Tb, 0, none⟩ (.int .i64 (t1 + 1))) Tb 3 #[.int .i64 (t0 + ((k + 1 : Nat) : Int))]) := Lib.hid (by
     have e : t1 + 1 = t0 + ((k + 1 : Nat) : Int) := by omega
     rw [e]
     exact hT.out.set_ 0 _)
    have hj1 : Hid (J pre (wr.setCell ⟨Tb, 0, none⟩ (.int .i64 (t1 + 1)))) := Lib.hid (HJt.out _ _ _ hj.out)
    obtain ⟨hcw1, hct1⟩ := HC.out _ hb1.out
    obtain ⟨ad, had, hadl, hca⟩ := HR.out _ hb1.out k x hx
    have c0 := hca 0 _ rfl; have c1 := hca 1 _ rfl; have c2 := hca 2 _ rfl
    simp only [Nat.add_zero] at c0
    rw [← Deep.add_add, add_posE _ _ (by omega)] at c1 c2
    obtain ⟨fn, tmps, assign, body, hy, hYR⟩ := hY pre ⟨x, hmem⟩ _ hj1.out (by omega) (by rw [hpl]; exact hnext.out)
    obtain ⟨b, p, nn_, cc_, p', n', c', q⟩ := x
    subst had
    replace hy : (Instr.yield l #[.agg #[.bool b, .slice p nn_ cc_, .slice p' n' c']]).run Tryz.prog (wr.setCell ⟨Tb, 0, none⟩ (.int .i64 (t1 + 1))) = .ok (.round l fn tmps assign body) (wr.setCell ⟨Tb, 0, none⟩ (.int .i64 (t1 + 1))) := hy
    have ht9 : t1 ≤ 200000 := by omega
    have ht8 : 0 ≤ t1 := by omega
    clear hx hkL hj hb hT hca ht1e
    gi_wp2_with fail
    refine hYR.mono ?_
    rintro e W3 ⟨hk3, ⟨rfl, hJ3⟩ | ⟨rfl, hJx3⟩⟩
    · have hJ3' := Lib.hid hJ3
      have hb3 : Hid (Btk Tb w W3) := Lib.hid (hb1.out.trans hk3)
      have hT3 := Lib.hid (hT1.out.below hk3 HTl.out)
      obtain ⟨hcw3, hct3⟩ := HC.out W3 hb3.out
      clear hJ3 hYR hy hpre hk3 hcw hct hcw1 hct1 hadl hb1 hT1 hj1 c0 c1 c2 tc tf
      gi_wp2_with fail
      go_roundw
      case rel => exact ⟨k + 1, _, by omega, by go_num, hnext, hJ3', hb3, hT3⟩
      case measure => simp [intOf]; omega
    · have hJx' := Lib.hid hJx3
      clear hJx3 hYR hy hpre hcw hct hcw1 hct1 hadl hb1 hT1 hj1 c0 c1 c2 tc tf
      gi_wp2_with fail
      refine bodyPost_ret (results_none rfl _ _ _) rfl ?_
      exact ⟨⟨_, rfl⟩, _, .inr ⟨trivial, hJx'.out⟩⟩
  · obtain rfl : k = m := by omega
    have hend : Hid (pre.map (·.1) = L) := Lib.hid (by rw [hpre.out, List.take_of_length_le (by rw [Hm.out]; exact Nat.le_refl _)])
    have hi1 : ¬ (k : Int) < (k : Int) := by omega
    have HTe : Hid (Blk wr Tb 3 #[.int .i64 (t0 + (L.length : Int))]) := Lib.hid (by rw [Hm.out]; exact hT.out)
    clear hpre hT
    gi_wp2_with fail
    go_end0
    exact ⟨⟨_, rfl⟩, pre, .inl ⟨⟨hend.out, HTe.out⟩, hj.out⟩⟩
end Go.Proofs.YtllmacokhjmdgaaGreatDoor
