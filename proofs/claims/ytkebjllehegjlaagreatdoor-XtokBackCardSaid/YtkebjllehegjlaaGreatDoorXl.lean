/-
  Law 7: how long the name is that a text begins with; whether a text may be cut at all.
-/
import Derived.Test.YtkebjllehegjlaaGreatDoorXk
import Derived.Test.YtkebjllehegjlaaGreatDoorXm
import Derived.Test.YtkebjllehegjlaaGreatDoorUtCalls
import Derived.Test.YtkebjllehegjlaaGreatDoorUtClass
import Derived.Test.YtkebjllehegjlaaGreatDoorXb
namespace Go.Proofs.YtkebjllehegjlaaGreatDoor
open Go.RowKit Go.Shelf
set_option linter.unusedVariables false
attribute [local go_sem] Oper.semAt_some
/-- Where a name can't go on. -/
def nbad (p : Nat × Nat) : Bool := (p.1 == 0 && !uStart (p.2 : Int)) || !uPart (p.2 : Int)
def nsize (l : List UInt8) : Nat := match (uRunes l 0).find? nbad with
  | some p => p.1
  | none => uEnd l
def cbad (p : Nat × Nat) : Bool := !uChar (p.2 : Int)
theorem ext_find {l : List (Nat × Nat)} {q : Nat × Nat → Bool} {pre : List Ru} {x : Ru} (h : (pre ++ [x]).map (·.1) <+: l) (hp : ∀ y ∈ pre, q y.1 = false) (hx : q x.1 = true) : l.find? q = some x.1 :=
  find_of_prefix q l (pre.map (·.1)) x.1 (by simpa using h) (fun y hy => by obtain ⟨z, hz, rfl⟩ := List.mem_map.1 hy; exact hp z hz) hx
theorem ext_none {l : List (Nat × Nat)} {q : Nat × Nat → Bool} {ys : List Ru} (h : ys.map (·.1) = l) (hp : ∀ y ∈ ys, q y.1 = false) : l.find? q = none :=
  find_none q l (fun y hy => by rw [← h] at hy; obtain ⟨z, hz, rfl⟩ := List.mem_map.1 hy; exact hp z hz)
theorem results_ns (V : World) (R : Nat) (x : Value) (tmps : Array Value) (h2 : tmps.getD 2 undef = .pointer (some ⟨R, 0, none⟩)) (p : V.cell? ⟨R, 0, none⟩ = some x) :
    (results Tryz.f47 tmps).run Tryz.prog V = .ok x V := by
  simp only [Array.getD_eq_getD_getElem?] at h2
  simp [results, Tryz.f47, go_sem, h2, p]
theorem results_lk (V : World) (R1 R2 : Nat) (x y : Value) (tmps : Array Value) (h2 : tmps.getD 2 undef = .pointer (some ⟨R1, 0, none⟩)) (h3 : tmps.getD 3 undef = .pointer (some ⟨R2, 0, none⟩)) (p : V.cell? ⟨R1, 0, none⟩ = some x) (q : V.cell? ⟨R2, 0, none⟩ = some y) :
    (results Tryz.f11 tmps).run Tryz.prog V = .ok (.tuple #[x, y]) V := by
  simp only [Array.getD_eq_getD_getElem?] at h2 h3
  simp [results, Tryz.f11, go_sem, h2, h3, p, q]
theorem Blk.some_cell {W : World} {g : Nat} {t : TypeId} {v : Value} (h : Blk W g t #[v]) : W.cell? ⟨g, 0, none⟩ = some v := by rw [h.cell 0]; rfl
theorem put_kept {V : World} {D : Nat} {o' : Obj} {p : Addr} {v : Value} (h : V.cell? p = some v) (hD : V.heap[D]? = some (.deferred (some []))) : (V.putObj D o').cell? p = some v := by
  have hne : p.block ≠ D := by
    intro e
    unfold World.cell? at h
    rw [e, hD] at h
    cases h
  rw [← h]
  unfold World.cell? World.putObj
  simp [Array.getElem?_setIfInBounds_ne (Ne.symm hne)]
set_option maxRecDepth 100000 in
set_option maxHeartbeats 2000000 in
theorem nsize_in (n : Nat) (hn : 3 ≤ n) (s : ByteArray) (hs : s.size ≤ 1000000) (w : World) :
    CallsIn Fence.wide n Tryz.prog 47 #[.string s] w fun e W' => e = .returned (.int .i64 (nsize s.data.toList : Int)) ∧ Below w.heap.size w W' := by
  have h1 : 1 ≤ n := by omega
  obtain ⟨NS, hNS⟩ : ∃ NS, nsize s.data.toList = NS := ⟨_, rfl⟩
  have HNS := Lib.hid hNS
  rw [hNS]
  clear hNS
  refine callsIn_of_wp_marks Tryz.func47 rfl trivial ?_ rfl
  simp only [Tryz.ntmps47, List.size_toArray, List.length_cons, List.length_nil, Nat.reduceAdd, Nat.reduceSub, Array.replicate_succ, Array.replicate_zero, List.push_toArray, List.append_toArray, List.nil_append, List.cons_append]
  gi_wp2_with fail
  refine ⟨trivial, (callsIn_wide.2 (runes_any s _)).mono ?_⟩
  rintro e w' ⟨rfl, rfl⟩
  gi_wp2_with fail
  have bS := Boxed.new w 3 (.int .i64 0)
  have bN := Boxed.new (w.alloc (.cells #[.int .i64 0] 3)) 9 (.string s)
  rw [World.size_alloc] at bN
  have hB0 : Below w.heap.size w ((w.alloc (.cells #[.int .i64 0] 3)).alloc (.cells #[.string s] 9)) := ((Below.refl _ w).alloc (Nat.le_refl _) _).alloc (by simp) _
  refine wpIn_rangeFunc_ownG rfl h1 (gf := 29) (lb := #[.pointer (some ⟨w.heap.size + 1, 0, none⟩)]) rfl trivial (enters_of Tryz.func29 (by kernel_rfl) rfl)
    (runes_stops (n - 1) (by omega) (w.heap.size + 1) s hs _ (by simp) bN.cell) KeepCell.trans KeepCell.b (Below.refl _ _) (fun _ => rfl)
    (fun pre W => (∀ p ∈ pre, nbad p.1 = false) ∧ (W.cell? ⟨w.heap.size, 0, none⟩ = some (.int .i64 0) ∧ W.frozen? ⟨w.heap.size, 0, none⟩ = false) ∧ Below w.heap.size w W)
    (fun c pre W => c = .ret ∧ (∃ q x, pre = q ++ [x] ∧ (∀ p ∈ q, nbad p.1 = false) ∧ nbad x.1 = true ∧ W.cell? ⟨w.heap.size, 0, none⟩ = some (.int .i64 (x.1.1 : Int))) ∧ Below w.heap.size w W)
    (fun pre A B row hh hg hr => ⟨hh.1, ⟨cell_kept hh.2.1.1 hg (fun r e => (hr r e).2), (frozen_kept hh.2.1.1 hg (fun r e => (hr r e).2)).trans hh.2.1.2⟩, hh.2.2.grown hg hh.2.2.size (fun k e => by have := (hr k e).1; simp at this; omega)⟩)
    (fun c pre A B row hh hg hr => by
      obtain ⟨a1, ⟨q, x, a2, a3, a4, a5⟩, a6⟩ := hh
      exact ⟨a1, ⟨q, x, a2, a3, a4, cell_kept a5 hg (fun r e => (hr r e).2)⟩, a6.grown hg a6.size (fun k e => by have := (hr k e).1; simp at this; omega)⟩)
    ⟨(fun p hp => by cases hp), ⟨(bS.alloc _).cell, (bS.alloc _).frozen⟩, hB0⟩
    (fun x => { tmps := #[.string s, undef, .pointer (some ⟨w.heap.size, 0, none⟩), .int .i64 x.1.1, .int .i64 x.1.2, undef, undef, .string s, .func (.func 29) #[] #[.pointer (some ⟨w.heap.size + 1, 0, none⟩)], .int .i64 x.1.1, .int .i64 x.1.2, undef, undef, undef, undef, undef, undef, undef, undef, undef, undef, undef, undef, undef, undef, undef, undef, undef, undef, undef], defers := [] }) ?assign ?body ?done ?stop
  case assign =>
    intro l x W K hK
    gi_wp2
    exact hK
  case body =>
    rintro l pre x W ⟨hpre, ⟨hc, hf⟩, hB⟩ hl
    have hx1 := x.2.1
    have hx2 := x.2.2
    obtain ⟨st, hst⟩ : ∃ st, uStart (x.1.2 : Int) = st := ⟨_, rfl⟩
    obtain ⟨pt, hpt⟩ : ∃ pt, uPart (x.1.2 : Int) = pt := ⟨_, rfl⟩
    have HS : Hid (∀ W, Calls Tryz.prog 59 #[.int .i64 (x.1.2 : Int)] W fun e w' => e = .returned (.bool st) ∧ W = w') := Lib.hid (fun W => by
      have h := start_any (x.1.2 : Int) W
      rwa [hst] at h)
    have HP : Hid (∀ W, Calls Tryz.prog 60 #[.int .i64 (x.1.2 : Int)] W fun e w' => e = .returned (.bool pt) ∧ W = w') := Lib.hid (fun W => by
      have h := part_any (x.1.2 : Int) W
      rwa [hpt] at h)
    have HN : Hid (nbad x.1 = ((x.1.1 == 0 && !st) || !pt)) := Lib.hid (by unfold nbad; rw [hst, hpt])
    have Hpre := Lib.hid hpre
    have HR : Hid (∀ v : Value, KeepsOthers W (W.setCell ⟨w.heap.size, 0, none⟩ v)) := Lib.hid (fun v => KeepsOthers.setCell _ _ _)
    have HBS : Hid (∀ v : Value, Below w.heap.size w (W.setCell ⟨w.heap.size, 0, none⟩ v)) := Lib.hid (fun v => hB.setCell (p := ⟨w.heap.size, 0, none⟩) (Nat.le_refl _) _)
    have HCS : Hid (∀ v : Value, (W.setCell ⟨w.heap.size, 0, none⟩ v).cell? ⟨w.heap.size, 0, none⟩ = some v) := Lib.hid (fun v => World.cell?_setCell_same' _ _ _ (by rw [hc]; rfl))
    have HB := Lib.hid hB
    clear hst hpt hpre hB
    obtain ⟨P, hP⟩ : ∃ P : Int, (x.1.1 : Int) = P := ⟨_, rfl⟩
    have HPN := Lib.hid hP
    by_cases h0 : x.1.1 = 0
    · have hz : (P == 0) = true := by simpa using (show P = 0 by omega)
      cases st with
      | false =>
        have hb : Hid (nbad x.1 = true) := Lib.hid (by rw [HN.out, h0]; rfl)
        rw [hP]
        clear hP h0
        gi_wp2_with fail
        refine ⟨trivial, fun _ => by omega, ?_⟩
        refine (CallsIn.inRound l (callsIn_wide.2 (HS.out _))).mono ?_
        rintro e w' ⟨rfl, rfl⟩
        gi_wp2_with fail
        refine ⟨trivial, ?_⟩
        gi_wp2_with fail
        exact ⟨(HR.out _).from _, rfl, ⟨pre, x, rfl, Hpre.out, hb.out, by rw [HPN.out]; exact HCS.out _⟩, HBS.out _⟩
      | true =>
        cases pt with
        | false =>
          have hb : Hid (nbad x.1 = true) := Lib.hid (by rw [HN.out, h0]; rfl)
          rw [hP]
          clear hP h0
          gi_wp2_with fail
          refine ⟨trivial, fun _ => by omega, ?_⟩
          refine (CallsIn.inRound l (callsIn_wide.2 (HS.out _))).mono ?_
          rintro e w' ⟨rfl, rfl⟩
          gi_wp2_with fail
          refine ⟨trivial, fun _ => by omega, ?_⟩
          refine (CallsIn.inRound l (callsIn_wide.2 (HP.out _))).mono ?_
          rintro e w' ⟨rfl, rfl⟩
          gi_wp2_with fail
          exact ⟨(HR.out _).from _, rfl, ⟨pre, x, rfl, Hpre.out, hb.out, by rw [HPN.out]; exact HCS.out _⟩, HBS.out _⟩
        | true =>
          have hb : Hid (nbad x.1 = false) := Lib.hid (by rw [HN.out, h0]; rfl)
          rw [hP]
          clear hP h0
          gi_wp2_with fail
          refine ⟨trivial, fun _ => by omega, ?_⟩
          refine (CallsIn.inRound l (callsIn_wide.2 (HS.out _))).mono ?_
          rintro e w' ⟨rfl, rfl⟩
          gi_wp2_with fail
          refine ⟨trivial, fun _ => by omega, ?_⟩
          refine (CallsIn.inRound l (callsIn_wide.2 (HP.out _))).mono ?_
          rintro e w' ⟨rfl, rfl⟩
          gi_wp2_with fail
          exact ⟨KeepsFrom.refl _ _, KeepCell.refl _ _, fun p hp => (List.mem_append.1 hp).elim (Hpre.out p) (fun e => by rw [List.mem_singleton.1 e]; exact hb.out), ⟨hc, hf⟩, HB.out⟩
    · have hz : (P == 0) = false := by simpa using (show ¬ P = 0 by omega)
      have hz2 : (x.1.1 == 0) = false := by simpa using h0
      cases pt with
      | false =>
        have hb : Hid (nbad x.1 = true) := Lib.hid (by rw [HN.out, hz2]; rfl)
        rw [hP]
        clear hP h0
        gi_wp2_with fail
        refine ⟨trivial, ?_⟩
        gi_wp2_with fail
        refine ⟨trivial, fun _ => by omega, ?_⟩
        refine (CallsIn.inRound l (callsIn_wide.2 (HP.out _))).mono ?_
        rintro e w' ⟨rfl, rfl⟩
        gi_wp2_with fail
        exact ⟨(HR.out _).from _, rfl, ⟨pre, x, rfl, Hpre.out, hb.out, by rw [HPN.out]; exact HCS.out _⟩, HBS.out _⟩
      | true =>
        have hb : Hid (nbad x.1 = false) := Lib.hid (by rw [HN.out, hz2]; rfl)
        rw [hP]
        clear hP h0
        gi_wp2_with fail
        refine ⟨trivial, ?_⟩
        gi_wp2_with fail
        refine ⟨trivial, fun _ => by omega, ?_⟩
        refine (CallsIn.inRound l (callsIn_wide.2 (HP.out _))).mono ?_
        rintro e w' ⟨rfl, rfl⟩
        gi_wp2_with fail
        exact ⟨KeepsFrom.refl _ _, KeepCell.refl _ _, fun p hp => (List.mem_append.1 hp).elim (Hpre.out p) (fun e => by rw [List.mem_singleton.1 e]; exact hb.out), ⟨hc, hf⟩, HB.out⟩
  case done =>
    rintro D ys W hD hys ⟨hpre, ⟨hc, hf⟩, hB⟩ hK
    have hl : NS = uEnd s.data.toList := by rw [← HNS.out]; unfold nsize; rw [ext_none hys hpre]
    have HK := Lib.hid hK; have HB := Lib.hid hB
    obtain ⟨E, hE⟩ : ∃ E : Int, (uEnd s.data.toList : Int) = E := ⟨_, rfl⟩
    have HC := Lib.hid (fun W => check_any s hs W)
    have HE : Hid ((NS : Int) = E) := Lib.hid (by rw [hl, hE])
    simp only [hE] at HC
    clear hK hB hys hpre hl hE
    gi_wp2_with fail
    refine ⟨trivial, (callsIn_wide.2 (HC.out _)).mono ?_⟩
    rintro e w' ⟨rfl, hb⟩
    have hbs : w.heap.size < W.heap.size := by
      rcases Nat.lt_or_ge w.heap.size W.heap.size with h | h
      · exact h
      · simp [World.cell?, Array.getElem?_eq_none h] at hc
    have hD1 : w.heap.size + 2 ≤ D := by simp at hD; omega
    have hDs : D < W.heap.size := (Array.getElem?_eq_some_iff.1 HK.out).1
    have hc' := (hb.cell (p := ⟨w.heap.size, 0, none⟩) hbs).trans hc
    have hf' : w'.frozen? ⟨w.heap.size, 0, none⟩ = false := (World.frozen?_of_block (hb.block w.heap.size hbs)).trans hf
    have HK' : Hid ((w'.setCell ⟨w.heap.size, 0, none⟩ (.int .i64 E)).heap[D]? = some (.deferred (some []))) := Lib.hid ((Below.heap_setCell _ ⟨w.heap.size, 0, none⟩ _ D (by show D ≠ w.heap.size; omega)).trans ((hb.block D hDs).trans HK.out))
    have HB' : Hid (Below w.heap.size w (w'.setCell ⟨w.heap.size, 0, none⟩ (.int .i64 E))) := Lib.hid ((HB.out.trans (hb.mono HB.out.size)).setCell (p := ⟨w.heap.size, 0, none⟩) (Nat.le_refl _) _)
    have HV : Hid ((w'.setCell ⟨w.heap.size, 0, none⟩ (.int .i64 E)).cell? ⟨w.heap.size, 0, none⟩ = some (.int .i64 E)) := Lib.hid (World.cell?_setCell_same' _ _ _ (by rw [hc']; rfl))
    clear hb hc hf
    gi_wp2_with fail
    refine ⟨by simp, .inl ⟨_, _, rfl, run_takeDeferred HK'.out, ?_⟩⟩
    exact ⟨_, results_ns _ w.heap.size (.int .i64 E) _ rfl (put_kept HV.out HK'.out), by rw [HE.out], HB'.out.trans (belowK_b (w := w) (Nat.le_refl _) _ D _ _ (by simp at hD; omega) HK'.out rfl rfl)⟩
  case stop =>
    rintro D c pre W hD hpre ⟨rfl, ⟨q, x, rfl, hq, hx, hr⟩, hB⟩ hK
    have hl : NS = x.1.1 := by rw [← HNS.out]; unfold nsize; rw [ext_find hpre hq hx]
    have HE : Hid ((NS : Int) = (x.1.1 : Int)) := Lib.hid (by rw [hl])
    have HK := Lib.hid hK; have HB := Lib.hid hB; have HR := Lib.hid hr
    clear hK hB hpre hl hr hq hx
    gi_wp2
    refine ⟨by simp, .inl ⟨_, _, rfl, run_takeDeferred HK.out, ?_⟩⟩
    exact ⟨_, results_ns _ w.heap.size (.int .i64 (x.1.1 : Int)) _ rfl (put_kept HR.out HK.out), by rw [HE.out], HB.out.trans (belowK_b (w := w) (Nat.le_refl _) _ D _ _ (by simp at hD; omega) HK.out rfl rfl)⟩
theorem nsize_any (s : ByteArray) (hs : s.size ≤ 1000000) (w : World) :
    Calls Tryz.prog 47 #[.string s] w fun e W' => e = .returned (.int .i64 (nsize s.data.toList : Int)) ∧ Below w.heap.size w W' :=
  callsIn_wide.1 (nsize_in 3 (Nat.le_refl _) s hs w)
/-- What look tells. -/
def lookv (l : List UInt8) : Int × Int := if uEnd l = l.length then (match (uRunes l 0).find? cbad with
  | some p => (11, (p.1 : Int))
  | none => (0, 0)) else (11, (uEnd l : Int))
theorem lookv_good {l : List UInt8} (h : good l) : lookv l = (0, 0) := by
  unfold lookv
  rw [if_pos h.1, find_none cbad _ (fun y hy => by unfold cbad; rw [h.2 y hy]; rfl)]
theorem lookv_bad {l : List UInt8} (h : ¬ good l) : (lookv l).1 = 11 := by
  unfold lookv
  by_cases h1 : uEnd l = l.length
  · rw [if_pos h1]
    cases hf : (uRunes l 0).find? cbad with
    | some p => rfl
    | none =>
      refine absurd ⟨h1, fun p hp => ?_⟩ h
      have := List.find?_eq_none.1 hf p hp
      unfold cbad at this
      simpa using this
  · rw [if_neg h1]
set_option maxRecDepth 100000 in
set_option maxHeartbeats 2000000 in
theorem look_in (n : Nat) (hn : 4 ≤ n) (s : ByteArray) (hs : s.size ≤ 60000) (w : World) :
    CallsIn Fence.wide n Tryz.prog 11 #[.string s] w fun e W' => e = .returned (.tuple #[.int .i64 (lookv s.data.toList).1, .int .i64 (lookv s.data.toList).2]) ∧ Below w.heap.size w W' := by
  have h1 : 1 ≤ n := by omega
  have hs6 : s.size ≤ 1000000 := by omega
  have hsl : ¬ (60000 : Int) < (s.size : Int) := by omega
  have HC := Lib.hid (fun W => check_any s hs6 W)
  obtain ⟨E, hE⟩ : ∃ E : Int, (uEnd s.data.toList : Int) = E := ⟨_, rfl⟩
  obtain ⟨g, hg⟩ : ∃ g, ((uEnd s.data.toList : Int) == (s.size : Int)) = g := ⟨_, rfl⟩
  have Hl : s.data.toList.length = s.size := by simp
  have HLK : Hid (g = false → lookv s.data.toList = (11, E)) := Lib.hid (fun hf => by
    unfold lookv
    rw [if_neg (fun h => by rw [hf] at hg; have := beq_eq_false_iff_ne.1 hg; omega), hE])
  have HLW : Hid (g = true → lookv s.data.toList = (match (uRunes s.data.toList 0).find? cbad with
  | some p => (11, (p.1 : Int))
  | none => (0, 0))) := Lib.hid (fun hf => by
    unfold lookv
    rw [if_pos (by rw [hf] at hg; have := eq_of_beq hg; omega)])
  rw [hE] at hg
  simp only [hE, hg] at HC
  obtain ⟨LV, hLV⟩ : ∃ LV, lookv s.data.toList = LV := ⟨_, rfl⟩
  rw [hLV] at HLK HLW ⊢
  refine callsIn_of_wp_marks Tryz.func11 rfl trivial ?_ rfl
  simp only [Tryz.ntmps11, List.size_toArray, List.length_cons, List.length_nil, Nat.reduceAdd, Nat.reduceSub, Array.replicate_succ, Array.replicate_zero, List.push_toArray, List.append_toArray, List.nil_append, List.cons_append]
  clear hE hg hLV Hl
  gi_wp2_with fail
  refine ⟨trivial, (callsIn_wide.2 (HC.out _)).mono ?_⟩
  rintro e W0 ⟨rfl, hb0⟩
  have b1 := (Blk.new w 25 #[.int .i64 0]).alloc (.cells #[.int .i64 0] 3)
  have b2 := Blk.new (w.alloc (.cells #[.int .i64 0] 25)) 3 #[.int .i64 0]
  simp only [World.size_alloc] at b2
  have hlt1 := b1.lt; have hlt2 := b2.lt
  have hB0 : Below w.heap.size w W0 := (((Below.refl _ w).alloc (Nat.le_refl _) _).alloc (by simp) _).trans (hb0.mono (by simp; omega))
  have c1 : Blk W0 w.heap.size 25 #[.int .i64 0] := b1.below hb0 hlt1
  have c2 : Blk W0 (w.heap.size + 1) 3 #[.int .i64 0] := b2.below hb0 hlt2
  have hsz : w.heap.size + 2 ≤ W0.heap.size := by have := c2.lt; omega
  clear b1 b2 hb0 hlt1 hlt2
  cases g with
  | false =>
    have e1 := HLK.out rfl
    subst e1
    have p1 := c1.set_ 0 (.int .i64 11)
    have c2' := c2.far (p := ⟨w.heap.size, 0, none⟩) (by simp) (.int .i64 11)
    have p2 := c2'.set_ 0 (.int .i64 E)
    have P1 := Lib.hid ((p1.far (p := ⟨w.heap.size + 1, 0, none⟩) (by simp) (.int .i64 E)).cell 0)
    have P2 := Lib.hid (p2.cell 0)
    have PB := Lib.hid ((hB0.setCell (p := ⟨w.heap.size, 0, none⟩) (Nat.le_refl _) (.int .i64 11)).setCell (p := ⟨w.heap.size + 1, 0, none⟩) (by simp) (.int .i64 E))
    have d1 := c1.cell 0; have f1 := c1.frozen 0
    have d2 := c2'.cell 0; have f2 := c2'.frozen 0; have d2' := c2.cell 0; have f2' := c2.frozen 0
    simp only [List.getElem?_toArray, List.getElem?_cons_zero] at d1 d2 d2'
    clear p1 c2' p2 c1 c2 hB0
    gi_wp2_with fail
    refine ⟨_, results_lk _ w.heap.size (w.heap.size + 1) (.int .i64 11) (.int .i64 E) _ rfl rfl P1.out P2.out, rfl, PB.out⟩
  | true =>
    have e1 := HLW.out rfl
    have HB0 := Lib.hid hB0; have C1 := Lib.hid c1; have C2 := Lib.hid c2
    clear c1 c2 hB0
    gi_wp2_with fail
    refine ⟨trivial, (callsIn_wide.2 (runes_any s _)).mono ?_⟩
    rintro e w' ⟨rfl, rfl⟩
    gi_wp2_with fail
    have bN := Boxed.new W0 9 (.string s)
    have hB1 : Below w.heap.size w (W0.alloc (.cells #[.string s] 9)) := HB0.out.alloc (by omega) _
    have C1' := C1.out.alloc (.cells #[.string s] 9)
    have C2' := C2.out.alloc (.cells #[.string s] 9)
    refine wpIn_rangeFunc_ownG rfl h1 (gf := 29) (lb := #[.pointer (some ⟨W0.heap.size, 0, none⟩)]) rfl trivial (enters_of Tryz.func29 (by kernel_rfl) rfl)
      (runes_stops (n - 1) (by omega) W0.heap.size s hs6 _ (by simp) bN.cell) KeepCell.trans KeepCell.b (Below.refl _ _) (fun _ => rfl)
      (fun pre W => (∀ p ∈ pre, cbad p.1 = false) ∧ (Blk W w.heap.size 25 #[.int .i64 0] ∧ Blk W (w.heap.size + 1) 3 #[.int .i64 0]) ∧ Below w.heap.size w W)
      (fun c pre W => c = .ret ∧ (∃ q x, pre = q ++ [x] ∧ (∀ p ∈ q, cbad p.1 = false) ∧ cbad x.1 = true ∧ Blk W w.heap.size 25 #[.int .i64 11] ∧ Blk W (w.heap.size + 1) 3 #[.int .i64 (x.1.1 : Int)]) ∧ Below w.heap.size w W)
      (fun pre A B row hh hg hr => ⟨hh.1, ⟨blk_own _ _ _ () A B row hh.2.1.1 hg (fun r e => (hr r e).2), blk_own _ _ _ () A B row hh.2.1.2 hg (fun r e => (hr r e).2)⟩, hh.2.2.grown hg hh.2.2.size (fun k e => by have := (hr k e).1; simp at this; omega)⟩)
      (fun c pre A B row hh hg hr => by
        obtain ⟨a1, ⟨q, x, a2, a3, a4, a5, a5'⟩, a6⟩ := hh
        exact ⟨a1, ⟨q, x, a2, a3, a4, blk_own _ _ _ () A B row a5 hg (fun r e => (hr r e).2), blk_own _ _ _ () A B row a5' hg (fun r e => (hr r e).2)⟩, a6.grown hg a6.size (fun k e => by have := (hr k e).1; simp at this; omega)⟩)
      ⟨(fun p hp => by cases hp), ⟨C1', C2'⟩, hB1⟩
      (fun x => { tmps := #[.string s, undef, .pointer (some ⟨w.heap.size, 0, none⟩), .pointer (some ⟨w.heap.size + 1, 0, none⟩), .int .i64 E, .bool true, .int .i64 x.1.1, .int .i64 x.1.2, .string s, .int .i64 s.size, .bool false, .tuple #[.int .i64 E, .bool true], .string s, .tuple #[.int .i64 E, .bool true], .int .i64 E, .bool true, .bool true, .bool false, undef, .string s, .func (.func 29) #[] #[.pointer (some ⟨W0.heap.size, 0, none⟩)], .int .i64 x.1.1, .int .i64 x.1.2, undef, undef, undef, undef], defers := [] }) ?assign ?body ?done ?stop
    case assign =>
      intro l x W K hK
      gi_wp2
      exact hK
    case body =>
      rintro l pre x W ⟨hpre, ⟨hc1, hc2⟩, hB⟩ hl
      have hx1 := x.2.1
      have hx2 := x.2.2
      obtain ⟨st, hst⟩ : ∃ st, uChar (x.1.2 : Int) = st := ⟨_, rfl⟩
      have HS : Hid (∀ W, Calls Tryz.prog 19 #[.int .i64 (x.1.2 : Int)] W fun e w' => e = .returned (.bool st) ∧ W = w') := Lib.hid (fun W => by
        have h := char_any (x.1.2 : Int) W
        rwa [hst] at h)
      have HN : Hid (cbad x.1 = !st) := Lib.hid (by unfold cbad; rw [hst])
      have Hpre := Lib.hid hpre
      cases st with
      | true =>
        have HJ : Hid ((Blk W w.heap.size 25 #[.int .i64 0] ∧ Blk W (w.heap.size + 1) 3 #[.int .i64 0]) ∧ Below w.heap.size w W) := Lib.hid ⟨⟨hc1, hc2⟩, hB⟩
        clear hst hpre hB hc1 hc2
        gi_wp2_with fail
        refine ⟨trivial, fun _ => by omega, ?_⟩
        refine (CallsIn.inRound l (callsIn_wide.2 (HS.out _))).mono ?_
        rintro e w' ⟨rfl, rfl⟩
        gi_wp2_with fail
        exact ⟨KeepsFrom.refl _ _, KeepCell.refl _ _, fun p hp => (List.mem_append.1 hp).elim (Hpre.out p) (fun e => by rw [List.mem_singleton.1 e, HN.out]; rfl), HJ.out.1, HJ.out.2⟩
      | false =>
        obtain ⟨P, hP⟩ : ∃ P : Int, (x.1.1 : Int) = P := ⟨_, rfl⟩
        have HPN := Lib.hid hP
        have p1 := hc1.set_ 0 (.int .i64 11)
        have c2' := hc2.far (p := ⟨w.heap.size, 0, none⟩) (by simp) (.int .i64 11)
        have p2 := c2'.set_ 0 (.int .i64 P)
        have P1 := Lib.hid (p1.far (p := ⟨w.heap.size + 1, 0, none⟩) (by simp) (.int .i64 P))
        have P2 := Lib.hid p2
        have PB := Lib.hid ((hB.setCell (p := ⟨w.heap.size, 0, none⟩) (Nat.le_refl _) (.int .i64 11)).setCell (p := ⟨w.heap.size + 1, 0, none⟩) (by simp) (.int .i64 P))
        have PK : Hid (KeepsOthers W ((W.setCell ⟨w.heap.size, 0, none⟩ (.int .i64 11)).setCell ⟨w.heap.size + 1, 0, none⟩ (.int .i64 P))) := Lib.hid ((KeepsOthers.setCell _ _ _).trans (KeepsOthers.setCell _ _ _))
        have d1 := hc1.cell 0; have f1 := hc1.frozen 0
        have d2 := c2'.cell 0; have f2 := c2'.frozen 0; have d2' := hc2.cell 0; have f2' := hc2.frozen 0
        simp only [List.getElem?_toArray, List.getElem?_cons_zero] at d1 d2 d2'
        clear hst hpre hB hc1 hc2 p1 c2' p2
        rw [hP]
        clear hP
        gi_wp2_with fail
        refine ⟨trivial, fun _ => by omega, ?_⟩
        refine (CallsIn.inRound l (callsIn_wide.2 (HS.out _))).mono ?_
        rintro e w' ⟨rfl, rfl⟩
        gi_wp2_with fail
        exact ⟨PK.out.from _, rfl, ⟨pre, x, rfl, Hpre.out, by rw [HN.out]; rfl, P1.out, by rw [HPN.out]; exact P2.out⟩, PB.out⟩
    case done =>
      rintro D ys W hD hys ⟨hpre, ⟨hc1, hc2⟩, hB⟩ hK
      rw [ext_none hys hpre] at e1
      subst e1
      have p1 := hc1.set_ 0 (.int .i64 0)
      have c2' := hc2.far (p := ⟨w.heap.size, 0, none⟩) (by simp) (.int .i64 0)
      have p2 := c2'.set_ 0 (.int .i64 0)
      have P1 := Lib.hid ((p1.far (p := ⟨w.heap.size + 1, 0, none⟩) (by simp) (.int .i64 0)).cell 0)
      have P2 := Lib.hid (p2.cell 0)
      have hDs : w.heap.size + 2 ≤ D := by simp at hD; omega
      have PB := Lib.hid ((hB.setCell (p := ⟨w.heap.size, 0, none⟩) (Nat.le_refl _) (.int .i64 0)).setCell (p := ⟨w.heap.size + 1, 0, none⟩) (by simp) (.int .i64 0))
      have HK : Hid (((W.setCell ⟨w.heap.size, 0, none⟩ (.int .i64 0)).setCell ⟨w.heap.size + 1, 0, none⟩ (.int .i64 0)).heap[D]? = some (.deferred (some []))) := Lib.hid ((Below.heap_setCell _ ⟨w.heap.size + 1, 0, none⟩ _ D (by simp; omega)).trans ((Below.heap_setCell _ ⟨w.heap.size, 0, none⟩ _ D (by simp; omega)).trans hK))
      have d1 := hc1.cell 0; have f1 := hc1.frozen 0
      have d2 := c2'.cell 0; have f2 := c2'.frozen 0; have d2' := hc2.cell 0; have f2' := hc2.frozen 0
      simp only [List.getElem?_toArray, List.getElem?_cons_zero] at d1 d2 d2'
      clear hpre hB hc1 hc2 p1 c2' p2 hK hys
      gi_wp2_with fail
      refine ⟨by simp, .inl ⟨_, _, rfl, run_takeDeferred HK.out, ?_⟩⟩
      exact ⟨_, results_lk _ w.heap.size (w.heap.size + 1) (.int .i64 0) (.int .i64 0) _ rfl rfl (put_kept P1.out HK.out) (put_kept P2.out HK.out), rfl, PB.out.trans (belowK_b (w := w) (Nat.le_refl _) _ D _ _ (by omega) HK.out rfl rfl)⟩
    case stop =>
      rintro D c pre W hD hpre ⟨rfl, ⟨q, x, rfl, hq, hx, hr1, hr2⟩, hB⟩ hK
      rw [ext_find hpre hq hx] at e1
      subst e1
      have HK := Lib.hid hK; have HB := Lib.hid hB; have HR1 := Lib.hid (hr1.cell 0); have HR2 := Lib.hid (hr2.cell 0)
      have hDs : w.heap.size + 2 ≤ D := by simp at hD; omega
      clear hK hB hpre hr1 hr2 hq hx
      gi_wp2
      refine ⟨by simp, .inl ⟨_, _, rfl, run_takeDeferred HK.out, ?_⟩⟩
      exact ⟨_, results_lk _ w.heap.size (w.heap.size + 1) (.int .i64 11) (.int .i64 (x.1.1 : Int)) _ rfl rfl (put_kept HR1.out HK.out) (put_kept HR2.out HK.out), rfl, HB.out.trans (belowK_b (w := w) (Nat.le_refl _) _ D _ _ (by omega) HK.out rfl rfl)⟩
theorem look_any (s : ByteArray) (hs : s.size ≤ 60000) (w : World) :
    Calls Tryz.prog 11 #[.string s] w fun e W' => e = .returned (.tuple #[.int .i64 (lookv s.data.toList).1, .int .i64 (lookv s.data.toList).2]) ∧ Below w.heap.size w W' :=
  callsIn_wide.1 (look_in 4 (Nat.le_refl _) s hs w)
end Go.Proofs.YtkebjllehegjlaaGreatDoor
