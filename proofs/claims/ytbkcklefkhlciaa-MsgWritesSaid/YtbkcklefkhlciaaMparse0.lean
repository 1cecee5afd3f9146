/-
  Parse: the message of bytes that are fields, one behind the other.
-/
import Derived.Test.YtbkcklefkhlciaaMround
import Derived.Test.YtbkcklefkhlciaaTwo
namespace Go.Proofs.Ytbkcklefkhlciaa
open Go.RowKit Go.Shelf
attribute [local go_sem] Oper.semAt_some
set_option linter.unusedVariables false
/-- The places that are above nought. -/
def eo (l : List (Fd × Nat)) : List Nat := (l.map (·.2)).filter (0 < ·)
theorem eo_snoc (l : List (Fd × Nat)) (p : Fd × Nat) : eo (l ++ [p]) = eo l ++ if 0 < p.2 then [p.2] else [] := by
  unfold eo
  rw [List.map_append, List.filter_append]
  congr 1
  simp [List.filter_cons]
theorem eo_len (l : List (Fd × Nat)) : (eo l).length ≤ l.length := by unfold eo; exact Nat.le_trans (List.length_filter_le _ _) (by simp)
theorem eo_places (ps : List (Fd × ByteArray)) (h : ∀ p ∈ ps, GoodB p) : ∀ k, 0 < k → eo (places k ps) ++ [k + (cat ps).size] = k :: ends k ps ∨ ps = [] := by
  induction ps with
  | nil => intro k hk; exact .inr rfl
  | cons p r ih =>
    intro k hk
    left
    have hp := (h p (by simp)).2
    have e1 : eo (places k (p :: r)) = k :: eo (places (k + p.2.size) r) := by
      unfold eo
      simp only [places, List.map_cons, List.filter_cons]
      rw [if_pos (by simpa using hk)]
    rw [e1, List.cons_append, ends]
    congr 1
    rcases ih (fun q hq => h q (by simp [hq])) (k + p.2.size) (by omega) with h1 | rfl
    · rw [← h1]; simp only [cat, bsize_app]; rw [Nat.add_assoc]
    · simp [places, ends, eo, cat, bapp_nil]
theorem eo_cat (ps : List (Fd × ByteArray)) (h : ∀ p ∈ ps, GoodB p) (hne : ps ≠ []) : eo (places 0 ps) ++ [(cat ps).size] = ends 0 ps := by
  cases ps with
  | nil => exact absurd rfl hne
  | cons p r =>
    have hp := (h p (by simp)).2
    have e1 : eo (places 0 (p :: r)) = eo (places (0 + p.2.size) r) := by
      unfold eo
      simp only [places, List.map_cons, List.filter_cons]
      rw [if_neg (by simp)]
    rw [e1, ends]
    rcases eo_places r (fun q hq => h q (by simp [hq])) (0 + p.2.size) (by omega) with h1 | rfl
    · rw [← h1]; simp only [cat, bsize_app]; rw [Nat.zero_add]
    · simp [places, ends, eo, cat, bapp_nil]
set_option maxRecDepth 100000 in
theorem new_exact (w : World) : Calls Try.prog 9 #[] w fun e w' => e = .returned (.pointer (some ⟨w.heap.size, 0, none⟩)) ∧ w.alloc (.cells #[.bool true, .slice none 0 0, .slice none 0 0, .int .i64 0] 75) = w' := by
  go_enter Try.func9, Try.ntmps9
  go_wp2
  go_ret
  exact ⟨rfl, rfl⟩
/-- Between two rounds: the message M that is being made, the boxes beside it. -/
structure PSt (n : Nat) (s : ByteArray) (w : World) (l : List (Fd × Nat)) (es : List Nat) (fv ev : Value) (W : World) : Prop where
  m : Blk W (n + 2) 75 #[.bool true, fv, ev, .int .i64 0]
  f : W.ownsRow n 77 5 fv l.length (fdsC l)
  e : W.ownsRow n 3 1 ev es.length (es.map iv)
  r1 : Blk W n 31 #[.pointer none]
  r2 : Blk W (n + 1) 60 #[.int .i64 0, .int .i64 0, .string ⟨#[]⟩]
  o : Blk W (n + 3) 31 #[.pointer (some ⟨n + 2, 0, none⟩)]
  bs : Blk W (n + 4) 9 #[.string s]
  b : Below n w W
  h : n ≤ W.heap.size
section
variable {n : Nat} {s : ByteArray} {w W W' : World} {l : List (Fd × Nat)} {es : List Nat} {fv ev : Value}
theorem own_keep {B : Nat} {e : TypeId} {z : Nat} {v : Value} {k : Nat} {xs : List Value} {row : Option Nat} (h : W.ownsRow B e z v k xs) (hg : W.grownBy W' row) (hr : ∀ r, row = some r → ∃ o : Obj, W.heap[r]? = some o ∧ o.isCells = false) : W'.ownsRow B e z v k xs := by
  refine h.kept hg ?_
  rcases h.2 with ⟨rfl, _⟩ | ⟨g, cap, cur, rfl, _, hgb, _⟩
  · exact .inl rfl
  · refine .inr fun e' => ?_
    obtain ⟨o, ho, hc⟩ := hr g (by simpa [Value.ownBlock] using e'.symm)
    rw [hgb] at ho; cases ho; cases hc
theorem blk_keep {g : Nat} {t : TypeId} {cs : Array Value} {row : Option Nat} (h : Blk W g t cs) (hg : W.grownBy W' row) (hr : ∀ r, row = some r → ∃ o : Obj, W.heap[r]? = some o ∧ o.isCells = false) : Blk W' g t cs :=
  h.kept hg (fun e => by
    obtain ⟨o, ho, hc⟩ := hr g e.symm
    rw [show W.heap[g]? = _ from h] at ho; cases ho; cases hc)
theorem PSt.kept {row : Option Nat} (h : PSt n s w l es fv ev W) (hg : W.grownBy W' row) (hr : ∀ r, row = some r → n ≤ r ∧ ∃ o : Obj, W.heap[r]? = some o ∧ o.isCells = false) : PSt n s w l es fv ev W' :=
  have hr' : ∀ r, row = some r → ∃ o : Obj, W.heap[r]? = some o ∧ o.isCells = false := fun r e => (hr r e).2
  ⟨blk_keep h.m hg hr', own_keep h.f hg hr', own_keep h.e hg hr', blk_keep h.r1 hg hr', blk_keep h.r2 hg hr', blk_keep h.o hg hr', blk_keep h.bs hg hr', h.b.grown hg h.h (fun k e => (hr k e).1), Nat.le_trans h.h hg.size⟩
theorem ko_app {B : Nat} {e : TypeId} {z : Nat} {v : Value} {k : Nat} {xs : List Value} {tmp : Obj} (h : W.ownsRow B e z v k xs) (hg : (W.drew.alloc tmp).grownBy W' v.ownBlock) : KeepsOthers W W' :=
  ((show KeepsOthers W W.drew from ⟨Nat.le_refl _, fun _ _ h _ => h⟩).trans (KeepsOthers.alloc _ _)).trans (KeepsOthers.of_grownBy hg (own_cells (World.ownsRow.alloc (World.ownsRow.drew h) _)))
theorem blk_app2 {B : Nat} {e t : TypeId} {z : Nat} {v : Value} {k : Nat} {xs : List Value} {tmp : Obj} {g : Nat} {cs : Array Value} (hb : Blk W g t cs) (h : W.ownsRow B e z v k xs) (hne : v.ownBlock ≠ some g) (hg : (W.drew.alloc tmp).grownBy W' v.ownBlock) (M i : Nat) (hgM : g ≠ M) (u : Value) : Blk (W'.setCell ⟨M, i, none⟩ u) g t cs :=
  (((show Blk W.drew g t cs from hb).alloc tmp).kept hg (fun e => hne e.symm)).far (p := ⟨M, i, none⟩) hgM u
theorem below_app {B : Nat} {e : TypeId} {z : Nat} {v : Value} {k : Nat} {xs : List Value} {tmp : Obj} (h : W.ownsRow B e z v k xs) (hB : B ≤ W.heap.size) (hg : (W.drew.alloc tmp).grownBy W' v.ownBlock) (M i : Nat) (hM : B ≤ M) (u : Value) : Below B W (W'.setCell ⟨M, i, none⟩ u) :=
  ((((Below.refl B W).drew).alloc hB _).grown hg (by simp; omega) (fun k hk => (h.lt k hk).1)).setCell (p := ⟨M, i, none⟩) hM u
/-- Behind a place more. -/
theorem PSt.ends {p : Nat} {z : Int} {va : Option Addr} {vn vc : Nat} (h : PSt n s w l es fv ev W) (own' : W'.ownsRow n 3 1 (.slice va vn vc) (es ++ [p]).length ((es ++ [p]).map iv)) (gr : (W.drew.alloc (.cells #[.int .i64 z] 3)).grownBy W' ev.ownBlock) :
    PSt n s w l (es ++ [p]) fv (.slice va vn vc) (W'.setCell ⟨n + 2, 2, none⟩ (.slice va vn vc)) := by
  have hm' : Blk W' (n + 2) 75 _ := ((show Blk W.drew _ _ _ from h.m).alloc _).kept gr (fun e => (own_ne h.e h.m (by decide)) e.symm)
  have hf' := World.ownsRow.kept (World.ownsRow.alloc (World.ownsRow.drew h.f) _) gr (own_ne2 h.f h.e (by decide))
  exact ⟨hm'.set_ 2 _, own_set hf' hm' (by decide) 2 _, own_set own' hm' (by decide) 2 _, blk_app2 h.r1 h.e (own_ne h.e h.r1 (by decide)) gr _ _ (by omega) _, blk_app2 h.r2 h.e (own_ne h.e h.r2 (by decide)) gr _ _ (by omega) _, blk_app2 h.o h.e (own_ne h.e h.o (by decide)) gr _ _ (by omega) _,
    blk_app2 h.bs h.e (own_ne h.e h.bs (by decide)) gr _ _ (by omega) _, h.b.trans (below_app h.e h.h gr _ _ (by omega) _), by have := gr.size; have := h.h; simp at *; omega⟩
/-- Behind a field more. -/
theorem PSt.flds {p : Fd × Nat} {cs : Array Value} {va : Option Addr} {vn vc : Nat} (h : PSt n s w l es fv ev W) (own' : W'.ownsRow n 77 5 (.slice va vn vc) (l ++ [p]).length (fdsC (l ++ [p]))) (gr : (W.drew.alloc (.cells cs 77)).grownBy W' fv.ownBlock) :
    PSt n s w (l ++ [p]) es (.slice va vn vc) ev (W'.setCell ⟨n + 2, 1, none⟩ (.slice va vn vc)) := by
  have hm' : Blk W' (n + 2) 75 _ := ((show Blk W.drew _ _ _ from h.m).alloc _).kept gr (fun e => (own_ne h.f h.m (by decide)) e.symm)
  have he' := World.ownsRow.kept (World.ownsRow.alloc (World.ownsRow.drew h.e) _) gr (own_ne2 h.e h.f (by decide))
  exact ⟨hm'.set_ 1 _, own_set own' hm' (by decide) 1 _, own_set he' hm' (by decide) 1 _, blk_app2 h.r1 h.f (own_ne h.f h.r1 (by decide)) gr _ _ (by omega) _, blk_app2 h.r2 h.f (own_ne h.f h.r2 (by decide)) gr _ _ (by omega) _, blk_app2 h.o h.f (own_ne h.f h.o (by decide)) gr _ _ (by omega) _,
    blk_app2 h.bs h.f (own_ne h.f h.bs (by decide)) gr _ _ (by omega) _, h.b.trans (below_app h.f h.h gr _ _ (by omega) _), by have := gr.size; have := h.h; simp at *; omega⟩
end
theorem map_pre (l0 l : List (Fd × Nat)) (h : l0.map Pt.pair <+: l.map Pt.pair) : l0 <+: l := by
  obtain ⟨t, ht⟩ := h
  have h1 : (l.take l0.length).map Pt.pair = l0.map Pt.pair := by
    rw [List.map_take, ← ht, List.take_left' (by simp)]
  have h2 := pair_inj _ _ h1
  rw [← h2]
  exact List.take_prefix _ _
theorem each_good (n : Nat) (hn : 1 ≤ n) (Bs : Nat) (s : ByteArray) (hs : s.size ≤ 1000000) (l : List (Fd × Nat)) (hl : pall s = l.map Pt.pair) (w : World) (hB : Bs < w.heap.size) (hc : w.cell? ⟨Bs, 0, none⟩ = some (.string s)) :
    SeqStopsK Fence.wide n Try.prog 61 #[.pointer (some ⟨Bs, 0, none⟩)] (fun p : Fd × Nat => (Pt.pair p).args) (KeepCell Bs) (fun ys => ys = l) (fun pre => pre <+: l) s.size w := fun lp J Jx W hW hJ _ hY h0 => by
  have hc' := (hW.cell (p := ⟨Bs, 0, none⟩) (by simpa using hB)).trans hc
  refine CallsIn.mono (each1_pre n hn lp Bs W.heap.size s hs (fun pre W => ∃ l0, pre = l0.map Pt.pair ∧ J l0 W) (fun pre W => ∃ l0, pre = l0.map Pt.pair ∧ Jx l0 W) ?_ ?_ W hc' ⟨[], rfl, h0⟩) ?_
  · rintro pre X Y row ⟨l0, h1, h2⟩ hg hr
    exact ⟨l0, h1, hJ l0 X Y row h2 hg hr⟩
  · rintro pre x W1 ⟨l0, rfl, hJ0⟩ hlt hpre
    rw [hl] at hpre
    obtain ⟨p, _, rfl⟩ := List.mem_map.1 (hpre.subset (show x ∈ l0.map Pt.pair ++ [x] by simp))
    obtain ⟨fn, tmps, assign, body, hy, hYR⟩ := hY l0 p W1 hJ0 (by simpa using hlt)
    refine ⟨fn, tmps, assign, body, hy, hYR.mono ?_⟩
    rintro e W' (⟨h1, h2, h3⟩ | ⟨h1, h2⟩)
    · exact .inl ⟨h1, ⟨l0 ++ [p], by simp, h2⟩, h3⟩
    · exact .inr ⟨h1, ⟨l0 ++ [p], by simp, h2⟩⟩
  · rintro e W' ⟨hv, ⟨ys, rfl, l0, h1, h2⟩ | ⟨pre, h0, l0, rfl, h2⟩⟩
    · rw [hl] at h1
      obtain rfl := pair_inj _ _ h1
      exact ⟨hv, .inl ⟨l, rfl, h2⟩⟩
    · rw [hl] at h0
      exact ⟨hv, .inr ⟨l0, map_pre _ _ h0, h2⟩⟩
/-- What has been told so far is laid into the message. -/
def PI (n : Nat) (s : ByteArray) (w : World) (pre : List (Fd × Nat)) (W : World) : Prop := ∃ fv ev, PSt n s w pre (eo pre) fv ev W
theorem pi_own (n : Nat) (s : ByteArray) (w : World) (B : Nat) (hB : n ≤ B) : OwnFrom B (PI n s w) := by
  intro pre W W' row ⟨fv, ev, h2⟩ hg hr
  exact ⟨fv, ev, h2.kept hg (fun r e => ⟨Nat.le_trans hB (hr r e).1, (hr r e).2⟩)⟩
def ParseIs (ps : List (Fd × ByteArray)) (w : World) (e : Ending) (w' : World) : Prop := ∃ m, e = .returned (.tuple #[.pointer (some ⟨m, 0, none⟩), .agg #[.int .i64 0, .int .i64 0, .string ⟨#[]⟩]]) ∧ MsgP w.heap.size m w' ps 0 ∧ Below w.heap.size w w'
theorem results_parse (V : World) (R1 R2 m : Nat) (c k : Int) (tmps : Array Value) (h2 : tmps.getD 2 undef = .pointer (some ⟨R1, 0, none⟩)) (h3 : tmps.getD 3 undef = .pointer (some ⟨R2, 0, none⟩))
    (p1 : Blk V R1 31 #[.pointer (some ⟨m, 0, none⟩)]) (p2 : Blk V R2 60 #[.int .i64 c, .int .i64 k, .string ⟨#[]⟩]) :
    (results Try.f33 tmps).run Try.prog V = .ok (.tuple #[.pointer (some ⟨m, 0, none⟩), .agg #[.int .i64 c, .int .i64 k, .string ⟨#[]⟩]]) V := by
  have c1 := p1.cell 0
  have g20 := p2.cell 0; have g21 := p2.cell 1; have g22 := p2.cell 2
  simp only [List.getElem?_toArray, List.getElem?_cons_zero, List.getElem?_cons_succ] at c1 g20 g21 g22
  simp only [Array.getD_eq_getD_getElem?] at h2 h3
  simp [results, Try.f33, go_sem, h2, h3, c1, g20, g21, g22]
/-- Behind the return. -/
structure Ret (n : Nat) (w : World) (l : List (Fd × Nat)) (es : List Nat) (V V' : World) : Prop where
  msg : IsMsg n (n + 2) V' l es 0
  r1 : Blk V' n 31 #[.pointer (some ⟨n + 2, 0, none⟩)]
  r2 : Blk V' (n + 1) 60 #[.int .i64 0, .int .i64 0, .string ⟨#[]⟩]
  b : Below n w V'
  d : ∀ (D : Nat) (o : Obj), V.heap[D]? = some o → o.isCells = false → V'.heap[D]? = some o
theorem PSt.ret {n : Nat} {s : ByteArray} {w V : World} {l : List (Fd × Nat)} {es : List Nat} {fv ev : Value} (h : PSt n s w l es fv ev V) :
    Ret n w l es V ((((V.setCell ⟨n, 0, none⟩ (.pointer (some ⟨n + 2, 0, none⟩))).setCell ⟨n + 1, 0, none⟩ (.int .i64 0)).setCell ⟨n + 1, 1, none⟩ (.int .i64 0)).setCell ⟨n + 1, 2, none⟩ (.string ⟨#[]⟩)) := by
  have r2a := h.r2.far (p := ⟨n, 0, none⟩) (by simp) (.pointer (some ⟨n + 2, 0, none⟩))
  have r2b := r2a.set_ 0 (.int .i64 0)
  have r2c := r2b.set_ 1 (.int .i64 0)
  have r1a := h.r1.set_ 0 (.pointer (some ⟨n + 2, 0, none⟩))
  refine ⟨⟨by omega, fv, ev, (((h.m.far (p := ⟨n, 0, none⟩) (by simp) _).far (p := ⟨n + 1, 0, none⟩) (by simp) _).far (p := ⟨n + 1, 1, none⟩) (by simp) _).far (p := ⟨n + 1, 2, none⟩) (by simp) _,
    own_set (own_set (own_set (own_set h.f h.r1 (by decide) 0 _) r2a (by decide) 0 _) r2b (by decide) 1 _) r2c (by decide) 2 _,
    own_set (own_set (own_set (own_set h.e h.r1 (by decide) 0 _) r2a (by decide) 0 _) r2b (by decide) 1 _) r2c (by decide) 2 _⟩,
    ((r1a.far (p := ⟨n + 1, 0, none⟩) (by simp) _).far (p := ⟨n + 1, 1, none⟩) (by simp) _).far (p := ⟨n + 1, 2, none⟩) (by simp) _, r2c.set_ 2 _,
    (((h.b.setCell (p := ⟨n, 0, none⟩) (by simp) _).setCell (p := ⟨n + 1, 0, none⟩) (by simp) _).setCell (p := ⟨n + 1, 1, none⟩) (by simp) _).setCell (p := ⟨n + 1, 2, none⟩) (by simp) _, ?_⟩
  intro D o hD ho
  have q := (((KeepsOthers.setCell V ⟨n, 0, none⟩ (.pointer (some ⟨n + 2, 0, none⟩))).trans (KeepsOthers.setCell _ ⟨n + 1, 0, none⟩ (.int .i64 0))).trans (KeepsOthers.setCell _ ⟨n + 1, 1, none⟩ (.int .i64 0))).trans (KeepsOthers.setCell _ ⟨n + 1, 2, none⟩ (.string ⟨#[]⟩))
  exact q.2 D o hD ho
theorem IsMsg.putD {B m : Nat} {W : World} {l : List (Fd × Nat)} {es : List Nat} {c : Int} (h : IsMsg B m W l es c) {D : Nat} {o : Obj} (o' : Obj) (hD : W.heap[D]? = some o) (ho : o.isCells = false) : IsMsg B m (W.putObj D o') l es c := by
  obtain ⟨hB, fv, ev, h1, h2, h3⟩ := h
  exact ⟨hB, fv, ev, h1.putD hD ho, ownsRow_putObj h2 _ hD ho, ownsRow_putObj h3 _ hD ho⟩
end Go.Proofs.Ytbkcklefkhlciaa
