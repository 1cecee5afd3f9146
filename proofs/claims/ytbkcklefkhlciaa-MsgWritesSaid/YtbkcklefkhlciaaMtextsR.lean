/-
  Texts: all texts of a message.
-/
import Derived.Test.YtbkcklefkhlciaaMintsT
import Derived.Test.YtbkcklefkhlciaaMpat
namespace Go.Proofs.Ytbkcklefkhlciaa
open Go.RowKit Go.Shelf
attribute [local go_sem] Oper.semAt_some
set_option linter.unusedVariables false
abbrev TA := Nat × (Fd × Nat)
def tvals (l : List TA) : List ByteArray := l.map (fun x => x.2.1.data)
theorem tvals_snoc (l : List TA) (x : TA) : tvals (l ++ [x]) = tvals l ++ [x.2.1.data] := by unfold tvals; simp
theorem tvals_len (l : List TA) : (tvals l).length = l.length := by unfold tvals; simp
def tv (t : ByteArray) : Value := .string t
theorem Try.infoS2 : (Try.prog.info? 9).map (fun i => (i.zero, i.size, i.bytes)) = some (some (.string ⟨#[]⟩), 1, 16) := by kernel_rfl
theorem tr_own {w : World} {b n c : Nat} {a : Option Addr} {zs : List ByteArray} (h : w.ownsRow b 9 1 (.slice a n c) n (zs.map tv)) (hn : n = zs.length) : TR w a zs := by
  intro i t hi
  have hil : i < zs.length := (List.getElem?_eq_some_iff.1 hi).1
  obtain ⟨g, cap, hv, _, hlt⟩ := h.form (by omega)
  have hA : a = some ⟨g, 0, none⟩ := by injection hv
  subst hA
  refine ⟨_, rfl, hlt, ?_⟩
  have := h.cells (g := g) rfl i (tv t) (by rw [List.getElem?_map, hi]; rfl)
  exact this
/-- What a loop over a message's texts keeps. -/
def STxt (n : Nat) (g : Nat) : Prop := g < n ∨ (n + 1 ≤ g ∧ g < n + 5)
structure TSt (n : Nat) (w : World) (zs : List ByteArray) (v : Value) (W : World) : Prop where
  o : Blk W n 26 #[v]
  own : W.ownsRow (n + 5) 9 1 v zs.length (zs.map tv)
  b : Below n w W
  h : n + 5 ≤ W.heap.size
def TI (n : Nat) (w : World) (l : List TA) (W : World) : Prop := ∃ v, TSt n w (tvals l) v W
theorem TSt.kept {n : Nat} {w W W' : World} {zs : List ByteArray} {v : Value} {row : Option Nat} (h : TSt n w zs v W) (hg : W.grownBy W' row) (hr : ∀ r, row = some r → n ≤ r ∧ ∃ o : Obj, W.heap[r]? = some o ∧ o.isCells = false) : TSt n w zs v W' :=
  have hr' : ∀ r, row = some r → ∃ o : Obj, W.heap[r]? = some o ∧ o.isCells = false := fun r e => (hr r e).2
  ⟨blk_keep h.o hg hr', own_keep h.own hg hr', h.b.grown hg (by have := h.h; omega) (fun k e => (hr k e).1), Nat.le_trans h.h hg.size⟩
theorem ti_own (n : Nat) (w : World) (B : Nat) (hB : n ≤ B) : OwnFrom B (TI n w) := by
  intro pre W W' row ⟨v, h⟩ hg hr
  exact ⟨v, h.kept hg (fun r e => ⟨Nat.le_trans hB (hr r e).1, (hr r e).2⟩)⟩
/-- One text more: what holds behind the append, and behind the store. -/
theorem TSt.push {n : Nat} {w W W' : World} {zs : List ByteArray} {v : Value} {z : ByteArray} {va : Option Addr} {vn vc : Nat} (h : TSt n w zs v W) (own' : W'.ownsRow (n + 5) 9 1 (.slice va vn vc) (zs.length + 1) (zs.map tv ++ [tv z])) (gr : (W.alloc (.cells #[.string z] 9)).grownBy W' v.ownBlock) :
    Blk W' n 26 #[v] ∧ TSt n w (zs ++ [z]) (.slice va vn vc) (W'.setCell ⟨n, 0, none⟩ (.slice va vn vc)) ∧ KeepS (STxt n) W (W'.setCell ⟨n, 0, none⟩ (.slice va vn vc)) ∧ KeepsOthers W (W'.setCell ⟨n, 0, none⟩ (.slice va vn vc)) := by
  have hn : ∀ g, n + 5 ≤ g → ¬ STxt n g := fun g hg hs => by rcases hs with h | h <;> omega
  have hne : ∀ g, g < n + 5 → v.ownBlock ≠ some g := fun g hg e => by have := (h.own.lt _ e).1; omega
  have ho := blk_app1 h.o h.own (hne _ (by omega)) gr
  have own2 : W'.ownsRow (n + 5) 9 1 (.slice va vn vc) (zs ++ [z]).length ((zs ++ [z]).map tv) := by
    rw [List.map_append, List.length_append]; exact own'
  refine ⟨ho, ⟨ho.set_ 0 _, own_set own2 ho (by decide) 0 _, ?_, ?_⟩, ?_, ?_⟩
  · refine (((h.b.alloc (by have := h.h; omega) _).grown gr (by have := h.h; simp; omega) (fun k hk => by have := (h.own.lt k hk).1; omega))).setCell (p := ⟨n, 0, none⟩) (by simp) _
  · have := gr.size; have := h.h; simp at *; omega
  · exact (row_keep h.own hn gr).trans (KeepS.set _ _ _ (fun hs => by rcases hs with h | h <;> omega))
  · exact (((KeepsOthers.alloc W _).trans (KeepsOthers.of_grownBy gr (own_cells (h.own.alloc _)))).trans (KeepsOthers.setCell _ _ _))
theorem txt_start (w : World) (m : Nat) (num : Int) (l : List (Fd × Nat)) (af : Option Addr) (cf : Nat) (hml : m < w.heap.size) (c0 : w.cell? ⟨m, 0, none⟩ = some (.bool true)) (c1 : w.cell? ⟨m, 1, none⟩ = some (.slice af l.length cf)) (hF : FHolds w af l) (W0 : World)
    (hW : (((((w.alloc (.cells #[.slice none 0 0] 26)).alloc (.cells #[.int .i64 2] 3)).alloc (.cells #[.pointer (some ⟨m, 0, none⟩)] 31)).alloc (.cells #[.int .i64 num] 3)).alloc (.cells #[.slice (some ⟨w.heap.size + 1, 0, none⟩) 1 1] 27)) = W0) :
    TSt w.heap.size w [] (.slice none 0 0) W0 ∧ SeqIn (STxt w.heap.size) W0 (w.heap.size + 1 + 1) (w.heap.size + 1 + 1 + 1) (w.heap.size + 1 + 1 + 1 + 1) m num (w.heap.size + 1) 1 [2] af cf l ∧ W0.heap.size = w.heap.size + 5 := by
  have q0 := Blk.new w 26 #[.slice none 0 0]
  have q1 := Blk.new (w.alloc (.cells #[.slice none 0 0] 26)) 3 #[.int .i64 2]
  have q2 := Blk.new ((w.alloc (.cells #[.slice none 0 0] 26)).alloc (.cells #[.int .i64 2] 3)) 31 #[.pointer (some ⟨m, 0, none⟩)]
  have q3 := Blk.new (((w.alloc (.cells #[.slice none 0 0] 26)).alloc (.cells #[.int .i64 2] 3)).alloc (.cells #[.pointer (some ⟨m, 0, none⟩)] 31)) 3 #[.int .i64 num]
  have q4 := Blk.new ((((w.alloc (.cells #[.slice none 0 0] 26)).alloc (.cells #[.int .i64 2] 3)).alloc (.cells #[.pointer (some ⟨m, 0, none⟩)] 31)).alloc (.cells #[.int .i64 num] 3)) 27 #[.slice (some ⟨w.heap.size + 1, 0, none⟩) 1 1]
  simp only [World.size_alloc] at q0 q1 q2 q3 q4
  replace q0 := ((((q0.alloc (.cells #[.int .i64 2] 3)).alloc (.cells #[.pointer (some ⟨m, 0, none⟩)] 31)).alloc (.cells #[.int .i64 num] 3)).alloc (.cells #[.slice (some ⟨w.heap.size + 1, 0, none⟩) 1 1] 27))
  replace q1 := (((q1.alloc (.cells #[.pointer (some ⟨m, 0, none⟩)] 31)).alloc (.cells #[.int .i64 num] 3)).alloc (.cells #[.slice (some ⟨w.heap.size + 1, 0, none⟩) 1 1] 27))
  replace q2 := ((q2.alloc (.cells #[.int .i64 num] 3)).alloc (.cells #[.slice (some ⟨w.heap.size + 1, 0, none⟩) 1 1] 27))
  replace q3 := (q3.alloc (.cells #[.slice (some ⟨w.heap.size + 1, 0, none⟩) 1 1] 27))
  have hsz : (((((w.alloc (.cells #[.slice none 0 0] 26)).alloc (.cells #[.int .i64 2] 3)).alloc (.cells #[.pointer (some ⟨m, 0, none⟩)] 31)).alloc (.cells #[.int .i64 num] 3)).alloc (.cells #[.slice (some ⟨w.heap.size + 1, 0, none⟩) 1 1] 27)).heap.size = w.heap.size + 5 := by simp
  have hb : Below w.heap.size w (((((w.alloc (.cells #[.slice none 0 0] 26)).alloc (.cells #[.int .i64 2] 3)).alloc (.cells #[.pointer (some ⟨m, 0, none⟩)] 31)).alloc (.cells #[.int .i64 num] 3)).alloc (.cells #[.slice (some ⟨w.heap.size + 1, 0, none⟩) 1 1] 27)) := by
    refine ((((((Below.refl _ w).alloc ?_ _).alloc ?_ _).alloc ?_ _).alloc ?_ _).alloc ?_ _) <;> simp <;> omega
  rw [hW] at q0 q1 q2 q3 q4 hsz hb
  refine ⟨⟨q0, World.ownsRow_nil _ _ _ _, hb, by omega⟩, ⟨.inr (by omega), .inr (by omega), .inr (by omega), .inl hml, .inr (by omega), q2.cell 0, q3.cell 0, q4.cell 0, ?_, (hb.cell (p := ⟨m, 0, none⟩) hml).trans c0, (hb.cell (p := ⟨m, 1, none⟩) hml).trans c1, ?_⟩, hsz⟩
  · intro j hj
    match j, hj with
    | 0, _ => exact q1.cell 0
  · intro i p hp
    obtain ⟨g, h1, h2, h3⟩ := hF i p hp
    exact ⟨g, h1, .inl h2, fun j u hu => (hb.cell (p := ⟨g, i * 5 + j, none⟩) h2).trans (h3 j u hu)⟩
theorem results_texts (V : World) (tmps : Array Value) (va : Option Addr) (k vc : Nat) (h : tmps.getD 4 undef = .slice va k vc) : (results Try.f30 tmps).run Try.prog V = .ok (.slice va k vc) V := by
  simp only [Array.getD_eq_getD_getElem?] at h
  simp [results, Try.f30, go_sem, h]
def TextsIs (zs : List ByteArray) (w : World) (e : Ending) (w' : World) : Prop := ∃ a c, e = .returned (.slice a zs.length c) ∧ TR w' a zs ∧ Below w.heap.size w w'
set_option maxRecDepth 100000 in
set_option maxHeartbeats 4000000 in
theorem texts_in (n : Nat) (hn : 4 ≤ n) (B m : Nat) (l : List (Fd × Nat)) (es : List Nat) (c : Int) (num : Int) (xs : List TA) (hl : l.length ≤ 100000) (hxs : xs.map (fun x => x) = mtell num [2] 0 l) (w : World) (hm : IsMsg B m w l es c) :
    CallsIn Fence.wide n Try.prog 30 #[.pointer (some ⟨m, 0, none⟩), .int .i64 num] w (TextsIs (tvals xs) w) := by
  have h1 : 1 ≤ n := by omega
  obtain ⟨af, cf, ae, ce, c0, c1, c2, c3, hf, he⟩ := hm.cells
  have hml := hm.lt
  have hF : FHolds w af l := fholds_own (n := l.length) hf rfl
  clear hf he c2 c3 hm
  refine callsIn_of_wp_marks Try.func30 rfl trivial ?_ rfl
  simp only [Try.ntmps30, List.size_toArray, List.length_cons, List.length_nil, Nat.reduceAdd, Nat.reduceSub, Array.replicate_succ, Array.replicate_zero, List.push_toArray, List.append_toArray, List.nil_append, List.cons_append]
  gi_wp2_with fail
  refine ⟨trivial, (callsIn_wide.2 (each_msg _ _ _ _ _ _)).mono ?_⟩
  rintro e w' ⟨rfl, rfl⟩
  gi_wp2_with fail
  obtain ⟨W0, hWe⟩ : ∃ W0, (((((w.alloc (.cells #[.slice none 0 0] 26)).alloc (.cells #[.int .i64 2] 3)).alloc (.cells #[.pointer (some ⟨m, 0, none⟩)] 31)).alloc (.cells #[.int .i64 num] 3)).alloc (.cells #[.slice (some ⟨w.heap.size + 1, 0, none⟩) 1 1] 27)) = W0 := ⟨_, rfl⟩
  obtain ⟨hN0, hS0, hsz⟩ := txt_start w m num l af cf hml c0 c1 hF W0 hWe
  rw [hWe]
  clear hWe c0 c1 hF
  refine wpIn_rangeFunc_ownH rfl h1 (gf := 57) (lb := #[.pointer (some ⟨w.heap.size + 1 + 1, 0, none⟩), .pointer (some ⟨w.heap.size + 1 + 1 + 1, 0, none⟩), .pointer (some ⟨w.heap.size + 1 + 1 + 1 + 1, 0, none⟩)]) rfl trivial (enters_of Try.func57 (by kernel_rfl) rfl)
    (seq_stops (fun x => x) xs (n - 1) (by omega) (STxt w.heap.size) _ _ _ m num _ 1 [2] af cf l hl (by simp) hxs W0 hS0 (fun g hg => by rcases hg with h | h <;> omega)) KeepS.trans (fun W l' o o' _ h hc _ => KeepS.b W l' o o' h hc) (Below.refl _ _) (fun x => rfl)
    (fun pre W => TI w.heap.size w pre W)
    (fun c pre W => False)
    (ti_own w.heap.size w _ (by omega))
    (fun c => ?ix)
    ⟨_, hN0⟩
    (fun x a' W => ∃ Bf, w.heap.size + 5 ≤ Bf ∧ Blk W Bf 77 #[.int .i64 x.2.1.num, .int .i64 x.2.1.kind, .int .i64 (x.2.2 : Int), .int .u64 x.2.1.val, .string x.2.1.data] ∧ a' = { tmps := #[.pointer (some ⟨m, 0, none⟩), .int .i64 num, undef, undef, .slice none 0 0, .pointer (some ⟨w.heap.size, 0, none⟩), undef, .pointer (some ⟨Bf, 0, none⟩), .pointer (some ⟨m, 0, none⟩), .int .i64 num, .slice (some ⟨w.heap.size + 1, 0, none⟩) 1 1, .func (.func 57) #[] #[.pointer (some ⟨w.heap.size + 1 + 1, 0, none⟩), .pointer (some ⟨w.heap.size + 1 + 1 + 1, 0, none⟩), .pointer (some ⟨w.heap.size + 1 + 1 + 1 + 1, 0, none⟩)], .int .i64 (x.1 : Int), fdV x.2.1 (x.2.2 : Int), undef, undef, undef, undef, undef, undef], defers := [] })
    (fun x a' _ X Y row hs hg hr => by
      obtain ⟨Bf, h1, h3, h5⟩ := hs
      exact ⟨Bf, h1, blk_own _ _ _ () X Y row h3 hg (fun r e => (hr r e).2), h5⟩)
    ?assign ?body ?done ?stop
  case ix => exact fun pre X Y row h _ _ => h
  case assign =>
    rintro lp pre x W K hI hK
    have hlt := hI.choose_spec.h
    dsimp only [margs, fdV] at hK ⊢
    gi_wp2
    exact hK _ _ ((KeepsOthers.alloc _ _).from _) (KeepS.alloc _ _) ((ti_own w.heap.size w _ (Nat.le_refl _)).alloc _ hI) ⟨W.heap.size, by omega, Blk.new W _ _, rfl⟩
  case body =>
    rintro lp pre x a' W hlp ⟨rr, hrr⟩ hI ⟨Bf, hBf, bF, rfl⟩ hlt
    obtain ⟨v, hS⟩ := hI
    have Hiv : Hid (tvals (pre ++ [x]) = tvals pre ++ [x.2.1.data]) := Lib.hid (tvals_snoc pre x)
    dsimp only [fdV]
    obtain ⟨fnum, hfnum⟩ : ∃ a, x.2.1.num = a := ⟨_, rfl⟩
    obtain ⟨fkind, hfkind⟩ : ∃ a, x.2.1.kind = a := ⟨_, rfl⟩
    obtain ⟨fval, hfval⟩ : ∃ a, x.2.1.val = a := ⟨_, rfl⟩
    obtain ⟨fat, hfat⟩ : ∃ a, x.2.2 = a := ⟨_, rfl⟩
    obtain ⟨fi, hfi⟩ : ∃ a, x.1 = a := ⟨_, rfl⟩
    obtain ⟨Dx, hDx⟩ : ∃ D, x.2.1.data = D := ⟨_, rfl⟩
    rw [hfnum, hfkind, hfval, hfat, hDx] at bF
    rw [hfnum, hfkind, hfval, hfat, hfi, hDx]
    rw [hDx] at Hiv
    have k4 : W.cell? ⟨Bf, 4, none⟩ = some (.string Dx) := bF.cell 4
    have cO : W.cell? ⟨w.heap.size, 0, none⟩ = some v := hS.o.cell 0
    have HS := Lib.hid hS
    obtain ⟨X, hX⟩ : ∃ X, pre ++ [x] = X := ⟨_, rfl⟩
    rw [hX] at Hiv ⊢
    clear hS bF hfnum hfkind hfval hfat hfi hDx hX hrr
    have Hpl : Hid ((tvals pre).length ≤ 1000000) := Lib.hid (by rw [tvals_len]; omega)
    obtain ⟨i0, hi, hz0, hz1, hz2⟩ := info_parts Try.infoS2
    gi_wp2_with (gi_at_builtin; refine wpListIn_append_own _ rfl (.tmp 14) (.tmp 17) 26 rfl (w.heap.size + 5) 9 i0 (.string ⟨#[]⟩) 1 16 Try.underlying26 hi hz0 hz1 hz2 rfl (by decide) v _ _ rfl (HS.out.own.alloc _) ⟨W.heap.size, 0, none⟩ 1 1 [tv Dx] rfl rfl ?c1 ?c2 ?c3 ?c4 ?c5 ?_)
    case c1 => exact World.news_of_block (World.alloc_heap_new W _)
    case c2 => intro u hu; simp [tv] at hu; subst hu; rfl
    case c3 => have := Hpl.out; unfold maxLen; simp; omega
    case c4 => have := Hpl.out; omega
    case c5 => have := HS.out.h; simp; omega
    intro v' w3 hown' hg3 _
    obtain ⟨va, vn, vc, rfl⟩ := slice_of hown'
    obtain ⟨ho3, hN3, hK3, hO3⟩ := HS.out.push (z := Dx) hown' hg3
    have cO3 := ho3.cell 0
    have fO3 := ho3.frozen 0
    simp only [List.getElem?_toArray, List.getElem?_cons_zero] at cO3
    have HN3 : Hid (TI w.heap.size w X (w3.setCell ⟨w.heap.size, 0, none⟩ (.slice va vn vc))) := Lib.hid ⟨_, by rw [Hiv.out]; exact hN3⟩
    have HK3 := Lib.hid hK3
    have HO3 := Lib.hid hO3
    clear hown' hg3 ho3 hN3 hK3 hO3 HS k4 cO
    gi_wp2
    exact ⟨HO3.out.from _, HK3.out, HN3.out⟩
  case done =>
    rintro D ys W hD hys hI hK
    obtain ⟨v, hS⟩ := hI
    subst hys
    obtain ⟨va, vc, rfl⟩ : ∃ a c, v = .slice a (tvals ys).length c := by
      rcases hS.own.2 with ⟨rfl, hn⟩ | ⟨g, cap, cur, rfl, _⟩
      · exact ⟨none, 0, by rw [hn]⟩
      · exact ⟨_, _, rfl⟩
    obtain ⟨N, hN⟩ : ∃ N, (tvals ys).length = N := ⟨_, rfl⟩
    rw [hN] at hS
    have cO : W.cell? ⟨w.heap.size, 0, none⟩ = some (.slice va N vc) := hS.o.cell 0
    have HS := Lib.hid hS
    have HDe := Lib.hid hK
    have HN := Lib.hid hN
    clear hS hK hN
    gi_wp2
    refine ⟨by simp, .inl ⟨_, _, rfl, run_takeDeferred HDe.out, ?_⟩⟩
    refine ⟨_, results_texts _ _ va N vc rfl, va, vc, by rw [HN.out], ?_, HS.out.b.trans (belowK_b (w := w) (Nat.le_refl _) _ D _ _ (by omega) HDe.out rfl rfl)⟩
    have ho := ownsRow_putObj HS.out.own (.deferred none) HDe.out rfl
    rw [HN.out] at ho
    exact tr_own ho HN.out.symm
  case stop =>
    rintro D c pre W hD hpre hf hK
    exact hf.elim
theorem texts_any (B m : Nat) (l : List (Fd × Nat)) (es : List Nat) (c : Int) (num : Int) (xs : List TA) (hl : l.length ≤ 100000) (hxs : xs = mtell num [2] 0 l) (w : World) (hm : IsMsg B m w l es c) :
    Calls Try.prog 30 #[.pointer (some ⟨m, 0, none⟩), .int .i64 num] w (TextsIs (tvals xs) w) :=
  callsIn_wide.1 (texts_in 4 (Nat.le_refl _) B m l es c num xs hl (by rw [List.map_id']; exact hxs) w hm)
end Go.Proofs.Ytbkcklefkhlciaa
