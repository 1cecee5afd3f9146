/-
  Law 7: Cut.
-/
import Derived.Test.YtkebjllehegjlaaGreatDoorXw
namespace Go.Proofs.YtkebjllehegjlaaGreatDoor
open Go.RowKit Go.Shelf
set_option linter.unusedVariables false
/-- From place k on, behind the tokens ts, the text is cut to the end: us are all tokens. -/
inductive Chain (s : ByteArray) : Nat → List Tkn → List Tkn → Prop
  | done (ts : List Tkn) : Chain s s.size ts ts
  | step {k k' : Nat} {t : Tkn} {ts us : List Tkn} (h : StepOk s k k' t) (hk : k < k') (hk' : k' ≤ s.size) (hl : ts.length ≤ 1000) (r : Chain s k' (ts ++ [t]) us) : Chain s k ts us
/-- From place k on the text is cut up to what is no token, where p is the wrong place. -/
inductive Broken (s : ByteArray) (p : Int) : Nat → List Tkn → Prop
  | bad {k : Nat} (ts : List Tkn) (h : StepBad s k p) (hk : k < s.size) : Broken s p k ts
  | step {k k' : Nat} {t : Tkn} {ts : List Tkn} (h : StepOk s k k' t) (hk : k < k') (hk' : k' ≤ s.size) (hl : ts.length ≤ 1000) (r : Broken s p k' (ts ++ [t])) : Broken s p k ts
theorem results_cut (V : World) (R : Nat) (x y z u : Value) (tmps : Array Value) (h2 : tmps.getD 2 undef = x) (h3 : tmps.getD 3 undef = .pointer (some ⟨R, 0, none⟩)) (p : Blk V R 27 #[y, z, u]) :
    (results Tryz.f6 tmps).run Tryz.prog V = .ok (.tuple #[x, .agg #[y, z, u]]) V := by
  have g0 := p.cell 0; have g1 := p.cell 1; have g2 := p.cell 2
  simp only [List.getElem?_toArray, List.getElem?_cons_zero, List.getElem?_cons_succ] at g0 g1 g2
  simp only [Array.getD_eq_getD_getElem?] at h2 h3
  simp [results, Tryz.f6, go_sem, h2, h3, g0, g1, g2]
/-- Cut's answer: it can't be cut. -/
def CutNo (p : Int) : Ending := .returned (.tuple #[.slice none 0 0, .agg #[.int .i64 11, .int .i64 p, .string ⟨#[]⟩]])
/-- Cut's answer: these tokens. -/
def CutIs (us : List Tkn) (w : World) (e : Ending) (w' : World) : Prop :=
  ∃ tk xs B, e = .returned (.tuple #[tk, .agg #[.int .i64 0, .int .i64 0, .string ⟨#[]⟩]]) ∧ w'.ownsRow B 33 6 tk us.length xs ∧ Tks w' B 0 us xs ∧ w.heap.size ≤ B ∧ Below w.heap.size w w'
theorem Tks.any {W : World} {B b b' : Nat} : ∀ (ts : List Tkn) (xs : List Value), Tks W B b ts xs → Tks W B b' ts xs
  | [], xs, h => h
  | t :: ts, xs, h => by
    obtain ⟨d, r, rfl, hd, hr⟩ := h
    exact ⟨d, r, rfl, hd, Tks.any ts r hr⟩
theorem own_set {W : World} {B g : Nat} {v : Value} {n : Nat} {xs : List Value} (h : W.ownsRow B 33 6 v n xs) (hg : g < B) (i : Nat) (u : Value) : (W.setCell ⟨g, i, none⟩ u).ownsRow B 33 6 v n xs :=
  h.kept (grown_set (grown_self W (some g)) i u) (.inr (fun e => by have := (h.lt _ e).1; omega))
theorem tks_set {W : World} {B b g : Nat} {ts : List Tkn} {xs : List Value} (h : Tks W B b ts xs) (hg : g < B) (i : Nat) (u : Value) : Tks (W.setCell ⟨g, i, none⟩ u) B b ts xs :=
  h.kept (fun q nm vl p hq hB => hq.kept (Below.heap_setCell W ⟨g, i, none⟩ u q (show q ≠ g by omega))) ts xs
theorem st_new {w1 : World} (s : ByteArray) : St w1 w1.heap.size s 0 0 (.slice none 0 0) [] (w1.alloc (.cells #[.string s, .int .i64 0, .slice none 0 0, .int .i64 0] 45)) :=
  ⟨⟨World.grownBy_alloc w1 _ _, Blk.new w1 _ _⟩, [], ⟨World.ownsRow_nil _ _ _ _, by simp [Value.ownBlock]⟩, rfl⟩
set_option maxRecDepth 100000 in
set_option maxHeartbeats 8000000 in
theorem cut_look (s : ByteArray) (hs : s.size ≤ 60000) (hg : ¬ good s.data.toList) (w : World) :
    Calls Tryz.prog 6 #[.string s] w fun e w' => (∃ p : Int, e = CutNo p) ∧ Below w.heap.size w w' := by
  have HL := Lib.hid (fun W => look_any s hs W)
  obtain ⟨p, hp⟩ : ∃ p, (lookv s.data.toList).2 = p := ⟨_, rfl⟩
  simp only [lookv_bad hg, hp] at HL
  clear hg hs hp
  go_enter Tryz.func6, Tryz.ntmps6
  go_wp2_with fail
  refine (HL.out _).mono ?_
  rintro e w1 ⟨rfl, hb⟩
  have b0 := Blk.new w 27 #[.int .i64 0, .int .i64 0, .string ⟨#[]⟩]
  have b1 := b0.below hb b0.lt
  have hlt := b1.lt
  have HB : Hid (Below w.heap.size w w1) := Lib.hid (((Below.refl _ w).alloc (Nat.le_refl _) (.cells #[.int .i64 0, .int .i64 0, .string ⟨#[]⟩] 27)).trans (hb.mono (by simp)))
  clear hb b0
  have c0 := b1.cell 0; have c1 := b1.cell 1; have c2 := b1.cell 2; have f0 := b1.frozen 0; have f1 := b1.frozen 1; have f2 := b1.frozen 2
  have s1 := b1.set_ 0 (.int .i64 11)
  have s2 := s1.set_ 1 (.int .i64 p)
  have s3 := s2.set_ 2 (.string ⟨#[]⟩)
  simp only [List.getElem?_toArray, List.getElem?_cons_zero, List.getElem?_cons_succ] at c0 c1 c2
  have HB3 := Lib.hid (((HB.out.setCell (p := ⟨w.heap.size, 0, none⟩) (Nat.le_refl _) (.int .i64 11)).setCell (p := ⟨w.heap.size, 1, none⟩) (Nat.le_refl _) (.int .i64 p)).setCell (p := ⟨w.heap.size, 2, none⟩) (Nat.le_refl _) (.string ⟨#[]⟩))
  have S3 := Lib.hid s3
  clear b1 s1 s2 s3
  go_wp2_with fail
  refine bodyPost_ret (results_cut _ w.heap.size (.slice none 0 0) (.int .i64 11) (.int .i64 p) (.string ⟨#[]⟩) _ rfl rfl S3.out) rfl ?_
  exact ⟨⟨p, rfl⟩, HB3.out⟩
set_option maxRecDepth 100000 in
set_option maxHeartbeats 8000000 in
theorem cut_ok (s : ByteArray) (hs : s.size ≤ 60000) (hg : good s.data.toList) (us : List Tkn) (hch : Chain s 0 [] us) (w : World) :
    Calls Tryz.prog 6 #[.string s] w (CutIs us w) := by
  have hgd : (lookv s.data.toList) = (0, 0) := lookv_good hg
  have HL := Lib.hid (fun W => look_any s hs W)
  simp only [hgd] at HL
  obtain ⟨n, hsn⟩ : ∃ n, s.size = n := ⟨_, rfl⟩
  have hsi : (s.size : Int) = (n : Int) := by rw [hsn]
  have Hsn := Lib.hid hsn
  have hn6 : n ≤ 60000 := by omega
  have HC := Lib.hid hch
  clear hg hs hgd hsn hch
  go_enter Tryz.func6, Tryz.ntmps6
  go_wp2_with fail
  refine (HL.out _).mono ?_
  rintro e w1 ⟨rfl, hb⟩
  have b0 := Blk.new w 27 #[.int .i64 0, .int .i64 0, .string ⟨#[]⟩]
  have b1 := b0.below hb b0.lt
  have hlt := b1.lt
  have HB : Hid (Below w.heap.size w w1) := Lib.hid (((Below.refl _ w).alloc (Nat.le_refl _) (.cells #[.int .i64 0, .int .i64 0, .string ⟨#[]⟩] 27)).trans (hb.mono (by simp)))
  clear hb b0
  have HD := Lib.hid b1
  have HS := Lib.hid (st_new (w1 := w1) s)
  clear b1
  go_wp2_with fail
  go_loopw [] (fun wr => Hid (∃ (k : Nat) (ts : List Tkn) (tk : Value), Chain s k ts us ∧ St w1 w1.heap.size s k 0 tk ts wr)) (fun wr => n - atOf w1.heap.size wr)
  case atStart => exact Lib.hid ⟨0, [], _, HC.out, HS.out⟩
  case round =>
    clear HC HS HL
    obtain ⟨k, ts, tk, hc, h⟩ := hrel.out
    clear hrel
    have c1 := h.cu.c1; have c2 := h.cu.c2
    have hat := h.cu.atOf
    cases hc with
    | done =>
      obtain ⟨xs, hr, hx⟩ := h.row
      have hd := HD.out.kept h.cu.bel (by simp; omega)
      have d0 := hd.cell 0; have d1 := hd.cell 1; have d2 := hd.cell 2; have f0 := hd.frozen 0; have f1 := hd.frozen 1; have f2 := hd.frozen 2
      simp only [List.getElem?_toArray, List.getElem?_cons_zero, List.getElem?_cons_succ] at d0 d1 d2
      have s3 := Lib.hid (((hd.set_ 0 (.int .i64 0)).set_ 1 (.int .i64 0)).set_ 2 (.string ⟨#[]⟩))
      have hB1 : Below w.heap.size w wr := HB.out.grown h.cu.bel HB.out.size (fun k e => by injection e with e; omega)
      have HB3 := Lib.hid (((hB1.setCell (p := ⟨w.heap.size, 0, none⟩) (Nat.le_refl _) (.int .i64 0)).setCell (p := ⟨w.heap.size, 1, none⟩) (Nat.le_refl _) (.int .i64 0)).setCell (p := ⟨w.heap.size, 2, none⟩) (Nat.le_refl _) (.string ⟨#[]⟩))
      have HR := Lib.hid (own_set (own_set (own_set hr.own hlt 0 (.int .i64 0)) hlt 1 (.int .i64 0)) hlt 2 (.string ⟨#[]⟩))
      have HX := Lib.hid (tks_set (tks_set (tks_set (hx.any (b' := 0) _ xs) hlt 0 (.int .i64 0)) hlt 1 (.int .i64 0)) hlt 2 (.string ⟨#[]⟩))
      clear hd hB1 hr hx h hat HB
      have hnlt : ¬ (n : Int) < (n : Int) := by omega
      go_wp2_with fail
      refine bodyPost_ret (results_cut _ w.heap.size tk (.int .i64 0) (.int .i64 0) (.string ⟨#[]⟩) _ rfl rfl s3.out) rfl ?_
      exact ⟨tk, xs, w1.heap.size, rfl, HR.out, HX.out, Nat.le_of_lt hlt, HB3.out⟩
    | @step k k' t ts us hst hkk hk' hl hch =>
      have HT := Lib.hid (hst w1 wr w1.heap.size tk 0 ts (by omega) h)
      have HCh := Lib.hid hch
      have hkn : (k : Int) < (n : Int) := by have := Hsn.out; omega
      have hk2 : k' ≤ n := by have := Hsn.out; omega
      clear h hst hch hk'
      go_wp2_with fail
      refine HT.out.mono ?_
      rintro e w2 ⟨ok, rfl, rfl, tk', h'⟩
      have hm2 := h'.cu.atOf
      have K2 := Lib.hid h'
      clear h' HT
      go_wp2_with fail
      go_roundw
      case rel => exact Lib.hid ⟨k', _, tk', HCh.out, K2.out⟩
      case measure => rw [hat, hm2]; omega
set_option maxRecDepth 100000 in
set_option maxHeartbeats 8000000 in
theorem cut_bad (s : ByteArray) (hs : s.size ≤ 60000) (hg : good s.data.toList) (p : Int) (hch : Broken s p 0 []) (w : World) :
    Calls Tryz.prog 6 #[.string s] w fun e w' => e = CutNo p ∧ Below w.heap.size w w' := by
  have hgd : (lookv s.data.toList) = (0, 0) := lookv_good hg
  have HL := Lib.hid (fun W => look_any s hs W)
  simp only [hgd] at HL
  obtain ⟨n, hsn⟩ : ∃ n, s.size = n := ⟨_, rfl⟩
  have hsi : (s.size : Int) = (n : Int) := by rw [hsn]
  have Hsn := Lib.hid hsn
  have hn6 : n ≤ 60000 := by omega
  have HC := Lib.hid hch
  clear hg hs hgd hsn hch
  go_enter Tryz.func6, Tryz.ntmps6
  go_wp2_with fail
  refine (HL.out _).mono ?_
  rintro e w1 ⟨rfl, hb⟩
  have b0 := Blk.new w 27 #[.int .i64 0, .int .i64 0, .string ⟨#[]⟩]
  have b1 := b0.below hb b0.lt
  have hlt := b1.lt
  have HB : Hid (Below w.heap.size w w1) := Lib.hid (((Below.refl _ w).alloc (Nat.le_refl _) (.cells #[.int .i64 0, .int .i64 0, .string ⟨#[]⟩] 27)).trans (hb.mono (by simp)))
  clear hb b0
  have HD := Lib.hid b1
  have HS := Lib.hid (st_new (w1 := w1) s)
  clear b1
  go_wp2_with fail
  go_loopw [] (fun wr => Hid (∃ (k : Nat) (ts : List Tkn) (tk : Value), Broken s p k ts ∧ St w1 w1.heap.size s k 0 tk ts wr)) (fun wr => n - atOf w1.heap.size wr)
  case atStart => exact Lib.hid ⟨0, [], _, HC.out, HS.out⟩
  case round =>
    clear HC HS HL
    obtain ⟨k, ts, tk, hc, h⟩ := hrel.out
    clear hrel
    have c1 := h.cu.c1
    have hat := h.cu.atOf
    cases hc with
    | bad _ hbad hks =>
      have HT := Lib.hid (hbad w1 wr w1.heap.size tk 0 ts h)
      have hkn : (k : Int) < (n : Int) := by have := Hsn.out; omega
      clear h hbad hks
      go_wp2_with fail
      refine HT.out.mono ?_
      rintro e w2 ⟨ok, rfl, rfl, m, h⟩
      have c3 := h.c3
      have h3d := (h.below (Below.refl _ _).drew).c3
      have h3e : ((((w2.setCell ⟨w.heap.size, 0, none⟩ (.int .i64 11)).setCell ⟨w.heap.size, 1, none⟩ (.int .i64 p)).setCell ⟨w.heap.size, 2, none⟩ (.string ⟨#[]⟩)).drew).cell? ⟨w1.heap.size, 3, none⟩ = some (.int .i64 p) := (((h.box.far (p := ⟨w.heap.size, 0, none⟩) (show w1.heap.size ≠ w.heap.size by omega) _).far (p := ⟨w.heap.size, 1, none⟩) (show w1.heap.size ≠ w.heap.size by omega) _).far (p := ⟨w.heap.size, 2, none⟩) (show w1.heap.size ≠ w.heap.size by omega) _).cell 3
      have hd := HD.out.kept h.bel (by simp; omega)
      have d0 := hd.cell 0; have d1 := hd.cell 1; have d2 := hd.cell 2; have f0 := hd.frozen 0; have f1 := hd.frozen 1; have f2 := hd.frozen 2
      simp only [List.getElem?_toArray, List.getElem?_cons_zero, List.getElem?_cons_succ] at d0 d1 d2
      have s3 : Hid (Blk (((w2.drew.setCell ⟨w.heap.size, 0, none⟩ (.int .i64 11)).setCell ⟨w.heap.size, 1, none⟩ (.int .i64 p)).setCell ⟨w.heap.size, 2, none⟩ (.string ⟨#[]⟩)) w.heap.size 27 #[.int .i64 11, .int .i64 p, .string ⟨#[]⟩]) := Lib.hid ((((show Blk w2.drew w.heap.size _ _ from hd).set_ 0 (.int .i64 11)).set_ 1 (.int .i64 p)).set_ 2 (.string ⟨#[]⟩))
      have hB1 : Below w.heap.size w w2 := HB.out.grown h.bel HB.out.size (fun k e => by injection e with e; omega)
      have HB3 := Lib.hid ((((Below.drew hB1).setCell (p := ⟨w.heap.size, 0, none⟩) (Nat.le_refl _) (.int .i64 11)).setCell (p := ⟨w.heap.size, 1, none⟩) (Nat.le_refl _) (.int .i64 p)).setCell (p := ⟨w.heap.size, 2, none⟩) (Nat.le_refl _) (.string ⟨#[]⟩))
      clear hd hB1 h hat HB
      go_wp2_with fail
      go_region_held3 (fun w' => w'.cell? ⟨w1.heap.size, 3, none⟩ = some (.int .i64 p))
        (first | exact c3 | exact h3d | exact h3e | go_keep)
        (fail)
      go_wp2_with fail
      refine bodyPost_ret (results_cut _ w.heap.size (.slice none 0 0) (.int .i64 11) (.int .i64 p) (.string ⟨#[]⟩) _ rfl rfl s3.out) rfl ?_
      exact ⟨rfl, HB3.out⟩
    | @step k k' t ts hst hkk hk' hl hch =>
      have HT := Lib.hid (hst w1 wr w1.heap.size tk 0 ts (by omega) h)
      have HCh := Lib.hid hch
      have hkn : (k : Int) < (n : Int) := by have := Hsn.out; omega
      have hk2 : k' ≤ n := by have := Hsn.out; omega
      clear h hst hch hk'
      go_wp2_with fail
      refine HT.out.mono ?_
      rintro e w2 ⟨ok, rfl, rfl, tk', h'⟩
      have hm2 := h'.cu.atOf
      have K2 := Lib.hid h'
      clear h' HT
      go_wp2_with fail
      go_roundw
      case rel => exact Lib.hid ⟨k', _, tk', HCh.out, K2.out⟩
      case measure => rw [hat, hm2]; omega
end Go.Proofs.YtkebjllehegjlaaGreatDoor
