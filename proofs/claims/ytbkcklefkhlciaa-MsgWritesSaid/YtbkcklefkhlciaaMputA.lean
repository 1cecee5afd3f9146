/-
  put: a field behind the others, of a message without an error.
-/
import Derived.Test.YtbkcklefkhlciaaMput
namespace Go.Proofs.Ytbkcklefkhlciaa
open Go.RowKit
set_option linter.unusedVariables false
theorem grownBy_setAt (W : World) (p : Addr) (u : Value) : W.grownBy (W.setCell p u) (some p.block) :=
  ⟨rfl, rfl, rfl, by simp, fun k _ hk => Below.heap_setCell _ _ _ k (fun e => hk (by rw [e]))⟩
def lastOf (es : List Nat) : Nat := es.getLastD 0
def PutIn (B m : Nat) (l : List (Fd × Nat)) (es : List Nat) (p : Fd) (n : Nat) (w : World) (e : Ending) (w' : World) : Prop :=
  e = .returned (.pointer (some ⟨m, 0, none⟩)) ∧ IsMsg B m w' (l ++ [(p, lastOf es)]) (es ++ [lastOf es + n]) 0 ∧ Below B w w'
def PutHid (p : Fd) (tl : ByteArray) : Prop := ∀ (w : World) (a : Int), Calls Try.prog 44 #[.agg #[.int .i64 p.num, .int .i64 p.kind, .int .i64 a, .int .u64 p.val, .string p.data]] w (GavePut tl 0 w)
set_option maxRecDepth 100000 in
set_option maxHeartbeats 4000000 in
theorem put_good (B m : Nat) (l : List (Fd × Nat)) (es : List Nat) (p : Fd) (tl : ByteArray) (w : World) (hB : B ≤ w.heap.size) (h : IsMsg B m w l es 0) (HP : Hid (PutHid p tl))
    (hl : l.length ≤ 100000) (hes : es.length ≤ 100000) (hlast : lastOf es ≤ 1000000000) (htl0 : tl.size ≤ 1000000) :
    Calls Try.prog 37 #[.pointer (some ⟨m, 0, none⟩), .agg #[.int .i64 p.num, .int .i64 p.kind, .int .i64 0, .int .u64 p.val, .string p.data]] w (PutIn B m l es p tl.size w) := by
  obtain ⟨hBm, fv, ev, hb, hf, he⟩ := h
  unfold PutHid at HP
  obtain ⟨num, hnum⟩ : ∃ x : Int, (p.num : Int) = x := ⟨_, rfl⟩
  obtain ⟨kind, hkind⟩ : ∃ x : Int, (p.kind : Int) = x := ⟨_, rfl⟩
  obtain ⟨val, hval⟩ : ∃ x : Int, (p.val : Int) = x := ⟨_, rfl⟩
  obtain ⟨data, hdata⟩ : ∃ x, p.data = x := ⟨_, rfl⟩
  obtain ⟨tz, htz⟩ : ∃ tz : Nat, tl.size = tz := ⟨_, rfl⟩
  rw [htz]
  have htz1 : tz ≤ 1000000 := by omega
  rw [hnum, hkind, hval, hdata] at HP
  rw [hnum, hkind, hval, hdata]
  have Htz := Lib.hid htz
  have Hs := Lib.hid (And.intro hnum (And.intro hkind (And.intro hval hdata)))
  clear hnum hkind hval hdata htz
  have c3 : w.cell? ⟨m, 3, none⟩ = some (.int .i64 0) := hb.cell 3
  go_enter Try.func37, Try.ntmps37
  obtain ⟨g, hg⟩ : ∃ g, w.heap.size = g := ⟨_, rfl⟩
  have hmg : m < g := by have := hb.lt; omega
  go_wp2_with fail
  refine (none_msg m _ (((hb.alloc _).cell 0).trans rfl)).mono ?_
  rintro e w1 ⟨rfl, rfl⟩
  go_wp2_with fail
  refine (HP.out _ _).mono ?_
  rintro e w1 ⟨rfl, hb1⟩
  obtain ⟨hbx, hbw, hlt⟩ := fbox hb1
  rw [hg] at hbx hlt hbw
  have hb2 : Blk w1 m 75 _ := hb.below hbw hmg
  have hf2 := hf.kept (grown_below hbw (Nat.le_of_eq hg)) (by cases fv.ownBlock <;> simp)
  have he2 := he.kept (grown_below hbw (Nat.le_of_eq hg)) (by cases ev.ownBlock <;> simp)
  obtain ⟨ae, ce, rfl⟩ : ∃ a c, ev = .slice a es.length c := by
    rcases he2.2 with ⟨rfl, hn⟩ | ⟨g, cap, cur, rfl, _⟩
    · exact ⟨none, 0, by rw [hn]⟩
    · exact ⟨_, _, rfl⟩
  obtain ⟨n, hn⟩ : ∃ n, es.length = n := ⟨_, rfl⟩
  have hn1 : n ≤ 100000 := by omega
  have Hn := Lib.hid hn
  rw [hn] at hb2 he2 hb he
  have c0 := hb2.cell 0; have c1 := hb2.cell 1; have c2 := hb2.cell 2; have c3 := hb2.cell 3
  simp only [List.getElem?_toArray, List.getElem?_cons_zero, List.getElem?_cons_succ] at c0 c1 c2 c3
  have Hb := Lib.hid hb; have Hb2 := Lib.hid hb2; have Hf2 := Lib.hid hf2; have He2 := Lib.hid he2; have Hbx := Lib.hid hbx
  have Hgw : Hid (Below B w w1) := Lib.hid (hbw.mono (by omega))
  have hBg : B ≤ w1.heap.size := by omega
  have Hvg : Hid (fv.ownBlock ≠ some g) := Lib.hid (fun e => by have := (hf.lt _ e).2; omega)
  have Hvi : Hid ((Value.slice ae n ce).ownBlock ≠ some g) := Lib.hid (fun e => by have := (he.lt _ e).2; omega)
  clear hb hb2 hf he hf2 he2 hbx hb1 hbw hn hes
  by_cases hes0 : n = 0
  · subst hes0
    have hes0 : es = [] := List.length_eq_zero_iff.1 Hn.out
    have hlast0 : Hid (lastOf es = 0) := Lib.hid (by rw [hes0]; rfl)
    clear hes0
    go_wp2_with fail
    have he' : w1.ownsRow B 3 1 (.slice ae 0 ce) es.length (es.map iv) := by rw [Hn.out]; exact He2.out
    have hBg0 := hBg
    clear hBg
    have hM := Hb2; have hF := Hf2; have hE := Lib.hid he'; have hX := Hbx; have hG := Hgw
    have hBg := hBg0
    clear hBg0
    clear Hb2 Hf2 He2 Hbx Hgw he' c0 c1 c2 c3
    revert hM hF hE hX hG hBg
    generalize w1 = W
    intro hM hF hE hX hG hBg
    have nx1 := own_ne hF.out hM.out (by decide)
    have hF3 := Lib.hid (World.ownsRow.drew hF.out)
    have hM3 : Hid (Blk W.drew m 75 _) := Lib.hid (show Blk W m _ _ from hM.out)
    have hBg' : B ≤ W.drew.heap.size := hBg
    have al1 : ∀ o, (W.alloc o).cell? ⟨m, 1, none⟩ = some fv := fun o => (hM.out.alloc o).cell 1
    have c1 : W.cell? ⟨m, 1, none⟩ = some fv := hM.out.cell 1
    have x0 : W.cell? ⟨g, 0, none⟩ = some (.int .i64 num) := hX.out.cell 0
    have x1 : W.cell? ⟨g, 1, none⟩ = some (.int .i64 kind) := hX.out.cell 1
    have x2 : W.cell? ⟨g, 2, none⟩ = some (.int .i64 0) := hX.out.cell 2
    have x3 : W.cell? ⟨g, 3, none⟩ = some (.int .u64 val) := hX.out.cell 3
    have x4 : W.cell? ⟨g, 4, none⟩ = some (.string data) := hX.out.cell 4
    have nx3 := own_ne2 hE.out hF.out (by decide)
    have Hcs : Hid ((#[.int .i64 num, .int .i64 kind, .int .i64 0, .int .u64 val, .string data] : Array Value).toList = fdC (p, lastOf es)) := Lib.hid (by
      obtain ⟨h1, h2, h3, h4⟩ := Hs.out
      unfold fdC; simp only; rw [h1, h2, h3, h4]; (rw [hlast0.out]) <;> rfl)
    go_region_law (first
      | (refine step_fd (by rfl) (.tmp 50) (.tmp 52) (by rfl) B _ _ l (p, lastOf es) _ Hcs.out (by rfl) hF3.out hBg' _ rfl (by rfl) (by omega) m 75 _ 1 _ hM3.out rfl nx1 ?_; intro va vn vc w4 own4 gr4 d1 df1))
    all_goals
      have hm4 : Blk w4 m 75 _ := (hM3.out.alloc _).kept gr4 (fun e => nx1 e.symm)
      have hb4 : Blk w4 g 77 _ := ((show Blk W.drew g _ _ from hX.out).alloc _).kept gr4 (fun e => Hvg.out e.symm)
      have he4 := (World.ownsRow.kept (World.ownsRow.alloc (World.ownsRow.drew hE.out) _) gr4 nx3)
      have hlo4 : Below B w w4 := hG.out.trans (((((Below.refl B W).drew).alloc hBg' _).grown gr4 (by simp; omega) (fun k hk => (hF.out.lt k hk).1)))
      have M5 : Hid (Blk (w4.setCell ⟨m, 1, none⟩ (.slice va vn vc)) m 75 #[.bool true, .slice va vn vc, .slice ae 0 ce, .int .i64 0]) := Lib.hid (hm4.set_ 1 (.slice va vn vc))
      have X5 : Hid (Blk (w4.setCell ⟨m, 1, none⟩ (.slice va vn vc)) g 77 #[.int .i64 num, .int .i64 kind, .int .i64 0, .int .u64 val, .string data]) := Lib.hid (hb4.far (p := ⟨m, 1, none⟩) (by simp; omega) _)
      have F5 := Lib.hid (own_set own4 hm4 (by decide) 1 (.slice va vn vc))
      have E5 := Lib.hid (own_set he4 hm4 (by decide) 1 (.slice va vn vc))
      have G5 := Lib.hid (hlo4.setCell (p := ⟨m, 1, none⟩) hBm (.slice va vn vc))
      have B5 : B ≤ (w4.setCell ⟨m, 1, none⟩ (.slice va vn vc)).heap.size := by have := hlo4.size; simp; omega
      clear hm4 hb4 he4 hlo4 own4 gr4 d1 df1
      revert M5 X5 F5 E5 G5 B5
      generalize w4.setCell ⟨m, 1, none⟩ (.slice va vn vc) = W5
      intro M5 X5 F5 E5 G5 B5
      clear al1 c1 x0 x1 x2 x3 x4
      have ny1 := own_ne E5.out M5.out (by decide)
      have ny3 := own_ne2 F5.out E5.out (by decide)
      have E6 := Lib.hid (World.ownsRow.drew E5.out)
      have M6 : Hid (Blk W5.drew m 75 _) := Lib.hid (show Blk W5 m _ _ from M5.out)
      have B6 : B ≤ W5.drew.heap.size := B5
      have al2 : ∀ o, (W5.alloc o).cell? ⟨m, 2, none⟩ = some (.slice ae 0 ce) := fun o => (M5.out.alloc o).cell 2
      have c2 : W5.cell? ⟨m, 2, none⟩ = some (.slice ae 0 ce) := M5.out.cell 2
      have x2 : W5.cell? ⟨g, 2, none⟩ = some (.int .i64 0) := X5.out.cell 2
      have al3 : ∀ o, (W5.alloc o).cell? ⟨g, 2, none⟩ = some (.int .i64 0) := fun o => (X5.out.alloc o).cell 2
      go_wp2_with fail
      go_region_law (first
        | (refine step_iv (by rfl) (.tmp 60) (.tmp 66) (by rfl) B _ _ es (lastOf es + tz) _ (by rw [hlast0.out, Htz.out, IntWalk.i64_in _ ⟨by omega, by omega⟩]; omega) (by rfl) E6.out B6 _ rfl (by rfl) (by rw [Hn.out]; omega) m 75 _ 2 _ M6.out rfl ny1 ?_; intro ua un uc w7 own7 gr7 d2 df2))
      all_goals
        have hm7 : Blk w7 m 75 _ := (M6.out.alloc _).kept gr7 (fun e => ny1 e.symm)
        have hf7 := (World.ownsRow.kept (World.ownsRow.alloc (World.ownsRow.drew F5.out) _) gr7 ny3)
        have hlo7 : Below B w w7 := G5.out.trans (((((Below.refl B W5).drew).alloc B6 _).grown gr7 (by simp; omega) (fun k hk => (E5.out.lt k hk).1)))
        have R : Hid (PutIn B m l es p tz w (.returned (.pointer (some ⟨m, 0, none⟩))) (w7.setCell ⟨m, 2, none⟩ (.slice ua un uc))) := Lib.hid
          ⟨rfl, ⟨hBm, .slice va vn vc, .slice ua un uc, hm7.set_ 2 (.slice ua un uc), own_set hf7 hm7 (by decide) 2 (.slice ua un uc), own_set own7 hm7 (by decide) 2 (.slice ua un uc)⟩, hlo7.setCell (p := ⟨m, 2, none⟩) hBm (.slice ua un uc)⟩
        clear hm7 hf7 hlo7 own7 gr7
        go_wp2
        go_ret
        exact R.out
  · obtain ⟨k, rfl⟩ : ∃ k, n = k + 1 := ⟨n - 1, by omega⟩
    obtain ⟨ge, rfl, hge, hce⟩ : ∃ ge, ae = some ⟨ge, 0, none⟩ ∧ B ≤ ge ∧ w1.cell? ⟨ge, k, none⟩ = some (.int .i64 (lastOf es : Nat)) := by
      have h0 := He2.out
      obtain ⟨hl0, ⟨h1, h2⟩ | ⟨g0, cap, cur, h1, h2, h3, h4, h5, h6, h7⟩⟩ := h0
      · omega
      · cases h1
        refine ⟨g0, rfl, h2, ?_⟩
        have hk : (es.map iv)[k]? = some (iv (lastOf es)) := by
          have hlen := Hn.out
          rw [List.getElem?_map]
          have : es[k]? = some (lastOf es) := by
            unfold lastOf
            rw [List.getLastD_eq_getLast?, List.getLast?_eq_getElem?, Hn.out]
            simp only [Nat.add_sub_cancel]
            rw [List.getElem?_eq_getElem (by omega)]
            rfl
          rw [this]; rfl
        have h8 := (World.ownsRow.cells He2.out (g := g0) rfl k _ hk)
        have h9 : (⟨g0, 0, none⟩ : Addr).add k = ⟨g0, k, none⟩ := by unfold Addr.add; split <;> simp_all
        rw [h9] at h8
        exact h8
    have ix0 : (0 : Int) ≤ (k : Int) := by omega
    have ix1 : ((k : Nat) : Int) < ((k + 1 : Nat) : Int) := by omega
    have xg2 : w1.cell? ⟨g, 2, none⟩ = some (.int .i64 0) := Hbx.out.cell 2
    have fg2 : w1.frozen? ⟨g, 2, none⟩ = false := Hbx.out.frozen 2
    obtain ⟨lz, hlz⟩ : ∃ lz : Nat, lastOf es = lz := ⟨_, rfl⟩
    rw [hlz] at hce hlast
    have Hlz := Lib.hid hlz
    clear hlz
    go_wp2_with fail
    have hM := Lib.hid (Hb2.out.far (p := ⟨g, 2, none⟩) (by simp; omega) (.int .i64 (lz : Int)))
    have hF := Lib.hid (World.ownsRow.kept Hf2.out (grownBy_setAt w1 ⟨g, 2, none⟩ (.int .i64 (lz : Int))) (.inr Hvg.out))
    have he' : w1.ownsRow B 3 1 (.slice (some ⟨ge, 0, none⟩) (k + 1) ce) es.length (es.map iv) := by rw [Hn.out]; exact He2.out
    have hE := Lib.hid (World.ownsRow.kept he' (grownBy_setAt w1 ⟨g, 2, none⟩ (.int .i64 (lz : Int))) (.inr Hvi.out))
    have hX : Hid (Blk (w1.setCell ⟨g, 2, none⟩ (.int .i64 (lz : Int))) g 77 #[.int .i64 num, .int .i64 kind, .int .i64 (lz : Int), .int .u64 val, .string data]) := Lib.hid (Hbx.out.set_ 2 _)
    have hG := Lib.hid (Hgw.out.setCell (p := ⟨g, 2, none⟩) (by simp; omega) (.int .i64 (lz : Int)))
    have hBg2 : B ≤ (w1.setCell ⟨g, 2, none⟩ (.int .i64 (lz : Int))).heap.size := by simp; omega
    clear Hb2 Hf2 He2 Hbx Hgw he' c0 c1 c2 c3 hce fg2 xg2 hBg
    have hBg := hBg2
    clear hBg2
    revert hM hF hE hX hG hBg
    generalize w1.setCell ⟨g, 2, none⟩ (.int .i64 (lz : Int)) = W
    intro hM hF hE hX hG hBg
    have nx1 := own_ne hF.out hM.out (by decide)
    have hF3 := Lib.hid (World.ownsRow.drew hF.out)
    have hM3 : Hid (Blk W.drew m 75 _) := Lib.hid (show Blk W m _ _ from hM.out)
    have hBg' : B ≤ W.drew.heap.size := hBg
    have al1 : ∀ o, (W.alloc o).cell? ⟨m, 1, none⟩ = some fv := fun o => (hM.out.alloc o).cell 1
    have c1 : W.cell? ⟨m, 1, none⟩ = some fv := hM.out.cell 1
    have x0 : W.cell? ⟨g, 0, none⟩ = some (.int .i64 num) := hX.out.cell 0
    have x1 : W.cell? ⟨g, 1, none⟩ = some (.int .i64 kind) := hX.out.cell 1
    have x2 : W.cell? ⟨g, 2, none⟩ = some (.int .i64 (lz : Int)) := hX.out.cell 2
    have x3 : W.cell? ⟨g, 3, none⟩ = some (.int .u64 val) := hX.out.cell 3
    have x4 : W.cell? ⟨g, 4, none⟩ = some (.string data) := hX.out.cell 4
    have nx3 := own_ne2 hE.out hF.out (by decide)
    have Hcs : Hid ((#[.int .i64 num, .int .i64 kind, .int .i64 (lz : Int), .int .u64 val, .string data] : Array Value).toList = fdC (p, lastOf es)) := Lib.hid (by
      obtain ⟨h1, h2, h3, h4⟩ := Hs.out
      unfold fdC; simp only; rw [h1, h2, h3, h4]; (rw [Hlz.out]) <;> rfl)
    go_region_law (first
      | (refine step_fd (by rfl) (.tmp 50) (.tmp 52) (by rfl) B _ _ l (p, lastOf es) _ Hcs.out (by rfl) hF3.out hBg' _ rfl (by rfl) (by omega) m 75 _ 1 _ hM3.out rfl nx1 ?_; intro va vn vc w4 own4 gr4 d1 df1))
    all_goals
      have hm4 : Blk w4 m 75 _ := (hM3.out.alloc _).kept gr4 (fun e => nx1 e.symm)
      have hb4 : Blk w4 g 77 _ := ((show Blk W.drew g _ _ from hX.out).alloc _).kept gr4 (fun e => Hvg.out e.symm)
      have he4 := (World.ownsRow.kept (World.ownsRow.alloc (World.ownsRow.drew hE.out) _) gr4 nx3)
      have hlo4 : Below B w w4 := hG.out.trans (((((Below.refl B W).drew).alloc hBg' _).grown gr4 (by simp; omega) (fun k hk => (hF.out.lt k hk).1)))
      have M5 : Hid (Blk (w4.setCell ⟨m, 1, none⟩ (.slice va vn vc)) m 75 #[.bool true, .slice va vn vc, .slice (some ⟨ge, 0, none⟩) (k + 1) ce, .int .i64 0]) := Lib.hid (hm4.set_ 1 (.slice va vn vc))
      have X5 : Hid (Blk (w4.setCell ⟨m, 1, none⟩ (.slice va vn vc)) g 77 #[.int .i64 num, .int .i64 kind, .int .i64 (lz : Int), .int .u64 val, .string data]) := Lib.hid (hb4.far (p := ⟨m, 1, none⟩) (by simp; omega) _)
      have F5 := Lib.hid (own_set own4 hm4 (by decide) 1 (.slice va vn vc))
      have E5 := Lib.hid (own_set he4 hm4 (by decide) 1 (.slice va vn vc))
      have G5 := Lib.hid (hlo4.setCell (p := ⟨m, 1, none⟩) hBm (.slice va vn vc))
      have B5 : B ≤ (w4.setCell ⟨m, 1, none⟩ (.slice va vn vc)).heap.size := by have := hlo4.size; simp; omega
      clear hm4 hb4 he4 hlo4 own4 gr4 d1 df1
      revert M5 X5 F5 E5 G5 B5
      generalize w4.setCell ⟨m, 1, none⟩ (.slice va vn vc) = W5
      intro M5 X5 F5 E5 G5 B5
      clear al1 c1 x0 x1 x2 x3 x4
      have ny1 := own_ne E5.out M5.out (by decide)
      have ny3 := own_ne2 F5.out E5.out (by decide)
      have E6 := Lib.hid (World.ownsRow.drew E5.out)
      have M6 : Hid (Blk W5.drew m 75 _) := Lib.hid (show Blk W5 m _ _ from M5.out)
      have B6 : B ≤ W5.drew.heap.size := B5
      have al2 : ∀ o, (W5.alloc o).cell? ⟨m, 2, none⟩ = some (.slice (some ⟨ge, 0, none⟩) (k + 1) ce) := fun o => (M5.out.alloc o).cell 2
      have c2 : W5.cell? ⟨m, 2, none⟩ = some (.slice (some ⟨ge, 0, none⟩) (k + 1) ce) := M5.out.cell 2
      have x2 : W5.cell? ⟨g, 2, none⟩ = some (.int .i64 (lz : Int)) := X5.out.cell 2
      have al3 : ∀ o, (W5.alloc o).cell? ⟨g, 2, none⟩ = some (.int .i64 (lz : Int)) := fun o => (X5.out.alloc o).cell 2
      go_wp2_with fail
      go_region_law (first
        | (refine step_iv (by rfl) (.tmp 60) (.tmp 66) (by rfl) B _ _ es (lastOf es + tz) _ (by rw [Hlz.out, Htz.out, IntWalk.i64_in _ ⟨by omega, by omega⟩]; omega) (by rfl) E6.out B6 _ rfl (by rfl) (by rw [Hn.out]; omega) m 75 _ 2 _ M6.out rfl ny1 ?_; intro ua un uc w7 own7 gr7 d2 df2))
      all_goals
        have hm7 : Blk w7 m 75 _ := (M6.out.alloc _).kept gr7 (fun e => ny1 e.symm)
        have hf7 := (World.ownsRow.kept (World.ownsRow.alloc (World.ownsRow.drew F5.out) _) gr7 ny3)
        have hlo7 : Below B w w7 := G5.out.trans (((((Below.refl B W5).drew).alloc B6 _).grown gr7 (by simp; omega) (fun k hk => (E5.out.lt k hk).1)))
        have R : Hid (PutIn B m l es p tz w (.returned (.pointer (some ⟨m, 0, none⟩))) (w7.setCell ⟨m, 2, none⟩ (.slice ua un uc))) := Lib.hid
          ⟨rfl, ⟨hBm, .slice va vn vc, .slice ua un uc, hm7.set_ 2 (.slice ua un uc), own_set hf7 hm7 (by decide) 2 (.slice ua un uc), own_set own7 hm7 (by decide) 2 (.slice ua un uc)⟩, hlo7.setCell (p := ⟨m, 2, none⟩) hBm (.slice ua un uc)⟩
        clear hm7 hf7 hlo7 own7 gr7
        go_wp2
        go_ret
        exact R.out
end Go.Proofs.Ytbkcklefkhlciaa
