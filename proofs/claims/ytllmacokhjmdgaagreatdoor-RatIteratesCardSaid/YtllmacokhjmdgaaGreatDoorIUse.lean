/-
 Law 2: the iterator, Sum of nothing, Least, Most.
-/
import Derived.Test.YtllmacokhjmdgaaGreatDoorIFirst
namespace Go.Proofs.YtllmacokhjmdgaaGreatDoor
open Go.RowKit Go.Shelf
set_option linter.unusedVariables false
set_option maxRecDepth 100000 in
theorem qeach_fn (a : Option Addr) (n c Tb : Nat) (w : World) :
 Calls Tryz.prog 47 #[.slice a n c, .pointer (some ⟨Tb, 0, none⟩)] w fun e w' => e = .returned (.func (.func 87) #[] #[.pointer (some ⟨w.heap.size, 0, none⟩), .pointer (some ⟨w.heap.size + 1, 0, none⟩)]) ∧
  (w.alloc (.cells #[.slice a n c] 65)).alloc (.cells #[.pointer (some ⟨Tb, 0, none⟩)] 69) = w' := by
 go_enter Tryz.func47, Tryz.ntmps47
 go_wp2
 go_ret
 exact ⟨rfl, rfl⟩
theorem run_equalIn_nn {P : Program} (d : Nat) (t : TypeId) (a b : Array TypeId) (c : Bool) (h : P.underlying t = some (.func a b c)) (w : World) : (Op.equalIn (d + 1) t .nilFunc .nilFunc).run P w = .ok true w := by
 simp [Op.equalIn, run_underlying h]
theorem run_eql_nn {P : Program} (t : TypeId) (h : isFunc (P.underlying t) = true) (w : World) : (binOp .eql t .nilFunc .nilFunc).run P w = .ok (.bool true) w := by
 have ⟨a, b, c, h⟩ : ∃ a b c, P.underlying t = some (.func a b c) := by
  unfold isFunc at h
  split at h
  · exact ⟨_, _, _, by assumption⟩
  · cases h
 have e : (Op.equal t .nilFunc .nilFunc).run P w = .ok true w := run_equalIn_nn 9999 t a b c h w
 simp only [binOp]
 simp [e]
set_option maxRecDepth 100000 in
theorem qsum_nil (w : World) : Calls Tryz.prog 46 #[.nilFunc] w fun e w' => e = .returned (.agg #[.bool false, .slice none 0 0, .slice none 0 0]) ∧ Below w.heap.size w w' := by
 have V := (Mq.refl w).two 28 28 #[.bool false, .slice none 0 0, .slice none 0 0] #[.bool false, .slice none 0 0, .slice none 0 0]
 have hnn : ∀ W, (binOp .eql 67 .nilFunc .nilFunc).run Tryz.prog W = .ok (.bool true) W := fun W => run_eql_nn _ (by kernel_rfl) W
 have r0 := V.c0 1 rfl; have r1 := V.c1 1 rfl; have r2 := V.c2 1 rfl
 have b0 := V.c0 0 rfl; have b1 := V.c1 0 rfl; have b2 := V.c2 0 rfl
 have f0 := V.frozen 1 0 rfl; have f1 := V.frozen 1 1 rfl; have f2 := V.frozen 1 2 rfl
 have HF := Lib.hid (V.finz 1 rfl)
 have HF0 := Lib.hid (V.box 1 _ _ _ rfl)
 have HB := Lib.hid V.bel
 clear V
 go_enter Tryz.func46, Tryz.ntmps46
 go_wp2_with fail
 first | exact bodyPost_ret (res_rat rfl _ _ _ _ _ _ _ _ _ _ rfl HF.out.1) rfl ⟨rfl, HF.out.2⟩ | exact bodyPost_ret (res_rat rfl _ _ _ _ _ _ _ _ _ _ rfl HF0.out.1) rfl ⟨rfl, HB.out⟩
theorem Btk.keep {Tb b : Nat} {w W : World} {ty : TypeId} {cs : Array Value} (h : Btk Tb w W) (hb : Blk w b ty cs) (hne : b ≠ Tb) : Blk W b ty cs := by
 obtain ⟨u, h⟩ := h
 exact (hb.far (p := ⟨Tb, 0, none⟩) (by show b ≠ Tb; exact hne) (.int .i64 u)).below h hb.lt
theorem Btk.pre {Tb : Nat} {w W1 W2 : World} {t : Int} (hT : Blk w Tb 3 #[.int .i64 t]) (hB : Below w.heap.size w W1) (h : Btk Tb W1 W2) : Btk Tb w W2 := by
 obtain ⟨u, h⟩ := h
 have hT1 : Blk W1 Tb 3 #[.int .i64 t] := hT.below hB hT.lt
 have hsz := h.size
 rw [World.size_setCell] at hsz
 have hl := hB.size
 refine ⟨u, h.os.trans hB.os, h.tape.trans hB.tape, h.output.trans hB.output, by rw [World.size_setCell]; omega, fun i hi => ?_⟩
 rw [h.block i (by omega)]
 by_cases e : i = Tb
 · subst e
   exact (hT1.set_ 0 _).trans (hT.set_ 0 _).symm
 · rw [Below.heap_setCell W1 ⟨Tb, 0, none⟩ _ i (by show i ≠ Tb; exact e), Below.heap_setCell w ⟨Tb, 0, none⟩ _ i (by show i ≠ Tb; exact e)]
   exact hB.block i hi
set_option maxRecDepth 100000 in
set_option maxHeartbeats 2000000 in
theorem qleast_any (L : List Ev) (hL : L.length ≤ 1000) (a : Option Addr) (c Bs Bt Tb : Nat) (t0 : Int) (ht0 : 0 ≤ t0) (ht1 : t0 ≤ 100000) (w : World) (hB : Bs < w.heap.size) (hc : w.cell? ⟨Bs, 0, none⟩ = some (.slice a L.length c))
 (hBt : Bt < w.heap.size) (hct : w.cell? ⟨Bt, 0, none⟩ = some (.pointer (some ⟨Tb, 0, none⟩))) (hT : Blk w Tb 3 #[.int .i64 t0]) (hrow : ER w a L) (hnum : ∀ e ∈ L, IsR w e.V e.q) (hbig : ∀ e ∈ L, Sz 50 e.q) :
 Calls Tryz.prog 48 #[(.func (.func 87) #[] #[.pointer (some ⟨Bs, 0, none⟩), .pointer (some ⟨Bt, 0, none⟩)])] w
  (fun e W' => ∃ v, e = .returned (.tuple #[v, .bool (bestO (-1) (L.map (·.q))).isSome]) ∧ IsR W' v ((bestO (-1) (L.map (·.q))).getD 0) ∧ Btk Tb w W' ∧ Blk W' Tb 3 #[.int .i64 (t0 + (L.length : Int))]) := by
 have hTl := hT.lt
 obtain ⟨W1, hW1⟩ : ∃ W1, w.alloc (.cells #[.bool false, .slice none 0 0, .slice none 0 0] 28) = W1 := ⟨_, rfl⟩
 have hk : Blk W1 w.heap.size 28 #[.bool false, .slice none 0 0, .slice none 0 0] := by rw [← hW1]; exact Blk.new w _ _
 have hb : Below w.heap.size w W1 := by rw [← hW1]; exact (Below.refl _ _).alloc (Nat.le_refl _) _
 have HFi := Lib.hid (callsIn_wide.1 (first_in 4 (Nat.le_refl _) (-1) L hL a c Bs Bt Tb t0 ht0 ht1 W1 (Nat.lt_of_lt_of_le hB hb.size) ((hb.cell (p := ⟨Bs, 0, none⟩) hB).trans hc) (Nat.lt_of_lt_of_le hBt hb.size) ((hb.cell (p := ⟨Bt, 0, none⟩) hBt).trans hct) (hT.below hb hTl) (hrow.below hb (Nat.le_refl _)) (fun e he => (hnum e he).below hb (Nat.le_refl _)) hbig))
 have Hk := Lib.hid hk; have Hb := Lib.hid hb; have HT := Lib.hid hT; have HW1 := Lib.hid hW1
 obtain ⟨fd, hfd⟩ : ∃ z, (bestO (-1) (L.map (·.q))).isSome = z := ⟨_, rfl⟩
 rw [hfd] at HFi ⊢
 obtain ⟨X, hX⟩ : ∃ z, (bestO (-1) (L.map (·.q))).getD 0 = z := ⟨_, rfl⟩
 rw [hX] at HFi ⊢
 clear hB hc hBt hct hT hrow hnum hbig hk hb hW1 hfd hX
 go_enter Tryz.func48, Tryz.ntmps48
 go_wp2_with fail
 rw [HW1.out]
 refine HFi.out.mono ?_
 rintro e W2 ⟨v, rfl, hR, hBt2, hT2⟩
 have hk2 := hBt2.keep Hk.out (by omega)
 have hR' := hR
 obtain ⟨p, n, c1, p', n', c', rfl, h1, h2⟩ := hR
 obtain ⟨z, hz⟩ : ∃ z, decide (X.num < 0) = z := ⟨_, rfl⟩
 rw [hz] at hR' ⊢
 have g0 := hk2.cell 0; have g1 := hk2.cell 1; have g2 := hk2.cell 2
 have f0 := hk2.frozen 0; have f1 := hk2.frozen 1; have f2 := hk2.frozen 2
 simp only [List.getElem?_toArray, List.getElem?_cons_zero, List.getElem?_cons_succ] at g0 g1 g2
 have HRf := Lib.hid (isR_put (isR_put (isR_put hR' hk2 (plain_rat _ _ _ _ _ _ _) (i := 0) (.bool z)) (hk2.set_ 0 (.bool z)) (plain_rat _ _ _ _ _ _ _) (i := 1) (.slice p n c1)) ((hk2.set_ 0 (.bool z)).set_ 1 (.slice p n c1)) (plain_rat _ _ _ _ _ _ _) (i := 2) (.slice p' n' c'))
 have HB3 := Lib.hid (blk_set3 hk2 (.bool z) (.slice p n c1) (.slice p' n' c'))
 have hbe : Below w.heap.size W2 (set3 W2 w.heap.size (.bool z) (.slice p n c1) (.slice p' n' c')) := below_set3 (Below.refl _ _) (Nat.le_refl _) _ _ _
 have HBt := Lib.hid ((Btk.pre HT.out Hb.out hBt2).trans hbe)
 have HTe := Lib.hid (hT2.below hbe hTl)
 clear hk2 hR' h1 h2 hz hBt2 hT2 hbe
 go_wp2_with fail
 exact bodyPost_ret (res_rat2 rfl _ _ _ _ _ _ _ _ _ _ (.bool fd) rfl rfl HB3.out) rfl ⟨_, rfl, HRf.out, HBt.out, HTe.out⟩
set_option maxRecDepth 100000 in
set_option maxHeartbeats 2000000 in
theorem qmost_any (L : List Ev) (hL : L.length ≤ 1000) (a : Option Addr) (c Bs Bt Tb : Nat) (t0 : Int) (ht0 : 0 ≤ t0) (ht1 : t0 ≤ 100000) (w : World) (hB : Bs < w.heap.size) (hc : w.cell? ⟨Bs, 0, none⟩ = some (.slice a L.length c))
 (hBt : Bt < w.heap.size) (hct : w.cell? ⟨Bt, 0, none⟩ = some (.pointer (some ⟨Tb, 0, none⟩))) (hT : Blk w Tb 3 #[.int .i64 t0]) (hrow : ER w a L) (hnum : ∀ e ∈ L, IsR w e.V e.q) (hbig : ∀ e ∈ L, Sz 50 e.q) :
 Calls Tryz.prog 49 #[(.func (.func 87) #[] #[.pointer (some ⟨Bs, 0, none⟩), .pointer (some ⟨Bt, 0, none⟩)])] w
  (fun e W' => ∃ v, e = .returned (.tuple #[v, .bool (bestO 1 (L.map (·.q))).isSome]) ∧ IsR W' v ((bestO 1 (L.map (·.q))).getD 0) ∧ Btk Tb w W' ∧ Blk W' Tb 3 #[.int .i64 (t0 + (L.length : Int))]) := by
 have hTl := hT.lt
 obtain ⟨W1, hW1⟩ : ∃ W1, w.alloc (.cells #[.bool false, .slice none 0 0, .slice none 0 0] 28) = W1 := ⟨_, rfl⟩
 have hk : Blk W1 w.heap.size 28 #[.bool false, .slice none 0 0, .slice none 0 0] := by rw [← hW1]; exact Blk.new w _ _
 have hb : Below w.heap.size w W1 := by rw [← hW1]; exact (Below.refl _ _).alloc (Nat.le_refl _) _
 have HFi := Lib.hid (callsIn_wide.1 (first_in 4 (Nat.le_refl _) 1 L hL a c Bs Bt Tb t0 ht0 ht1 W1 (Nat.lt_of_lt_of_le hB hb.size) ((hb.cell (p := ⟨Bs, 0, none⟩) hB).trans hc) (Nat.lt_of_lt_of_le hBt hb.size) ((hb.cell (p := ⟨Bt, 0, none⟩) hBt).trans hct) (hT.below hb hTl) (hrow.below hb (Nat.le_refl _)) (fun e he => (hnum e he).below hb (Nat.le_refl _)) hbig))
 have Hk := Lib.hid hk; have Hb := Lib.hid hb; have HT := Lib.hid hT; have HW1 := Lib.hid hW1
 obtain ⟨fd, hfd⟩ : ∃ z, (bestO 1 (L.map (·.q))).isSome = z := ⟨_, rfl⟩
 rw [hfd] at HFi ⊢
 obtain ⟨X, hX⟩ : ∃ z, (bestO 1 (L.map (·.q))).getD 0 = z := ⟨_, rfl⟩
 rw [hX] at HFi ⊢
 clear hB hc hBt hct hT hrow hnum hbig hk hb hW1 hfd hX
 go_enter Tryz.func49, Tryz.ntmps49
 go_wp2_with fail
 rw [HW1.out]
 refine HFi.out.mono ?_
 rintro e W2 ⟨v, rfl, hR, hBt2, hT2⟩
 have hk2 := hBt2.keep Hk.out (by omega)
 have hR' := hR
 obtain ⟨p, n, c1, p', n', c', rfl, h1, h2⟩ := hR
 obtain ⟨z, hz⟩ : ∃ z, decide (X.num < 0) = z := ⟨_, rfl⟩
 rw [hz] at hR' ⊢
 have g0 := hk2.cell 0; have g1 := hk2.cell 1; have g2 := hk2.cell 2
 have f0 := hk2.frozen 0; have f1 := hk2.frozen 1; have f2 := hk2.frozen 2
 simp only [List.getElem?_toArray, List.getElem?_cons_zero, List.getElem?_cons_succ] at g0 g1 g2
 have HRf := Lib.hid (isR_put (isR_put (isR_put hR' hk2 (plain_rat _ _ _ _ _ _ _) (i := 0) (.bool z)) (hk2.set_ 0 (.bool z)) (plain_rat _ _ _ _ _ _ _) (i := 1) (.slice p n c1)) ((hk2.set_ 0 (.bool z)).set_ 1 (.slice p n c1)) (plain_rat _ _ _ _ _ _ _) (i := 2) (.slice p' n' c'))
 have HB3 := Lib.hid (blk_set3 hk2 (.bool z) (.slice p n c1) (.slice p' n' c'))
 have hbe : Below w.heap.size W2 (set3 W2 w.heap.size (.bool z) (.slice p n c1) (.slice p' n' c')) := below_set3 (Below.refl _ _) (Nat.le_refl _) _ _ _
 have HBt := Lib.hid ((Btk.pre HT.out Hb.out hBt2).trans hbe)
 have HTe := Lib.hid (hT2.below hbe hTl)
 clear hk2 hR' h1 h2 hz hBt2 hT2 hbe
 go_wp2_with fail
 exact bodyPost_ret (res_rat2 rfl _ _ _ _ _ _ _ _ _ _ (.bool fd) rfl rfl HB3.out) rfl ⟨_, rfl, HRf.out, HBt.out, HTe.out⟩
end Go.Proofs.YtllmacokhjmdgaaGreatDoor
