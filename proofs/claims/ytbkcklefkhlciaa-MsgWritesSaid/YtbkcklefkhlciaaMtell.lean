/-
  last's rounds: the field that was told, and its place.
-/
import Derived.Test.YtbkcklefkhlciaaMlast
namespace Go.Proofs.Ytbkcklefkhlciaa
open Go.RowKit
set_option linter.unusedVariables false
theorem blk_drew' {W : World} {g : Nat} {t : TypeId} {cs : Array Value} (h : Blk W g t cs) : Blk W.drew g t cs := h
theorem five_far (W : World) (R : Nat) (a b c d e : Value) {g : Nat} {t : TypeId} {cs : Array Value} (h : Blk W g t cs) (hne : g ≠ R) :
    Blk (((((W.setCell ⟨R, 0, none⟩ a).setCell ⟨R, 1, none⟩ b).setCell ⟨R, 2, none⟩ c).setCell ⟨R, 3, none⟩ d).setCell ⟨R, 4, none⟩ e) g t cs :=
  ((((h.far (p := ⟨R, 0, none⟩) hne a).far (p := ⟨R, 1, none⟩) hne b).far (p := ⟨R, 2, none⟩) hne c).far (p := ⟨R, 3, none⟩) hne d).far (p := ⟨R, 4, none⟩) hne e
theorem far_c {W : World} {g o : Nat} {v : Value} (h : W.cell? ⟨g, o, none⟩ = some v) (p : Addr) (hne : g ≠ p.block) (u : Value) : (W.setCell p u).cell? ⟨g, o, none⟩ = some v :=
  (World.cell?_setCell_other _ _ _ _ (fun e => hne (by rw [e]))).trans h
theorem five_cell (W : World) (R : Nat) (a b c d e : Value) {g o : Nat} {v : Value} (h : W.cell? ⟨g, o, none⟩ = some v) (hne : g ≠ R) :
    (((((W.setCell ⟨R, 0, none⟩ a).setCell ⟨R, 1, none⟩ b).setCell ⟨R, 2, none⟩ c).setCell ⟨R, 3, none⟩ d).setCell ⟨R, 4, none⟩ e).cell? ⟨g, o, none⟩ = some v :=
  far_c (far_c (far_c (far_c (far_c h ⟨R, 0, none⟩ hne a) ⟨R, 1, none⟩ hne b) ⟨R, 2, none⟩ hne c) ⟨R, 3, none⟩ hne d) ⟨R, 4, none⟩ hne e
theorem still_index {P : Program} {o : Oper} {t : TypeId} {x y : Operand} (h : o.op = .indexAddr t x y) : Still P o := by
  refine ⟨by simp [h], by simp [Oper.about, h], fun ρ w nx w' hr => .inl ?_⟩
  unfold execOp at hr; simp only [h] at hr
  exact val_run hr
theorem still_bin {P : Program} {o : Oper} {b : BinOp} {t u : TypeId} {x y : Operand} (h : o.op = .binOp b t x y u) : Still P o := by
  refine ⟨by simp [h], by simp [Oper.about, h], fun ρ w nx w' hr => .inl ?_⟩
  unfold execOp at hr; simp only [h] at hr
  exact val_run hr

def tellOps : Array Oper := #[{ dst := some 21, op := Op.load 77 (Operand.tmp 13), type := 77, pos := "pmsg.go:71", after := #[], guard := none },
  { dst := some 22, op := Op.load 31 (Operand.tmp 3), type := 31, pos := "pmsg.go:71", after := #[], guard := none },
  { dst := some 23, op := Op.nilCheck (Operand.tmp 22), type := 0, pos := "pmsg.go:71", after := #[{ on := 1, ground := Ground.data }], guard := none },
  { dst := some 24, op := Op.fieldAddr 75 (Operand.tmp 23) 2, type := 0, pos := "pmsg.go:71", after := #[{ on := 2, ground := Ground.data }], guard := none },
  { dst := some 25, op := Op.load 27 (Operand.tmp 24), type := 27, pos := "pmsg.go:71", after := #[{ on := 3, ground := Ground.data }], guard := none },
  { dst := some 26, op := Op.move (Operand.tmp 12), type := 3, pos := "pmsg.go:71", after := #[], guard := none },
  { dst := some 27, op := Op.indexAddr 27 (Operand.tmp 25) (Operand.tmp 26), type := 0, pos := "pmsg.go:71", after := #[{ on := 4, ground := Ground.data }, { on := 5, ground := Ground.data }], guard := none },
  { dst := some 28, op := Op.load 3 (Operand.tmp 27), type := 3, pos := "pmsg.go:71", after := #[{ on := 6, ground := Ground.data }], guard := none },
  { dst := some 29, op := Op.fieldAddr 77 (Operand.tmp 13) 4, type := 0, pos := "pmsg.go:71", after := #[], guard := none },
  { dst := some 30, op := Op.load 9 (Operand.tmp 29), type := 9, pos := "pmsg.go:71", after := #[{ on := 8, ground := Ground.data }], guard := none },
  { dst := some 31, op := Op.call { callee := Callee.builtin Builtin.len, args := #[Operand.tmp 30], argTypes := #[9] }, type := 3, pos := "pmsg.go:71", after := #[{ on := 9, ground := Ground.data }], guard := none },
  { dst := some 32, op := Op.binOp BinOp.sub 3 (Operand.tmp 28) (Operand.tmp 31) 3, type := 3, pos := "pmsg.go:71", after := #[{ on := 7, ground := Ground.data }, { on := 10, ground := Ground.data }], guard := none },
  { dst := none, op := Op.store 77 (Operand.tmp 9) (Operand.tmp 21), type := 0, pos := "pmsg.go:71", after := #[{ on := 0, ground := Ground.data }, { on := 0, ground := Ground.phase }, { on := 1, ground := Ground.textOnly Departure.lateStores }, { on := 2, ground := Ground.textOnly Departure.inlinedCapture }, { on := 3, ground := Ground.textOnly Departure.inlinedCapture }, { on := 4, ground := Ground.textOnly Departure.inlinedCapture }, { on := 5, ground := Ground.textOnly Departure.lateStores }, { on := 6, ground := Ground.textOnly Departure.inlinedCapture }, { on := 7, ground := Ground.textOnly Departure.inlinedCapture }, { on := 8, ground := Ground.textOnly Departure.lateStores }, { on := 9, ground := Ground.textOnly Departure.lateStores }, { on := 10, ground := Ground.textOnly Departure.lateStoresUnsure }, { on := 11, ground := Ground.textOnly Departure.inlinedCapture }], guard := none },
  { dst := none, op := Op.store 3 (Operand.tmp 10) (Operand.tmp 32), type := 0, pos := "pmsg.go:71", after := #[{ on := 11, ground := Ground.data }, { on := 12, ground := Ground.chain }, { on := 0, ground := Ground.phase }, { on := 1, ground := Ground.phase }, { on := 2, ground := Ground.phase }, { on := 3, ground := Ground.phase }, { on := 4, ground := Ground.phase }, { on := 5, ground := Ground.phase }, { on := 6, ground := Ground.phase }, { on := 7, ground := Ground.phase }, { on := 8, ground := Ground.phase }, { on := 9, ground := Ground.phase }, { on := 10, ground := Ground.phase }, { on := 11, ground := Ground.phase }, { on := 12, ground := Ground.phase }], guard := none },
  { dst := none, op := Op.store 4 (Operand.tmp 11) (Operand.const (Value.bool true)), type := 0, pos := "pmsg.go:71", after := #[{ on := 13, ground := Ground.chain }, { on := 0, ground := Ground.phase }, { on := 1, ground := Ground.phase }, { on := 2, ground := Ground.phase }, { on := 3, ground := Ground.phase }, { on := 4, ground := Ground.phase }, { on := 5, ground := Ground.phase }, { on := 6, ground := Ground.phase }, { on := 7, ground := Ground.phase }, { on := 8, ground := Ground.phase }, { on := 9, ground := Ground.phase }, { on := 10, ground := Ground.phase }, { on := 11, ground := Ground.phase }, { on := 12, ground := Ground.phase }, { on := 13, ground := Ground.phase }], guard := none }]
theorem tell_still : ∀ (i : Nat) (o : Oper), tellOps[i]? = some o → Still Try.prog o := by
  intro i o h
  match i, h with
  | 0, h => exact still_at _ rfl h (still_load rfl)
  | 1, h => exact still_at _ rfl h (still_load rfl)
  | 2, h => exact still_at _ rfl h (still_nil rfl)
  | 3, h => exact still_at _ rfl h (still_field rfl)
  | 4, h => exact still_at _ rfl h (still_load rfl)
  | 5, h => exact still_at _ rfl h (still_move rfl)
  | 6, h => exact still_at _ rfl h (still_index rfl)
  | 7, h => exact still_at _ rfl h (still_load rfl)
  | 8, h => exact still_at _ rfl h (still_field rfl)
  | 9, h => exact still_at _ rfl h (still_load rfl)
  | 10, h => exact still_at _ rfl h (still_len rfl)
  | 11, h => exact still_at _ rfl h (still_bin rfl)
  | 12, h => exact still_at _ rfl h (still_store rfl)
  | 13, h => exact still_at _ rfl h (still_store rfl)
  | 14, h => exact still_at _ rfl h (still_store rfl)
  | n + 15, h => exact absurd h (by simp [tellOps])
set_option maxRecDepth 100000 in
set_option maxHeartbeats 4000000 in
theorem round_tell (F : Fence) (nq : Nat) (Q : Exit → Act → World → Prop) (W : World) (Bf MB M ge ix nn cc Bo Ba Bk : Nat) (i x0 x1 x2 x3 e dz at_ : Int) (d : ByteArray) (y0 y1 y2 y3 y4 ya yk : Value) (hix : i = (ix : Int)) (hi0 : (0 : Int) ≤ (ix : Int)) (hi1 : (ix : Int) < (nn : Int)) (Hdz : Hid (((d.size : Nat) : Int) = dz)) (Hat : Hid (IntKind.i64.wrap (e - dz) = at_))
    (t0 t1 t2 t4 t5 t6 t7 t8 t14 t15 t16 t17 t18 t19 t20 t33 t34 t35 : Value)
    (h1 : Blk W Bf 77 #[.int .i64 x0, .int .i64 x1, .int .i64 x2, .int .u64 x3, .string d]) (h2 : Blk W MB 31 #[.pointer (some ⟨M, 0, none⟩)]) (h3 : W.cell? ⟨M, 2, none⟩ = some (.slice (some ⟨ge, 0, none⟩) nn cc)) (h4 : W.cell? ⟨ge, ix, none⟩ = some (.int .i64 e))
    (h5 : Blk W Bo 77 #[y0, y1, y2, y3, y4]) (h6 : Blk W Ba 3 #[ya]) (h7 : Blk W Bk 4 #[yk]) (n1 : Bf ≠ Bo) (n2 : MB ≠ Bo) (n3 : M ≠ Bo) (n4 : ge ≠ Bo) (n5 : Ba ≠ Bo) (n6 : Bk ≠ Bo) (n7 : Bk ≠ Ba)
    (hQ : Q .normal { tmps := #[t0, t1, t2, .pointer (some ⟨MB, 0, none⟩), t4, t5, t6, t7, t8, .pointer (some ⟨Bo, 0, none⟩), .pointer (some ⟨Ba, 0, none⟩), .pointer (some ⟨Bk, 0, none⟩), .int .i64 i, .pointer (some ⟨Bf, 0, none⟩), t14, t15, t16, t17, t18, t19, t20, .agg #[.int .i64 x0, .int .i64 x1, .int .i64 x2, .int .u64 x3, .string d], .pointer (some ⟨M, 0, none⟩), .pointer (some ⟨M, 0, none⟩), .pointer (some ⟨M, 2, none⟩), .slice (some ⟨ge, 0, none⟩) nn cc, .int .i64 i, .pointer (some ⟨ge, ix, none⟩), .int .i64 e, .pointer (some ⟨Bf, 4, none⟩), .string d, .int .i64 dz, .int .i64 at_, t33, t34, t35], defers := [] } ((((((((W.drew.setCell ⟨Bo, 0, none⟩ (.int .i64 x0)).setCell ⟨Bo, 1, none⟩ (.int .i64 x1)).setCell ⟨Bo, 2, none⟩ (.int .i64 x2)).setCell ⟨Bo, 3, none⟩ (.int .u64 x3)).setCell ⟨Bo, 4, none⟩ (.string d)).setCell ⟨Ba, 0, none⟩ (.int .i64 at_)).setCell ⟨Bk, 0, none⟩ (.bool true)))) :
    (Code.region 6 tellOps true).wpIn F nq Try.prog Q { tmps := #[t0, t1, t2, .pointer (some ⟨MB, 0, none⟩), t4, t5, t6, t7, t8, .pointer (some ⟨Bo, 0, none⟩), .pointer (some ⟨Ba, 0, none⟩), .pointer (some ⟨Bk, 0, none⟩), .int .i64 i, .pointer (some ⟨Bf, 0, none⟩), t14, t15, t16, t17, t18, t19, t20, undef, undef, undef, undef, undef, undef, undef, undef, undef, undef, undef, undef, t33, t34, t35], defers := [] } W := by
  subst hix
  refine wpIn_still 13 (fun w' => Blk w' Bf 77 #[.int .i64 x0, .int .i64 x1, .int .i64 x2, .int .u64 x3, .string d] ∧ Blk w' MB 31 #[.pointer (some ⟨M, 0, none⟩)] ∧ w'.cell? ⟨M, 2, none⟩ = some (.slice (some ⟨ge, 0, none⟩) nn cc) ∧ w'.cell? ⟨ge, ix, none⟩ = some (.int .i64 e)) (by kernel_rfl) tell_still ?_
  have h1 := blk_drew' h1
  have h2 := blk_drew' h2
  have h5 := blk_drew' h5
  have h6 := blk_drew' h6
  have h7 := blk_drew' h7
  have h3 : W.drew.cell? ⟨M, 2, none⟩ = _ := h3
  have h4 : W.drew.cell? ⟨ge, ix, none⟩ = _ := h4
  change AnyG _ _ _ _ _ _ 15 (Array.replicate 15 false) _ W.drew
  obtain ⟨W1, hW1⟩ : ∃ W1, W.drew = W1 := ⟨_, rfl⟩
  rw [hW1] at h1 h2 h3 h4 h5 h6 h7 hQ ⊢
  clear hW1
  have hS0 : (fun w' => Blk w' Bf 77 #[.int .i64 x0, .int .i64 x1, .int .i64 x2, .int .u64 x3, .string d] ∧ Blk w' MB 31 #[.pointer (some ⟨M, 0, none⟩)] ∧ w'.cell? ⟨M, 2, none⟩ = some (.slice (some ⟨ge, 0, none⟩) nn cc) ∧ w'.cell? ⟨ge, ix, none⟩ = some (.int .i64 e)) W1 := ⟨h1, h2, h3, h4⟩
  have hsh : Shutd .any tellOps (Array.replicate 15 false) := shutd_start _
  refine anyG_take (i := 0) (oi := { dst := some 21, op := Op.load 77 (Operand.tmp 13), type := 77, pos := "pmsg.go:71", after := #[], guard := none }) (v := .agg #[.int .i64 x0, .int .i64 x1, .int .i64 x2, .int .u64 x3, .string d]) rfl (by kernel_rfl) (by decide) (fun l hl h0 => hl.no 13 0 (by kernel_rfl) h0) (by kernel_rfl) (by kernel_rfl) (fun c a w h => by cases h.1) (by assumption) (.inl ⟨by rfl, fun w' hS => ?_⟩) hS0 ?_
  · have e0 := hS.1.cell 0; have e1 := hS.1.cell 1; have e2 := hS.1.cell 2; have e3 := hS.1.cell 3; have e4 := hS.1.cell 4
    simp only [List.getElem?_toArray, List.getElem?_cons_zero, List.getElem?_cons_succ] at e0 e1 e2 e3 e4
    go_simp
  replace hsh := hsh.step' (j := 0) (by kernel_rfl)
  simp only [Act.put, List.setIfInBounds_toArray, List.set_cons_zero, List.set_cons_succ]
  refine anyG_take (i := 1) (oi := { dst := some 22, op := Op.load 31 (Operand.tmp 3), type := 31, pos := "pmsg.go:71", after := #[], guard := none }) (v := .pointer (some ⟨M, 0, none⟩)) rfl (by kernel_rfl) (by decide) (fun l hl h0 => hl.no 13 1 (by kernel_rfl) h0) (by kernel_rfl) (by kernel_rfl) (fun c a w h => by cases h.1) (by assumption) (.inl ⟨by rfl, fun w' hS => ?_⟩) hS0 ?_
  · have e0 := hS.2.1.cell 0
    simp only [List.getElem?_toArray, List.getElem?_cons_zero] at e0
    go_simp
  replace hsh := hsh.step' (j := 1) (by kernel_rfl)
  simp only [Act.put, List.setIfInBounds_toArray, List.set_cons_zero, List.set_cons_succ]
  refine anyG_take (i := 2) (oi := { dst := some 23, op := Op.nilCheck (Operand.tmp 22), type := 0, pos := "pmsg.go:71", after := #[{ on := 1, ground := Ground.data }], guard := none }) (v := .pointer (some ⟨M, 0, none⟩)) rfl (by kernel_rfl) (by decide) (fun l hl h0 => hl.no 13 2 (by kernel_rfl) h0) (by kernel_rfl) (by kernel_rfl) (fun c a w h => by cases h.1) (by assumption) (.inl ⟨by rfl, fun w' hS => ?_⟩) hS0 ?_
  · go_simp
  replace hsh := hsh.step' (j := 2) (by kernel_rfl)
  simp only [Act.put, List.setIfInBounds_toArray, List.set_cons_zero, List.set_cons_succ]
  refine anyG_take (i := 3) (oi := { dst := some 24, op := Op.fieldAddr 75 (Operand.tmp 23) 2, type := 0, pos := "pmsg.go:71", after := #[{ on := 2, ground := Ground.data }], guard := none }) (v := .pointer (some ⟨M, 2, none⟩)) rfl (by kernel_rfl) (by decide) (fun l hl h0 => hl.no 13 3 (by kernel_rfl) h0) (by kernel_rfl) (by kernel_rfl) (fun c a w h => by cases h.1) (by assumption) (.inl ⟨by rfl, fun w' hS => ?_⟩) hS0 ?_
  · go_simp
  replace hsh := hsh.step' (j := 3) (by kernel_rfl)
  simp only [Act.put, List.setIfInBounds_toArray, List.set_cons_zero, List.set_cons_succ]
  refine anyG_take (i := 4) (oi := { dst := some 25, op := Op.load 27 (Operand.tmp 24), type := 27, pos := "pmsg.go:71", after := #[{ on := 3, ground := Ground.data }], guard := none }) (v := .slice (some ⟨ge, 0, none⟩) nn cc) rfl (by kernel_rfl) (by decide) (fun l hl h0 => hl.no 13 4 (by kernel_rfl) h0) (by kernel_rfl) (by kernel_rfl) (fun c a w h => by cases h.1) (by assumption) (.inl ⟨by rfl, fun w' hS => ?_⟩) hS0 ?_
  · have e0 := hS.2.2.1
    go_simp
  replace hsh := hsh.step' (j := 4) (by kernel_rfl)
  simp only [Act.put, List.setIfInBounds_toArray, List.set_cons_zero, List.set_cons_succ]
  refine anyG_take (i := 5) (oi := { dst := some 26, op := Op.move (Operand.tmp 12), type := 3, pos := "pmsg.go:71", after := #[], guard := none }) (v := .int .i64 (ix : Int)) rfl (by kernel_rfl) (by decide) (fun l hl h0 => hl.no 13 5 (by kernel_rfl) h0) (by kernel_rfl) (by kernel_rfl) (fun c a w h => by cases h.1) (by assumption) (.inl ⟨by rfl, fun w' hS => ?_⟩) hS0 ?_
  · go_simp
  replace hsh := hsh.step' (j := 5) (by kernel_rfl)
  simp only [Act.put, List.setIfInBounds_toArray, List.set_cons_zero, List.set_cons_succ]
  refine anyG_take (i := 6) (oi := { dst := some 27, op := Op.indexAddr 27 (Operand.tmp 25) (Operand.tmp 26), type := 0, pos := "pmsg.go:71", after := #[{ on := 4, ground := Ground.data }, { on := 5, ground := Ground.data }], guard := none }) (v := .pointer (some ⟨ge, ix, none⟩)) rfl (by kernel_rfl) (by decide) (fun l hl h0 => hl.no 13 6 (by kernel_rfl) h0) (by kernel_rfl) (by kernel_rfl) (fun c a w h => by cases h.1) (by assumption) (.inl ⟨by rfl, fun w' hS => ?_⟩) hS0 ?_
  · go_simp
  replace hsh := hsh.step' (j := 6) (by kernel_rfl)
  simp only [Act.put, List.setIfInBounds_toArray, List.set_cons_zero, List.set_cons_succ]
  refine anyG_take (i := 7) (oi := { dst := some 28, op := Op.load 3 (Operand.tmp 27), type := 3, pos := "pmsg.go:71", after := #[{ on := 6, ground := Ground.data }], guard := none }) (v := .int .i64 e) rfl (by kernel_rfl) (by decide) (fun l hl h0 => hl.no 13 7 (by kernel_rfl) h0) (by kernel_rfl) (by kernel_rfl) (fun c a w h => by cases h.1) (by assumption) (.inl ⟨by rfl, fun w' hS => ?_⟩) hS0 ?_
  · have e0 := hS.2.2.2
    go_simp
  replace hsh := hsh.step' (j := 7) (by kernel_rfl)
  simp only [Act.put, List.setIfInBounds_toArray, List.set_cons_zero, List.set_cons_succ]
  refine anyG_take (i := 8) (oi := { dst := some 29, op := Op.fieldAddr 77 (Operand.tmp 13) 4, type := 0, pos := "pmsg.go:71", after := #[], guard := none }) (v := .pointer (some ⟨Bf, 4, none⟩)) rfl (by kernel_rfl) (by decide) (fun l hl h0 => hl.no 13 8 (by kernel_rfl) h0) (by kernel_rfl) (by kernel_rfl) (fun c a w h => by cases h.1) (by assumption) (.inl ⟨by rfl, fun w' hS => ?_⟩) hS0 ?_
  · go_simp
  replace hsh := hsh.step' (j := 8) (by kernel_rfl)
  simp only [Act.put, List.setIfInBounds_toArray, List.set_cons_zero, List.set_cons_succ]
  refine anyG_take (i := 9) (oi := { dst := some 30, op := Op.load 9 (Operand.tmp 29), type := 9, pos := "pmsg.go:71", after := #[{ on := 8, ground := Ground.data }], guard := none }) (v := .string d) rfl (by kernel_rfl) (by decide) (fun l hl h0 => hl.no 13 9 (by kernel_rfl) h0) (by kernel_rfl) (by kernel_rfl) (fun c a w h => by cases h.1) (by assumption) (.inl ⟨by rfl, fun w' hS => ?_⟩) hS0 ?_
  · have e4 := hS.1.cell 4
    simp only [List.getElem?_toArray, List.getElem?_cons_zero, List.getElem?_cons_succ] at e4
    go_simp
  replace hsh := hsh.step' (j := 9) (by kernel_rfl)
  simp only [Act.put, List.setIfInBounds_toArray, List.set_cons_zero, List.set_cons_succ]
  refine anyG_take (i := 10) (oi := { dst := some 31, op := Op.call { callee := Callee.builtin Builtin.len, args := #[Operand.tmp 30], argTypes := #[9] }, type := 3, pos := "pmsg.go:71", after := #[{ on := 9, ground := Ground.data }], guard := none }) (v := .int .i64 dz) rfl (by kernel_rfl) (by decide) (fun l hl h0 => hl.no 13 10 (by kernel_rfl) h0) (by kernel_rfl) (by kernel_rfl) (fun c a w h => by cases h.1) (by assumption) (.inl ⟨by rfl, fun w' hS => ?_⟩) hS0 ?_
  · have e9 := Hdz.out
    go_simp
  replace hsh := hsh.step' (j := 10) (by kernel_rfl)
  simp only [Act.put, List.setIfInBounds_toArray, List.set_cons_zero, List.set_cons_succ]
  refine anyG_take (i := 11) (oi := { dst := some 32, op := Op.binOp BinOp.sub 3 (Operand.tmp 28) (Operand.tmp 31) 3, type := 3, pos := "pmsg.go:71", after := #[{ on := 7, ground := Ground.data }, { on := 10, ground := Ground.data }], guard := none }) (v := .int .i64 at_) rfl (by kernel_rfl) (by decide) (fun l hl h0 => hl.no 13 11 (by kernel_rfl) h0) (by kernel_rfl) (by kernel_rfl) (fun c a w h => by cases h.1) (by assumption) (.inl ⟨by rfl, fun w' hS => ?_⟩) hS0 ?_
  · have e9 := Hat.out
    go_simp
  replace hsh := hsh.step' (j := 11) (by kernel_rfl)
  simp only [Act.put, List.setIfInBounds_toArray, List.set_cons_zero, List.set_cons_succ]
  clear hsh
  refine anyG_one (i := 12) (o := { dst := none, op := Op.store 77 (Operand.tmp 9) (Operand.tmp 21), type := 0, pos := "pmsg.go:71", after := #[{ on := 0, ground := Ground.data }, { on := 0, ground := Ground.phase }, { on := 1, ground := Ground.textOnly Departure.lateStores }, { on := 2, ground := Ground.textOnly Departure.inlinedCapture }, { on := 3, ground := Ground.textOnly Departure.inlinedCapture }, { on := 4, ground := Ground.textOnly Departure.inlinedCapture }, { on := 5, ground := Ground.textOnly Departure.lateStores }, { on := 6, ground := Ground.textOnly Departure.inlinedCapture }, { on := 7, ground := Ground.textOnly Departure.inlinedCapture }, { on := 8, ground := Ground.textOnly Departure.lateStores }, { on := 9, ground := Ground.textOnly Departure.lateStores }, { on := 10, ground := Ground.textOnly Departure.lateStoresUnsure }, { on := 11, ground := Ground.textOnly Departure.inlinedCapture }], guard := none }) (by kernel_rfl) rfl rfl fun K hK => ?_
  have c0 := h5.cell 0; have c1 := h5.cell 1; have c2 := h5.cell 2; have c3 := h5.cell 3; have c4 := h5.cell 4
  have z0 := h5.frozen 0; have z1 := h5.frozen 1; have z2 := h5.frozen 2; have z3 := h5.frozen 3; have z4 := h5.frozen 4
  simp only [List.getElem?_toArray, List.getElem?_cons_zero, List.getElem?_cons_succ] at c0 c1 c2 c3 c4
  go_simp
  clear c0 c1 c2 c3 c4 z0 z1 z2 z3 z4
  have fr := fun g t cs (h : Blk W1 g t cs) (hne : g ≠ Bo) => five_far W1 Bo (.int .i64 x0) (.int .i64 x1) (.int .i64 x2) (.int .u64 x3) (.string d) h hne
  have fc := fun g o v (h : W1.cell? ⟨g, o, none⟩ = some v) (hne : g ≠ Bo) => five_cell W1 Bo (.int .i64 x0) (.int .i64 x1) (.int .i64 x2) (.int .u64 x3) (.string d) h hne
  have k1 := fr _ _ _ h1 n1; have k2 := fr _ _ _ h2 n2; have k3 := fc _ _ _ h3 n3; have k4 := fc _ _ _ h4 n4; have k6 := fr _ _ _ h6 n5; have k7 := fr _ _ _ h7 n6
  clear fr fc
  refine hK _ _ (fun _ => ⟨k1, k2, k3, k4⟩) ?_
  try simp only [Act.put, List.setIfInBounds_toArray, List.set_cons_zero, List.set_cons_succ]
  refine anyG_one (i := 13) (o := { dst := none, op := Op.store 3 (Operand.tmp 10) (Operand.tmp 32), type := 0, pos := "pmsg.go:71", after := #[{ on := 11, ground := Ground.data }, { on := 12, ground := Ground.chain }, { on := 0, ground := Ground.phase }, { on := 1, ground := Ground.phase }, { on := 2, ground := Ground.phase }, { on := 3, ground := Ground.phase }, { on := 4, ground := Ground.phase }, { on := 5, ground := Ground.phase }, { on := 6, ground := Ground.phase }, { on := 7, ground := Ground.phase }, { on := 8, ground := Ground.phase }, { on := 9, ground := Ground.phase }, { on := 10, ground := Ground.phase }, { on := 11, ground := Ground.phase }, { on := 12, ground := Ground.phase }], guard := none }) (by kernel_rfl) rfl rfl fun K hK => ?_
  have f1 := k6.cell 0; have f2 := k6.frozen 0
  simp only [List.getElem?_toArray, List.getElem?_cons_zero] at f1
  go_simp
  refine hK _ _ (fun e => by simp at e) ?_
  try simp only [Act.put, List.setIfInBounds_toArray, List.set_cons_zero, List.set_cons_succ]
  refine anyG_one (i := 14) (o := { dst := none, op := Op.store 4 (Operand.tmp 11) (Operand.const (Value.bool true)), type := 0, pos := "pmsg.go:71", after := #[{ on := 13, ground := Ground.chain }, { on := 0, ground := Ground.phase }, { on := 1, ground := Ground.phase }, { on := 2, ground := Ground.phase }, { on := 3, ground := Ground.phase }, { on := 4, ground := Ground.phase }, { on := 5, ground := Ground.phase }, { on := 6, ground := Ground.phase }, { on := 7, ground := Ground.phase }, { on := 8, ground := Ground.phase }, { on := 9, ground := Ground.phase }, { on := 10, ground := Ground.phase }, { on := 11, ground := Ground.phase }, { on := 12, ground := Ground.phase }, { on := 13, ground := Ground.phase }], guard := none }) (by kernel_rfl) rfl rfl fun K hK => ?_
  have m7 := k7.far (p := ⟨Ba, 0, none⟩) n7 (.int .i64 at_)
  have f3 := m7.cell 0; have f4 := m7.frozen 0
  simp only [List.getElem?_toArray, List.getElem?_cons_zero] at f3
  go_simp
  refine hK _ _ (fun e => by simp at e) ?_
  refine anyG_done (by kernel_rfl) ⟨rfl, ?_⟩ _
  exact hQ
end Go.Proofs.Ytbkcklefkhlciaa
