/-
  told of law 10: what a round that appends a field and a reason to two boxed slices leaves behind.
-/
import Derived.Test.YtkaoacoahlbcoaaFields
import Derived.Test.YtkaoacoahlbcoaaTwo
import Derived.Deep.QuietTactic
import Derived.BigQuiet
namespace Go.Proofs.Ytkaoacoahlbcoaa
open Go.RowKit Go.Shelf
attribute [local go_sem] Oper.semAt_some
def toldOps : Array Oper := #[{ dst := some 13, op := Op.load 37 (Operand.tmp 6), type := 37, pos := "law.go:55", after := #[], guard := none }, 
  { dst := some 14, op := Op.load 31 (Operand.tmp 8), type := 31, pos := "law.go:55", after := #[], guard := none }, 
  { dst := some 15, op := Op.buildSlice 37 1 #[(0, Operand.tmp 14)], type := 37, pos := "law.go:55", after := #[{ on := 1, ground := Ground.data }], guard := none }, 
  { dst := some 16, op := Op.call { callee := Callee.builtin Builtin.append, args := #[Operand.tmp 13, Operand.tmp 15], argTypes := #[37, 37] }, type := 37, pos := "law.go:55", after := #[{ on := 0, ground := Ground.data }, { on := 2, ground := Ground.data }], guard := none }, 
  { dst := some 17, op := Op.load 49 (Operand.tmp 7), type := 49, pos := "law.go:55", after := #[], guard := none }, 
  { dst := some 18, op := Op.load 39 (Operand.tmp 9), type := 39, pos := "law.go:55", after := #[], guard := none }, 
  { dst := some 19, op := Op.buildSlice 49 1 #[(0, Operand.tmp 18)], type := 49, pos := "law.go:55", after := #[{ on := 5, ground := Ground.data }], guard := none }, 
  { dst := some 20, op := Op.call { callee := Callee.builtin Builtin.append, args := #[Operand.tmp 17, Operand.tmp 19], argTypes := #[49, 49] }, type := 49, pos := "law.go:55", after := #[{ on := 4, ground := Ground.data }, { on := 6, ground := Ground.data }, { on := 3, ground := Ground.chain }], guard := none }, 
  { dst := none, op := Op.store 37 (Operand.tmp 6) (Operand.tmp 16), type := 0, pos := "law.go:55", after := #[{ on := 3, ground := Ground.data }, { on := 7, ground := Ground.chain }, { on := 0, ground := Ground.phase }, { on := 1, ground := Ground.phase }, { on := 2, ground := Ground.phase }, { on := 3, ground := Ground.phase }, { on := 4, ground := Ground.textOnly Departure.inlinedCapture }, { on := 5, ground := Ground.textOnly Departure.lateStores }, { on := 6, ground := Ground.textOnly Departure.inlinedCapture }, { on := 7, ground := Ground.textOnly Departure.lateStoresUnsure }], guard := none }, 
  { dst := none, op := Op.store 49 (Operand.tmp 7) (Operand.tmp 20), type := 0, pos := "law.go:55", after := #[{ on := 7, ground := Ground.data }, { on := 8, ground := Ground.chain }, { on := 0, ground := Ground.phase }, { on := 1, ground := Ground.phase }, { on := 2, ground := Ground.phase }, { on := 3, ground := Ground.phase }, { on := 4, ground := Ground.phase }, { on := 5, ground := Ground.phase }, { on := 6, ground := Ground.phase }, { on := 7, ground := Ground.phase }, { on := 8, ground := Ground.phase }], guard := none }]
theorem told_still : ∀ (i : Nat) (o : Oper), toldOps[i]? = some o → Still Try.prog o := by
  intro i o h
  match i, h with
  | 0, h => exact still_at _ rfl h (still_load rfl)
  | 1, h => exact still_at _ rfl h (still_load rfl)
  | 2, h => exact still_at _ rfl h (still_row rfl)
  | 3, h => exact still_at _ rfl h (still_append rfl)
  | 4, h => exact still_at _ rfl h (still_load rfl)
  | 5, h => exact still_at _ rfl h (still_load rfl)
  | 6, h => exact still_at _ rfl h (still_row rfl)
  | 7, h => exact still_at _ rfl h (still_append rfl)
  | 8, h => exact still_at _ rfl h (still_store rfl)
  | 9, h => exact still_at _ rfl h (still_store rfl)
  | n + 10, h => exact absurd h (by simp [toldOps])
theorem dcells {w : World} {g : Nat} {t : TypeId} {a b c : Value} (h : Blk w g t #[a, b, c]) : w.cell? ⟨g, 0, none⟩ = some a ∧ w.cell? ⟨g, 1, none⟩ = some b ∧ w.cell? ⟨g, 2, none⟩ = some c :=
  ⟨h.cell 0, h.cell 1, h.cell 2⟩
theorem fcells' {w : World} {g : Nat} {t : TypeId} {a b c d e : Value} (h : Blk w g t #[a, b, c, d, e]) : w.cell? ⟨g, 0, none⟩ = some a ∧ w.cell? ⟨g, 1, none⟩ = some b ∧ w.cell? ⟨g, 2, none⟩ = some c ∧ w.cell? ⟨g, 3, none⟩ = some d ∧ w.cell? ⟨g, 4, none⟩ = some e :=
  ⟨h.cell 0, h.cell 1, h.cell 2, h.cell 3, h.cell 4⟩
theorem Try.infoD : (Try.prog.info? 39).map (fun i => (i.zero, i.size, i.bytes)) = some (some (.agg #[.int .i64 0, .int .i64 0, .string ⟨#[]⟩]), 3, 32) := by kernel_rfl
set_option maxRecDepth 100000 in
set_option maxHeartbeats 8000000 in
theorem round_two (Fe : Fence) (m : Nat) (Q : Exit → Act → World → Prop) (n0 : Nat) (W0 W : World) (B1 B2 G8 G9 : Nat) (v1 v2 : Value) (k : Nat) (xs ys : List Value) (N0 N1 N2 N3 M0 M1 : Int) (N4 M2 : ByteArray)
    (t0 t1 t2 t3 t4 t5 t10 t11 t12 t21 t22 t23 t24 t25 t26 : Value)
    (h : Two n0 W0 W B1 B2 37 49 31 39 5 3 v1 v2 v1 v2 k k xs ys) (hk : k ≤ 1000000) (hG8 : Blk W G8 31 #[.int .i64 N0, .int .i64 N1, .int .i64 N2, .int .u64 N3, .string N4]) (hG9 : Blk W G9 39 #[.int .i64 M0, .int .i64 M1, .string M2])
    (n18 : v1.ownBlock ≠ some G8) (n19 : v1.ownBlock ≠ some G9) (n28 : v2.ownBlock ≠ some G8) (n29 : v2.ownBlock ≠ some G9)
    (hQ : ∀ x15 x19 g1 c1 g2 c2 W', Two n0 W0 W' B1 B2 37 49 31 39 5 3 (.slice (some ⟨g1, 0, none⟩) (k + 1) c1) (.slice (some ⟨g2, 0, none⟩) (k + 1) c2) (.slice (some ⟨g1, 0, none⟩) (k + 1) c1) (.slice (some ⟨g2, 0, none⟩) (k + 1) c2) (k + 1) (k + 1) (xs ++ [.int .i64 N0, .int .i64 N1, .int .i64 N2, .int .u64 N3, .string N4]) (ys ++ [.int .i64 M0, .int .i64 M1, .string M2]) →
      Q .normal { tmps := #[t0, t1, t2, t3, t4, t5, .pointer (some ⟨B1, 0, none⟩), .pointer (some ⟨B2, 0, none⟩), .pointer (some ⟨G8, 0, none⟩), .pointer (some ⟨G9, 0, none⟩), t10, t11, t12, v1, .agg #[.int .i64 N0, .int .i64 N1, .int .i64 N2, .int .u64 N3, .string N4], x15, .slice (some ⟨g1, 0, none⟩) (k + 1) c1, v2, .agg #[.int .i64 M0, .int .i64 M1, .string M2], x19, .slice (some ⟨g2, 0, none⟩) (k + 1) c2, t21, t22, t23, t24, t25, t26], defers := [] } W') :
    (Code.region 6 toldOps true).wpIn Fe m Try.prog Q { tmps := #[t0, t1, t2, t3, t4, t5, .pointer (some ⟨B1, 0, none⟩), .pointer (some ⟨B2, 0, none⟩), .pointer (some ⟨G8, 0, none⟩), .pointer (some ⟨G9, 0, none⟩), t10, t11, t12, undef, undef, undef, undef, undef, undef, undef, undef, t21, t22, t23, t24, t25, t26], defers := [] } W := by
  obtain ⟨i0, hi, hz0, hz1, hz2⟩ := info_parts Try.infoF
  obtain ⟨j0, hj, hy0, hy1, hy2⟩ := info_parts Try.infoD
  refine wpIn_still 8 (fun w' => w'.cell? ⟨B1, 0, none⟩ = some v1 ∧ w'.cell? ⟨B2, 0, none⟩ = some v2 ∧ Blk w' G8 31 #[.int .i64 N0, .int .i64 N1, .int .i64 N2, .int .u64 N3, .string N4] ∧ Blk w' G9 39 #[.int .i64 M0, .int .i64 M1, .string M2]) (by kernel_rfl) told_still ?_
  have hd : Two n0 W0 W.drew B1 B2 37 49 31 39 5 3 v1 v2 v1 v2 k k xs ys := h.drew
  have hG8d : Blk W.drew G8 31 #[.int .i64 N0, .int .i64 N1, .int .i64 N2, .int .u64 N3, .string N4] := hG8
  have hG9d : Blk W.drew G9 39 #[.int .i64 M0, .int .i64 M1, .string M2] := hG9
  change AnyG _ _ _ _ _ _ 10 (Array.replicate 10 false) _ W.drew
  revert hd hG8d hG9d
  generalize W.drew = W
  clear h hG8 hG9
  intro h hG8 hG9
  have hS0 : W.cell? ⟨B1, 0, none⟩ = some v1 ∧ W.cell? ⟨B2, 0, none⟩ = some v2 ∧ Blk W G8 31 #[.int .i64 N0, .int .i64 N1, .int .i64 N2, .int .u64 N3, .string N4] ∧ Blk W G9 39 #[.int .i64 M0, .int .i64 M1, .string M2] := ⟨h.b1.cell, h.b2.cell, hG8, hG9⟩
  have hsh : Shutd .any toldOps (Array.replicate 10 false) := shutd_start _
  refine anyG_take (i := 0) (oi := { dst := some 13, op := Op.load 37 (Operand.tmp 6), type := 37, pos := "law.go:55", after := #[], guard := none }) (v := v1) rfl (by kernel_rfl) (by decide) (fun l hl h0 => hl.no 8 0 (by kernel_rfl) h0) (by kernel_rfl) (by kernel_rfl) (fun c a w h => by cases h.1) (by assumption) (.inl ⟨by rfl, fun w' hS => ?_⟩) hS0 ?_
  · have := hS.1; go_simp
  replace hsh := hsh.step' (j := 0) (by kernel_rfl)
  simp only [Act.put, List.setIfInBounds_toArray, List.set_cons_zero, List.set_cons_succ]
  refine anyG_take (i := 1) (oi := { dst := some 14, op := Op.load 31 (Operand.tmp 8), type := 31, pos := "law.go:55", after := #[], guard := none }) (v := .agg #[.int .i64 N0, .int .i64 N1, .int .i64 N2, .int .u64 N3, .string N4]) rfl (by kernel_rfl) (by decide) (fun l hl h0 => hl.no 8 1 (by kernel_rfl) h0) (by kernel_rfl) (by kernel_rfl) (fun c a w h => by cases h.1) (by assumption) (.inl ⟨by rfl, fun w' hS => ?_⟩) hS0 ?_
  · obtain ⟨d0, d1, d2, d3, d4⟩ := fcells' hS.2.2.1; go_simp
  replace hsh := hsh.step' (j := 1) (by kernel_rfl)
  simp only [Act.put, List.setIfInBounds_toArray, List.set_cons_zero, List.set_cons_succ]
  refine anyG_take (i := 4) (oi := { dst := some 17, op := Op.load 49 (Operand.tmp 7), type := 49, pos := "law.go:55", after := #[], guard := none }) (v := v2) rfl (by kernel_rfl) (by decide) (fun l hl h0 => hl.no' 8 7 4 (by kernel_rfl) (by kernel_rfl) h0) (by kernel_rfl) (by kernel_rfl) (fun c a w h => by cases h.1) (by assumption) (.inl ⟨by rfl, fun w' hS => ?_⟩) hS0 ?_
  · have := hS.2.1; go_simp
  replace hsh := hsh.step' (j := 4) (by kernel_rfl)
  simp only [Act.put, List.setIfInBounds_toArray, List.set_cons_zero, List.set_cons_succ]
  refine anyG_take (i := 5) (oi := { dst := some 18, op := Op.load 39 (Operand.tmp 9), type := 39, pos := "law.go:55", after := #[], guard := none }) (v := .agg #[.int .i64 M0, .int .i64 M1, .string M2]) rfl (by kernel_rfl) (by decide) (fun l hl h0 => hl.no'' 8 7 6 5 (by kernel_rfl) (by kernel_rfl) (by kernel_rfl) h0) (by kernel_rfl) (by kernel_rfl) (fun c a w h => by cases h.1) (by assumption) (.inl ⟨by rfl, fun w' hS => ?_⟩) hS0 ?_
  · obtain ⟨d0, d1, d2⟩ := dcells hS.2.2.2; go_simp
  replace hsh := hsh.step' (j := 5) (by kernel_rfl)
  simp only [Act.put, List.setIfInBounds_toArray, List.set_cons_zero, List.set_cons_succ]
  clear hsh
  have fin : ∀ (l : Array Bool) (x15 x19 : Value) (g1 c1 g2 c2 : Nat) (w : World), Region.ready .any toldOps l = [8] → Region.ready .any toldOps (l.setIfInBounds 8 true) = [9] → Region.ready .any toldOps ((l.setIfInBounds 8 true).setIfInBounds 9 true) = [] → (l.setIfInBounds 8 true).getD 8 false = true → ((l.setIfInBounds 8 true).setIfInBounds 9 true).getD 8 false = true →
      Two n0 W0 w B1 B2 37 49 31 39 5 3 v1 v2 (.slice (some ⟨g1, 0, none⟩) (k + 1) c1) (.slice (some ⟨g2, 0, none⟩) (k + 1) c2) (k + 1) (k + 1) (xs ++ [.int .i64 N0, .int .i64 N1, .int .i64 N2, .int .u64 N3, .string N4]) (ys ++ [.int .i64 M0, .int .i64 M1, .string M2]) →
      AnyG Try.prog .any toldOps (fun e a w => e = Exit.normal ∧ Q Exit.normal a w) 8 (fun w' => w'.cell? ⟨B1, 0, none⟩ = some v1 ∧ w'.cell? ⟨B2, 0, none⟩ = some v2 ∧ Blk w' G8 31 #[.int .i64 N0, .int .i64 N1, .int .i64 N2, .int .u64 N3, .string N4] ∧ Blk w' G9 39 #[.int .i64 M0, .int .i64 M1, .string M2]) 2 l { tmps := #[t0, t1, t2, t3, t4, t5, .pointer (some ⟨B1, 0, none⟩), .pointer (some ⟨B2, 0, none⟩), .pointer (some ⟨G8, 0, none⟩), .pointer (some ⟨G9, 0, none⟩), t10, t11, t12, v1, .agg #[.int .i64 N0, .int .i64 N1, .int .i64 N2, .int .u64 N3, .string N4], x15, .slice (some ⟨g1, 0, none⟩) (k + 1) c1, v2, .agg #[.int .i64 M0, .int .i64 M1, .string M2], x19, .slice (some ⟨g2, 0, none⟩) (k + 1) c2, t21, t22, t23, t24, t25, t26], defers := [] } w := by
    intro l x15 x19 g1 c1 g2 c2 w r8 r9 r0 d8 d9 hw
    refine anyG_one (i := 8) (o := { dst := none, op := Op.store 37 (Operand.tmp 6) (Operand.tmp 16), type := 0, pos := "law.go:55", after := #[{ on := 3, ground := Ground.data }, { on := 7, ground := Ground.chain }, { on := 0, ground := Ground.phase }, { on := 1, ground := Ground.phase }, { on := 2, ground := Ground.phase }, { on := 3, ground := Ground.phase }, { on := 4, ground := Ground.textOnly Departure.inlinedCapture }, { on := 5, ground := Ground.textOnly Departure.lateStores }, { on := 6, ground := Ground.textOnly Departure.inlinedCapture }, { on := 7, ground := Ground.textOnly Departure.lateStoresUnsure }], guard := none }) r8 rfl rfl fun K hK => ?_
    have b1c := hw.b1.cell
    have b1f := hw.b1.frozen
    go_simp
    refine hK _ _ (fun e => by rw [d8] at e; cases e) ?_
    have hw1 := hw.set1 (by decide) (by decide) (.slice (some ⟨g1, 0, none⟩) (k + 1) c1)
    refine anyG_one (i := 9) (o := { dst := none, op := Op.store 49 (Operand.tmp 7) (Operand.tmp 20), type := 0, pos := "law.go:55", after := #[{ on := 7, ground := Ground.data }, { on := 8, ground := Ground.chain }, { on := 0, ground := Ground.phase }, { on := 1, ground := Ground.phase }, { on := 2, ground := Ground.phase }, { on := 3, ground := Ground.phase }, { on := 4, ground := Ground.phase }, { on := 5, ground := Ground.phase }, { on := 6, ground := Ground.phase }, { on := 7, ground := Ground.phase }, { on := 8, ground := Ground.phase }], guard := none }) r9 rfl rfl fun K hK => ?_
    have b2c := hw1.b2.cell
    have b2f := hw1.b2.frozen
    go_simp
    refine hK _ _ (fun e => by rw [d9] at e; cases e) ?_
    refine anyG_done r0 ⟨rfl, ?_⟩ _
    exact hQ _ _ _ _ _ _ _ (hw1.set2 (by decide) (by decide) _)
  have h1F : ∀ u ∈ ([.int .i64 N0, .int .i64 N1, .int .i64 N2, .int .u64 N3, .string N4] : List Value), u.oneCell' = true := fun u hu => by simp at hu; rcases hu with rfl | rfl | rfl | rfl | rfl <;> rfl
  have h1D : ∀ u ∈ ([.int .i64 M0, .int .i64 M1, .string M2] : List Value), u.oneCell' = true := fun u hu => by simp at hu; rcases hu with rfl | rfl | rfl <;> rfl
  have hm : k + 1 ≤ maxLen := by unfold maxLen; omega
  have hu := Try.underlying37
  have hv := Try.underlying49
  refine anyG_two (i := 2) (j := 6) (o := { dst := some 15, op := Op.buildSlice 37 1 #[(0, Operand.tmp 14)], type := 37, pos := "law.go:55", after := #[{ on := 1, ground := Ground.data }], guard := none }) (u := { dst := some 19, op := Op.buildSlice 49 1 #[(0, Operand.tmp 18)], type := 49, pos := "law.go:55", after := #[{ on := 5, ground := Ground.data }], guard := none }) (by kernel_rfl) rfl rfl rfl rfl (fun K hK => ?_) (fun K hK => ?_)
  · have ha := h.alloc (.cells #[.int .i64 N0, .int .i64 N1, .int .i64 N2, .int .u64 N3, .string N4] 31)
    have c1 : Cellz (W.alloc (.cells #[.int .i64 N0, .int .i64 N1, .int .i64 N2, .int .u64 N3, .string N4] 31)) W.heap.size ([.int .i64 N0, .int .i64 N1, .int .i64 N2, .int .u64 N3, .string N4] : List Value) 31 := World.alloc_heap_new W _
    go_simp
    refine hK _ _ (fun _ => ⟨ha.b1.cell, ha.b2.cell, (hG8.alloc _), (hG9.alloc _)⟩) ?_
    try simp only [Act.put, List.setIfInBounds_toArray, List.set_cons_zero, List.set_cons_succ]
    refine anyG_two (i := 3) (j := 6) (o := { dst := some 16, op := Op.call { callee := Callee.builtin Builtin.append, args := #[Operand.tmp 13, Operand.tmp 15], argTypes := #[37, 37] }, type := 37, pos := "law.go:55", after := #[{ on := 0, ground := Ground.data }, { on := 2, ground := Ground.data }], guard := none }) (u := { dst := some 19, op := Op.buildSlice 49 1 #[(0, Operand.tmp 18)], type := 49, pos := "law.go:55", after := #[{ on := 5, ground := Ground.data }], guard := none }) (by kernel_rfl) rfl rfl rfl rfl (fun K hK => ?_) (fun K hK => ?_)
    · -- the first append ahead of the second row
      refine wp_app1 (.tmp 13) (.tmp 15) rfl i0 (.agg #[.int .i64 0, .int .i64 0, .int .i64 0, .int .u64 0, .string ⟨#[]⟩]) 48 hu hi hz0 hz1 hz2 rfl (by decide) ha (by decide) (by decide) (by rfl) _ ([.int .i64 N0, .int .i64 N1, .int .i64 N2, .int .u64 N3, .string N4] : List Value) (by rfl) rfl c1 h1F hm (by omega) ?_
      intro g1 k1 w1 hw1 hg1
      refine hK _ _ (fun _ => ⟨hw1.b1.cell, hw1.b2.cell, ((hG8.alloc _).kept hg1 (fun e => n18 e.symm)), ((hG9.alloc _).kept hg1 (fun e => n19 e.symm))⟩) ?_
      try simp only [Act.put, List.setIfInBounds_toArray, List.set_cons_zero, List.set_cons_succ]

      have hb := hw1.alloc (.cells #[.int .i64 M0, .int .i64 M1, .string M2] 39)
      have c2 : Cellz (w1.alloc (.cells #[.int .i64 M0, .int .i64 M1, .string M2] 39)) w1.heap.size ([.int .i64 M0, .int .i64 M1, .string M2] : List Value) 39 := World.alloc_heap_new w1 _
      refine anyG_one (i := 6) (o := { dst := some 19, op := Op.buildSlice 49 1 #[(0, Operand.tmp 18)], type := 49, pos := "law.go:55", after := #[{ on := 5, ground := Ground.data }], guard := none }) (by kernel_rfl) rfl rfl fun K hK => ?_
      go_simp
      refine hK _ _ (fun _ => ⟨hb.b1.cell, hb.b2.cell, ((hG8.alloc _).kept hg1 (fun e => n18 e.symm)).alloc _, ((hG9.alloc _).kept hg1 (fun e => n19 e.symm)).alloc _⟩) ?_
      try simp only [Act.put, List.setIfInBounds_toArray, List.set_cons_zero, List.set_cons_succ]
      refine anyG_one (i := 7) (o := { dst := some 20, op := Op.call { callee := Callee.builtin Builtin.append, args := #[Operand.tmp 17, Operand.tmp 19], argTypes := #[49, 49] }, type := 49, pos := "law.go:55", after := #[{ on := 4, ground := Ground.data }, { on := 6, ground := Ground.data }, { on := 3, ground := Ground.chain }], guard := none }) (by kernel_rfl) rfl rfl fun K hK => ?_
      refine wp_app2 (.tmp 17) (.tmp 19) rfl j0 (.agg #[.int .i64 0, .int .i64 0, .string ⟨#[]⟩]) 32 hv hj hy0 hy1 hy2 rfl (by decide) hb (by decide) (by decide) (by rfl) _ ([.int .i64 M0, .int .i64 M1, .string M2] : List Value) (by rfl) rfl c2 h1D hm (by omega) ?_
      intro g2 k2 w2 hw2 hg2
      refine hK _ _ (fun _ => ⟨hw2.b1.cell, hw2.b2.cell, ((((hG8.alloc _).kept hg1 (fun e => n18 e.symm)).alloc _).kept hg2 (fun e => n28 e.symm)), ((((hG9.alloc _).kept hg1 (fun e => n19 e.symm)).alloc _).kept hg2 (fun e => n29 e.symm))⟩) ?_
      try simp only [Act.put, List.setIfInBounds_toArray, List.set_cons_zero, List.set_cons_succ]
      exact fin _ _ _ _ _ _ _ _ (by kernel_rfl) (by kernel_rfl) (by kernel_rfl) (by kernel_rfl) (by kernel_rfl) hw2
    · -- both rows ahead of the appends
      have hb := ha.alloc (.cells #[.int .i64 M0, .int .i64 M1, .string M2] 39)
      have c2 : Cellz ((W.alloc (.cells #[.int .i64 N0, .int .i64 N1, .int .i64 N2, .int .u64 N3, .string N4] 31)).alloc (.cells #[.int .i64 M0, .int .i64 M1, .string M2] 39)) (W.heap.size + 1) ([.int .i64 M0, .int .i64 M1, .string M2] : List Value) 39 := by have := World.alloc_heap_new (W.alloc (.cells #[.int .i64 N0, .int .i64 N1, .int .i64 N2, .int .u64 N3, .string N4] 31)) (.cells #[.int .i64 M0, .int .i64 M1, .string M2] 39); rwa [World.size_alloc] at this
      have c1' := c1.kept (World.grownBy_alloc (W.alloc (.cells #[.int .i64 N0, .int .i64 N1, .int .i64 N2, .int .u64 N3, .string N4] 31)) (.cells #[.int .i64 M0, .int .i64 M1, .string M2] 39) none) (fun j e => by cases e)
      go_simp
      refine hK _ _ (fun _ => ⟨hb.b1.cell, hb.b2.cell, ((hG8.alloc _).alloc _), ((hG9.alloc _).alloc _)⟩) ?_
      try simp only [Act.put, List.setIfInBounds_toArray, List.set_cons_zero, List.set_cons_succ]
      refine anyG_one (i := 3) (o := { dst := some 16, op := Op.call { callee := Callee.builtin Builtin.append, args := #[Operand.tmp 13, Operand.tmp 15], argTypes := #[37, 37] }, type := 37, pos := "law.go:55", after := #[{ on := 0, ground := Ground.data }, { on := 2, ground := Ground.data }], guard := none }) (by kernel_rfl) rfl rfl fun K hK => ?_
      refine wp_app1 (.tmp 13) (.tmp 15) rfl i0 (.agg #[.int .i64 0, .int .i64 0, .int .i64 0, .int .u64 0, .string ⟨#[]⟩]) 48 hu hi hz0 hz1 hz2 rfl (by decide) hb (by decide) (by decide) (by rfl) _ ([.int .i64 N0, .int .i64 N1, .int .i64 N2, .int .u64 N3, .string N4] : List Value) (by rfl) rfl c1' h1F hm (by omega) ?_
      intro g1 k1 w1 hw1 hg1
      refine hK _ _ (fun _ => ⟨hw1.b1.cell, hw1.b2.cell, (((hG8.alloc _).alloc _).kept hg1 (fun e => n18 e.symm)), (((hG9.alloc _).alloc _).kept hg1 (fun e => n19 e.symm))⟩) ?_
      try simp only [Act.put, List.setIfInBounds_toArray, List.set_cons_zero, List.set_cons_succ]

      have c2' := c2.kept hg1 (fun j e => by have := (own_lt h.o1 j e).2; omega)
      refine anyG_one (i := 7) (o := { dst := some 20, op := Op.call { callee := Callee.builtin Builtin.append, args := #[Operand.tmp 17, Operand.tmp 19], argTypes := #[49, 49] }, type := 49, pos := "law.go:55", after := #[{ on := 4, ground := Ground.data }, { on := 6, ground := Ground.data }, { on := 3, ground := Ground.chain }], guard := none }) (by kernel_rfl) rfl rfl fun K hK => ?_
      refine wp_app2 (.tmp 17) (.tmp 19) rfl j0 (.agg #[.int .i64 0, .int .i64 0, .string ⟨#[]⟩]) 32 hv hj hy0 hy1 hy2 rfl (by decide) hw1 (by decide) (by decide) (by rfl) _ ([.int .i64 M0, .int .i64 M1, .string M2] : List Value) (by rfl) rfl c2' h1D hm (by omega) ?_
      intro g2 k2 w2 hw2 hg2
      refine hK _ _ (fun _ => ⟨hw2.b1.cell, hw2.b2.cell, ((((hG8.alloc _).alloc _).kept hg1 (fun e => n18 e.symm)).kept hg2 (fun e => n28 e.symm)), ((((hG9.alloc _).alloc _).kept hg1 (fun e => n19 e.symm)).kept hg2 (fun e => n29 e.symm))⟩) ?_
      try simp only [Act.put, List.setIfInBounds_toArray, List.set_cons_zero, List.set_cons_succ]
      exact fin _ _ _ _ _ _ _ _ (by kernel_rfl) (by kernel_rfl) (by kernel_rfl) (by kernel_rfl) (by kernel_rfl) hw2
  · -- the second row ahead of the first
    have ha := h.alloc (.cells #[.int .i64 M0, .int .i64 M1, .string M2] 39)
    have c2 : Cellz (W.alloc (.cells #[.int .i64 M0, .int .i64 M1, .string M2] 39)) W.heap.size ([.int .i64 M0, .int .i64 M1, .string M2] : List Value) 39 := World.alloc_heap_new W _
    go_simp
    refine hK _ _ (fun _ => ⟨ha.b1.cell, ha.b2.cell, (hG8.alloc _), (hG9.alloc _)⟩) ?_
    try simp only [Act.put, List.setIfInBounds_toArray, List.set_cons_zero, List.set_cons_succ]
    have hb := ha.alloc (.cells #[.int .i64 N0, .int .i64 N1, .int .i64 N2, .int .u64 N3, .string N4] 31)
    have c1 : Cellz ((W.alloc (.cells #[.int .i64 M0, .int .i64 M1, .string M2] 39)).alloc (.cells #[.int .i64 N0, .int .i64 N1, .int .i64 N2, .int .u64 N3, .string N4] 31)) (W.heap.size + 1) ([.int .i64 N0, .int .i64 N1, .int .i64 N2, .int .u64 N3, .string N4] : List Value) 31 := by have := World.alloc_heap_new (W.alloc (.cells #[.int .i64 M0, .int .i64 M1, .string M2] 39)) (.cells #[.int .i64 N0, .int .i64 N1, .int .i64 N2, .int .u64 N3, .string N4] 31); rwa [World.size_alloc] at this
    have c2' := c2.kept (World.grownBy_alloc (W.alloc (.cells #[.int .i64 M0, .int .i64 M1, .string M2] 39)) (.cells #[.int .i64 N0, .int .i64 N1, .int .i64 N2, .int .u64 N3, .string N4] 31) none) (fun j e => by cases e)
    refine anyG_one (i := 2) (o := { dst := some 15, op := Op.buildSlice 37 1 #[(0, Operand.tmp 14)], type := 37, pos := "law.go:55", after := #[{ on := 1, ground := Ground.data }], guard := none }) (by kernel_rfl) rfl rfl fun K hK => ?_
    go_simp
    refine hK _ _ (fun _ => ⟨hb.b1.cell, hb.b2.cell, ((hG8.alloc _).alloc _), ((hG9.alloc _).alloc _)⟩) ?_
    try simp only [Act.put, List.setIfInBounds_toArray, List.set_cons_zero, List.set_cons_succ]
    refine anyG_one (i := 3) (o := { dst := some 16, op := Op.call { callee := Callee.builtin Builtin.append, args := #[Operand.tmp 13, Operand.tmp 15], argTypes := #[37, 37] }, type := 37, pos := "law.go:55", after := #[{ on := 0, ground := Ground.data }, { on := 2, ground := Ground.data }], guard := none }) (by kernel_rfl) rfl rfl fun K hK => ?_
    refine wp_app1 (.tmp 13) (.tmp 15) rfl i0 (.agg #[.int .i64 0, .int .i64 0, .int .i64 0, .int .u64 0, .string ⟨#[]⟩]) 48 hu hi hz0 hz1 hz2 rfl (by decide) hb (by decide) (by decide) (by rfl) _ ([.int .i64 N0, .int .i64 N1, .int .i64 N2, .int .u64 N3, .string N4] : List Value) (by rfl) rfl c1 h1F hm (by omega) ?_
    intro g1 k1 w1 hw1 hg1
    refine hK _ _ (fun _ => ⟨hw1.b1.cell, hw1.b2.cell, (((hG8.alloc _).alloc _).kept hg1 (fun e => n18 e.symm)), (((hG9.alloc _).alloc _).kept hg1 (fun e => n19 e.symm))⟩) ?_
    try simp only [Act.put, List.setIfInBounds_toArray, List.set_cons_zero, List.set_cons_succ]

    have c2'' := c2'.kept hg1 (fun j e => by have := (own_lt h.o1 j e).2; omega)
    refine anyG_one (i := 7) (o := { dst := some 20, op := Op.call { callee := Callee.builtin Builtin.append, args := #[Operand.tmp 17, Operand.tmp 19], argTypes := #[49, 49] }, type := 49, pos := "law.go:55", after := #[{ on := 4, ground := Ground.data }, { on := 6, ground := Ground.data }, { on := 3, ground := Ground.chain }], guard := none }) (by kernel_rfl) rfl rfl fun K hK => ?_
    refine wp_app2 (.tmp 17) (.tmp 19) rfl j0 (.agg #[.int .i64 0, .int .i64 0, .string ⟨#[]⟩]) 32 hv hj hy0 hy1 hy2 rfl (by decide) hw1 (by decide) (by decide) (by rfl) _ ([.int .i64 M0, .int .i64 M1, .string M2] : List Value) (by rfl) rfl c2'' h1D hm (by omega) ?_
    intro g2 k2 w2 hw2 hg2
    refine hK _ _ (fun _ => ⟨hw2.b1.cell, hw2.b2.cell, ((((hG8.alloc _).alloc _).kept hg1 (fun e => n18 e.symm)).kept hg2 (fun e => n28 e.symm)), ((((hG9.alloc _).alloc _).kept hg1 (fun e => n19 e.symm)).kept hg2 (fun e => n29 e.symm))⟩) ?_
    try simp only [Act.put, List.setIfInBounds_toArray, List.set_cons_zero, List.set_cons_succ]
    exact fin _ _ _ _ _ _ _ _ (by kernel_rfl) (by kernel_rfl) (by kernel_rfl) (by kernel_rfl) (by kernel_rfl) hw2
end Go.Proofs.Ytkaoacoahlbcoaa
