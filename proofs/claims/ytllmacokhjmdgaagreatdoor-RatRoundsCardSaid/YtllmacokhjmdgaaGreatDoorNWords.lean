/-
  Law 1: words and their numbers; blocks known whole; noughts behind the words taken away.
-/
import Derived.Test.YtllmacokhjmdgaaGreatDoorNDiv
import Derived.RangeFuncBox
import Derived.RangeFuncNested
import Derived.Maps.AppendAt
import Derived.Laws.Rows
import Derived.Laws.ResultCell
namespace Go.Proofs.YtllmacokhjmdgaaGreatDoor
open Go.RowKit Go.Shelf
set_option linter.unusedVariables false
theorem grown_below {B : Nat} {W W' : World} (h : Below B W W') (hB : W.heap.size ≤ B) : W.grownBy W' none := ⟨h.os, h.tape, h.output, h.size, fun i hi _ => h.block i (by omega)⟩
/-- The block g is just the cells cs. -/
def Blk (W : World) (g : Nat) (t : TypeId) (cs : Array Value) : Prop := W.heap[g]? = some (.cells cs t (0, 0))
section
variable {w w' : World} {g : Nat} {t : TypeId} {cs : Array Value}
theorem Blk.lt (h : Blk w g t cs) : g < w.heap.size := (Array.getElem?_eq_some_iff.1 h).1
theorem Blk.cell (h : Blk w g t cs) (i : Nat) : w.cell? ⟨g, i, none⟩ = cs[i]? := cell_of_row w g i cs t (0, 0) h
theorem Blk.frozen (h : Blk w g t cs) (i : Nat) : w.frozen? ⟨g, i, none⟩ = false := by
  unfold Blk at h
  simp [World.frozen?, h]
theorem Blk.new (w : World) (t : TypeId) (cs : Array Value) : Blk (w.alloc (.cells cs t)) w.heap.size t cs := World.alloc_heap_new w _
theorem Blk.kept {row : Option Nat} (h : Blk w g t cs) (hb : w.grownBy w' row) (hg : some g ≠ row) : Blk w' g t cs := (hb.block g h.lt hg).trans h
theorem Blk.alloc (h : Blk w g t cs) (o : Obj) : Blk (w.alloc o) g t cs := h.kept (World.grownBy_alloc w o none) (by simp)
theorem Blk.far (h : Blk w g t cs) {p : Addr} (hp : g ≠ p.block) (u : Value) : Blk (w.setCell p u) g t cs := (Below.heap_setCell w p u g hp).trans h
theorem Blk.set_ (h : Blk w g t cs) (i : Nat) (u : Value) : Blk (w.setCell ⟨g, i, none⟩ u) g t (cs.setIfInBounds i u) := by
  unfold Blk at h ⊢
  simp [World.setCell, Array.getElem?_modify, h]
theorem Blk.below {B : Nat} (h : Blk w g t cs) (hb : Below B w w') (hg : g < B) : Blk w' g t cs := (hb.block g hg).trans h
end
theorem own_set {W : World} {b : Nat} {e : TypeId} {z : Nat} {v : Value} {n : Nat} {xs : List Value} (h : W.ownsRow b e z v n xs) {g : Nat} {t : TypeId} {cs : Array Value} (hg : Blk W g t cs) (hte : t ≠ e) (i : Nat) (u : Value) : (W.setCell ⟨g, i, none⟩ u).ownsRow b e z v n xs := by
  have hgr : W.grownBy (W.setCell ⟨g, i, none⟩ u) (some g) := ⟨rfl, rfl, rfl, by simp, fun k _ hk => Below.heap_setCell _ _ _ k (fun e => hk (by rw [e]))⟩
  refine h.kept hgr ?_
  rcases h.2 with ⟨rfl, _⟩ | ⟨g', cap, cur, rfl, _, hgb, _⟩
  · exact .inl rfl
  · refine .inr fun e' => ?_
    obtain rfl : g' = g := by simpa [Value.ownBlock] using e'
    have := (show W.heap[g']? = _ from hg).symm.trans hgb
    simp at this
    exact hte this.2
theorem add_block (a : Addr) (i : Nat) : (a.add i).block = a.block := by unfold Addr.add; split <;> rfl
/-- The row at a holds the words us. -/
def UR (w : World) (a : Option Addr) (us : List Nat) : Prop := ∀ i, i < us.length → ∃ ad, a = some ad ∧ ad.block < w.heap.size ∧ w.cell? (ad.add i) = some (.int .u64 ((us.getD i 0 : Nat) : Int))
theorem UR.below {w w' : World} {a : Option Addr} {us : List Nat} {B : Nat} (h : UR w a us) (hb : Below B w w') (hB : w.heap.size ≤ B) : UR w' a us := by
  intro i hi
  obtain ⟨ad, rfl, hlt, hc⟩ := h i hi
  exact ⟨ad, rfl, Nat.lt_of_lt_of_le hlt hb.size, (hb.cell (by rw [add_block]; omega)).trans hc⟩
theorem UR.take {w : World} {a : Option Addr} {us : List Nat} (h : UR w a us) (m : Nat) : UR w a (us.take m) := by
  intro i hi
  rw [List.length_take] at hi
  obtain ⟨ad, ha, hlt, hc⟩ := h i (by omega)
  refine ⟨ad, ha, hlt, ?_⟩
  rw [hc, List.getD_eq_getElem?_getD, List.getD_eq_getElem?_getD, List.getElem?_take, if_pos (by omega)]
/-- The number that words are, the lowest first. -/
def wv : List Nat → Nat
  | [] => 0
  | x :: r => x + 18446744073709551616 * wv r
def Wrd (us : List Nat) : Prop := ∀ u ∈ us, u < 18446744073709551616
theorem wv_append (a b : List Nat) : wv (a ++ b) = wv a + 18446744073709551616 ^ a.length * wv b := by
  induction a with
  | nil => simp [wv]
  | cons x r ih => simp only [List.cons_append, wv, ih, List.length_cons, Nat.pow_succ]; rw [Nat.mul_add, ← Nat.mul_assoc, Nat.mul_comm (18446744073709551616 ^ r.length)]; omega
theorem take_succ_getD (us : List Nat) (k : Nat) (h : k < us.length) : us.take (k + 1) = us.take k ++ [us.getD k 0] := by
  rw [List.take_add_one, List.getD_eq_getElem?_getD, List.getElem?_eq_getElem h]; rfl
/-- How many words are left without the noughts behind them. -/
def tlen (us : List Nat) : Nat → Nat
  | 0 => 0
  | k + 1 => if us.getD k 0 = 0 then tlen us k else k + 1
theorem tlen_le (us : List Nat) : ∀ n, tlen us n ≤ n := by
  intro n; induction n with
  | zero => exact Nat.le_refl _
  | succ n ih => unfold tlen; split <;> omega
theorem tlen_wv (us : List Nat) : ∀ n, n ≤ us.length → wv (us.take (tlen us n)) = wv (us.take n) := by
  intro n; induction n with
  | zero => intro _; rfl
  | succ n ih =>
    intro h
    unfold tlen
    split
    · rename_i h0
      rw [ih (by omega), take_succ_getD us n (by omega), wv_append, h0]
      simp [wv]
    · rfl
theorem tlen_last (us : List Nat) : ∀ n, 0 < tlen us n → us.getD (tlen us n - 1) 0 ≠ 0 := by
  intro n; induction n with
  | zero => intro h; simp [tlen] at h
  | succ n ih =>
    unfold tlen
    split
    · exact ih
    · rename_i h0; intro _; simpa using h0
set_option maxRecDepth 100000 in
theorem cut_w (a : Option Addr) (n m cap : Nat) (h1 : m ≤ n) (h2 : n ≤ cap) (wx : World) : (Instr.slice 24 (.slice a n cap) none (some (.int .i64 (m : Int))) none).run Tryz.prog wx = .ok (.slice a m cap) wx := by
  refine (run_slice_h (P := Tryz.prog) (w := wx) 24 a n cap (by kernel_rfl) .i64 (m : Int) (by omega) (by omega)).trans ?_
  have hs : (sizeOf (Tryz.prog.elem 24)).run Tryz.prog wx = .ok 1 wx := by kernel_rfl
  rw [hs]
  simp only [Result.andThen, sliced, Nat.zero_mul, Nat.sub_zero, Int.toNat_natCast]
  congr 1
  split
  · rfl
  · cases a <;> rfl
/-- A number's one field. -/
def trimV (a : Option Addr) (c : Nat) (m : Nat) : Value := if m = 0 then .slice none 0 0 else .slice a m c
def natT : TypeId := 26
theorem res_nat {fn : Func} {p : Tmp} (h : fn.results = #[.cell p 26]) (tmps : Array Value) (w : World) (g : Nat) (v : Value) (hp : tmps.getD p undef = .pointer (some ⟨g, 0, none⟩)) (hg : Blk w g 26 #[v]) :
    (results fn tmps).run Tryz.prog w = .ok (.agg #[v]) w := results_cell_row h tmps w g 26 #[v] (0, 0) _ hp hg Tryz.underlying26 (by kernel_rfl) (by kernel_rfl)
def TrimIs (a : Option Addr) (c : Nat) (us : List Nat) (w : World) (e : Ending) (w' : World) : Prop :=
  e = .returned (.agg #[trimV a c (tlen us us.length)]) ∧ Below w.heap.size w w'
set_option maxRecDepth 100000 in
set_option maxHeartbeats 1000000 in
theorem trim_any (a : Option Addr) (c : Nat) (us : List Nat) (w : World) (hu : UR w a us) (hl : us.length ≤ 1000000) (hc : us.length ≤ c) :
    Calls Tryz.prog 53 #[.slice a us.length c] w (TrimIs a c us w) := by
  have HU := Lib.hid hu
  obtain ⟨n, hn⟩ : ∃ n, us.length = n := ⟨_, rfl⟩
  have HF : Hid (∀ w', Below w.heap.size w w' → TrimIs a c us w (.returned (.agg #[trimV a c (tlen us n)])) w') := Lib.hid (fun w' hb => by rw [← hn]; exact ⟨rfl, hb⟩)
  have Hn := Lib.hid hn
  rw [hn] at hl hc ⊢
  clear hu hn
  obtain ⟨W1, hW1⟩ : ∃ W1, w.alloc (.cells #[.slice none 0 0] 26) = W1 := ⟨_, rfl⟩
  have hk : Blk W1 w.heap.size 26 #[.slice none 0 0] := by rw [← hW1]; exact Blk.new w _ _
  have HB : Hid (Below w.heap.size w W1) := Lib.hid (by rw [← hW1]; exact (Below.refl _ _).alloc (Nat.le_refl _) _)
  have hk0 := hk.cell 0; have hkf := hk.frozen 0
  simp only [List.getElem?_toArray, List.getElem?_cons_zero] at hk0
  have HK := Lib.hid hk
  clear hk
  go_enter Tryz.func53, Tryz.ntmps53
  go_wp2_with fail
  clear hW1
  go_loop [3] (fun i => ∃ k : Nat, k ≤ n ∧ i = .int .i64 (k : Int) ∧ Hid (tlen us k = tlen us n)) (fun i => (intOf i).toNat)
  case atStart => exact ⟨n, by omega, rfl, Lib.hid rfl⟩
  case round =>
    obtain ⟨k, hkn, rfl, ht⟩ := hrel
    cases k with
    | zero =>
      have ht0 : Hid (tlen us n = 0) := Lib.hid (by rw [← ht.out]; rfl)
      go_wp2_with fail
      refine bodyPost_ret (res_nat rfl _ _ w.heap.size (.slice none 0 0) rfl (HK.out.set_ 0 _)) rfl ?_
      have := HF.out _ (HB.out.setCell (p := ⟨w.heap.size, 0, none⟩) (Nat.le_refl _) (.slice none 0 0))
      rw [ht0.out] at this
      exact this
    | succ k =>
      obtain ⟨ad, rfl, hadl, hcl⟩ := HU.out k (by rw [Hn.out]; omega)
      obtain ⟨x, hx⟩ : ∃ x : Int, ((us.getD k 0 : Nat) : Int) = x := ⟨_, rfl⟩
      rw [hx] at hcl
      have hcl1 : W1.cell? (ad.add k) = some (.int .u64 x) := (HB.out.cell (by rw [add_block]; exact hadl)).trans hcl
      have hk0i : (0 : Int) < ((k + 1 : Nat) : Int) := by omega
      have hki : ((k + 1 : Nat) : Int) - 1 = (k : Int) := by omega
      obtain ⟨z, hz⟩ : ∃ z : Int, ((k + 1 : Nat) : Int) = z := ⟨_, rfl⟩
      rw [hz] at hk0i hki ⊢
      have hz1 : z - 1 < (n : Int) := by omega
      by_cases hx0 : us.getD k 0 = 0
      · have hx1 : x = 0 := by omega
        subst hx1
        have ht1 : Hid (tlen us k = tlen us n) := Lib.hid (by rw [← ht.out]; simp only [tlen]; rw [if_pos hx0])
        go_wp2_with fail
        go_round
        case rel => exact ⟨k, by omega, by go_num, ht1⟩
        case measure => simp [intOf]; omega
      · have hx1 : (x == 0) = false := by simp; omega
        have ht1 : Hid (tlen us n = k + 1) := Lib.hid (by rw [← ht.out]; simp only [tlen]; rw [if_neg hx0])
        have hsl : ∀ wx, (Instr.slice 24 (.slice (some ad) n c) none (some (.int .i64 z)) none).run Tryz.prog wx = .ok (.slice (some ad) (k + 1) c) wx := fun wx => by rw [← hz]; exact cut_w (some ad) n (k + 1) c hkn hc wx
        have hz0 : ¬ z = 0 := by omega
        go_wp2_with fail
        refine bodyPost_ret (res_nat rfl _ _ w.heap.size (.slice (some ad) (k + 1) c) rfl (HK.out.set_ 0 _)) rfl ?_
        have := HF.out _ (HB.out.setCell (p := ⟨w.heap.size, 0, none⟩) (Nat.le_refl _) (.slice (some ad) (k + 1) c))
        rw [ht1.out] at this
        exact this
end Go.Proofs.YtllmacokhjmdgaaGreatDoor
