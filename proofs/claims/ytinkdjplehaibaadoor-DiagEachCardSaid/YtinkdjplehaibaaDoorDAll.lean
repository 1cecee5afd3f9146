/-
  diag: all reasons, as a list of the caller's own; how many; each.
-/
import Derived.Test.YtinkdjplehaibaaDoorDAdd
namespace Go.Proofs.YtinkdjplehaibaaDoor
open Go.RowKit
set_option linter.unusedVariables false
theorem row_cells {w : World} {b : Nat} {e : TypeId} {size g n cap : Nat} {xs : List Value} (h : w.ownsRow b e size (.slice (some ⟨g, 0, none⟩) n cap) n xs) : ∀ j u, xs[j]? = some u → w.cell? ((⟨g, 0, none⟩ : Addr).add j) = some u := by
  intro j u hu
  rcases h.2 with ⟨hv, _⟩ | ⟨g', cap', cur, hv, hbg, hg, hnc, _, hsz, htk⟩
  · cases hv
  · cases hv
    have e2 : (⟨g, 0, none⟩ : Addr).add j = ⟨g, j, none⟩ := by unfold Addr.add; split <;> simp_all
    have hj : j < n * size := by rw [← h.1]; exact (List.getElem?_eq_some_iff.1 hu).1
    rw [← htk, List.getElem?_take, if_pos hj] at hu
    rw [e2, cell_of_row w g j cur e (0, 0) hg, ← Array.getElem?_toList]
    exact hu
/-- The row of a list of reasons, in blocks from B on. -/
def RD (B : Nat) (w : World) (v : Value) (ds : List Dg) : Prop := w.ownsRow B 40 3 v ds.length (dgs ds)
def ClIs (ds : List Dg) (w : World) (e : Ending) (w' : World) : Prop := ∃ v, e = .returned v ∧ RD w.heap.size w' v ds ∧ Below w.heap.size w w'
set_option maxRecDepth 100000 in
set_option maxHeartbeats 1000000 in
theorem clone_any (n0 : Nat) (ds : List Dg) (v : Value) (w : World) (hl : ds.length ≤ 100) (ho : RD n0 w v ds) :
    Calls Tryd.prog 24 #[v] w (ClIs ds w) := by
  obtain ⟨i0, hi, hz0, hz1, hz2⟩ := info_parts Tryd.infoD
  rcases ho.2 with ⟨rfl, h0⟩ | ⟨g, cap, cur, rfl, hg⟩
  · have hd : ds = [] := List.eq_nil_of_length_eq_zero h0
    subst hd
    clear ho h0
    have hnil : ∀ wx, (binOp .eql 22 (.slice none 0 0) (.slice none 0 0)).run Tryd.prog wx = .ok (.bool true) wx := fun wx => (Lib.run_eql_slice_nil wx 22 40 none 0 0 0 0 Tryd.underlying22).trans rfl
    go_enter Tryd.func24, Tryd.ntmps24
    go_wp2
    go_ret
    exact ⟨_, rfl, World.ownsRow_nil _ _ _ _, Below.refl _ _⟩
  · have Hc := Lib.hid (row_cells ho)
    have Hw : Hid (∀ j u, (dgs ds)[j]? = some u → (w.alloc (.cells #[] 40)).cell? ((⟨g, 0, none⟩ : Addr).add j) = some u) := Lib.hid (fun j u hu => by
      have h1 := Hc.out j u hu
      have := World.block_lt_of_cell? w _ h1
      exact (((Below.refl _ w).alloc (Nat.le_refl _) _).cell this).trans h1)
    have Ho : Hid ((w.alloc (.cells #[] 40)).ownsRow w.heap.size 40 3 (.slice (some ⟨w.heap.size, 0, none⟩) 0 0) 0 []) := Lib.hid ⟨rfl, .inr ⟨_, 0, #[], rfl, Nat.le_refl _, World.alloc_heap_new w _, Nat.le_refl _, by unfold maxLen; omega, rfl, rfl⟩⟩
    clear hg ho Hc
    have hnil : ∀ wx, (binOp .eql 22 (.slice (some ⟨g, 0, none⟩) ds.length cap) (.slice none 0 0)).run Tryd.prog wx = .ok (.bool false) wx := fun wx => (Lib.run_eql_slice_nil wx 22 40 _ _ _ 0 0 Tryd.underlying22).trans rfl
    go_enter Tryd.func24, Tryd.ntmps24
    go_wp2_with (at_builtin; refine wpList_append_own _ rfl (.tmp 5) (.tmp 6) 22 rfl w.heap.size 40 i0 (.agg #[.int .i64 0, .int .i64 0, .string ⟨#[]⟩]) 3 32 Tryd.underlying22 hi hz0 hz1 hz2 rfl (by decide) (.slice (some ⟨w.heap.size, 0, none⟩) 0 0) 0 [] rfl Ho.out ⟨g, 0, none⟩ ds.length cap (dgs ds) rfl (dgs_len ds) Hw.out (dgs_one ds) ?c1 ?c2 ?c3 ?_)
    case c1 => unfold maxLen; omega
    case c2 => omega
    case c3 => simp
    intro v' W' ho' hg' _
    have HR : Hid (RD w.heap.size W' v' ds) := Lib.hid ho'
    have HB : Hid (Below w.heap.size w W') := Lib.hid (((Below.refl _ w).alloc (Nat.le_refl _) _).grown hg' (by simp) (fun k hk => by
      have : w.heap.size = k := by simpa [Value.ownBlock] using hk
      omega))
    clear ho' hg'
    go_wp2
    go_ret
    exact ⟨_, rfl, HR.out, HB.out⟩
/-- The pointer p stands for a list with the reasons ds: nil, or a list in memory. -/
def IsP (n0 : Nat) (w : World) (p : Value) (ds : List Dg) : Prop := (p = .pointer none ∧ ds = []) ∨ ∃ x, p = .pointer (some ⟨x, 0, none⟩) ∧ IsL n0 w x ds
theorem IsP.len {n0 : Nat} {w : World} {p : Value} {ds : List Dg} (h : IsP n0 w p ds) : ds.length ≤ 100 := by
  rcases h with ⟨_, rfl⟩ | ⟨x, _, h⟩
  · simp
  · exact h.2.1
theorem IsP.kept {n0 : Nat} {w w' : World} {p : Value} {ds : List Dg} (h : IsP n0 w p ds) (hb : Below w.heap.size w w') : IsP n0 w' p ds := by
  rcases h with h | ⟨x, hp, h⟩
  · exact .inl h
  · exact .inr ⟨x, hp, h.kept hb⟩
set_option maxHeartbeats 1000000 in
theorem all_any (n0 : Nat) (ds : List Dg) (p : Value) (w : World) (h : IsP n0 w p ds) :
    Calls Tryd.prog 12 #[p] w (ClIs ds w) := by
  rcases h with ⟨rfl, rfl⟩ | ⟨x, rfl, hx, hl, v, hb, ho⟩
  · go_enter Tryd.func12, Tryd.ntmps12
    go_wp2
    go_ret
    exact ⟨_, rfl, World.ownsRow_nil _ _ _ _, Below.refl _ _⟩
  · have bc := hb.cell
    have Ho := Lib.hid (show RD n0 w v ds from ho)
    obtain ⟨va, vc, rfl⟩ : ∃ va vc, v = .slice va ds.length vc := by
      rcases ho.2 with ⟨rfl, h0⟩ | ⟨g, cap, cur, rfl, _⟩
      · exact ⟨none, 0, by rw [h0]⟩
      · exact ⟨_, _, rfl⟩
    clear ho hb
    go_enter Tryd.func12, Tryd.ntmps12
    go_wp2_with fail
    refine (clone_any n0 ds _ w hl Ho.out).mono ?_
    rintro e w1 ⟨v', rfl, hr, hb⟩
    have HR := Lib.hid hr
    have HB := Lib.hid hb
    clear hr hb
    go_wp2
    go_ret
    exact ⟨_, rfl, HR.out, HB.out⟩
set_option maxHeartbeats 1000000 in
theorem len_any (n0 : Nat) (ds : List Dg) (p : Value) (w : World) (h : IsP n0 w p ds) :
    Calls Tryd.prog 16 #[p] w fun e w' => e = .returned (.int .i64 (ds.length : Int)) ∧ w = w' := by
  rcases h with ⟨rfl, rfl⟩ | ⟨x, rfl, hx, hl, v, hb, ho⟩
  · go_enter Tryd.func16, Tryd.ntmps16
    go_wp2
    go_ret
    exact ⟨rfl, rfl⟩
  · have bc := hb.cell
    obtain ⟨va, vc, rfl⟩ : ∃ va vc, v = .slice va ds.length vc := by
      rcases ho.2 with ⟨rfl, h0⟩ | ⟨g, cap, cur, rfl, _⟩
      · exact ⟨none, 0, by rw [h0]⟩
      · exact ⟨_, _, rfl⟩
    clear ho hb
    go_enter Tryd.func16, Tryd.ntmps16
    go_wp2
    go_ret
    exact ⟨rfl, rfl⟩
set_option maxHeartbeats 1000000 in
theorem add_none (c a : Int) (s : ByteArray) (w : World) :
    Calls Tryd.prog 7 #[.pointer none, .int .i64 c, .int .i64 a, .string s] w fun e w' => (∃ v, e = .returned v) ∧ w = w' := by
  go_enter Tryd.func7, Tryd.ntmps7
  go_wp2
  refine bodyPost_ret (results_none rfl _ _ _) rfl ?_
  exact ⟨⟨_, rfl⟩, rfl⟩
set_option maxHeartbeats 1000000 in
theorem each_any (p : Option Addr) (w : World) :
    Calls Tryd.prog 19 #[.pointer p] w fun e w' => e = .returned (.func (.func 53) #[] #[.pointer (some ⟨w.heap.size, 0, none⟩)]) ∧ w.alloc (.cells #[.pointer p] 25) = w' := by
  go_enter Tryd.func19, Tryd.ntmps19
  go_wp2
  go_ret
  exact ⟨rfl, rfl⟩
end Go.Proofs.YtinkdjplehaibaaDoor
