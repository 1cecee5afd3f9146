/-
  The walk of TruthTells: for every truths and every one it returns true, and leaves what lay in memory as it was.
-/
import Derived.Test.YtdpnkncibimamaaDoorAlive13
namespace Go.Proofs.YtdpnkncibimamaaDoor
open Go.RowKit
/-- What is known of the slice that came in: it is nil, or it leads to a row of cap cells, the numbers zs. -/
def truthTells.IsRow (k : IntKind) (w : World) (a : Option Addr) (len cap : Nat) (zs : List Int) : Prop :=
  (a = none ∧ len = 0 ∧ cap = 0 ∧ zs = []) ∨
  ∃ x, a = some x ∧ len ≤ cap ∧ cap ≤ maxLen ∧ zs.length = cap ∧ (∀ i, i < zs.length → w.cell? (x.add i) = some (.int k (zs.getD i 0))) ∧ ∀ n ∈ zs, (Lit.int k n).wf = true
theorem isRow_ir {w : World} {a : Option Addr} {len cap : Nat} {z : List Int} (h : truthTells.IsRow .i64 w a len cap z) : ∃ zs : List Int, zs.length = len ∧ IR w a zs := by
  rcases h with ⟨rfl, rfl, _, _⟩ | ⟨x, rfl, hl, _, hz, hc, _⟩
  · exact ⟨[], rfl, ir_nil _ _⟩
  · refine ⟨z.take len, by simp; omega, fun i hi => ?_⟩
    have hi' : i < z.length ∧ i < len := by simp at hi; omega
    have hci := hc i hi'.1
    have hb : (x.add i).block = x.block := by unfold Addr.add; split <;> rfl
    refine ⟨x, rfl, by rw [← hb]; exact World.block_lt_of_cell? w _ hci, ?_⟩
    rw [hci, List.getD_eq_getElem?_getD, List.getD_eq_getElem?_getD, List.getElem?_take, if_pos hi'.2]
theorem lent_any (a : Option Addr) (c : Nat) (zs : List Int) (w : World) (hz : zs.length ≤ 1000) (hn : a = none → zs = [] ∧ c = 0) (ha : IR w a zs) :
    Calls Tryd.prog 6 #[.slice a zs.length c] w (LentIs zs w) := by
  cases a with
  | none => obtain ⟨rfl, rfl⟩ := hn rfl; exact lent_none w
  | some ad => exact lent_some ad c zs w hz ha
theorem IR.front {w : World} {a : Option Addr} {zs : List Int} (h : IR w a (zs ++ [-77])) : IR w a zs := fun i hi => by
  obtain ⟨ad, e, h1, h2⟩ := h i (by simp; omega)
  refine ⟨ad, e, h1, ?_⟩
  rw [h2, List.getD_eq_getElem?_getD, List.getD_eq_getElem?_getD, List.getElem?_append_left hi]
set_option maxRecDepth 100000 in
set_option maxHeartbeats 4000000 in
theorem truthTells.walk (a0 : Option Addr) (len0 cap0 : Nat) (z0 : List Int) (a1 : Int) (w : World) (w0 : truthTells.IsRow .i64 w a0 len0 cap0 z0) (w1 : (Lit.int .i64 a1).wf = true) :
    Calls Tryd.prog 3 #[.slice a0 len0 cap0, .int .i64 a1] w fun e w' => e = .returned (.bool true) ∧ Below w.heap.size w w' := by
  clear w1
  by_cases h0 : 60 < len0
  · clear w0
    go_enter Tryd.func3, Tryd.ntmps3
    go_wp2_with fail
    refine (alive_any _).mono ?_
    rintro e w1 ⟨rfl, hb⟩
    go_wp2
    go_ret
    exact ⟨rfl, hb⟩
  · have hnil : a0 = none → len0 = 0 ∧ cap0 = 0 := fun e => by
      rcases w0 with ⟨_, h1, h2, _⟩ | ⟨x, h1, _⟩
      · exact ⟨h1, h2⟩
      · rw [e] at h1; cases h1
    obtain ⟨zs, rfl, hir⟩ := isRow_ir w0
    clear w0
    have hz : zs.length ≤ 1000 := by omega
    have HL := Lib.hid (lent_any a0 cap0 zs w hz (fun e => ⟨List.eq_nil_of_length_eq_zero (hnil e).1, (hnil e).2⟩) hir)
    have Hir := Lib.hid hir
    clear hir hnil
    have hnot : Hid (∀ w, Calls Tryd.prog 12 #[.int .i64 a1] w fun e w' => e = .returned (.int .i64 (notM a1)) ∧ w = w') := Lib.hid (fun w => not_any a1 w)
    rcases (show a1 = 0 ∨ a1 = 1 ∨ (a1 ≠ 0 ∧ a1 ≠ 1) from by omega) with rfl | rfl | ⟨g0, g1⟩
    · have hn : Hid (notM 0 = 1) := Lib.hid rfl
      go_enter Tryd.func3, Tryd.ntmps3
      go_wp2_with fail
      refine HL.out.mono ?_
      rintro e w1 ⟨g, cap, rfl, hcap, him, b1⟩
      have Him := Lib.hid him
      clear him
      go_wp2_with fail
      refine (alive_any _).mono ?_
      rintro e w2 ⟨rfl, b2⟩
      have c2 := b1.trans (b2.mono b1.size)
      have Hm := Lib.hid (Him.out.below b2)
      have Hl := Lib.hid (Hir.out.below c2)
      clear b1 b2 Him
      go_wp2_with fail
      refine (and_any _ _ zs _ hz Hm.out.front).mono ?_
      rintro e w' ⟨rfl, rfl⟩
      rw [show ruledM 0 zs = foldM 0 zs from rfl]
      go_wp2_with fail
      refine (fold_0 _ _ zs _ hz Hl.out).mono ?_
      rintro e w' ⟨rfl, rfl⟩
      go_wp2_with fail
      refine (or_any _ _ zs _ hz Hm.out.front).mono ?_
      rintro e w' ⟨rfl, rfl⟩
      rw [show ruledM 1 zs = foldM 1 zs from rfl]
      go_wp2_with fail
      refine (fold_1 _ _ zs _ hz Hl.out).mono ?_
      rintro e w' ⟨rfl, rfl⟩
      go_wp2_with fail
      refine (xor_any _ _ zs _ hz Hm.out.front).mono ?_
      rintro e w' ⟨rfl, rfl⟩
      rw [show xorM zs = foldM 2 zs from rfl]
      go_wp2_with fail
      refine (fold_2 _ _ zs _ hz Hl.out).mono ?_
      rintro e w' ⟨rfl, rfl⟩
      go_wp2_with fail
      refine (first_any _ _ zs _ hz Hm.out.front).mono ?_
      rintro e w' ⟨rfl, rfl⟩
      rw [show firstM zs = foldM 3 zs from rfl]
      go_wp2_with fail
      refine (fold_3 _ _ zs _ hz Hl.out).mono ?_
      rintro e w' ⟨rfl, rfl⟩
      go_wp2_with fail
      refine (hnot.out _).mono ?_
      rintro e w' ⟨rfl, rfl⟩
      rw [hn.out]
      go_wp2_with fail
      refine (stays_any g a0 cap cap0 zs _ hz hcap Hm.out Hl.out).mono ?_
      rintro e w3 ⟨rfl, n, rfl⟩
      go_wp2
      go_ret
      exact ⟨rfl, below_drewN c2 n⟩
    · have hn : Hid (notM 1 = 0) := Lib.hid rfl
      go_enter Tryd.func3, Tryd.ntmps3
      go_wp2_with fail
      refine HL.out.mono ?_
      rintro e w1 ⟨g, cap, rfl, hcap, him, b1⟩
      have Him := Lib.hid him
      clear him
      go_wp2_with fail
      refine (alive_any _).mono ?_
      rintro e w2 ⟨rfl, b2⟩
      have c2 := b1.trans (b2.mono b1.size)
      have Hm := Lib.hid (Him.out.below b2)
      have Hl := Lib.hid (Hir.out.below c2)
      clear b1 b2 Him
      go_wp2_with fail
      refine (and_any _ _ zs _ hz Hm.out.front).mono ?_
      rintro e w' ⟨rfl, rfl⟩
      rw [show ruledM 0 zs = foldM 0 zs from rfl]
      go_wp2_with fail
      refine (fold_0 _ _ zs _ hz Hl.out).mono ?_
      rintro e w' ⟨rfl, rfl⟩
      go_wp2_with fail
      refine (or_any _ _ zs _ hz Hm.out.front).mono ?_
      rintro e w' ⟨rfl, rfl⟩
      rw [show ruledM 1 zs = foldM 1 zs from rfl]
      go_wp2_with fail
      refine (fold_1 _ _ zs _ hz Hl.out).mono ?_
      rintro e w' ⟨rfl, rfl⟩
      go_wp2_with fail
      refine (xor_any _ _ zs _ hz Hm.out.front).mono ?_
      rintro e w' ⟨rfl, rfl⟩
      rw [show xorM zs = foldM 2 zs from rfl]
      go_wp2_with fail
      refine (fold_2 _ _ zs _ hz Hl.out).mono ?_
      rintro e w' ⟨rfl, rfl⟩
      go_wp2_with fail
      refine (first_any _ _ zs _ hz Hm.out.front).mono ?_
      rintro e w' ⟨rfl, rfl⟩
      rw [show firstM zs = foldM 3 zs from rfl]
      go_wp2_with fail
      refine (fold_3 _ _ zs _ hz Hl.out).mono ?_
      rintro e w' ⟨rfl, rfl⟩
      go_wp2_with fail
      refine (hnot.out _).mono ?_
      rintro e w' ⟨rfl, rfl⟩
      rw [hn.out]
      go_wp2_with fail
      refine (stays_any g a0 cap cap0 zs _ hz hcap Hm.out Hl.out).mono ?_
      rintro e w3 ⟨rfl, n, rfl⟩
      go_wp2
      go_ret
      exact ⟨rfl, below_drewN c2 n⟩
    · have hn : Hid (notM a1 = 2) := Lib.hid (by unfold notM; rw [if_neg g0, if_neg g1])
      have t0 : (a1 == 0) = false := beq_eq_false_iff_ne.2 g0
      have t1 : (a1 == 1) = false := beq_eq_false_iff_ne.2 g1
      clear g0 g1
      go_enter Tryd.func3, Tryd.ntmps3
      go_wp2_with fail
      refine HL.out.mono ?_
      rintro e w1 ⟨g, cap, rfl, hcap, him, b1⟩
      have Him := Lib.hid him
      clear him
      go_wp2_with fail
      refine (alive_any _).mono ?_
      rintro e w2 ⟨rfl, b2⟩
      have c2 := b1.trans (b2.mono b1.size)
      have Hm := Lib.hid (Him.out.below b2)
      have Hl := Lib.hid (Hir.out.below c2)
      clear b1 b2 Him
      go_wp2_with fail
      refine (and_any _ _ zs _ hz Hm.out.front).mono ?_
      rintro e w' ⟨rfl, rfl⟩
      rw [show ruledM 0 zs = foldM 0 zs from rfl]
      go_wp2_with fail
      refine (fold_0 _ _ zs _ hz Hl.out).mono ?_
      rintro e w' ⟨rfl, rfl⟩
      go_wp2_with fail
      refine (or_any _ _ zs _ hz Hm.out.front).mono ?_
      rintro e w' ⟨rfl, rfl⟩
      rw [show ruledM 1 zs = foldM 1 zs from rfl]
      go_wp2_with fail
      refine (fold_1 _ _ zs _ hz Hl.out).mono ?_
      rintro e w' ⟨rfl, rfl⟩
      go_wp2_with fail
      refine (xor_any _ _ zs _ hz Hm.out.front).mono ?_
      rintro e w' ⟨rfl, rfl⟩
      rw [show xorM zs = foldM 2 zs from rfl]
      go_wp2_with fail
      refine (fold_2 _ _ zs _ hz Hl.out).mono ?_
      rintro e w' ⟨rfl, rfl⟩
      go_wp2_with fail
      refine (first_any _ _ zs _ hz Hm.out.front).mono ?_
      rintro e w' ⟨rfl, rfl⟩
      rw [show firstM zs = foldM 3 zs from rfl]
      go_wp2_with fail
      refine (fold_3 _ _ zs _ hz Hl.out).mono ?_
      rintro e w' ⟨rfl, rfl⟩
      go_wp2_with fail
      refine (hnot.out _).mono ?_
      rintro e w' ⟨rfl, rfl⟩
      rw [hn.out]
      go_wp2_with fail
      refine (stays_any g a0 cap cap0 zs _ hz hcap Hm.out Hl.out).mono ?_
      rintro e w3 ⟨rfl, n, rfl⟩
      go_wp2
      go_ret
      exact ⟨rfl, below_drewN c2 n⟩
end Go.Proofs.YtdpnkncibimamaaDoor
