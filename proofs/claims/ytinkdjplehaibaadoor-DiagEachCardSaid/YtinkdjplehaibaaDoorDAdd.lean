/-
  diag: one more reason.
-/
import Derived.Test.YtinkdjplehaibaaDoorDBase
import Derived.WalkKit
import Derived.WalkSpells
namespace Go.Proofs.YtinkdjplehaibaaDoor
open Go.RowKit
set_option linter.unusedVariables false
theorem push_dg {ops : Array Oper} {rest : List Oper} {o : Oper} {a : Act} {Q : Exit → Act → World → Prop} (hgd : o.guard = none) (s x : Operand)
    (ho : o.op = .call { callee := .builtin .append, args := #[s, x], argTypes := #[22, 22] }) (B : Nat) (W : World) (v : Value) (l : List Dg) (p : Dg) (cs : Array Value) (hcs : cs.toList = p.cells)
    (hs : a.eval s = v) (hown : W.ownsRow B 40 3 v l.length (dgs l)) (hB : B ≤ W.heap.size) (g : Nat) (hgW : W.heap.size = g) (hx : a.eval x = .slice (some ⟨g, 0, none⟩) 1 1) (hlen : l.length ≤ 1000000)
    (h : ∀ v' W', W'.ownsRow B 40 3 v' (l ++ [p]).length (dgs (l ++ [p])) → (W.alloc (.cells cs 40)).grownBy W' v.ownBlock → Below B W W' → wpList Tryd.prog ops Q rest (a.put o.dst v') W') :
    wpList Tryd.prog ops Q (o :: rest) a (W.alloc (.cells cs 40)) := by
  obtain ⟨i0, hi, hz0, hz1, hz2⟩ := info_parts Tryd.infoD
  subst hgW
  have hl := hown.lt
  have hc : ∀ j, (W.alloc (.cells cs 40)).cell? ⟨W.heap.size, j, none⟩ = cs[j]? := fun j => (Blk.new W 40 cs).cell j
  have hB' : B ≤ (W.alloc (.cells cs 40)).heap.size := by simp; omega
  refine wpList_append_own _ hgd s x 22 ho B 40 i0 (.agg #[.int .i64 0, .int .i64 0, .string ⟨#[]⟩]) 3 32 Tryd.underlying22 hi hz0 hz1 hz2 rfl (by decide) v l.length _ hs (hown.alloc _) ⟨W.heap.size, 0, none⟩ 1 1 p.cells hx rfl ?_ ?_ ?_ ?_ hB' ?_
  · intro j u hj
    have e : (⟨W.heap.size, 0, none⟩ : Addr).add j = ⟨W.heap.size, j, none⟩ := by unfold Addr.add; split <;> simp_all
    rw [e, hc, ← hj, ← hcs, Array.getElem?_toList]
  · intro u hu; simp [Dg.cells] at hu; rcases hu with rfl | rfl | rfl <;> rfl
  · unfold maxLen; omega
  · omega
  · intro v' W' hown' hg _
    refine h v' W' ?_ hg (((Below.refl B W).alloc hB _).grown hg hB' (fun k hk => (hl k hk).1))
    rw [dgs_snoc, List.length_append]
    exact hown'
theorem isL_push {n0 : Nat} {w w' W : World} {x : Nat} {ds : List Dg} {v v' : Value} {d : Dg} (hx : n0 ≤ x) (hl : ds.length < 100) (hb : Boxed w x 27 v) (ho : w.ownsRow n0 40 3 v ds.length (dgs ds)) {tmp : Obj} (hg : (w.alloc tmp).grownBy w' v.ownBlock) (ho' : w'.ownsRow n0 40 3 v' (ds.length + 1) (dgs (ds ++ [d]))) (hW : w'.setCell ⟨x, 0, none⟩ v' = W) : IsL n0 W x (ds ++ [d]) := by
  subst hW
  have hb1 : Boxed w' x 27 v := (hb.alloc tmp).kept hg (hb.not_row (by decide) ho)
  exact ⟨hx, by simp; omega, v', hb1.set v', by rw [List.length_append]; exact own_set ho' hb1 (by decide) 0 v'⟩
set_option maxRecDepth 100000 in
set_option maxHeartbeats 1000000 in
theorem add_any (n0 x : Nat) (ds : List Dg) (c a : Int) (s : ByteArray) (w : World) (hL : IsL n0 w x ds) (hn : n0 ≤ w.heap.size) (hs : s.size ≤ maxLen) :
    Calls Tryd.prog 7 #[.pointer (some ⟨x, 0, none⟩), .int .i64 c, .int .i64 a, .string s] w fun e w' => (∃ v, e = .returned v) ∧ IsL n0 w' x (dadd ds c a s) ∧ Below n0 w w' := by
  obtain ⟨hx, hlen, v, hb, ho⟩ := hL
  unfold maxLen at hs
  have hv : ∃ va vc, v = .slice va ds.length vc := by
    rcases ho.2 with ⟨rfl, h0⟩ | ⟨g, cap, cur, rfl, _⟩
    · exact ⟨none, 0, by rw [h0]⟩
    · exact ⟨_, _, rfl⟩
  obtain ⟨va, vc, rfl⟩ := hv
  have bc := hb.cell
  have bf := hb.frozen
  by_cases hc0 : c = 0
  · have hd : dadd ds c a s = ds := by unfold dadd; rw [if_pos (.inl hc0)]
    rw [hd]
    subst hc0
    have HL : Hid (IsL n0 w x ds) := Lib.hid ⟨hx, hlen, _, hb, ho⟩
    go_enter Tryd.func7, Tryd.ntmps7
    go_wp2
    refine bodyPost_ret (results_none rfl _ _ _) rfl ?_
    exact ⟨⟨_, rfl⟩, HL.out, Below.refl _ _⟩
  · have hcb : (c == 0) = false := by simp [hc0]
    by_cases h100 : (100 : Int) ≤ (ds.length : Int)
    · have hd : dadd ds c a s = ds := by unfold dadd; rw [if_pos (.inr (by omega))]
      rw [hd]
      have HL : Hid (IsL n0 w x ds) := Lib.hid ⟨hx, hlen, _, hb, ho⟩
      go_enter Tryd.func7, Tryd.ntmps7
      go_wp2
      refine bodyPost_ret (results_none rfl _ _ _) rfl ?_
      exact ⟨⟨_, rfl⟩, HL.out, Below.refl _ _⟩
    · have hd : dadd ds c a s = ds ++ [⟨c, max a 0, s.extract 0 (min s.size 60)⟩] := by unfold dadd; rw [if_neg (by omega)]
      rw [hd]
      have hl100 : ds.length < 100 := by omega
      have Hb := Lib.hid hb
      have Ho := Lib.hid ho
      clear hb ho hd
      by_cases h60 : (s.size : Int) ≤ 60
      · have hS : s.extract 0 (min s.size 60) = s := by rw [Nat.min_eq_left (by omega)]; exact ByteArray.extract_zero_size
        rw [hS]
        by_cases h0a : (0 : Int) ≤ a
        · rw [Int.max_eq_left h0a]
          go_enter Tryd.func7, Tryd.ntmps7
          go_wp2_with (at_builtin; refine push_dg rfl (.tmp 31) (.tmp 37) rfl n0 _ _ ds ⟨c, a, s⟩ _ rfl rfl Ho.out hn _ rfl rfl (by omega) ?_)
          intro v' W' ho' hg' hb'
          obtain ⟨gv, cv, hvv⟩ := ownsRow_succ ho'
          subst hvv
          have hb1 : Boxed W' x 27 (.slice va ds.length vc) := (Hb.out.alloc _).kept hg' (Hb.out.not_row (by decide) Ho.out)
          have bc1 := hb1.cell
          have bf1 := hb1.frozen
          have HO := Lib.hid ho'
          have HG := Lib.hid hg'
          have HB := Lib.hid hb'
          clear ho' hg' hb' hb1
          go_wp2
          go_end0
          exact ⟨⟨_, rfl⟩, isL_push hx hl100 Hb.out Ho.out HG.out HO.out rfl, HB.out.setCell (p := ⟨x, 0, none⟩) hx _⟩
        · rw [Int.max_eq_right (by omega)]
          go_enter Tryd.func7, Tryd.ntmps7
          go_wp2_with (at_builtin; refine push_dg rfl (.tmp 31) (.tmp 37) rfl n0 _ _ ds ⟨c, 0, s⟩ _ rfl rfl Ho.out hn _ rfl rfl (by omega) ?_)
          intro v' W' ho' hg' hb'
          obtain ⟨gv, cv, hvv⟩ := ownsRow_succ ho'
          subst hvv
          have hb1 : Boxed W' x 27 (.slice va ds.length vc) := (Hb.out.alloc _).kept hg' (Hb.out.not_row (by decide) Ho.out)
          have bc1 := hb1.cell
          have bf1 := hb1.frozen
          have HO := Lib.hid ho'
          have HG := Lib.hid hg'
          have HB := Lib.hid hb'
          clear ho' hg' hb' hb1
          go_wp2
          go_end0
          exact ⟨⟨_, rfl⟩, isL_push hx hl100 Hb.out Ho.out HG.out HO.out rfl, HB.out.setCell (p := ⟨x, 0, none⟩) hx _⟩
      · have hS : min s.size 60 = 60 := by omega
        rw [hS]
        by_cases h0a : (0 : Int) ≤ a
        · rw [Int.max_eq_left h0a]
          go_enter Tryd.func7, Tryd.ntmps7
          go_wp2_with (at_builtin; refine push_dg rfl (.tmp 31) (.tmp 37) rfl n0 _ _ ds ⟨c, a, s.extract 0 60⟩ _ rfl rfl Ho.out hn _ rfl rfl (by omega) ?_)
          intro v' W' ho' hg' hb'
          obtain ⟨gv, cv, hvv⟩ := ownsRow_succ ho'
          subst hvv
          have hb1 : Boxed W' x 27 (.slice va ds.length vc) := (Hb.out.alloc _).kept hg' (Hb.out.not_row (by decide) Ho.out)
          have bc1 := hb1.cell
          have bf1 := hb1.frozen
          have HO := Lib.hid ho'
          have HG := Lib.hid hg'
          have HB := Lib.hid hb'
          clear ho' hg' hb' hb1
          go_wp2
          go_end0
          exact ⟨⟨_, rfl⟩, isL_push hx hl100 Hb.out Ho.out HG.out HO.out rfl, HB.out.setCell (p := ⟨x, 0, none⟩) hx _⟩
        · rw [Int.max_eq_right (by omega)]
          go_enter Tryd.func7, Tryd.ntmps7
          go_wp2_with (at_builtin; refine push_dg rfl (.tmp 31) (.tmp 37) rfl n0 _ _ ds ⟨c, 0, s.extract 0 60⟩ _ rfl rfl Ho.out hn _ rfl rfl (by omega) ?_)
          intro v' W' ho' hg' hb'
          obtain ⟨gv, cv, hvv⟩ := ownsRow_succ ho'
          subst hvv
          have hb1 : Boxed W' x 27 (.slice va ds.length vc) := (Hb.out.alloc _).kept hg' (Hb.out.not_row (by decide) Ho.out)
          have bc1 := hb1.cell
          have bf1 := hb1.frozen
          have HO := Lib.hid ho'
          have HG := Lib.hid hg'
          have HB := Lib.hid hb'
          clear ho' hg' hb' hb1
          go_wp2
          go_end0
          exact ⟨⟨_, rfl⟩, isL_push hx hl100 Hb.out Ho.out HG.out HO.out rfl, HB.out.setCell (p := ⟨x, 0, none⟩) hx _⟩
end Go.Proofs.YtinkdjplehaibaaDoor
