/-
  The statements' own helpers: a list with room behind it, in which a mark stands; is it as it was?
-/
import Derived.Test.YtdpnkncibimamaaDoorTruth
import Derived.Maps.AppendAt
import Derived.Deep.AppendLies
import Derived.Deep.QuietTactic
import Derived.BigQuiet
import Derived.RangeFuncBox
import Derived.Outline
namespace Go.Proofs.YtdpnkncibimamaaDoor
open Go.RowKit
theorem Tryd.infoI : (Tryd.prog.info? 3).map (fun i => (i.zero, i.size, i.bytes)) = some (some (.int .i64 0), 1, 8) := by kernel_rfl
set_option maxRecDepth 100000 in
set_option maxHeartbeats 1000000 in
theorem same_any (a b : Option Addr) (c d : Nat) (zs : List Int) (w : World) (hz : zs.length ≤ 1000) (ha : IR w a zs) (hb : IR w b zs) :
    Calls Tryd.prog 18 #[.slice a zs.length c, .slice b zs.length d] w fun e w' => e = .returned (.bool true) ∧ ∃ n, w' = w.drewN n := by
  have Ha := Lib.hid ha; have Hb := Lib.hid hb
  clear ha hb
  go_enter Tryd.func18, Tryd.ntmps18
  go_wp2
  go_loopw [5] (fun i wr => ∃ k n : Nat, k ≤ zs.length ∧ i = .int .i64 k ∧ wr = w.drewN n) (fun i _ => zs.length - (intOf i).toNat)
  case atStart => exact ⟨0, 0, by omega, rfl, rfl⟩
  case round =>
    obtain ⟨k, n, hk, rfl, rfl⟩ := hrel
    by_cases hlt : k < zs.length
    · obtain ⟨x, rfl, _, hx⟩ := Ha.out k hlt
      obtain ⟨y, rfl, _, hy⟩ := Hb.out k hlt
      have hi0 : (0 : Int) ≤ (k : Int) := by omega
      have hi1 : (k : Int) < (zs.length : Int) := by omega
      go_wp2
      go_quiet (fail)
      go_wp2
      go_roundw
      case rel => exact ⟨k + 1, _, by omega, by go_num, rfl⟩
      case measure => simp [intOf]; omega
    · go_wp2
      go_ret
      exact ⟨rfl, n, rfl⟩
set_option maxRecDepth 100000 in
theorem cut_run (g n m cap : Nat) (h1 : m ≤ n) (h2 : n ≤ cap) (h3 : 0 < cap) (wx : World) : (Instr.slice 22 (.slice (some ⟨g, 0, none⟩) n cap) none (some (.int .i64 (m : Int))) none).run Tryd.prog wx = .ok (.slice (some ⟨g, 0, none⟩) m cap) wx := by
  refine (run_slice_h (P := Tryd.prog) (w := wx) 22 (some ⟨g, 0, none⟩) n cap (by kernel_rfl) .i64 (m : Int) (by omega) (by omega)).trans ?_
  have hs : (sizeOf (Tryd.prog.elem 22)).run Tryd.prog wx = .ok 1 wx := by kernel_rfl
  rw [hs]
  simp only [Result.andThen, sliced, Nat.zero_mul, Nat.sub_zero, Int.toNat_natCast]
  congr 1
  rw [if_neg (by omega)]; rfl
/-- What a row of the call's own holds. -/
theorem ir_own {w : World} {b n c : Nat} {a : Option Addr} {zs : List Int} (h : w.ownsRow b 3 1 (.slice a n c) n (zs.map (.int .i64 ·))) (hn : n = zs.length) : IR w a zs := by
  intro i hi
  obtain ⟨g, cap, hv, _, hlt⟩ := h.form (by omega)
  have hA : a = some ⟨g, 0, none⟩ := by injection hv
  subst hA
  refine ⟨_, rfl, hlt, ?_⟩
  have := h.cells (g := g) rfl i (.int .i64 (zs.getD i 0)) (by rw [List.getElem?_map, List.getElem?_eq_getElem hi, List.getD_eq_getElem?_getD, List.getElem?_eq_getElem hi]; rfl)
  exact this
theorem IR.below {w w' : World} {a : Option Addr} {zs : List Int} (h : IR w a zs) (hb : Below w.heap.size w w') : IR w' a zs := by
  intro i hi
  obtain ⟨ad, rfl, hlt, hc⟩ := h i hi
  have hbk : (ad.add i).block = ad.block := by unfold Addr.add; split <;> rfl
  exact ⟨ad, rfl, Nat.lt_of_lt_of_le hlt hb.size, (hb.cell (p := ad.add i) (by rw [hbk]; exact hlt)).trans hc⟩
theorem IR.drewN {w : World} {a : Option Addr} {zs : List Int} (h : IR w a zs) (n : Nat) : IR (w.drewN n) a zs := h
def LentIs (zs : List Int) (w : World) (e : Ending) (w' : World) : Prop := ∃ g cap, e = .returned (.slice (some ⟨g, 0, none⟩) zs.length cap) ∧ zs.length + 1 ≤ cap ∧ IR w' (some ⟨g, 0, none⟩) (zs ++ [-77]) ∧ Below w.heap.size w w'
set_option maxRecDepth 100000 in
set_option maxHeartbeats 1000000 in
theorem lent_some (ad : Addr) (c : Nat) (zs : List Int) (w : World) (hz : zs.length ≤ 1000) (ha : IR w (some ad) zs) :
    Calls Tryd.prog 6 #[.slice (some ad) zs.length c] w (LentIs zs w) := by
  obtain ⟨i0, hi, hz0, hz1, hz2⟩ := info_parts Tryd.infoI
  have hnews : ∀ (j : Nat) (u : Value), (zs.map (Value.int .i64 ·))[j]? = some u → w.cell? (ad.add j) = some u := by
    intro j u hu
    rw [List.getElem?_map, Option.map_eq_some_iff] at hu
    obtain ⟨z, hz, rfl⟩ := hu
    have hj : j < zs.length := by
      rcases Nat.lt_or_ge j zs.length with h | h
      · exact h
      · rw [List.getElem?_eq_none h] at hz; cases hz
    obtain ⟨_, e, _, hc⟩ := ha j hj
    cases e
    rw [hc, List.getD_eq_getElem?_getD, hz]; rfl
  have Hnews := Lib.hid hnews
  have hone : ∀ (l : List Int), ∀ u ∈ l.map (Value.int .i64 ·), u.oneCell' = true := fun l u hu => by obtain ⟨z, _, rfl⟩ := List.mem_map.1 hu; rfl
  have Hone := Lib.hid hone
  clear hnews hone ha
  go_enter Tryd.func6, Tryd.ntmps6
  go_wp2_with (at_builtin; refine wpList_append_own_at _ rfl (.const (.slice none 0 0)) (.tmp 3) 22 rfl w.heap.size 3 i0 (.int .i64 0) 1 8 Tryd.underlying22 hi hz0 hz1 hz2 rfl (by decide) (.slice none 0 0) 0 [] rfl (World.ownsRow_nil _ _ _ _) ad zs.length c (zs.map (Value.int .i64 ·)) rfl (by simp) Hnews.out (Hone.out zs) (by unfold maxLen; omega) (by omega) (Nat.le_refl _) ?_)
  intro v1 w1 ho1 hg1 _ hat1
  have b1 : Below w.heap.size w w1 := (Below.refl _ _).grown hg1 (Nat.le_refl _) (fun k hk => by cases hk)
  have hl1 : v1.ownBlock = none ∨ v1.ownBlock = some w.heap.size := by
    rcases hat1 with e | e
    · left; rw [e]; rfl
    · right; exact e
  have ho1' : w1.ownsRow w.heap.size 3 1 v1 zs.length (zs.map (Value.int .i64 ·)) := by simpa using ho1
  have Ho1 := Lib.hid ho1'; have B1 := Lib.hid b1; have Hl1 := Lib.hid hl1
  clear ho1 ho1' hg1 hat1 b1 hl1
  go_wp2_with (at_builtin; refine wpList_append_own_at _ rfl (.tmp 4) (.tmp 5) 22 rfl w.heap.size 3 i0 (.int .i64 0) 1 8 Tryd.underlying22 hi hz0 hz1 hz2 rfl (by decide) v1 zs.length (zs.map (Value.int .i64 ·)) rfl (World.ownsRow.alloc Ho1.out _) ⟨w1.heap.size, 0, none⟩ 1 1 [.int .i64 (-77)] rfl rfl (cell_one_new _ _ _) ?c1 ?c2 ?c3 ?c4 ?_)
  case c1 => intro u hu; simp at hu; subst hu; rfl
  case c2 => unfold maxLen; omega
  case c3 => omega
  case c4 => have := B1.out.size; simp; omega
  intro v2 w2 ho2 hg2 _ _
  have b2 : Below w.heap.size w w2 := (B1.out.alloc B1.out.size _).grown hg2 (by have := B1.out.size; simp; omega) (fun k hk => by
    rcases Hl1.out with e | e
    · rw [e] at hk; cases hk
    · rw [e] at hk; cases hk; exact Nat.le_refl _)
  obtain ⟨g, cap, hv⟩ := ownsRow_succ ho2
  subst hv
  have hcap : zs.length + 1 ≤ cap := by
    rcases ho2.2 with ⟨h, _⟩ | ⟨g', cap', cur, h, _, _, hc, _⟩
    · cases h
    · cases h; exact hc
  have hir : IR w2 (some ⟨g, 0, none⟩) (zs ++ [-77]) := ir_own (zs := zs ++ [-77]) (n := zs.length + 1) (by rw [List.map_append]; exact ho2) (by simp)
  have hsl := fun wx => cut_run g (zs.length + 1) zs.length cap (by omega) hcap (by omega) wx
  have Hir := Lib.hid hir; have B2 := Lib.hid b2
  clear ho2 hg2 hir b2
  go_wp2
  go_ret
  exact ⟨g, cap, rfl, hcap, Hir.out, B2.out⟩
set_option maxRecDepth 100000 in
set_option maxHeartbeats 1000000 in
theorem lent_none (w : World) : Calls Tryd.prog 6 #[.slice none 0 0] w (LentIs [] w) := by
  obtain ⟨i0, hi, hz0, hz1, hz2⟩ := info_parts Tryd.infoI
  go_enter Tryd.func6, Tryd.ntmps6
  go_wp2_with (first | (at_builtin; refine wpList_append_own_none rfl (.const (.slice none 0 0)) (.tmp 3) 22 rfl w.heap.size 3 i0 1 Tryd.underlying22 hi (.slice none 0 0) 0 [] rfl (World.ownsRow_nil _ _ _ _) rfl ?_) | (at_builtin; refine wpList_append_own_at _ rfl (.tmp 4) (.tmp 5) 22 rfl w.heap.size 3 i0 (.int .i64 0) 1 8 Tryd.underlying22 hi hz0 hz1 hz2 rfl (by decide) (.slice none 0 0) 0 [] rfl (World.ownsRow_nil _ _ _ _) ⟨w.heap.size, 0, none⟩ 1 1 [.int .i64 (-77)] rfl rfl (cell_one_new _ _ _) ?c1 ?c2 ?c3 ?c4 ?_))
  case c1 => intro u hu; simp at hu; subst hu; rfl
  case c2 => unfold maxLen; omega
  case c3 => omega
  case c4 => simp
  intro v2 w2 ho2 hg2 _ _
  have b2 : Below w.heap.size w w2 := ((Below.refl _ _).alloc (Nat.le_refl _) _).grown hg2 (by simp) (fun k hk => by cases hk)
  obtain ⟨g, cap, hv⟩ := ownsRow_succ ho2
  subst hv
  have hcap : 1 ≤ cap := by
    rcases ho2.2 with ⟨h, _⟩ | ⟨g', cap', cur, h, _, _, hc, _⟩
    · cases h
    · cases h; simpa using hc
  have hir : IR w2 (some ⟨g, 0, none⟩) ([] ++ [-77]) := ir_own (zs := [] ++ [-77]) (n := 1) (by simpa using ho2) (by simp)
  have hsl := fun wx => cut_run g 1 0 cap (by omega) hcap (by omega) wx
  have Hir := Lib.hid hir; have B2 := Lib.hid b2
  clear ho2 hg2 hir b2
  go_wp2
  go_ret
  exact ⟨g, cap, rfl, hcap, Hir.out, B2.out⟩
set_option maxRecDepth 100000 in
set_option maxHeartbeats 1000000 in
theorem stays_any (g : Nat) (b : Option Addr) (c d : Nat) (zs : List Int) (w : World) (hz : zs.length ≤ 1000) (hc : zs.length + 1 ≤ c) (ha : IR w (some ⟨g, 0, none⟩) (zs ++ [-77])) (hb : IR w b zs) :
    Calls Tryd.prog 13 #[.slice (some ⟨g, 0, none⟩) zs.length c, .slice b zs.length d] w fun e w' => e = .returned (.bool true) ∧ ∃ n, w' = w.drewN n := by
  have ha' : IR w (some ⟨g, 0, none⟩) zs := fun i hi => by
    obtain ⟨ad, e, h1, h2⟩ := ha i (by simp; omega)
    refine ⟨ad, e, h1, ?_⟩
    rw [h2, List.getD_eq_getElem?_getD, List.getD_eq_getElem?_getD, List.getElem?_append_left hi]
  have hlast : w.cell? ((⟨g, 0, none⟩ : Addr).add zs.length) = some (.int .i64 (-77)) := by
    obtain ⟨ad, e, h1, h2⟩ := ha zs.length (by simp)
    cases e
    rw [h2, List.getD_eq_getElem?_getD, List.getElem?_append_right (Nat.le_refl _)]; simp
  have hS := Lib.hid (same_any (some ⟨g, 0, none⟩) b c d zs w hz ha' hb)
  clear ha ha' hb
  have hsl : ∀ wx, (Instr.slice 22 (.slice (some ⟨g, 0, none⟩) zs.length c) none (some (.int .i64 ((zs.length : Int) + 1))) none).run Tryd.prog wx = .ok (.slice (some ⟨g, 0, none⟩) (zs.length + 1) c) wx := fun wx => by
    refine (run_slice_h (P := Tryd.prog) (w := wx) 22 (some ⟨g, 0, none⟩) zs.length c (by kernel_rfl) .i64 ((zs.length : Int) + 1) (by omega) (by omega)).trans ?_
    have hs : (sizeOf (Tryd.prog.elem 22)).run Tryd.prog wx = .ok 1 wx := by kernel_rfl
    rw [hs]
    simp only [Result.andThen, sliced, Nat.zero_mul, Nat.sub_zero]
    rw [if_neg (by omega)]
    have e : ((zs.length : Int) + 1).toNat = zs.length + 1 := by omega
    rw [e]
    rfl
  go_enter Tryd.func13, Tryd.ntmps13
  go_wp2_with fail
  refine hS.out.mono ?_
  rintro e w' ⟨rfl, n, rfl⟩
  have e1 : (⟨g, 0, none⟩ : Addr).add zs.length = ⟨g, zs.length, none⟩ := by
    unfold Addr.add
    split
    · rename_i h0; rw [h0]
    · simp
  have hlast2 : (w.drewN n).cell? ⟨g, zs.length, none⟩ = some (.int .i64 (-77)) := by rw [← e1]; exact hlast
  have hlast' : (w.drewN n).cell? ((⟨g, 0, none⟩ : Addr).add zs.length) = some (.int .i64 (-77)) := hlast
  clear e1
  go_wp2
  go_ret
  exact ⟨rfl, n, rfl⟩
end Go.Proofs.YtdpnkncibimamaaDoor
