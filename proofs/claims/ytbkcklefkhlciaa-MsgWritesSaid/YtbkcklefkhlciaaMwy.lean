/-
  The statements' own helpers: lists with room behind them, in which a mark stands; are they as they were?
  The statements' own helpers: lists with room behind them, in which a mark stands; are they as they were?
  The statements' own helpers: lists with room behind them, in which a mark stands; are they as they were?
  MsgWrites: an argument that is a slice of operations, each with lists of its own; the room that is left.
  MsgWrites: the document's fields, and what it makes of them; the message that they come to.
  MsgWrites: small things that its walk wants.
-/
import Derived.Test.YtbkcklefkhlciaaMbackA
import Derived.Maps.AppendAt
import Derived.Deep.AppendLies
import Derived.Deep.QuietTactic
import Derived.BigQuiet
import Derived.Outline
import Derived.Test.YtbkcklefkhlciaaMopen
import Derived.Test.YtbkcklefkhlciaaMbook
import Derived.Deep.Slices
import Derived.Deep.Fields
import Derived.SizedLaws
import Derived.Test.YtbkcklefkhlciaaRPut
import Derived.Test.YtbkcklefkhlciaaMwx
import Derived.Test.YtbkcklefkhlciaaAlive11
import Derived.Deep.RegionHeld3
import Derived.Deep.RegionLaw
import Derived.LaidEqlPtr
namespace Go.Proofs.Ytbkcklefkhlciaa
open Go.RowKit
set_option linter.unusedVariables false
set_option maxRecDepth 100000 in
theorem cut_i (g n m cap : Nat) (h1 : m ≤ n) (h2 : n ≤ cap) (h3 : 0 < cap) (wx : World) : (Instr.slice 27 (.slice (some ⟨g, 0, none⟩) n cap) none (some (.int .i64 (m : Int))) none).run Try.prog wx = .ok (.slice (some ⟨g, 0, none⟩) m cap) wx := by
  refine (run_slice_h (P := Try.prog) (w := wx) 27 (some ⟨g, 0, none⟩) n cap (by kernel_rfl) .i64 (m : Int) (by omega) (by omega)).trans ?_
  have hs : (sizeOf (Try.prog.elem 27)).run Try.prog wx = .ok 1 wx := by kernel_rfl
  rw [hs]
  simp only [Result.andThen, sliced, Nat.zero_mul, Nat.sub_zero, Int.toNat_natCast]
  congr 1
  rw [if_neg (by omega)]; rfl
def LentI (zs : List Int) (w : World) (e : Ending) (w' : World) : Prop := ∃ g cap, e = .returned (.slice (some ⟨g, 0, none⟩) zs.length cap) ∧ zs.length + 1 ≤ cap ∧ IR w' (some ⟨g, 0, none⟩) (zs ++ [-77]) ∧ Below w.heap.size w w' ∧ w.heap.size ≤ g
set_option maxRecDepth 100000 in
set_option maxHeartbeats 1000000 in
theorem lenti_some (ad : Addr) (c : Nat) (zs : List Int) (w : World) (hz : zs.length ≤ 100000) (ha : IR w (some ad) zs) :
    Calls Try.prog 14 #[.slice (some ad) zs.length c] w (LentI zs w) := by
  obtain ⟨i0, hi, hz0, hz1, hz2⟩ := info_parts Try.infoI
  have hnews : ∀ (j : Nat) (u : Value), (zs.map (Value.int .i64 ·))[j]? = some u → w.cell? (ad.add j) = some u := by
    intro j u hu
    rw [List.getElem?_map, Option.map_eq_some_iff] at hu
    obtain ⟨z, hz, rfl⟩ := hu
    have hj : j < zs.length := by
      rcases Nat.lt_or_ge j zs.length with h | h
      · exact h
      · rw [List.getElem?_eq_none h] at hz; cases hz
    obtain ⟨_, e, _, hc⟩ := ha j hj
    cases e
    rw [hc, List.getD_eq_getElem?_getD, hz]; rfl
  have Hnews := Lib.hid hnews
  have hone : ∀ (l : List Int), ∀ u ∈ l.map (Value.int .i64 ·), u.oneCell' = true := fun l u hu => by obtain ⟨z, _, rfl⟩ := List.mem_map.1 hu; rfl
  have Hone := Lib.hid hone
  clear hnews hone ha
  go_enter Try.func14, Try.ntmps14
  go_wp2_with (at_builtin; refine wpList_append_own_at _ rfl (.const (.slice none 0 0)) (.tmp 3) 27 rfl w.heap.size 3 i0 (.int .i64 0) 1 8 Try.underlying27 hi hz0 hz1 hz2 rfl (by decide) (.slice none 0 0) 0 [] rfl (World.ownsRow_nil _ _ _ _) ad zs.length c (zs.map (Value.int .i64 ·)) rfl (by simp) Hnews.out (Hone.out zs) (by unfold maxLen; omega) (by omega) (Nat.le_refl _) ?_)
  intro v1 w1 ho1 hg1 _ hat1
  have b1 : Below w.heap.size w w1 := (Below.refl _ _).grown hg1 (Nat.le_refl _) (fun k hk => by cases hk)
  have hl1 : v1.ownBlock = none ∨ v1.ownBlock = some w.heap.size := by
    rcases hat1 with e | e
    · left; rw [e]; rfl
    · right; exact e
  have ho1' : w1.ownsRow w.heap.size 3 1 v1 zs.length (zs.map (Value.int .i64 ·)) := by simpa using ho1
  have Ho1 := Lib.hid ho1'; have B1 := Lib.hid b1; have Hl1 := Lib.hid hl1
  clear ho1 ho1' hg1 hat1 b1 hl1
  go_wp2_with (at_builtin; refine wpList_append_own_at _ rfl (.tmp 4) (.tmp 5) 27 rfl w.heap.size 3 i0 (.int .i64 0) 1 8 Try.underlying27 hi hz0 hz1 hz2 rfl (by decide) v1 zs.length (zs.map (Value.int .i64 ·)) rfl (World.ownsRow.alloc Ho1.out _) ⟨w1.heap.size, 0, none⟩ 1 1 [.int .i64 (-77)] rfl rfl (cell_one_new _ _ _) ?c1 ?c2 ?c3 ?c4 ?_)
  case c1 => intro u hu; simp at hu; subst hu; rfl
  case c2 => unfold maxLen; omega
  case c3 => omega
  case c4 => have := B1.out.size; simp; omega
  intro v2 w2 ho2 hg2 _ _
  have b2 : Below w.heap.size w w2 := (B1.out.alloc B1.out.size _).grown hg2 (by have := B1.out.size; simp; omega) (fun k hk => by
    rcases Hl1.out with e | e
    · rw [e] at hk; cases hk
    · rw [e] at hk; cases hk; exact Nat.le_refl _)
  obtain ⟨g, cap, hv⟩ := ownsRow_succ ho2
  subst hv
  have hcap : zs.length + 1 ≤ cap := by
    rcases ho2.2 with ⟨h, _⟩ | ⟨g', cap', cur, h, _, _, hc, _⟩
    · cases h
    · cases h; exact hc
  have hir : IR w2 (some ⟨g, 0, none⟩) (zs ++ [-77]) := ir_own (zs := zs ++ [-77]) (n := zs.length + 1) (by rw [List.map_append]; exact ho2) (by simp)
  have hsl := fun wx => cut_i g (zs.length + 1) zs.length cap (by omega) hcap (by omega) wx
  have Hg := Lib.hid (ho2.lt g rfl).1
  have Hir := Lib.hid hir; have B2 := Lib.hid b2
  clear ho2 hg2 hir b2
  go_wp2
  go_ret
  exact ⟨g, cap, rfl, hcap, Hir.out, B2.out, Hg.out⟩
set_option maxRecDepth 100000 in
set_option maxHeartbeats 1000000 in
theorem lenti_none (w : World) : Calls Try.prog 14 #[.slice none 0 0] w (LentI [] w) := by
  obtain ⟨i0, hi, hz0, hz1, hz2⟩ := info_parts Try.infoI
  go_enter Try.func14, Try.ntmps14
  go_wp2_with (first | (at_builtin; refine wpList_append_own_none rfl (.const (.slice none 0 0)) (.tmp 3) 27 rfl w.heap.size 3 i0 1 Try.underlying27 hi (.slice none 0 0) 0 [] rfl (World.ownsRow_nil _ _ _ _) rfl ?_) | (at_builtin; refine wpList_append_own_at _ rfl (.tmp 4) (.tmp 5) 27 rfl w.heap.size 3 i0 (.int .i64 0) 1 8 Try.underlying27 hi hz0 hz1 hz2 rfl (by decide) (.slice none 0 0) 0 [] rfl (World.ownsRow_nil _ _ _ _) ⟨w.heap.size, 0, none⟩ 1 1 [.int .i64 (-77)] rfl rfl (cell_one_new _ _ _) ?c1 ?c2 ?c3 ?c4 ?_))
  case c1 => intro u hu; simp at hu; subst hu; rfl
  case c2 => unfold maxLen; omega
  case c3 => omega
  case c4 => simp
  intro v2 w2 ho2 hg2 _ _
  have b2 : Below w.heap.size w w2 := ((Below.refl _ _).alloc (Nat.le_refl _) _).grown hg2 (by simp) (fun k hk => by cases hk)
  obtain ⟨g, cap, hv⟩ := ownsRow_succ ho2
  subst hv
  have hcap : 1 ≤ cap := by
    rcases ho2.2 with ⟨h, _⟩ | ⟨g', cap', cur, h, _, _, hc, _⟩
    · cases h
    · cases h; simpa using hc
  have hir : IR w2 (some ⟨g, 0, none⟩) ([] ++ [-77]) := ir_own (zs := [] ++ [-77]) (n := 1) (by simpa using ho2) (by simp)
  have hsl := fun wx => cut_i g 1 0 cap (by omega) hcap (by omega) wx
  have Hg := Lib.hid (ho2.lt g rfl).1
  have Hir := Lib.hid hir; have B2 := Lib.hid b2
  clear ho2 hg2 hir b2
  go_wp2
  go_ret
  exact ⟨g, cap, rfl, hcap, Hir.out, B2.out, Hg.out⟩
set_option maxRecDepth 100000 in
set_option maxHeartbeats 1000000 in
theorem staysi_any (g : Nat) (b : Option Addr) (c d : Nat) (zs : List Int) (w : World) (hz : zs.length ≤ 100000) (hc : zs.length + 1 ≤ c) (ha : IR w (some ⟨g, 0, none⟩) (zs ++ [-77])) (hb : IR w b zs) :
    Calls Try.prog 17 #[.slice (some ⟨g, 0, none⟩) zs.length c, .slice b zs.length d] w fun e w' => e = .returned (.bool true) ∧ ∃ n, w' = w.drewN n := by
  have ha' : IR w (some ⟨g, 0, none⟩) zs := fun i hi => by
    obtain ⟨ad, e, h1, h2⟩ := ha i (by simp; omega)
    refine ⟨ad, e, h1, ?_⟩
    rw [h2, List.getD_eq_getElem?_getD, List.getD_eq_getElem?_getD, List.getElem?_append_left hi]
  have hlast : w.cell? ((⟨g, 0, none⟩ : Addr).add zs.length) = some (.int .i64 (-77)) := by
    obtain ⟨ad, e, h1, h2⟩ := ha zs.length (by simp)
    cases e
    rw [h2, List.getD_eq_getElem?_getD, List.getElem?_append_right (Nat.le_refl _)]; simp
  have hS := Lib.hid (same_any (some ⟨g, 0, none⟩) b c d zs w hz ha' hb)
  clear ha ha' hb
  have hsl : ∀ wx, (Instr.slice 27 (.slice (some ⟨g, 0, none⟩) zs.length c) none (some (.int .i64 ((zs.length : Int) + 1))) none).run Try.prog wx = .ok (.slice (some ⟨g, 0, none⟩) (zs.length + 1) c) wx := fun wx => by
    refine (run_slice_h (P := Try.prog) (w := wx) 27 (some ⟨g, 0, none⟩) zs.length c (by kernel_rfl) .i64 ((zs.length : Int) + 1) (by omega) (by omega)).trans ?_
    have hs : (sizeOf (Try.prog.elem 27)).run Try.prog wx = .ok 1 wx := by kernel_rfl
    rw [hs]
    simp only [Result.andThen, sliced, Nat.zero_mul, Nat.sub_zero]
    rw [if_neg (by omega)]
    have e : ((zs.length : Int) + 1).toNat = zs.length + 1 := by omega
    rw [e]
    rfl
  go_enter Try.func17, Try.ntmps17
  go_wp2_with fail
  refine hS.out.mono ?_
  rintro e w' ⟨rfl, n, rfl⟩
  have e1 : (⟨g, 0, none⟩ : Addr).add zs.length = ⟨g, zs.length, none⟩ := by
    unfold Addr.add
    split
    · rename_i h0; rw [h0]
    · simp
  have hlast2 : (w.drewN n).cell? ⟨g, zs.length, none⟩ = some (.int .i64 (-77)) := by rw [← e1]; exact hlast
  have hlast' : (w.drewN n).cell? ((⟨g, 0, none⟩ : Addr).add zs.length) = some (.int .i64 (-77)) := hlast
  clear e1
  go_wp2
  go_ret
  exact ⟨rfl, n, rfl⟩
end Go.Proofs.Ytbkcklefkhlciaa
namespace Go.Proofs.Ytbkcklefkhlciaa
open Go.RowKit
set_option linter.unusedVariables false
set_option maxRecDepth 100000 in
theorem cut_p (g n m cap : Nat) (h1 : m ≤ n) (h2 : n ≤ cap) (h3 : 0 < cap) (wx : World) : (Instr.slice 28 (.slice (some ⟨g, 0, none⟩) n cap) none (some (.int .i64 (m : Int))) none).run Try.prog wx = .ok (.slice (some ⟨g, 0, none⟩) m cap) wx := by
  refine (run_slice_h (P := Try.prog) (w := wx) 28 (some ⟨g, 0, none⟩) n cap (by kernel_rfl) .i64 (m : Int) (by omega) (by omega)).trans ?_
  have hs : (sizeOf (Try.prog.elem 28)).run Try.prog wx = .ok 1 wx := by kernel_rfl
  rw [hs]
  simp only [Result.andThen, sliced, Nat.zero_mul, Nat.sub_zero, Int.toNat_natCast]
  congr 1
  rw [if_neg (by omega)]; rfl
def LentP (zs : List Nat) (w : World) (e : Ending) (w' : World) : Prop := ∃ g cap, e = .returned (.slice (some ⟨g, 0, none⟩) zs.length cap) ∧ zs.length + 1 ≤ cap ∧ UR w' (some ⟨g, 0, none⟩) (zs ++ [77]) ∧ Below w.heap.size w w' ∧ w.heap.size ≤ g
set_option maxRecDepth 100000 in
set_option maxHeartbeats 1000000 in
theorem lentp_some (ad : Addr) (c : Nat) (zs : List Nat) (w : World) (hz : zs.length ≤ 100000) (ha : UR w (some ad) zs) :
    Calls Try.prog 18 #[.slice (some ad) zs.length c] w (LentP zs w) := by
  obtain ⟨i0, hi, hz0, hz1, hz2⟩ := info_parts Try.infoU2
  have hnews : ∀ (j : Nat) (u : Value), (zs.map uv)[j]? = some u → w.cell? (ad.add j) = some u := by
    intro j u hu
    rw [List.getElem?_map, Option.map_eq_some_iff] at hu
    obtain ⟨z, hz, rfl⟩ := hu
    have hj : j < zs.length := by
      rcases Nat.lt_or_ge j zs.length with h | h
      · exact h
      · rw [List.getElem?_eq_none h] at hz; cases hz
    obtain ⟨_, e, _, hc⟩ := ha j hj
    cases e
    rw [hc, List.getD_eq_getElem?_getD, hz]; rfl
  have Hnews := Lib.hid hnews
  have hone : ∀ (l : List Nat), ∀ u ∈ l.map uv, u.oneCell' = true := fun l u hu => by obtain ⟨z, _, rfl⟩ := List.mem_map.1 hu; rfl
  have Hone := Lib.hid hone
  clear hnews hone ha
  go_enter Try.func18, Try.ntmps18
  go_wp2_with (at_builtin; refine wpList_append_own_at _ rfl (.const (.slice none 0 0)) (.tmp 3) 28 rfl w.heap.size 25 i0 (.int .u64 0) 1 8 Try.underlying28 hi hz0 hz1 hz2 rfl (by decide) (.slice none 0 0) 0 [] rfl (World.ownsRow_nil _ _ _ _) ad zs.length c (zs.map uv) rfl (by simp) Hnews.out (Hone.out zs) (by unfold maxLen; omega) (by omega) (Nat.le_refl _) ?_)
  intro v1 w1 ho1 hg1 _ hat1
  have b1 : Below w.heap.size w w1 := (Below.refl _ _).grown hg1 (Nat.le_refl _) (fun k hk => by cases hk)
  have hl1 : v1.ownBlock = none ∨ v1.ownBlock = some w.heap.size := by
    rcases hat1 with e | e
    · left; rw [e]; rfl
    · right; exact e
  have ho1' : w1.ownsRow w.heap.size 25 1 v1 zs.length (zs.map uv) := by simpa using ho1
  have Ho1 := Lib.hid ho1'; have B1 := Lib.hid b1; have Hl1 := Lib.hid hl1
  clear ho1 ho1' hg1 hat1 b1 hl1
  go_wp2_with (at_builtin; refine wpList_append_own_at _ rfl (.tmp 4) (.tmp 5) 28 rfl w.heap.size 25 i0 (.int .u64 0) 1 8 Try.underlying28 hi hz0 hz1 hz2 rfl (by decide) v1 zs.length (zs.map uv) rfl (World.ownsRow.alloc Ho1.out _) ⟨w1.heap.size, 0, none⟩ 1 1 [.int .u64 77] rfl rfl (cell_one_new _ _ _) ?c1 ?c2 ?c3 ?c4 ?_)
  case c1 => intro u hu; simp at hu; subst hu; rfl
  case c2 => unfold maxLen; omega
  case c3 => omega
  case c4 => have := B1.out.size; simp; omega
  intro v2 w2 ho2 hg2 _ _
  have b2 : Below w.heap.size w w2 := (B1.out.alloc B1.out.size _).grown hg2 (by have := B1.out.size; simp; omega) (fun k hk => by
    rcases Hl1.out with e | e
    · rw [e] at hk; cases hk
    · rw [e] at hk; cases hk; exact Nat.le_refl _)
  obtain ⟨g, cap, hv⟩ := ownsRow_succ ho2
  subst hv
  have hcap : zs.length + 1 ≤ cap := by
    rcases ho2.2 with ⟨h, _⟩ | ⟨g', cap', cur, h, _, _, hc, _⟩
    · cases h
    · cases h; exact hc
  have hir : UR w2 (some ⟨g, 0, none⟩) (zs ++ [77]) := ur_own (zs := zs ++ [77]) (n := zs.length + 1) (by rw [List.map_append]; exact ho2) (by simp)
  have hsl := fun wx => cut_p g (zs.length + 1) zs.length cap (by omega) hcap (by omega) wx
  have Hg := Lib.hid (ho2.lt g rfl).1
  have Hir := Lib.hid hir; have B2 := Lib.hid b2
  clear ho2 hg2 hir b2
  go_wp2
  go_ret
  exact ⟨g, cap, rfl, hcap, Hir.out, B2.out, Hg.out⟩
set_option maxRecDepth 100000 in
set_option maxHeartbeats 1000000 in
theorem lentp_none (w : World) : Calls Try.prog 18 #[.slice none 0 0] w (LentP [] w) := by
  obtain ⟨i0, hi, hz0, hz1, hz2⟩ := info_parts Try.infoU2
  go_enter Try.func18, Try.ntmps18
  go_wp2_with (first | (at_builtin; refine wpList_append_own_none rfl (.const (.slice none 0 0)) (.tmp 3) 28 rfl w.heap.size 25 i0 1 Try.underlying28 hi (.slice none 0 0) 0 [] rfl (World.ownsRow_nil _ _ _ _) rfl ?_) | (at_builtin; refine wpList_append_own_at _ rfl (.tmp 4) (.tmp 5) 28 rfl w.heap.size 25 i0 (.int .u64 0) 1 8 Try.underlying28 hi hz0 hz1 hz2 rfl (by decide) (.slice none 0 0) 0 [] rfl (World.ownsRow_nil _ _ _ _) ⟨w.heap.size, 0, none⟩ 1 1 [.int .u64 77] rfl rfl (cell_one_new _ _ _) ?c1 ?c2 ?c3 ?c4 ?_))
  case c1 => intro u hu; simp at hu; subst hu; rfl
  case c2 => unfold maxLen; omega
  case c3 => omega
  case c4 => simp
  intro v2 w2 ho2 hg2 _ _
  have b2 : Below w.heap.size w w2 := ((Below.refl _ _).alloc (Nat.le_refl _) _).grown hg2 (by simp) (fun k hk => by cases hk)
  obtain ⟨g, cap, hv⟩ := ownsRow_succ ho2
  subst hv
  have hcap : 1 ≤ cap := by
    rcases ho2.2 with ⟨h, _⟩ | ⟨g', cap', cur, h, _, _, hc, _⟩
    · cases h
    · cases h; simpa using hc
  have hir : UR w2 (some ⟨g, 0, none⟩) ([] ++ [77]) := ur_own (zs := [] ++ [77]) (n := 1) (by simpa [uv] using ho2) (by simp)
  have hsl := fun wx => cut_p g 1 0 cap (by omega) hcap (by omega) wx
  have Hg := Lib.hid (ho2.lt g rfl).1
  have Hir := Lib.hid hir; have B2 := Lib.hid b2
  clear ho2 hg2 hir b2
  go_wp2
  go_ret
  exact ⟨g, cap, rfl, hcap, Hir.out, B2.out, Hg.out⟩
set_option maxRecDepth 100000 in
set_option maxHeartbeats 1000000 in
theorem staysp_any (g : Nat) (b : Option Addr) (c d : Nat) (zs : List Nat) (w : World) (hz : zs.length ≤ 100000) (hc : zs.length + 1 ≤ c) (ha : UR w (some ⟨g, 0, none⟩) (zs ++ [77])) (hb : UR w b zs) :
    Calls Try.prog 21 #[.slice (some ⟨g, 0, none⟩) zs.length c, .slice b zs.length d] w fun e w' => e = .returned (.bool true) ∧ ∃ n, w' = w.drewN n := by
  have ha' : UR w (some ⟨g, 0, none⟩) zs := fun i hi => by
    obtain ⟨ad, e, h1, h2⟩ := ha i (by simp; omega)
    refine ⟨ad, e, h1, ?_⟩
    rw [h2, List.getD_eq_getElem?_getD, List.getD_eq_getElem?_getD, List.getElem?_append_left hi]
  have hlast : w.cell? ((⟨g, 0, none⟩ : Addr).add zs.length) = some (.int .u64 77) := by
    obtain ⟨ad, e, h1, h2⟩ := ha zs.length (by simp)
    cases e
    rw [h2, List.getD_eq_getElem?_getD, List.getElem?_append_right (Nat.le_refl _)]; simp
  have hS := Lib.hid (samep_any (some ⟨g, 0, none⟩) b c d zs w hz ha' hb)
  clear ha ha' hb
  have hsl : ∀ wx, (Instr.slice 28 (.slice (some ⟨g, 0, none⟩) zs.length c) none (some (.int .i64 ((zs.length : Int) + 1))) none).run Try.prog wx = .ok (.slice (some ⟨g, 0, none⟩) (zs.length + 1) c) wx := fun wx => by
    refine (run_slice_h (P := Try.prog) (w := wx) 28 (some ⟨g, 0, none⟩) zs.length c (by kernel_rfl) .i64 ((zs.length : Int) + 1) (by omega) (by omega)).trans ?_
    have hs : (sizeOf (Try.prog.elem 28)).run Try.prog wx = .ok 1 wx := by kernel_rfl
    rw [hs]
    simp only [Result.andThen, sliced, Nat.zero_mul, Nat.sub_zero]
    rw [if_neg (by omega)]
    have e : ((zs.length : Int) + 1).toNat = zs.length + 1 := by omega
    rw [e]
    rfl
  go_enter Try.func21, Try.ntmps21
  go_wp2_with fail
  refine hS.out.mono ?_
  rintro e w' ⟨rfl, n, rfl⟩
  have e1 : (⟨g, 0, none⟩ : Addr).add zs.length = ⟨g, zs.length, none⟩ := by
    unfold Addr.add
    split
    · rename_i h0; rw [h0]
    · simp
  have hlast2 : (w.drewN n).cell? ⟨g, zs.length, none⟩ = some (.int .u64 77) := by rw [← e1]; exact hlast
  have hlast' : (w.drewN n).cell? ((⟨g, 0, none⟩ : Addr).add zs.length) = some (.int .u64 77) := hlast
  clear e1
  go_wp2
  go_ret
  exact ⟨rfl, n, rfl⟩
end Go.Proofs.Ytbkcklefkhlciaa
namespace Go.Proofs.Ytbkcklefkhlciaa
open Go.RowKit
set_option linter.unusedVariables false
set_option maxRecDepth 100000 in
theorem cut_s (g n m cap : Nat) (h1 : m ≤ n) (h2 : n ≤ cap) (h3 : 0 < cap) (wx : World) : (Instr.slice 26 (.slice (some ⟨g, 0, none⟩) n cap) none (some (.int .i64 (m : Int))) none).run Try.prog wx = .ok (.slice (some ⟨g, 0, none⟩) m cap) wx := by
  refine (run_slice_h (P := Try.prog) (w := wx) 26 (some ⟨g, 0, none⟩) n cap (by kernel_rfl) .i64 (m : Int) (by omega) (by omega)).trans ?_
  have hs : (sizeOf (Try.prog.elem 26)).run Try.prog wx = .ok 1 wx := by kernel_rfl
  rw [hs]
  simp only [Result.andThen, sliced, Nat.zero_mul, Nat.sub_zero, Int.toNat_natCast]
  congr 1
  rw [if_neg (by omega)]; rfl
def LentS (zs : List ByteArray) (w : World) (e : Ending) (w' : World) : Prop := ∃ g cap, e = .returned (.slice (some ⟨g, 0, none⟩) zs.length cap) ∧ zs.length + 1 ≤ cap ∧ TR w' (some ⟨g, 0, none⟩) (zs ++ [⟨#[109, 97, 114, 107]⟩]) ∧ Below w.heap.size w w' ∧ w.heap.size ≤ g
set_option maxRecDepth 100000 in
set_option maxHeartbeats 1000000 in
theorem lents_some (ad : Addr) (c : Nat) (zs : List ByteArray) (w : World) (hz : zs.length ≤ 100000) (ha : TR w (some ad) zs) :
    Calls Try.prog 11 #[.slice (some ad) zs.length c] w (LentS zs w) := by
  obtain ⟨i0, hi, hz0, hz1, hz2⟩ := info_parts Try.infoS2
  have hnews : ∀ (j : Nat) (u : Value), (zs.map tv)[j]? = some u → w.cell? (ad.add j) = some u := by
    intro j u hu
    rw [List.getElem?_map, Option.map_eq_some_iff] at hu
    obtain ⟨z, hz, rfl⟩ := hu
    have hj : j < zs.length := by
      rcases Nat.lt_or_ge j zs.length with h | h
      · exact h
      · rw [List.getElem?_eq_none h] at hz; cases hz
    obtain ⟨_, e, _, hc⟩ := ha j z hz
    cases e
    exact hc
  have Hnews := Lib.hid hnews
  have hone : ∀ (l : List ByteArray), ∀ u ∈ l.map tv, u.oneCell' = true := fun l u hu => by obtain ⟨z, _, rfl⟩ := List.mem_map.1 hu; rfl
  have Hone := Lib.hid hone
  clear hnews hone ha
  go_enter Try.func11, Try.ntmps11
  go_wp2_with (at_builtin; refine wpList_append_own_at _ rfl (.const (.slice none 0 0)) (.tmp 3) 26 rfl w.heap.size 9 i0 (.string ⟨#[]⟩) 1 16 Try.underlying26 hi hz0 hz1 hz2 rfl (by decide) (.slice none 0 0) 0 [] rfl (World.ownsRow_nil _ _ _ _) ad zs.length c (zs.map tv) rfl (by simp) Hnews.out (Hone.out zs) (by unfold maxLen; omega) (by omega) (Nat.le_refl _) ?_)
  intro v1 w1 ho1 hg1 _ hat1
  have b1 : Below w.heap.size w w1 := (Below.refl _ _).grown hg1 (Nat.le_refl _) (fun k hk => by cases hk)
  have hl1 : v1.ownBlock = none ∨ v1.ownBlock = some w.heap.size := by
    rcases hat1 with e | e
    · left; rw [e]; rfl
    · right; exact e
  have ho1' : w1.ownsRow w.heap.size 9 1 v1 zs.length (zs.map tv) := by simpa using ho1
  have Ho1 := Lib.hid ho1'; have B1 := Lib.hid b1; have Hl1 := Lib.hid hl1
  clear ho1 ho1' hg1 hat1 b1 hl1
  go_wp2_with (at_builtin; refine wpList_append_own_at _ rfl (.tmp 4) (.tmp 5) 26 rfl w.heap.size 9 i0 (.string ⟨#[]⟩) 1 16 Try.underlying26 hi hz0 hz1 hz2 rfl (by decide) v1 zs.length (zs.map tv) rfl (World.ownsRow.alloc Ho1.out _) ⟨w1.heap.size, 0, none⟩ 1 1 [.string ⟨#[109, 97, 114, 107]⟩] rfl rfl (cell_one_new _ _ _) ?c1 ?c2 ?c3 ?c4 ?_)
  case c1 => intro u hu; simp at hu; subst hu; rfl
  case c2 => unfold maxLen; omega
  case c3 => omega
  case c4 => have := B1.out.size; simp; omega
  intro v2 w2 ho2 hg2 _ _
  have b2 : Below w.heap.size w w2 := (B1.out.alloc B1.out.size _).grown hg2 (by have := B1.out.size; simp; omega) (fun k hk => by
    rcases Hl1.out with e | e
    · rw [e] at hk; cases hk
    · rw [e] at hk; cases hk; exact Nat.le_refl _)
  obtain ⟨g, cap, hv⟩ := ownsRow_succ ho2
  subst hv
  have hcap : zs.length + 1 ≤ cap := by
    rcases ho2.2 with ⟨h, _⟩ | ⟨g', cap', cur, h, _, _, hc, _⟩
    · cases h
    · cases h; exact hc
  have hir : TR w2 (some ⟨g, 0, none⟩) (zs ++ [⟨#[109, 97, 114, 107]⟩]) := tr_own (zs := zs ++ [⟨#[109, 97, 114, 107]⟩]) (n := zs.length + 1) (by rw [List.map_append]; exact ho2) (by simp)
  have hsl := fun wx => cut_s g (zs.length + 1) zs.length cap (by omega) hcap (by omega) wx
  have Hg := Lib.hid (ho2.lt g rfl).1
  have Hir := Lib.hid hir; have B2 := Lib.hid b2
  clear ho2 hg2 hir b2
  go_wp2
  go_ret
  exact ⟨g, cap, rfl, hcap, Hir.out, B2.out, Hg.out⟩
set_option maxRecDepth 100000 in
set_option maxHeartbeats 1000000 in
theorem lents_none (w : World) : Calls Try.prog 11 #[.slice none 0 0] w (LentS [] w) := by
  obtain ⟨i0, hi, hz0, hz1, hz2⟩ := info_parts Try.infoS2
  go_enter Try.func11, Try.ntmps11
  go_wp2_with (first | (at_builtin; refine wpList_append_own_none rfl (.const (.slice none 0 0)) (.tmp 3) 26 rfl w.heap.size 9 i0 1 Try.underlying26 hi (.slice none 0 0) 0 [] rfl (World.ownsRow_nil _ _ _ _) rfl ?_) | (at_builtin; refine wpList_append_own_at _ rfl (.tmp 4) (.tmp 5) 26 rfl w.heap.size 9 i0 (.string ⟨#[]⟩) 1 16 Try.underlying26 hi hz0 hz1 hz2 rfl (by decide) (.slice none 0 0) 0 [] rfl (World.ownsRow_nil _ _ _ _) ⟨w.heap.size, 0, none⟩ 1 1 [.string ⟨#[109, 97, 114, 107]⟩] rfl rfl (cell_one_new _ _ _) ?c1 ?c2 ?c3 ?c4 ?_))
  case c1 => intro u hu; simp at hu; subst hu; rfl
  case c2 => unfold maxLen; omega
  case c3 => omega
  case c4 => simp
  intro v2 w2 ho2 hg2 _ _
  have b2 : Below w.heap.size w w2 := ((Below.refl _ _).alloc (Nat.le_refl _) _).grown hg2 (by simp) (fun k hk => by cases hk)
  obtain ⟨g, cap, hv⟩ := ownsRow_succ ho2
  subst hv
  have hcap : 1 ≤ cap := by
    rcases ho2.2 with ⟨h, _⟩ | ⟨g', cap', cur, h, _, _, hc, _⟩
    · cases h
    · cases h; simpa using hc
  have hir : TR w2 (some ⟨g, 0, none⟩) ([] ++ [⟨#[109, 97, 114, 107]⟩]) := tr_own (zs := [] ++ [⟨#[109, 97, 114, 107]⟩]) (n := 1) (by simpa [tv] using ho2) (by simp)
  have hsl := fun wx => cut_s g 1 0 cap (by omega) hcap (by omega) wx
  have Hg := Lib.hid (ho2.lt g rfl).1
  have Hir := Lib.hid hir; have B2 := Lib.hid b2
  clear ho2 hg2 hir b2
  go_wp2
  go_ret
  exact ⟨g, cap, rfl, hcap, Hir.out, B2.out, Hg.out⟩
set_option maxRecDepth 100000 in
set_option maxHeartbeats 1000000 in
theorem stayss_any (g : Nat) (b : Option Addr) (c d : Nat) (zs : List ByteArray) (w : World) (hz : zs.length ≤ 100000) (hc : zs.length + 1 ≤ c) (ha : TR w (some ⟨g, 0, none⟩) (zs ++ [⟨#[109, 97, 114, 107]⟩])) (hb : TR w b zs) :
    Calls Try.prog 13 #[.slice (some ⟨g, 0, none⟩) zs.length c, .slice b zs.length d] w fun e w' => e = .returned (.bool true) ∧ ∃ n, w' = w.drewN n := by
  have ha' : TR w (some ⟨g, 0, none⟩) zs := fun i t ht => ha i t (by rw [List.getElem?_append_left (List.getElem?_eq_some_iff.1 ht).1]; exact ht)
  have hlast : w.cell? ((⟨g, 0, none⟩ : Addr).add zs.length) = some (.string ⟨#[109, 97, 114, 107]⟩) := by
    obtain ⟨ad, e, h1, h2⟩ := ha zs.length ⟨#[109, 97, 114, 107]⟩ (by rw [List.getElem?_append_right (Nat.le_refl _)]; simp)
    cases e
    exact h2
  have hS := Lib.hid (samet_any (some ⟨g, 0, none⟩) b c d zs w hz ha' hb)
  clear ha ha' hb
  have hsl : ∀ wx, (Instr.slice 26 (.slice (some ⟨g, 0, none⟩) zs.length c) none (some (.int .i64 ((zs.length : Int) + 1))) none).run Try.prog wx = .ok (.slice (some ⟨g, 0, none⟩) (zs.length + 1) c) wx := fun wx => by
    refine (run_slice_h (P := Try.prog) (w := wx) 26 (some ⟨g, 0, none⟩) zs.length c (by kernel_rfl) .i64 ((zs.length : Int) + 1) (by omega) (by omega)).trans ?_
    have hs : (sizeOf (Try.prog.elem 26)).run Try.prog wx = .ok 1 wx := by kernel_rfl
    rw [hs]
    simp only [Result.andThen, sliced, Nat.zero_mul, Nat.sub_zero]
    rw [if_neg (by omega)]
    have e : ((zs.length : Int) + 1).toNat = zs.length + 1 := by omega
    rw [e]
    rfl
  go_enter Try.func13, Try.ntmps13
  go_wp2_with fail
  refine hS.out.mono ?_
  rintro e w' ⟨rfl, n, rfl⟩
  have e1 : (⟨g, 0, none⟩ : Addr).add zs.length = ⟨g, zs.length, none⟩ := by
    unfold Addr.add
    split
    · rename_i h0; rw [h0]
    · simp
  have hlast2 : (w.drewN n).cell? ⟨g, zs.length, none⟩ = some (.string ⟨#[109, 97, 114, 107]⟩) := by rw [← e1]; exact hlast
  have hlast' : (w.drewN n).cell? ((⟨g, 0, none⟩ : Addr).add zs.length) = some (.string ⟨#[109, 97, 114, 107]⟩) := hlast
  clear e1
  go_wp2
  go_ret
  exact ⟨rfl, n, rfl⟩
end Go.Proofs.Ytbkcklefkhlciaa
namespace Go.Proofs.Ytbkcklefkhlciaa
open Go.RowKit Go.ChangeShapes Go.WideShapes Go.Deep
set_option linter.unusedVariables false
/-- An operation that came in. -/
structure OpI where
  kind : Int
  num : Int
  v : Nat
  s : List ByteArray
  l : List Int
  p : List Nat
  sa : Option Addr
  la : Option Addr
  pa : Option Addr
  sc : Nat
  lc : Nat
  pc : Nat
def OpI.cells (o : OpI) : List Value := [.int .i64 o.kind, .int .i64 o.num, .int .u64 (o.v : Int), .slice o.sa o.s.length o.sc, .slice o.la o.l.length o.lc, .slice o.pa o.p.length o.pc]
/-- What is known of it, whatever the world. -/
structure OpI.ok (o : OpI) : Prop where
  v : o.v < 18446744073709551616
  p : ∀ u ∈ o.p, u < 18446744073709551616
  ss : ∀ t ∈ o.s, t.size ≤ 140737488355328
  sl : o.s.length ≤ 140737488355328
  ll : o.l.length ≤ 140737488355328
  pl : o.p.length ≤ 140737488355328
  sn : o.sa = none → o.s = [] ∧ o.sc = 0
  ln : o.la = none → o.l = [] ∧ o.lc = 0
  pn : o.pa = none → o.p = [] ∧ o.pc = 0
structure OpI.lies (w : World) (o : OpI) : Prop where
  s : TR w o.sa o.s
  l : IR w o.la o.l
  p : UR w o.pa o.p
theorem OpI.lies.below {w w' : World} {o : OpI} (h : o.lies w) (hb : Below w.heap.size w w') : o.lies w' := ⟨h.s.below hb, h.l.below hb, h.p.below hb⟩
/-- The row at a holds the operations l. -/
def IsOps (w : World) (a : Option Addr) (l : List OpI) : Prop :=
  ∀ i o, l[i]? = some o → o.lies w ∧ ∃ ad, a = some ad ∧ ad.block < w.heap.size ∧ ∀ j u, o.cells[j]? = some u → w.cell? (ad.add (i * 6 + j)) = some u
theorem IsOps.below {w w' : World} {a : Option Addr} {l : List OpI} (h : IsOps w a l) (hb : Below w.heap.size w w') : IsOps w' a l := by
  intro i o hi
  obtain ⟨hl, ad, ha, hlt, hc⟩ := h i o hi
  exact ⟨hl.below hb, ad, ha, Nat.lt_of_lt_of_le hlt hb.size, fun j u hu => (hb.cell (by rw [add_block]; exact hlt)).trans (hc j u hu)⟩
theorem list_of_ex {α : Type} (Q : Nat → α → Prop) : ∀ n, (∀ i, i < n → ∃ p, Q i p) → ∃ l : List α, l.length = n ∧ ∀ i p, l[i]? = some p → Q i p := by
  intro n
  induction n with
  | zero => intro _; exact ⟨[], rfl, fun i p h => by simp at h⟩
  | succ n ih =>
    intro h
    obtain ⟨l, hl, hq⟩ := ih (fun i hi => h i (by omega))
    obtain ⟨p, hp⟩ := h n (by omega)
    refine ⟨l ++ [p], by simp [hl], fun i q hi => ?_⟩
    by_cases hin : i < n
    · rw [List.getElem?_append_left (by omega)] at hi; exact hq i q hi
    · rw [List.getElem?_append_right (by omega), hl] at hi
      have : i - n = 0 := by
        rcases Nat.eq_zero_or_pos (i - n) with h0 | h0
        · exact h0
        · rw [List.getElem?_eq_none (by simp; omega)] at hi; cases hi
      rw [this] at hi
      simp only [List.getElem?_cons_zero, Option.some.injEq] at hi
      rw [← hi, show i = n from by omega]; exact hp
theorem six_of {α : Type} (l : List α) (h : l.length = 6) : ∃ a b c d e f, l = [a, b, c, d, e, f] := by
  match l, h with
  | [a, b, c, d, e, f], _ => exact ⟨a, b, c, d, e, f, rfl⟩
section
variable {H : Type} {enc : TypeId × Value → H} {w : World} {base : Nat} {spare : Nat → Bool} {held : Bool} {fuel : Nat} {cs : List Value} {x : DataW H × List MemPlace}
def Weighs (d : DataW H) (t : TypeId) : Prop := ∀ n ∈ d.weights Try.prog t, n ≤ reachBytes
theorem reach47 : reachBytes ≤ 140737488355328 := by decide
theorem weigh_all {e : TypeId} : ∀ (l : List (DataW H)) (d : DataW H), d ∈ l → ∀ n ∈ d.weights Try.prog e, n ∈ DataW.weightsAll Try.prog e l := by
  intro l
  induction l with
  | nil => intro d h; simp at h
  | cons x r ih =>
    intro d h n hn
    simp only [DataW.weightsAll, List.mem_append]
    rcases List.mem_cons.1 h with rfl | h
    · exact .inl hn
    · exact .inr (ih d h n hn)
theorem weigh_slice {t e : TypeId} {elems spare : List (DataW H)} (hu : Try.prog.underlying t = some (.slice e)) (h : Weighs (.slice elems spare) t) : (elems.length + spare.length) * Try.prog.bytesOf e ≤ reachBytes ∧ ∀ d ∈ elems, Weighs d e := by
  unfold Weighs at h
  simp only [DataW.weights, hu] at h
  exact ⟨h _ (List.mem_cons_self), fun d hd n hn => h n (List.mem_cons_of_mem _ (List.mem_append_left _ (weigh_all elems d hd n hn)))⟩
set_option maxRecDepth 100000 in
theorem trod_ir (hwt : Weighs x.1 27) (hf : DataW.trod enc Try.prog w base spare held fuel 27 cs = some x) :
    ∃ a cap zs, cs = [.slice a zs.length cap] ∧ IR w a zs ∧ zs.length ≤ 140737488355328 ∧ (a = none → zs = [] ∧ cap = 0) := by
  rcases open_ints Try.underlying27 Try.underlying3 (by kernel_rfl) hf with ⟨hcs, _⟩ | ⟨x, len, cap, zs, hcs, _, hl, hm, hz, hx, hcell, hwz⟩
  · exact ⟨none, 0, [], hcs, fun i hi => by simp at hi, Nat.zero_le _, fun _ => ⟨rfl, rfl⟩⟩
  · have hlz : len ≤ zs.length := by rw [hz]; split <;> omega
    have hlen : len ≤ 140737488355328 := by
      rw [hx] at hwt
      have h1 := (weigh_slice Try.underlying27 hwt).1
      have h8 : Try.prog.bytesOf 3 = 8 := by kernel_rfl
      rw [h8] at h1
      simp only [lits, List.length_map, List.length_take] at h1
      have := reach47
      omega
    refine ⟨some x, cap, zs.take len, by rw [List.length_take, Nat.min_eq_left hlz]; exact hcs, fun i hi => ?_, by rw [List.length_take]; omega, fun e => by cases e⟩
    rw [List.length_take] at hi
    have hci := hcell i (by omega)
    refine ⟨x, rfl, by rw [← add_block x i]; exact World.block_lt_of_cell? w _ hci, ?_⟩
    rw [hci, take_getD _ _ _ _ (by omega)]
set_option maxRecDepth 100000 in
theorem trod_ur (hwt : Weighs x.1 28) (hf : DataW.trod enc Try.prog w base spare held fuel 28 cs = some x) :
    ∃ a cap us, cs = [.slice a us.length cap] ∧ UR w a us ∧ (∀ u ∈ us, u < 18446744073709551616) ∧ us.length ≤ 140737488355328 ∧ (a = none → us = [] ∧ cap = 0) := by
  rcases open_ints Try.underlying28 Try.underlying25 (by kernel_rfl) hf with ⟨hcs, _⟩ | ⟨x, len, cap, zs, hcs, _, hl, hm, hz, hx, hcell, hwz⟩
  · exact ⟨none, 0, [], hcs, fun i hi => by simp at hi, fun z hz => by simp at hz, Nat.zero_le _, fun _ => ⟨rfl, rfl⟩⟩
  · have hlz : len ≤ zs.length := by rw [hz]; split <;> omega
    have hlen : len ≤ 140737488355328 := by
      rw [hx] at hwt
      have h1 := (weigh_slice Try.underlying28 hwt).1
      have h8 : Try.prog.bytesOf 25 = 8 := by kernel_rfl
      rw [h8] at h1
      simp only [lits, List.length_map, List.length_take] at h1
      have := reach47
      omega
    refine ⟨some x, cap, (zs.take len).map Int.toNat, by rw [List.length_map, List.length_take, Nat.min_eq_left hlz]; exact hcs, fun i hi => ?_, fun u h => ?_, by rw [List.length_map, List.length_take]; omega, fun e => by cases e⟩
    · rw [List.length_map, List.length_take] at hi
      have hci := hcell i (by omega)
      refine ⟨x, rfl, by rw [← add_block x i]; exact World.block_lt_of_cell? w _ hci, ?_⟩
      have hil : i < zs.length := by omega
      have hw := wf_u64 (hwz zs[i] (List.getElem_mem hil))
      have e1 : zs.getD i 0 = zs[i] := by rw [List.getD_eq_getElem?_getD, List.getElem?_eq_getElem hil]; rfl
      have e2 : ((zs.take len).map Int.toNat).getD i 0 = zs[i].toNat := by
        rw [List.getD_eq_getElem?_getD, List.getElem?_map, List.getElem?_take, if_pos (by omega), List.getElem?_eq_getElem hil]; rfl
      rw [hci, e1, e2]
      have e3 : ((zs[i].toNat : Nat) : Int) = zs[i] := by omega
      rw [e3]
    · obtain ⟨z, hz1, rfl⟩ := List.mem_map.1 h
      have := wf_u64 (hwz z (List.mem_of_mem_take hz1))
      omega
set_option maxRecDepth 100000 in
theorem trod_tr (hwt : Weighs x.1 26) (hf : DataW.trod enc Try.prog w base spare held fuel 26 cs = some x) :
    ∃ a cap ts, cs = [.slice a ts.length cap] ∧ TR w a ts ∧ (∀ t ∈ ts, t.size ≤ 140737488355328) ∧ ts.length ≤ 140737488355328 ∧ (a = none → ts = [] ∧ cap = 0) := by
  rcases open_strings Try.underlying26 Try.underlying9 (by kernel_rfl) hf with ⟨hcs, _⟩ | ⟨x, len, cap, zs, hcs, _, hl, hm, hz, hx, hcell, hwz⟩
  · exact ⟨none, 0, [], hcs, fun i t hi => by simp at hi, fun z hz => by simp at hz, Nat.zero_le _, fun _ => ⟨rfl, rfl⟩⟩
  · have hlz : len ≤ zs.length := by rw [hz]; split <;> omega
    rw [hx] at hwt
    obtain ⟨h1, h2⟩ := weigh_slice Try.underlying26 hwt
    have hlen : len ≤ 140737488355328 := by
      have h8 : Try.prog.bytesOf 9 = 16 := by kernel_rfl
      rw [h8] at h1
      simp only [strs, List.length_map, List.length_take] at h1
      have := reach47
      omega
    refine ⟨some x, cap, zs.take len, by rw [List.length_take, Nat.min_eq_left hlz]; exact hcs, fun i t hi => ?_, fun z h => ?zs, by rw [List.length_take]; omega, fun e => by cases e⟩
    have hil := (List.getElem?_eq_some_iff.1 hi).1
    rw [List.length_take] at hil
    have hci := hcell i (by omega)
    refine ⟨x, rfl, by rw [← add_block x i]; exact World.block_lt_of_cell? w _ hci, ?_⟩
    rw [List.getElem?_take, if_pos (by omega)] at hi
    rw [hci, List.getD_eq_getElem?_getD, hi]
    rfl
    case zs =>
      have h3 := h2 (.lit (.string z.data.toList)) (by unfold strs; exact List.mem_map.2 ⟨z, h, rfl⟩) z.data.toList.length (by simp [DataW.weights])
      have e : z.data.toList.length = z.size := by rw [Array.length_toList]; rfl
      have := reach47
      omega
set_option maxRecDepth 100000 in
set_option maxHeartbeats 1000000 in
theorem open_ops {v : Value} {d : DataW H} {p : List MemPlace} {r : Reach} {b0 : Nat} (hv : Value.okWide Try.prog w r b0 22 v) (h : DataW.Trod enc Try.prog w base spare held 22 v d p) (hwt : Weighs d 22) :
    ∃ a cap l, v = .slice a l.length cap ∧ IsOps w a l ∧ (∀ o ∈ l, o.ok) ∧ l.length ≤ maxLen := by
  obtain ⟨a, len, cap, rfl⟩ := okWide_slice Try.underlying22 hv
  obtain ⟨fuel, hf⟩ := h
  rcases open_slice Try.underlying22 hf with ⟨hcs, _⟩ | ⟨x, l, c, m, n, D, Pl, hcs, _, hl, hm, hmm, hx, hi⟩
  · simp [Value.cells] at hcs
    obtain ⟨rfl, rfl, rfl⟩ := hcs
    exact ⟨_, _, [], rfl, fun i p h => by simp at h, fun o h => by simp at h, Nat.zero_le _⟩
  · simp [Value.cells] at hcs
    obtain ⟨rfl, rfl, rfl⟩ := hcs
    have hlm : len ≤ m := by rw [hmm]; split <;> omega
    have hxd : d = _ := congrArg Prod.fst hx
    rw [hxd] at hwt
    have hwd := (weigh_slice Try.underlying22 hwt).2
    obtain ⟨L, hL, hq⟩ := list_of_ex (fun i (o : OpI) => o.ok ∧ o.lies w ∧ ∃ ad, some x = some ad ∧ ad.block < w.heap.size ∧ ∀ j u, o.cells[j]? = some u → w.cell? (ad.add (i * 6 + j)) = some u) len (fun i hil => by
      obtain ⟨cs', hc, ht'⟩ := hi i (by omega)
      obtain ⟨ys, n', _, hxa, _, hyl, hg⟩ := DataW.trod_struct Try.underlying30 ht'
      have hwi : Weighs (D i) 30 := hwd (D i) (List.mem_map.2 ⟨i, List.mem_range.2 hil, rfl⟩)
      have hda : D i = .agg (ys.map (·.1)) := congrArg Prod.fst hxa
      rw [hda] at hwi
      unfold Weighs at hwi
      simp only [DataW.weights, Try.underlying30] at hwi
      obtain ⟨_, hcl, hat⟩ := World.cells?_some hc
      have h6 : Try.prog.cellsOf 30 = 6 := by kernel_rfl
      have i1 : Try.prog.cellsOf 3 = 1 := by kernel_rfl
      have u1 : Try.prog.cellsOf 25 = 1 := by kernel_rfl
      have s1 : Try.prog.cellsOf 26 = 1 := by kernel_rfl
      have l1 : Try.prog.cellsOf 27 = 1 := by kernel_rfl
      have p1 : Try.prog.cellsOf 28 = 1 := by kernel_rfl
      rw [h6] at hc hcl hat
      have g0 := hg 0 _ rfl
      have g1 := hg 1 _ rfl
      have g2 := hg 2 _ rfl
      have g3 := hg 3 _ rfl
      have g4 := hg 4 _ rfl
      have g5 := hg 5 _ rfl
      obtain ⟨c0, c1, c2, c3, c4, c5, rfl⟩ := six_of cs' hcl
      obtain ⟨y0, y1, y2, y3, y4, y5, rfl⟩ := six_of ys hyl
      obtain ⟨n0, e0, _, _⟩ := DataW.trod_int Try.underlying3 g0
      obtain ⟨n1, e1, _, _⟩ := DataW.trod_int Try.underlying3 g1
      obtain ⟨n2, e2, _, w2⟩ := DataW.trod_int Try.underlying25 g2
      obtain ⟨sa, sc, ts, e3, t1, t2, t3, t4⟩ := trod_tr (fun n hn => hwi n (DataW.weights_mem_each (j := 3) rfl rfl n hn)) g3
      obtain ⟨la, lc, zs, e4, z1, z3, z4⟩ := trod_ir (fun n hn => hwi n (DataW.weights_mem_each (j := 4) rfl rfl n hn)) g4
      obtain ⟨pa, pc, us, e5, v1, v2, v3, v4⟩ := trod_ur (fun n hn => hwi n (DataW.weights_mem_each (j := 5) rfl rfl n hn)) g5
      simp [i1, u1, s1, l1, p1] at e0 e1 e2 e3 e4 e5
      subst e0 e1 e2 e3 e4 e5
      have hw := wf_u64 w2
      refine ⟨⟨n0, n1, n2.toNat, ts, zs, us, sa, la, pa, sc, lc, pc⟩, ⟨by show n2.toNat < _; omega, v2, t2, t3, z3, v3, t4, z4, v4⟩, ⟨t1, z1, v1⟩, x, rfl, ?_, fun j u hu => ?_⟩
      · have := World.block_lt_of_cell? w _ (hat 0 (by simp))
        rw [add_block, add_block] at this
        exact this
      · have hjl : j < 6 := by
          have := (List.getElem?_eq_some_iff.1 hu).1
          exact this
        have hcj := hat j (by simpa using hjl)
        rw [Deep.add_add] at hcj
        rw [hcj, ← hu]
        have e3 : ((n2.toNat : Nat) : Int) = n2 := by omega
        unfold OpI.cells
        simp only [e3])
    refine ⟨_, _, L, by rw [hL], fun i o ho => (hq i o ho).2, fun o ho => ?_, by omega⟩
    obtain ⟨i, hi⟩ := List.getElem?_of_mem ho
    exact (hq i o hi).1
end
/-- What an operation takes of the room. -/
def tcost (ts : List ByteArray) : Nat := (ts.map fun t => 20 + t.size).sum
def OpI.cost (o : OpI) : Nat := 20 + 10 * o.l.length + 4 * o.p.length + tcost o.s
def ocost (l : List OpI) : Nat := (l.map OpI.cost).sum
theorem tcost_take (ts : List ByteArray) (k : Nat) (t : ByteArray) (h : ts[k]? = some t) : tcost (ts.take (k + 1)) = tcost (ts.take k) + (20 + t.size) := by
  unfold tcost; rw [List.take_add_one, h]; simp
theorem ocost_take (l : List OpI) (k : Nat) (o : OpI) (h : l[k]? = some o) : ocost (l.take (k + 1)) = ocost (l.take k) + o.cost := by
  unfold ocost; rw [List.take_add_one, h]; simp
theorem ocost_le (l : List OpI) (k : Nat) : ocost (l.take k) ≤ ocost l := by
  have : ocost l = ocost (l.take k) + ocost (l.drop k) := by
    unfold ocost
    rw [← List.sum_append, ← List.map_append, List.take_append_drop]
  omega
/-- What is left behind two sizes. -/
def rm2 (L a b : Int) : Int := if L < a then -1 else rm (L - a) b
set_option maxRecDepth 100000 in
set_option maxHeartbeats 1000000 in
theorem room2_any (L n0 n1 : Int) (b : Nat) (w : World) (h0 : 0 ≤ L) (h1 : L ≤ 100000) (hn0 : 0 ≤ n0) (hn1 : 0 ≤ n1) (hc0 : w.cell? ⟨b, 0, none⟩ = some (.int .i64 n0)) (hc1 : w.cell? ⟨b, 1, none⟩ = some (.int .i64 n1)) :
    Calls Try.prog 8 #[.int .i64 L, .slice (some ⟨b, 0, none⟩) 2 2] w fun e w' => e = .returned (.int .i64 (rm2 L n0 n1)) ∧ w = w' := by
  by_cases hl : L < n0
  · have hr : Hid (rm2 L n0 n1 = -1) := Lib.hid (by unfold rm2; rw [if_pos hl])
    go_enter Try.func8, Try.ntmps8
    go_wp2
    go_loop [0, 5] (fun l i => l = .int .i64 L ∧ i = .int .i64 0) (fun _ i => 2 - (intOf i).toNat)
    case atStart => exact ⟨rfl, rfl⟩
    case round =>
      obtain ⟨rfl, rfl⟩ := hrel
      go_wp2
      go_ret
      exact ⟨by rw [hr.out]; rfl, rfl⟩
  · have hL0 : 0 ≤ L - n0 := by omega
    have hL1 : L - n0 ≤ 100000 := by omega
    by_cases hl2 : L - n0 < n1
    · have hr : Hid (rm2 L n0 n1 = -1) := Lib.hid (by unfold rm2 rm; rw [if_neg hl, if_pos hl2])
      go_enter Try.func8, Try.ntmps8
      go_wp2
      go_loop [0, 5] (fun l i => ∃ k : Nat, k ≤ 1 ∧ i = .int .i64 k ∧ l = .int .i64 (if k = 0 then L else L - n0)) (fun _ i => 2 - (intOf i).toNat)
      case atStart => exact ⟨0, by omega, rfl, rfl⟩
      case round =>
        obtain ⟨k, hk, rfl, rfl⟩ := hrel
        by_cases hk0 : k = 0
        · subst hk0
          rw [if_pos rfl]
          go_wp2
          go_round
          case rel => exact ⟨1, by omega, by go_num, by rw [if_neg (by omega)]⟩
          case measure => simp [intOf]
        · obtain rfl : k = 1 := by omega
          rw [if_neg (by omega)]
          go_wp2
          go_ret
          exact ⟨by rw [hr.out]; rfl, rfl⟩
    · have hr : Hid (rm2 L n0 n1 = L - n0 - n1) := Lib.hid (by unfold rm2 rm; rw [if_neg hl, if_neg hl2])
      have hb2 : L - n0 - n1 ≤ 100000 := by omega
      have hb3 : 0 ≤ L - n0 - n1 := by omega
      go_enter Try.func8, Try.ntmps8
      go_wp2
      go_loop [0, 5] (fun l i => ∃ k : Nat, k ≤ 2 ∧ i = .int .i64 k ∧ l = .int .i64 (if k = 0 then L else if k = 1 then L - n0 else L - n0 - n1)) (fun _ i => 2 - (intOf i).toNat)
      case atStart => exact ⟨0, by omega, rfl, rfl⟩
      case round =>
        obtain ⟨k, hk, rfl, rfl⟩ := hrel
        by_cases hk0 : k = 0
        · subst hk0
          rw [if_pos rfl]
          go_wp2
          go_round
          case rel => exact ⟨1, by omega, by go_num, by rw [if_neg (by omega), if_pos rfl]⟩
          case measure => simp [intOf]
        · by_cases hk1 : k = 1
          · subst hk1
            rw [if_neg (by omega), if_pos rfl]
            go_wp2
            go_round
            case rel => exact ⟨2, by omega, by go_num, by rw [if_neg (by omega), if_neg (by omega)]⟩
            case measure => simp [intOf]
          · obtain rfl : k = 2 := by omega
            rw [if_neg (by omega), if_neg (by omega)]
            go_wp2
            go_ret
            exact ⟨by rw [hr.out]; rfl, rfl⟩
end Go.Proofs.Ytbkcklefkhlciaa
namespace Go.Proofs.Ytbkcklefkhlciaa
open Go.RowKit
set_option linter.unusedVariables false
theorem Try.infoRG : (Try.prog.info? 37).map (fun i => (i.zero, i.size, i.bytes)) = some (some (.agg #[.int .i64 0, .int .i64 0, .int .i64 0, .int .u64 0, .string ⟨#[]⟩]), 5, 48) := by kernel_rfl
structure RFd where
  kind : Nat
  val : Nat
  data : ByteArray
def rfC (num : Int) (f : RFd) : List Value := [.int .i64 num, .int .i64 (f.kind : Int), .int .i64 0, .int .u64 (f.val : Int), .string f.data]
def rfsC (num : Int) (l : List RFd) : List Value := l.flatMap (rfC num)
theorem rfsC_snoc (num : Int) (l : List RFd) (f : RFd) : rfsC num (l ++ [f]) = rfsC num l ++ rfC num f := by unfold rfsC; simp
theorem rfsC_get (num : Int) (l : List RFd) : ∀ (i : Nat) (f : RFd) (j : Nat), l[i]? = some f → j < 5 → (rfsC num l)[i * 5 + j]? = (rfC num f)[j]? := by
  induction l with
  | nil => intro i f j h; simp at h
  | cons q r ih =>
    intro i f j h hj
    have hq : (rfC num q).length = 5 := rfl
    have e : rfsC num (q :: r) = rfC num q ++ rfsC num r := by unfold rfsC; simp
    rw [e]
    cases i with
    | zero =>
      simp only [List.getElem?_cons_zero, Option.some.injEq] at h
      subst h
      rw [List.getElem?_append_left (by rw [hq]; omega), Nat.zero_mul, Nat.zero_add]
    | succ i =>
      rw [List.getElem?_cons_succ] at h
      rw [List.getElem?_append_right (by rw [hq]; omega), hq, show (i + 1) * 5 + j - 5 = i * 5 + j from by omega]
      exact ih i f j h hj
/-- The row at a holds the document's fields l. -/
def RRow (w : World) (a : Option Addr) (num : Int) (l : List RFd) : Prop :=
  ∀ i f, l[i]? = some f → ∃ g, a = some ⟨g, 0, none⟩ ∧ g < w.heap.size ∧ ∀ j u, (rfC num f)[j]? = some u → w.cell? ⟨g, i * 5 + j, none⟩ = some u
theorem RRow.below {w w' : World} {a : Option Addr} {num : Int} {l : List RFd} (h : RRow w a num l) (hb : Below w.heap.size w w') : RRow w' a num l := by
  intro i f hi
  obtain ⟨g, ha, hlt, hc⟩ := h i f hi
  exact ⟨g, ha, Nat.lt_of_lt_of_le hlt hb.size, fun j u hu => (hb.cell (p := ⟨g, i * 5 + j, none⟩) hlt).trans (hc j u hu)⟩
theorem rrow_own {w : World} {b n c : Nat} {a : Option Addr} {num : Int} {l : List RFd} (h : w.ownsRow b 37 5 (.slice a n c) n (rfsC num l)) (hn : n = l.length) : RRow w a num l := by
  intro i f hp
  have hi : i < l.length := (List.getElem?_eq_some_iff.1 hp).1
  obtain ⟨g, cap, hv, _, hlt⟩ := h.form (by omega)
  have hA : a = some ⟨g, 0, none⟩ := by injection hv
  subst hA
  refine ⟨g, rfl, hlt, fun j u hu => ?_⟩
  have hj : j < 5 := (List.getElem?_eq_some_iff.1 hu).1
  have := h.cells (g := g) rfl (i * 5 + j) u (by rw [rfsC_get num l i f j hp hj]; exact hu)
  have e : (⟨g, 0, none⟩ : Addr).add (i * 5 + j) = ⟨g, i * 5 + j, none⟩ := by unfold Addr.add; split <;> simp_all
  rw [e] at this
  exact this
/-- One field more of the document's. -/
theorem push_rg {ops : Array Oper} {rest : List Oper} {o : Oper} {a : Act} {Q : Exit → Act → World → Prop} (hgd : o.guard = none) (s x : Operand)
    (ho : o.op = .call { callee := .builtin .append, args := #[s, x], argTypes := #[34, 34] }) (B : Nat) (W : World) (v : Value) (num : Int) (l : List RFd) (f : RFd) (cs : Array Value) (hcs : cs.toList = rfC num f)
    (hs : a.eval s = v) (hown : W.ownsRow B 37 5 v l.length (rfsC num l)) (hB : B ≤ W.heap.size) (g : Nat) (hgW : W.heap.size = g) (hx : a.eval x = .slice (some ⟨g, 0, none⟩) 1 1) (hlen : l.length ≤ 1000000)
    (h : ∀ v' W', W'.ownsRow B 37 5 v' (l ++ [f]).length (rfsC num (l ++ [f])) → Below B W W' → wpList Try.prog ops Q rest (a.put o.dst v') W') :
    wpList Try.prog ops Q (o :: rest) a (W.alloc (.cells cs 37)) := by
  obtain ⟨i0, hi, hz0, hz1, hz2⟩ := info_parts Try.infoRG
  subst hgW
  have hl := hown.lt
  have hc : ∀ j, (W.alloc (.cells cs 37)).cell? ⟨W.heap.size, j, none⟩ = cs[j]? := fun j => (Blk.new W 37 cs).cell j
  have hB' : B ≤ (W.alloc (.cells cs 37)).heap.size := by simp; omega
  refine wpList_append_own _ hgd s x 34 ho B 37 i0 (.agg #[.int .i64 0, .int .i64 0, .int .i64 0, .int .u64 0, .string ⟨#[]⟩]) 5 48 Try.underlying34 hi hz0 hz1 hz2 rfl (by decide) v l.length _ hs (hown.alloc _) ⟨W.heap.size, 0, none⟩ 1 1 (rfC num f) hx rfl ?_ ?_ ?_ ?_ hB' ?_
  · intro j u hj
    have e : (⟨W.heap.size, 0, none⟩ : Addr).add j = ⟨W.heap.size, j, none⟩ := by unfold Addr.add; split <;> simp_all
    rw [e, hc, ← hj, ← hcs, Array.getElem?_toList]
  · intro u hu; unfold rfC at hu; simp at hu; rcases hu with rfl | rfl | rfl | rfl | rfl <;> rfl
  · unfold maxLen; omega
  · omega
  · intro v' W' hown' hg _
    refine h v' W' ?_ (((Below.refl B W).alloc hB _).grown hg hB' (fun k hk => (hl k hk).1))
    rw [rfsC_snoc, List.length_append]
    exact hown'
theorem step_push_rg {ops : Array Oper} {o : Oper} {a : Act} {K : Act → World → Prop} {Q : Exit → Act → World → Prop} {E : Prop} (hgd : o.guard = none) (s x : Operand)
    (ho : o.op = .call { callee := .builtin .append, args := #[s, x], argTypes := #[34, 34] }) (B : Nat) (W : World) (v : Value) (num : Int) (l : List RFd) (f : RFd) (cs : Array Value) (hcs : cs.toList = rfC num f)
    (hs : a.eval s = v) (hown : W.ownsRow B 37 5 v l.length (rfsC num l)) (hB : B ≤ W.heap.size) (g : Nat) (hgW : W.heap.size = g) (hx : a.eval x = .slice (some ⟨g, 0, none⟩) 1 1) (hlen : l.length ≤ 1000000)
    (h : ∀ v' W', W'.ownsRow B 37 5 v' (l ++ [f]).length (rfsC num (l ++ [f])) → Below B W W' → K (a.put o.dst v') W') :
    if Region.wanted o (yielded ops a.tmps) = true then Oper.wp Try.prog o a (W.alloc (.cells cs 37)) K Q else E := by
  have hw : Region.wanted o (yielded ops a.tmps) = true := by simp [Region.wanted, hgd]
  rw [if_pos hw]
  obtain ⟨i0, hi, hz0, hz1, hz2⟩ := info_parts Try.infoRG
  subst hgW
  have hl := hown.lt
  have hc : ∀ j, (W.alloc (.cells cs 37)).cell? ⟨W.heap.size, j, none⟩ = cs[j]? := fun j => (Blk.new W 37 cs).cell j
  have hB' : B ≤ (W.alloc (.cells cs 37)).heap.size := by simp; omega
  refine wp_append_own _ s x 34 ho B 37 i0 (.agg #[.int .i64 0, .int .i64 0, .int .i64 0, .int .u64 0, .string ⟨#[]⟩]) 5 48 Try.underlying34 hi hz0 hz1 hz2 rfl (by decide) v l.length _ hs (hown.alloc _) ⟨W.heap.size, 0, none⟩ 1 1 (rfC num f) hx rfl ?_ ?_ ?_ ?_ hB' ?_
  · intro j u hj
    have e : (⟨W.heap.size, 0, none⟩ : Addr).add j = ⟨W.heap.size, j, none⟩ := by unfold Addr.add; split <;> simp_all
    rw [e, hc, ← hj, ← hcs, Array.getElem?_toList]
  · intro u hu; unfold rfC at hu; simp at hu; rcases hu with rfl | rfl | rfl | rfl | rfl <;> rfl
  · unfold maxLen; omega
  · omega
  · intro v' W' hown' hg _
    refine h v' W' ?_ (((Below.refl B W).alloc hB _).grown hg hB' (fun k hk => (hl k hk).1))
    rw [rfsC_snoc, List.length_append]
    exact hown'
def RFd.ok (f : RFd) : Prop := KG f.kind f.val f.data ∧ f.val < 18446744073709551616
def RFd.fd (num : Int) (f : RFd) : Fd × ByteArray := fF num f.kind f.val f.data
def fl (num : Int) (l : List RFd) : List (Fd × ByteArray) := l.map (RFd.fd num)
def rE (num : Int) : Int := if okn num then 0 else 1
def rT (num : Int) (f : RFd) : ByteArray := if okn num then (f.fd num).2 else ⟨#[]⟩
theorem rput_st (num : Int) (f : RFd) (w : World) (hf : f.ok) :
    Calls Try.prog 22 #[.agg #[.int .i64 num, .int .i64 (f.kind : Int), .int .i64 0, .int .u64 (f.val : Int), .string f.data]] w fun e w' => e = .returned (.tuple #[.string (rT num f), .int .i64 (rE num)]) ∧ Below w.heap.size w w' := by
  obtain ⟨hk, hv⟩ := hf
  have hd : f.data.size ≤ maxLen := by
    unfold maxLen
    rcases hk with ⟨_, h⟩ | ⟨_, _, h⟩
    · rw [h]; exact Nat.zero_le _
    · omega
  refine (rput_any num f.kind 0 f.val f.data w hv hd).mono ?_
  rintro e w' ⟨⟨hm, rfl⟩ | ⟨hm, rfl⟩, hb⟩
  · have ho : okn num = true := by unfold okn; simp; exact ⟨hm.1, hm.2.1⟩
    refine ⟨?_, hb⟩
    unfold rT rE RFd.fd fF
    rw [if_pos ho, if_pos ho]
    rfl
  · have ho : okn num = false := by
      cases h : okn num
      · rfl
      · exact absurd (may_k hk h) hm
    refine ⟨?_, hb⟩
    unfold rT rE
    rw [if_neg (by rw [ho]; simp), if_neg (by rw [ho]; simp)]
def badOf : Sta → Int
  | some _ => 0
  | none => 1
def WantIs (st : Sta) (t : ByteArray) : Prop := ∀ ps, st = some ps → t = cat ps
/-- What a state may be behind so much of the room. -/
def Sz (c : Nat) (st : Sta) : Prop := ∀ ps, st = some ps → (cat ps).size ≤ c ∧ 20 * ps.length ≤ c ∧ ∀ q ∈ ps, PutHid q.1 q.2
theorem Sz.fit {c : Nat} {st : Sta} (h : Sz c st) (hc : c ≤ 60000) : Fit st := fun ps e => by
  obtain ⟨h1, h2, _⟩ := h ps e
  exact ⟨by omega, by omega⟩
def lcost (l : List RFd) : Nat := (l.map fun f => 20 + f.data.size).sum
theorem cat_fl (num : Int) (l : List RFd) (hl : ∀ f ∈ l, f.ok) (ho : okn num = true) : (cat (fl num l)).size ≤ lcost l ∧ 20 * (fl num l).length ≤ lcost l ∧ ∀ q ∈ fl num l, PutHid q.1 q.2 := by
  induction l with
  | nil => exact ⟨Nat.le_refl _, Nat.le_refl _, fun q hq => by simp [fl] at hq⟩
  | cons f r ih =>
    obtain ⟨h1, h2, h3⟩ := ih (fun g hg => hl g (List.mem_cons_of_mem _ hg))
    have hf := hl f (List.mem_cons_self)
    have e1 : fl num (f :: r) = f.fd num :: fl num r := rfl
    have e2 : lcost (f :: r) = (20 + f.data.size) + lcost r := by unfold lcost; simp
    have h4 := size_k (num := num) hf.2 hf.1 ho
    have h5 : (f.fd num).2.size ≤ 20 + f.data.size := h4
    rw [e1, e2]
    refine ⟨by simp only [cat, bsize_app]; omega, by simp only [List.length_cons]; omega, fun q hq => ?_⟩
    rcases List.mem_cons.1 hq with rfl | hq
    · exact puthid_k hf.2 hf.1 ho
    · exact h3 q hq
theorem Sz.add {c : Nat} {st : Sta} (h : Sz c st) (num : Int) (l : List RFd) (hl : ∀ f ∈ l, f.ok) : Sz (c + lcost l) (addS num st (fl num l)) := by
  intro ps e
  cases st with
  | none => simp [addS] at e
  | some qs =>
    obtain ⟨h1, h2, h3⟩ := h qs rfl
    cases l with
    | nil =>
      have : addS num (some qs) (fl num []) = some qs := rfl
      rw [this] at e; cases e
      exact ⟨by omega, by omega, h3⟩
    | cons f r =>
      have e1 : addS num (some qs) (fl num (f :: r)) = if okn num then some (qs ++ fl num (f :: r)) else none := rfl
      rw [e1] at e
      cases ho : okn num with
      | false => rw [ho] at e; simp at e
      | true =>
        rw [ho, if_pos rfl] at e
        cases e
        obtain ⟨g1, g2, g3⟩ := cat_fl num (f :: r) hl ho
        refine ⟨by rw [cat_app, bsize_app]; omega, by rw [List.length_append]; omega, fun q hq => ?_⟩
        rcases List.mem_append.1 hq with hq | hq
        · exact h3 q hq
        · exact g3 q hq
theorem Sz.mono {c c' : Nat} {st : Sta} (h : Sz c st) (hc : c ≤ c') : Sz c' st := fun ps e => by
  obtain ⟨h1, h2, h3⟩ := h ps e
  exact ⟨by omega, by omega, h3⟩
theorem Sz.none {c : Nat} : Sz c none := fun ps e => by cases e
/-- One field more, of a message that is good so far. -/
theorem add_step (num : Int) (ps : List (Fd × ByteArray)) (f : RFd) : addS num (some ps) [f.fd num] = if okn num then some (ps ++ [f.fd num]) else none := rfl
theorem want_step (num : Int) (ps : List (Fd × ByteArray)) (f : RFd) : WantIs (addS num (some ps) [f.fd num]) (cat ps ++ rT num f) ∧ badOf (addS num (some ps) [f.fd num]) = rE num := by
  rw [add_step]
  unfold rT rE
  cases ho : okn num with
  | true => exact ⟨fun qs e => by simp at e; subst e; simp [cat_snoc], by simp [badOf]⟩
  | false => exact ⟨fun qs e => by simp at e, by simp [badOf]⟩
theorem fl_app (num : Int) (l m : List RFd) : fl num (l ++ m) = fl num l ++ fl num m := by unfold fl; simp
theorem fl_take (num : Int) (l : List RFd) (k : Nat) (f : RFd) (h : l[k]? = some f) : fl num (l.take (k + 1)) = fl num (l.take k) ++ [f.fd num] := by
  rw [List.take_add_one, h, fl_app]; rfl
/-- What is bad stays so. -/
theorem add_bad (num : Int) (st : Sta) (l : List RFd) (k : Nat) (h : addS num st (fl num (l.take k)) = none) : addS num st (fl num l) = none := by
  have e : l = l.take k ++ l.drop k := (List.take_append_drop k l).symm
  rw [e, fl_app, ← addS_app, h]
  rfl
/-- The document's fields of an operation. -/
def OpI.fields (o : OpI) : List RFd :=
  if o.kind = 1 then [⟨0, o.v, ⟨#[]⟩⟩] else if o.kind = 2 then o.s.map (fun t => ⟨2, 0, t⟩) else if o.kind = 3 then (if o.l.length = 0 then [] else [⟨2, 0, ibs o.l⟩]) else (if o.p.length = 0 then [] else [⟨2, 0, fbs o.p⟩])
def OpI.wide (o : OpI) : Bool := if o.kind = 1 then false else if o.kind = 2 then false else if o.kind = 3 then false else wideB o.p
/-- What a message comes to by an operation. -/
def OpI.next (o : OpI) (st : Sta) : Sta := if o.wide then none else addS o.num st (fl o.num o.fields)
theorem OpI.fields_ok (o : OpI) (h : o.ok) (hc : o.cost ≤ 30000) : (∀ f ∈ o.fields, f.ok) ∧ lcost o.fields ≤ o.cost := by
  unfold OpI.cost at hc ⊢
  unfold OpI.fields
  split
  · have e0 : (⟨#[]⟩ : ByteArray).size = 0 := rfl
    exact ⟨fun f hf => by rw [List.mem_singleton] at hf; subst hf; exact ⟨.inl ⟨rfl, rfl⟩, h.v⟩, by unfold lcost; simp only [List.map_cons, List.map_nil, List.sum_cons, List.sum_nil]; rw [e0]; omega⟩
  · split
    · have e : lcost (o.s.map fun t => (⟨2, 0, t⟩ : RFd)) = tcost o.s := by unfold lcost tcost; rw [List.map_map]; rfl
      refine ⟨fun f hf => ?_, by rw [e]; omega⟩
      obtain ⟨t, ht, rfl⟩ := List.mem_map.1 hf
      have h1 : 20 + t.size ≤ tcost o.s := by
        have hg : ∀ l : List ByteArray, t ∈ l → 20 + t.size ≤ tcost l := by
          intro l
          induction l with
          | nil => intro hm; simp at hm
          | cons x r ih =>
            intro hm
            have e2 : tcost (x :: r) = (20 + x.size) + tcost r := by unfold tcost; simp
            rw [e2]
            rcases List.mem_cons.1 hm with rfl | hm
            · omega
            · have := ih hm; omega
        exact hg o.s ht
      exact ⟨.inr ⟨rfl, rfl, by show t.size ≤ 60000; omega⟩, by show 0 < 18446744073709551616; omega⟩
    · split
      · split
        · exact ⟨fun f hf => by simp at hf, by unfold lcost; simp⟩
        · have h1 := ibs_size o.l
          exact ⟨fun f hf => by rw [List.mem_singleton] at hf; subst hf; exact ⟨.inr ⟨rfl, rfl, by show (ibs o.l).size ≤ 60000; omega⟩, by show 0 < 18446744073709551616; omega⟩, by unfold lcost; simp; omega⟩
      · split
        · exact ⟨fun f hf => by simp at hf, by unfold lcost; simp⟩
        · have h1 := fbs_size o.p
          exact ⟨fun f hf => by rw [List.mem_singleton] at hf; subst hf; exact ⟨.inr ⟨rfl, rfl, by show (fbs o.p).size ≤ 60000; omega⟩, by show 0 < 18446744073709551616; omega⟩, by unfold lcost; simp; omega⟩
theorem OpI.next_sz (o : OpI) (h : o.ok) (hc : o.cost ≤ 30000) {c : Nat} {st : Sta} (hs : Sz c st) : Sz (c + o.cost) (o.next st) := by
  obtain ⟨h1, h2⟩ := o.fields_ok h hc
  unfold OpI.next
  split
  · exact Sz.none
  · exact (hs.add o.num o.fields h1).mono (by omega)
end Go.Proofs.Ytbkcklefkhlciaa
namespace Go.Proofs.Ytbkcklefkhlciaa
open Go.RowKit
set_option linter.unusedVariables false
theorem below_dn {B : Nat} {a w : World} (h : Below B a w) (n : Nat) : Below B a (w.drewN n) := ⟨h.os, h.tape, h.output, h.size, h.block⟩
theorem new_at (w : World) (m : Nat) (h : w.heap.size = m) : Calls Try.prog 9 #[] w fun e w' => e = .returned (.pointer (some ⟨m, 0, none⟩)) ∧ MsgP m m w' [] 0 ∧ Below m w w' := by subst h; exact new_any w
def C6 (W : World) (x : Addr) (o : OpI) : Prop :=
  W.cell? x = some (.int .i64 o.kind) ∧ W.cell? ⟨x.block, x.off + 1, none⟩ = some (.int .i64 o.num) ∧ W.cell? ⟨x.block, x.off + 2, none⟩ = some (.int .u64 (o.v : Int)) ∧ W.cell? ⟨x.block, x.off + 3, none⟩ = some (.slice o.sa o.s.length o.sc) ∧ W.cell? ⟨x.block, x.off + 4, none⟩ = some (.slice o.la o.l.length o.lc) ∧ W.cell? ⟨x.block, x.off + 5, none⟩ = some (.slice o.pa o.p.length o.pc)
theorem add_pos (x : Addr) (k : Nat) : x.add (k + 1) = ⟨x.block, x.off + (k + 1), none⟩ := by unfold Addr.add; rw [if_neg (by omega)]
theorem c6_of {W : World} {a : Option Addr} {k : Nat} {l : List OpI} {o : OpI} (h : IsOps W a l) (hp : l[k]? = some o) : o.lies W ∧ ∃ ad, a = some ad ∧ ad.block < W.heap.size ∧ C6 W (ad.add (k * 6)) o := by
  obtain ⟨hl, ad, ha, hlt, hcp⟩ := h k o hp
  have c0 := hcp 0 _ rfl; have c1 := hcp 1 _ rfl; have c2 := hcp 2 _ rfl; have c3 := hcp 3 _ rfl; have c4 := hcp 4 _ rfl; have c5 := hcp 5 _ rfl
  simp only [Nat.add_zero] at c0
  rw [← Deep.add_add, add_pos] at c1 c2 c3 c4 c5
  exact ⟨hl, ad, ha, hlt, c0, c1, c2, c3, c4, c5⟩
/-- What a loop over the room keeps. -/
def Left (R : Int) (c : Nat) : Prop := 0 ≤ R → (c : Int) + R = 30000
theorem rm_left {R : Int} {c : Nat} (n : Nat) (h : Left R c) (hR : 0 ≤ R) (h3 : R ≤ 30000) : Left (rm R n) (c + n) ∧ -1 ≤ rm R n ∧ rm R n ≤ 30000 := by
  unfold Left rm at *
  have := h hR
  split <;> (refine ⟨fun h2 => ?_, ?_, ?_⟩ <;> omega)
theorem rm2_left {R : Int} {c : Nat} (n m : Nat) (h : Left R c) (hR : 0 ≤ R) (h3 : R ≤ 30000) : Left (rm2 R n m) (c + n + m) ∧ -1 ≤ rm2 R n m ∧ rm2 R n m ≤ 30000 := by
  unfold Left rm2 rm at *
  have := h hR
  split
  · refine ⟨fun h2 => ?_, ?_, ?_⟩ <;> omega
  · split <;> (refine ⟨fun h2 => ?_, ?_, ?_⟩ <;> omega)
theorem lents_any (a : Option Addr) (c : Nat) (ts : List ByteArray) (w : World) (hz : ts.length ≤ 100000) (ha : TR w a ts) (h0 : a = none → ts = [] ∧ c = 0) :
    Calls Try.prog 11 #[.slice a ts.length c] w (LentS ts w) := by
  cases a with
  | none => obtain ⟨rfl, rfl⟩ := h0 rfl; exact lents_none w
  | some ad => exact lents_some ad c ts w hz ha
theorem lenti_any (a : Option Addr) (c : Nat) (zs : List Int) (w : World) (hz : zs.length ≤ 100000) (ha : IR w a zs) (h0 : a = none → zs = [] ∧ c = 0) :
    Calls Try.prog 14 #[.slice a zs.length c] w (LentI zs w) := by
  cases a with
  | none => obtain ⟨rfl, rfl⟩ := h0 rfl; exact lenti_none w
  | some ad => exact lenti_some ad c zs w hz ha
theorem lentp_any (a : Option Addr) (c : Nat) (us : List Nat) (w : World) (hz : us.length ≤ 100000) (ha : UR w a us) (h0 : a = none → us = [] ∧ c = 0) :
    Calls Try.prog 18 #[.slice a us.length c] w (LentP us w) := by
  cases a with
  | none => obtain ⟨rfl, rfl⟩ := h0 rfl; exact lentp_none w
  | some ad => exact lentp_some ad c us w hz ha
/-- What is new is none of the message's. -/
theorem aw_fresh {B m : Nat} {w w' : World} {st : Sta} {g : Nat} (h : St B m w st) (hg : w.heap.size ≤ g) (hb : Below w.heap.size w w') : Aw m w' g := by
  have key : ∀ {l : List (Fd × Nat)} {es : List Nat} {c : Int}, IsMsg B m w l es c → Aw m w' g := by
    intro l es c hm
    have hml := hm.lt
    obtain ⟨_, fv, ev, hb0, hf, he⟩ := hm
    refine ⟨by omega, fun v hv e => ?_, fun v hv e => ?_⟩
    · have h1 : w'.cell? ⟨m, 1, none⟩ = some fv := (hb.cell (p := ⟨m, 1, none⟩) hml).trans (hb0.cell 1)
      rw [h1] at hv; cases hv
      have := (hf.lt _ e).2; omega
    · have h1 : w'.cell? ⟨m, 2, none⟩ = some ev := (hb.cell (p := ⟨m, 2, none⟩) hml).trans (hb0.cell 2)
      rw [h1] at hv; cases hv
      have := (he.lt _ e).2; omega
  cases st with
  | some ps => exact key (c := 0) h
  | none => obtain ⟨l, es, h⟩ := h; exact key h
theorem tr_fr {m g : Nat} {w w' : World} {ts : List ByteArray} (h : TR w (some ⟨g, 0, none⟩) ts) (ha : Aw m w g) (hf : Fr m w w') : TR w' (some ⟨g, 0, none⟩) ts := by
  intro i t ht
  obtain ⟨ad, e, hlt, hc⟩ := h i t ht
  cases e
  obtain ⟨h1, h2⟩ := hf.keep g hlt ha
  refine ⟨_, rfl, Nat.lt_of_lt_of_le hlt hf.size, ?_⟩
  rw [← hc]
  exact World.cell?_of_block (by rw [add_block]; exact h1)
theorem ir_fr {m g : Nat} {w w' : World} {zs : List Int} (h : IR w (some ⟨g, 0, none⟩) zs) (ha : Aw m w g) (hf : Fr m w w') : IR w' (some ⟨g, 0, none⟩) zs := by
  intro i hi
  obtain ⟨ad, e, hlt, hc⟩ := h i hi
  cases e
  obtain ⟨h1, h2⟩ := hf.keep g hlt ha
  refine ⟨_, rfl, Nat.lt_of_lt_of_le hlt hf.size, ?_⟩
  rw [← hc]
  exact World.cell?_of_block (by rw [add_block]; exact h1)
theorem ur_fr {m g : Nat} {w w' : World} {us : List Nat} (h : UR w (some ⟨g, 0, none⟩) us) (ha : Aw m w g) (hf : Fr m w w') : UR w' (some ⟨g, 0, none⟩) us := by
  intro i hi
  obtain ⟨ad, e, hlt, hc⟩ := h i hi
  cases e
  obtain ⟨h1, h2⟩ := hf.keep g hlt ha
  refine ⟨_, rfl, Nat.lt_of_lt_of_le hlt hf.size, ?_⟩
  rw [← hc]
  exact World.cell?_of_block (by rw [add_block]; exact h1)
theorem blk_fr {m g : Nat} {w w' : World} {t : TypeId} {cs : Array Value} (h : Blk w g t cs) (ha : Aw m w g) (hf : Fr m w w') : Blk w' g t cs := (hf.keep g h.lt ha).1.trans h
theorem tra_of {m g : Nat} {w : World} {ts us : List ByteArray} (h : TR w (some ⟨g, 0, none⟩) (ts ++ us)) (ha : Aw m w g) : TRA m w (some ⟨g, 0, none⟩) ts := by
  intro i t ht
  obtain ⟨ad, e, hlt, hc⟩ := h i t (by rw [List.getElem?_append_left (List.getElem?_eq_some_iff.1 ht).1]; exact ht)
  cases e
  exact ⟨_, rfl, hlt, ha, hc⟩
theorem ir_front {w : World} {a : Option Addr} {zs us : List Int} (h : IR w a (zs ++ us)) : IR w a zs := by
  intro i hi
  obtain ⟨ad, e, hlt, hc⟩ := h i (by rw [List.length_append]; omega)
  refine ⟨ad, e, hlt, ?_⟩
  rw [hc, List.getD_eq_getElem?_getD, List.getD_eq_getElem?_getD, List.getElem?_append_left hi]
theorem ur_front {w : World} {a : Option Addr} {zs us : List Nat} (h : UR w a (zs ++ us)) : UR w a zs := by
  intro i hi
  obtain ⟨ad, e, hlt, hc⟩ := h i (by rw [List.length_append]; omega)
  refine ⟨ad, e, hlt, ?_⟩
  rw [hc, List.getD_eq_getElem?_getD, List.getD_eq_getElem?_getD, List.getElem?_append_left hi]
/-- The box that holds an operation. -/
def BoxO (W : World) (x : Nat) (o : OpI) : Prop := Blk W x 30 #[.int .i64 o.kind, .int .i64 o.num, .int .u64 (o.v : Int), .slice o.sa o.s.length o.sc, .slice o.la o.l.length o.lc, .slice o.pa o.p.length o.pc]
theorem BoxO.cells {W : World} {x : Nat} {o : OpI} (h : BoxO W x o) : W.cell? ⟨x, 0, none⟩ = some (.int .i64 o.kind) ∧ W.cell? ⟨x, 1, none⟩ = some (.int .i64 o.num) ∧ W.cell? ⟨x, 2, none⟩ = some (.int .u64 (o.v : Int)) ∧ W.cell? ⟨x, 3, none⟩ = some (.slice o.sa o.s.length o.sc) ∧ W.cell? ⟨x, 4, none⟩ = some (.slice o.la o.l.length o.lc) ∧ W.cell? ⟨x, 5, none⟩ = some (.slice o.pa o.p.length o.pc) :=
  ⟨h.cell 0, h.cell 1, h.cell 2, h.cell 3, h.cell 4, h.cell 5⟩
theorem BoxO.below {W W' : World} {x : Nat} {o : OpI} (h : BoxO W x o) (hb : Below W.heap.size W W') : BoxO W' x o := Blk.below h hb h.lt
/-- The document's fields, and the message, behind an operation. -/
structure MeetIs (m : Nat) (w W : World) (o : OpI) (st : Sta) (fs : Value) : Prop where
  row : ∃ fa fc, fs = .slice fa o.fields.length fc ∧ RRow W fa o.num o.fields
  st : St m m W (o.next st)
  b : Below w.heap.size w W
  h : m ≤ W.heap.size
theorem tcost_len (ts : List ByteArray) : 20 * ts.length ≤ tcost ts := by
  induction ts with
  | nil => exact Nat.zero_le _
  | cons t r ih =>
    have e : tcost (t :: r) = (20 + t.size) + tcost r := by unfold tcost; simp
    rw [e, List.length_cons]
    omega
theorem tcost_mem {ts : List ByteArray} {t : ByteArray} (h : t ∈ ts) : 20 + t.size ≤ tcost ts := by
  induction ts with
  | nil => simp at h
  | cons x r ih =>
    have e2 : tcost (x :: r) = (20 + x.size) + tcost r := by unfold tcost; simp
    rw [e2]
    rcases List.mem_cons.1 h with rfl | h
    · omega
    · have := ih h; omega
theorem tcost_le (ts : List ByteArray) (k : Nat) : tcost (ts.take k) ≤ tcost ts := by
  have : tcost ts = tcost (ts.take k) + tcost (ts.drop k) := by
    unfold tcost
    rw [← List.sum_append, ← List.map_append, List.take_append_drop]
  omega
def tF2 (t : ByteArray) : RFd := ⟨2, 0, t⟩
theorem fl_texts (num : Int) (ts : List ByteArray) : fl num (ts.map tF2) = sFs num ts := by unfold fl sFs; rw [List.map_map]; rfl
theorem fit_texts {c : Nat} {st : Sta} (hZ : Sz c st) (hc : c ≤ 30000) (o : OpI) (hcost : o.cost ≤ 30000) (k : Nat) : Fit (addS o.num st (sFs o.num (o.s.take k))) := by
  have h1 : tcost o.s ≤ 30000 := by unfold OpI.cost at hcost; omega
  have h2 := tcost_le o.s k
  have e : lcost ((o.s.take k).map tF2) = tcost (o.s.take k) := by unfold lcost tcost; rw [List.map_map]; rfl
  rw [← fl_texts]
  refine (hZ.add o.num ((o.s.take k).map tF2) fun f hf => ?_).fit (by rw [e]; omega)
  obtain ⟨t, ht, rfl⟩ := List.mem_map.1 hf
  have := tcost_mem ht
  exact ⟨.inr ⟨rfl, rfl, by show t.size ≤ 60000; omega⟩, by show 0 < 18446744073709551616; omega⟩
theorem fields_one {o : OpI} (h : o.kind = 1) : o.fields = [⟨0, o.v, ⟨#[]⟩⟩] ∧ o.wide = false := by unfold OpI.fields OpI.wide; rw [if_pos h, if_pos h]; exact ⟨rfl, rfl⟩
theorem fields_two {o : OpI} (h1 : ¬ o.kind = 1) (h : o.kind = 2) : o.fields = o.s.map tF2 ∧ o.wide = false := by unfold OpI.fields OpI.wide; rw [if_neg h1, if_neg h1, if_pos h, if_pos h]; exact ⟨rfl, rfl⟩
theorem fields_three {o : OpI} (h1 : ¬ o.kind = 1) (h2 : ¬ o.kind = 2) (h : o.kind = 3) : o.fields = (if o.l.length = 0 then [] else [⟨2, 0, ibs o.l⟩]) ∧ o.wide = false := by unfold OpI.fields OpI.wide; rw [if_neg h1, if_neg h1, if_neg h2, if_neg h2, if_pos h, if_pos h]; exact ⟨rfl, rfl⟩
theorem fields_four {o : OpI} (h1 : ¬ o.kind = 1) (h2 : ¬ o.kind = 2) (h3 : ¬ o.kind = 3) : o.fields = (if o.p.length = 0 then [] else [⟨2, 0, fbs o.p⟩]) ∧ o.wide = wideB o.p := by unfold OpI.fields OpI.wide; rw [if_neg h1, if_neg h1, if_neg h2, if_neg h2, if_neg h3, if_neg h3]; exact ⟨rfl, rfl⟩
theorem next_one {o : OpI} (h : o.kind = 1) (st : Sta) : o.next st = addS o.num st [fF o.num 0 o.v ⟨#[]⟩] := by
  obtain ⟨h1, h2⟩ := fields_one h
  unfold OpI.next; rw [h2, h1]; rfl
theorem next_two {o : OpI} (h1 : ¬ o.kind = 1) (h : o.kind = 2) (st : Sta) : o.next st = addS o.num st (sFs o.num o.s) := by
  obtain ⟨h3, h4⟩ := fields_two h1 h
  unfold OpI.next; rw [h4, h3, fl_texts]; rfl
theorem next_three {o : OpI} (h1 : ¬ o.kind = 1) (h2 : ¬ o.kind = 2) (h : o.kind = 3) (st : Sta) : o.next st = addS o.num st (iFs o.num o.l) := by
  obtain ⟨h3, h4⟩ := fields_three h1 h2 h
  unfold OpI.next iFs; rw [h4, h3, if_neg (by simp)]
  split <;> rfl
theorem next_four {o : OpI} (h1 : ¬ o.kind = 1) (h2 : ¬ o.kind = 2) (h3 : ¬ o.kind = 3) (st : Sta) : o.next st = addP o.num st o.p := by
  obtain ⟨h4, h5⟩ := fields_four h1 h2 h3
  unfold OpI.next addP pFs; rw [h5, h4]
  split
  · rfl
  · split <;> rfl
theorem wideB_take (us : List Nat) (j : Nat) (h : j < us.length) : wideB (us.take (j + 1)) = (wideB (us.take j) || decide (4294967296 ≤ us.getD j 0)) := by
  rw [take_more us j 0 h]; unfold wideB; simp
/-- A state at loop's end is what the operation comes to. -/
theorem next_end {o : OpI} {st : Sta} {j : Nat} (h : o.fields.length ≤ j ∨ (if o.wide then none else addS o.num st (fl o.num (o.fields.take j))) = none) : (if o.wide then none else addS o.num st (fl o.num (o.fields.take j))) = o.next st := by
  unfold OpI.next
  cases hw : o.wide with
  | true => rfl
  | false =>
    simp only [hw, Bool.false_eq_true, if_false] at h ⊢
    rcases h with h | h
    · rw [List.take_of_length_le h]
    · rw [h, add_bad o.num st o.fields j h]
theorem lcost_mem {l : List RFd} {f : RFd} (h : f ∈ l) : 20 + f.data.size ≤ lcost l := by
  induction l with
  | nil => simp at h
  | cons x r ih =>
    have e2 : lcost (x :: r) = (20 + x.data.size) + lcost r := by unfold lcost; simp
    rw [e2]
    rcases List.mem_cons.1 h with rfl | h
    · omega
    · have := ih h; omega
theorem lcost_take (l : List RFd) (k : Nat) : lcost (l.take k) ≤ lcost l := by
  have : lcost l = lcost (l.take k) + lcost (l.drop k) := by
    unfold lcost
    rw [← List.sum_append, ← List.map_append, List.take_append_drop]
  omega
theorem rt_size (num : Int) (f : RFd) (h : f.ok) : (rT num f).size ≤ 20 + f.data.size := by
  unfold rT
  split
  · exact size_k h.2 h.1 (by assumption)
  · exact Nat.zero_le _
theorem neq_same (a : Addr) (w : World) : (binOp .neq 31 (.pointer (some a)) (.pointer (some a))).run Try.prog w = .ok (.bool false) w := by
  obtain ⟨j, hte⟩ : ∃ j, Try.prog.info? 75 = some j := Option.isSome_iff_exists.1 (by kernel_rfl)
  have hp := Try.underlying31
  have h : ∀ d : Nat, (Op.equalIn (d + 1) 31 (.pointer (some a)) (.pointer (some a))).run Try.prog w = .ok true w := fun d => by
    simp [Op.equalIn, run_underlying hp, sizeOf, typeInfo, hte, run_sameAddr_same]
  simp only [binOp]
  simp [Op.equal, Op.maxDepth, h 9999]
theorem lcost_len (l : List RFd) : 20 * l.length ≤ lcost l := by
  induction l with
  | nil => exact Nat.zero_le _
  | cons x r ih =>
    have e : lcost (x :: r) = (20 + x.data.size) + lcost r := by unfold lcost; simp
    rw [e, List.length_cons]
    omega
end Go.Proofs.Ytbkcklefkhlciaa
