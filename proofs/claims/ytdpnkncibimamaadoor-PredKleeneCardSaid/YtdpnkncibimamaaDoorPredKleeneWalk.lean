/-
  The walk of PredKleene: for every truths, every place and every truth it returns true, and leaves what lay in memory as it was.
-/
import Derived.Test.YtdpnkncibimamaaDoorKleene
namespace Go.Proofs.YtdpnkncibimamaaDoor
open Go.RowKit
def predKleene.IsRow (k : IntKind) (w : World) (a : Option Addr) (len cap : Nat) (zs : List Int) : Prop := truthTells.IsRow k w a len cap zs
theorem hnews_of {w : World} {ad : Addr} {zs : List Int} (ha : IR w (some ad) zs) : ∀ (j : Nat) (u : Value), (zs.map (Value.int .i64 ·))[j]? = some u → w.cell? (ad.add j) = some u := by
  intro j u hu
  rw [List.getElem?_map, Option.map_eq_some_iff] at hu
  obtain ⟨z, hz, rfl⟩ := hu
  have hj : j < zs.length := by
    rcases Nat.lt_or_ge j zs.length with h | h
    · exact h
    · rw [List.getElem?_eq_none h] at hz; cases hz
  obtain ⟨_, e, _, hc⟩ := ha j hj
  cases e
  rw [hc, List.getD_eq_getElem?_getD, hz]; rfl
theorem one_of (l : List Int) : ∀ u ∈ l.map (Value.int .i64 ·), u.oneCell' = true := fun u hu => by obtain ⟨z, _, rfl⟩ := List.mem_map.1 hu; rfl
set_option maxRecDepth 100000 in
set_option maxHeartbeats 4000000 in
theorem predKleene.walk (a0 : Option Addr) (len0 cap0 : Nat) (z0 : List Int) (a1 : Int) (a2 : Int) (w : World) (w0 : predKleene.IsRow .i64 w a0 len0 cap0 z0) (w1 : (Lit.int .i64 a1).wf = true) (w2 : (Lit.int .i64 a2).wf = true) :
    Calls Tryd.prog 4 #[.slice a0 len0 cap0, .int .i64 a1, .int .i64 a2] w fun e w' => e = .returned (.bool true) ∧ Below w.heap.size w w' := by
  clear w1 w2
  obtain ⟨zs, rfl, hir⟩ := isRow_ir w0
  clear w0
  by_cases h0 : 40 < zs.length
  · clear hir
    go_enter Tryd.func4, Tryd.ntmps4
    go_wp2_with fail
    refine (alive_any _).mono ?_
    rintro e w1 ⟨rfl, hb⟩
    go_wp2
    go_ret
    exact ⟨rfl, hb⟩
  by_cases h1 : a1 < 0
  · clear hir
    go_enter Tryd.func4, Tryd.ntmps4
    go_wp2_with fail
    refine (alive_any _).mono ?_
    rintro e w1 ⟨rfl, hb⟩
    go_wp2
    go_ret
    exact ⟨rfl, hb⟩
  obtain ⟨k, rfl⟩ : ∃ k : Nat, a1 = (k : Int) := ⟨a1.toNat, by omega⟩
  by_cases h2 : zs.length ≤ k
  · clear hir
    go_enter Tryd.func4, Tryd.ntmps4
    go_wp2_with fail
    refine (alive_any _).mono ?_
    rintro e w1 ⟨rfl, hb⟩
    go_wp2
    go_ret
    exact ⟨rfl, hb⟩
  by_cases h3 : a2 ≠ 0 ∧ a2 ≠ 1
  · have t0 : (a2 != 0) = true := by simp; exact h3.1
    have t1 : (a2 != 1) = true := by simp; exact h3.2
    clear hir h3
    go_enter Tryd.func4, Tryd.ntmps4
    go_wp2_with fail
    refine (alive_any _).mono ?_
    rintro e w1 ⟨rfl, hb⟩
    go_wp2
    go_ret
    exact ⟨rfl, hb⟩
  have hk : k < zs.length := by omega
  have hk2 : (k : Int) < (zs.length : Int) := by omega
  obtain ⟨ad, rfl, _, _⟩ := hir k hk
  have hz : zs.length ≤ 1000 := by omega
  have KA := Lib.hid (kle_and zs k a2 hk); have KO := Lib.hid (kle_or zs k a2 hk); have KX := Lib.hid (kle_xor zs k hk)
  have Hir := Lib.hid hir
  clear hir
  obtain ⟨i0, hi, hz0, hz1, hz2⟩ := info_parts Tryd.infoI
  have t01 : ((a2 != 0) && (a2 != 1)) = false := by
    rcases (show a2 = 0 ∨ a2 = 1 from by omega) with rfl | rfl <;> rfl
  rcases (show a2 = 0 ∨ a2 = 1 from by omega) with rfl | rfl
  · go_enter Tryd.func4, Tryd.ntmps4
    go_wp2_with fail
    refine (alive_any _).mono ?_
    rintro e w1 ⟨rfl, b1⟩
    have Hir1 := Lib.hid (Hir.out.below b1)
    go_wp2_with (at_builtin; refine wpList_append_own_at _ rfl (.const (.slice none 0 0)) (.tmp 37) 22 rfl w1.heap.size 3 i0 (.int .i64 0) 1 8 Tryd.underlying22 hi hz0 hz1 hz2 rfl (by decide) (.slice none 0 0) 0 [] rfl (World.ownsRow_nil _ _ _ _) ad zs.length cap0 (zs.map (Value.int .i64 ·)) rfl (by simp) (hnews_of Hir1.out) (one_of zs) (by unfold maxLen; omega) (by omega) (Nat.le_refl _) ?_)
    intro v1 w2 ho1 hg1 _ _
    have ho1' : w2.ownsRow w1.heap.size 3 1 v1 zs.length (zs.map (Value.int .i64 ·)) := by simpa using ho1
    obtain ⟨g1, c1, hv, hb1, hlt1⟩ := ho1'.form (by omega)
    subst hv
    have k2 : Below w1.heap.size w1 w2 := (Below.refl _ _).grown hg1 (Nat.le_refl _) (fun k hk => by cases hk)
    have hm : IR w2 (some ⟨g1, 0, none⟩) zs := ir_own ho1' rfl
    obtain ⟨_, e1, _, hcell⟩ := hm k hk
    cases e1
    rw [add_at] at hcell
    have hfr := own_free ho1' k
    have hm2 := Lib.hid (hm.set_ (x := 2) hk)
    have c2 : Below w.heap.size w (w2.setCell ⟨g1, k, none⟩ (.int .i64 2)) := (b1.trans (k2.mono b1.size)).setCell (p := ⟨g1, k, none⟩) (by have := b1.size; simp; omega) _
    have Hir2 := Lib.hid (Hir.out.below c2)
    obtain ⟨W2, hW2⟩ : ∃ W2, w2.setCell ⟨g1, k, none⟩ (.int .i64 2) = W2 := ⟨_, rfl⟩
    have hg1W : g1 < W2.heap.size := by rw [← hW2]; simpa using hlt1
    rw [hW2] at hm2 c2 Hir2
    clear ho1 ho1' hg1 k2 hm b1 Hir1 hb1
    have Hm2 := Lib.hid hm2
    clear hm2
    go_wp2_with (at_builtin; refine wpList_append_own_at _ rfl (.const (.slice none 0 0)) (.tmp 42) 22 rfl W2.heap.size 3 i0 (.int .i64 0) 1 8 Tryd.underlying22 hi hz0 hz1 hz2 rfl (by decide) (.slice none 0 0) 0 [] rfl (World.ownsRow_nil _ _ _ _) ad zs.length cap0 (zs.map (Value.int .i64 ·)) rfl (by simp) (hnews_of Hir2.out) (one_of zs) (by unfold maxLen; omega) (by omega) (Nat.le_refl _) ?_)
    intro v2 w3 ho2 hg2 _ _
    clear hcell hfr hW2
    have ho2' : w3.ownsRow W2.heap.size 3 1 v2 zs.length (zs.map (Value.int .i64 ·)) := by simpa using ho2
    obtain ⟨g2, cc2, hv, hb2, hlt2⟩ := ho2'.form (by omega)
    subst hv
    have k3 : Below W2.heap.size W2 w3 := (Below.refl _ _).grown hg2 (Nat.le_refl _) (fun k hk => by cases hk)
    have hn : IR w3 (some ⟨g2, 0, none⟩) zs := ir_own ho2' rfl
    obtain ⟨_, e2, _, hcell⟩ := hn k hk
    cases e2
    rw [add_at] at hcell
    have hfr := own_free ho2' k
    obtain ⟨W4, hW4⟩ : ∃ W4, w3.setCell ⟨g2, k, none⟩ (.int .i64 0) = W4 := ⟨_, rfl⟩
    have hn4 : IR W4 (some ⟨g2, 0, none⟩) (zs.set k 0) := by rw [← hW4]; exact hn.set_ hk
    have hm4 : IR W4 (some ⟨g1, 0, none⟩) (zs.set k 2) := by
      rw [← hW4]
      exact (Hm2.out.below k3).far g2 k _ (fun ad e => by cases e; simp; omega)
    have c4 : Below w.heap.size w W4 := by
      rw [← hW4]
      exact (c2.trans (k3.mono c2.size)).setCell (p := ⟨g2, k, none⟩) (by have := c2.size; simp; omega) _
    obtain ⟨A, hA⟩ : ∃ A, ruledM 0 (zs.set k 2) = A := ⟨_, rfl⟩
    obtain ⟨An, hAn⟩ : ∃ A, ruledM 0 (zs.set k 0) = A := ⟨_, rfl⟩
    obtain ⟨O, hO⟩ : ∃ A, ruledM 1 (zs.set k 2) = A := ⟨_, rfl⟩
    obtain ⟨On, hOn⟩ : ∃ A, ruledM 1 (zs.set k 0) = A := ⟨_, rfl⟩
    have ka : A = 2 ∨ A = An := by rw [← hA, ← hAn]; exact KA.out
    have ko : O = 2 ∨ O = On := by rw [← hO, ← hOn]; exact KO.out
    have hl : ∀ x : Int, (zs.set k x).length = zs.length := fun x => List.length_set
    have CA : Hid (Calls Tryd.prog 7 #[.slice (some ⟨g1, 0, none⟩) zs.length c1] W4 fun e w' => e = .returned (.int .i64 A) ∧ W4 = w') := Lib.hid (by
      have := and_any (some ⟨g1, 0, none⟩) c1 (zs.set k 2) W4 (by rw [hl]; exact hz) hm4; rw [hl, hA] at this; exact this)
    have CO : Hid (Calls Tryd.prog 9 #[.slice (some ⟨g1, 0, none⟩) zs.length c1] W4 fun e w' => e = .returned (.int .i64 O) ∧ W4 = w') := Lib.hid (by
      have := or_any (some ⟨g1, 0, none⟩) c1 (zs.set k 2) W4 (by rw [hl]; exact hz) hm4; rw [hl, hO] at this; exact this)
    have CX : Hid (Calls Tryd.prog 10 #[.slice (some ⟨g1, 0, none⟩) zs.length c1] W4 fun e w' => e = .returned (.int .i64 2) ∧ W4 = w') := Lib.hid (by
      have := xor_any (some ⟨g1, 0, none⟩) c1 (zs.set k 2) W4 (by rw [hl]; exact hz) hm4; rw [hl, KX.out] at this; exact this)
    have CAn : Hid (Calls Tryd.prog 7 #[.slice (some ⟨g2, 0, none⟩) zs.length cc2] W4 fun e w' => e = .returned (.int .i64 An) ∧ W4 = w') := Lib.hid (by
      have := and_any (some ⟨g2, 0, none⟩) cc2 (zs.set k 0) W4 (by rw [hl]; exact hz) hn4; rw [hl, hAn] at this; exact this)
    have COn : Hid (Calls Tryd.prog 9 #[.slice (some ⟨g2, 0, none⟩) zs.length cc2] W4 fun e w' => e = .returned (.int .i64 On) ∧ W4 = w') := Lib.hid (by
      have := or_any (some ⟨g2, 0, none⟩) cc2 (zs.set k 0) W4 (by rw [hl]; exact hz) hn4; rw [hl, hOn] at this; exact this)
    have Ka := Lib.hid ka; have Ko := Lib.hid ko
    clear ho2 ho2' hg2 hb2 hlt2 k3 hn hn4 hm4 hA hAn hO hOn ka ko hl Hm2 Hir2 hg1W c2 KA KO KX hlt1
    go_wp2_with fail
    refine CA.out.mono ?_
    rintro e w' ⟨rfl, rfl⟩
    clear hcell hfr hW4
    go_wp2_with fail
    refine CO.out.mono ?_
    rintro e w' ⟨rfl, rfl⟩
    by_cases hA2 : A = 2
    · subst hA2
      by_cases hO2 : O = 2
      · subst hO2
        go_wp2_with fail
        refine CX.out.mono ?_
        rintro e w' ⟨rfl, rfl⟩
        go_wp2
        go_ret
        exact ⟨rfl, c4⟩
      · obtain rfl : O = On := Ko.out.resolve_left hO2
        have tO : (O == 2) = false := beq_eq_false_iff_ne.2 hO2
        clear hO2
        go_wp2_with fail
        refine COn.out.mono ?_
        rintro e w' ⟨rfl, rfl⟩
        go_wp2_with fail
        refine CX.out.mono ?_
        rintro e w' ⟨rfl, rfl⟩
        go_wp2
        go_ret
        exact ⟨rfl, c4⟩
    · obtain rfl : A = An := Ka.out.resolve_left hA2
      have tA : (A == 2) = false := beq_eq_false_iff_ne.2 hA2
      clear hA2
      go_wp2_with fail
      refine CAn.out.mono ?_
      rintro e w' ⟨rfl, rfl⟩
      by_cases hO2 : O = 2
      · subst hO2
        go_wp2_with fail
        refine CX.out.mono ?_
        rintro e w' ⟨rfl, rfl⟩
        go_wp2
        go_ret
        exact ⟨rfl, c4⟩
      · obtain rfl : O = On := Ko.out.resolve_left hO2
        have tO : (O == 2) = false := beq_eq_false_iff_ne.2 hO2
        clear hO2
        go_wp2_with fail
        refine COn.out.mono ?_
        rintro e w' ⟨rfl, rfl⟩
        go_wp2_with fail
        refine CX.out.mono ?_
        rintro e w' ⟨rfl, rfl⟩
        go_wp2
        go_ret
        exact ⟨rfl, c4⟩
  · go_enter Tryd.func4, Tryd.ntmps4
    go_wp2_with fail
    refine (alive_any _).mono ?_
    rintro e w1 ⟨rfl, b1⟩
    have Hir1 := Lib.hid (Hir.out.below b1)
    go_wp2_with (at_builtin; refine wpList_append_own_at _ rfl (.const (.slice none 0 0)) (.tmp 37) 22 rfl w1.heap.size 3 i0 (.int .i64 0) 1 8 Tryd.underlying22 hi hz0 hz1 hz2 rfl (by decide) (.slice none 0 0) 0 [] rfl (World.ownsRow_nil _ _ _ _) ad zs.length cap0 (zs.map (Value.int .i64 ·)) rfl (by simp) (hnews_of Hir1.out) (one_of zs) (by unfold maxLen; omega) (by omega) (Nat.le_refl _) ?_)
    intro v1 w2 ho1 hg1 _ _
    have ho1' : w2.ownsRow w1.heap.size 3 1 v1 zs.length (zs.map (Value.int .i64 ·)) := by simpa using ho1
    obtain ⟨g1, c1, hv, hb1, hlt1⟩ := ho1'.form (by omega)
    subst hv
    have k2 : Below w1.heap.size w1 w2 := (Below.refl _ _).grown hg1 (Nat.le_refl _) (fun k hk => by cases hk)
    have hm : IR w2 (some ⟨g1, 0, none⟩) zs := ir_own ho1' rfl
    obtain ⟨_, e1, _, hcell⟩ := hm k hk
    cases e1
    rw [add_at] at hcell
    have hfr := own_free ho1' k
    have hm2 := Lib.hid (hm.set_ (x := 2) hk)
    have c2 : Below w.heap.size w (w2.setCell ⟨g1, k, none⟩ (.int .i64 2)) := (b1.trans (k2.mono b1.size)).setCell (p := ⟨g1, k, none⟩) (by have := b1.size; simp; omega) _
    have Hir2 := Lib.hid (Hir.out.below c2)
    obtain ⟨W2, hW2⟩ : ∃ W2, w2.setCell ⟨g1, k, none⟩ (.int .i64 2) = W2 := ⟨_, rfl⟩
    have hg1W : g1 < W2.heap.size := by rw [← hW2]; simpa using hlt1
    rw [hW2] at hm2 c2 Hir2
    clear ho1 ho1' hg1 k2 hm b1 Hir1 hb1
    have Hm2 := Lib.hid hm2
    clear hm2
    go_wp2_with (at_builtin; refine wpList_append_own_at _ rfl (.const (.slice none 0 0)) (.tmp 42) 22 rfl W2.heap.size 3 i0 (.int .i64 0) 1 8 Tryd.underlying22 hi hz0 hz1 hz2 rfl (by decide) (.slice none 0 0) 0 [] rfl (World.ownsRow_nil _ _ _ _) ad zs.length cap0 (zs.map (Value.int .i64 ·)) rfl (by simp) (hnews_of Hir2.out) (one_of zs) (by unfold maxLen; omega) (by omega) (Nat.le_refl _) ?_)
    intro v2 w3 ho2 hg2 _ _
    clear hcell hfr hW2
    have ho2' : w3.ownsRow W2.heap.size 3 1 v2 zs.length (zs.map (Value.int .i64 ·)) := by simpa using ho2
    obtain ⟨g2, cc2, hv, hb2, hlt2⟩ := ho2'.form (by omega)
    subst hv
    have k3 : Below W2.heap.size W2 w3 := (Below.refl _ _).grown hg2 (Nat.le_refl _) (fun k hk => by cases hk)
    have hn : IR w3 (some ⟨g2, 0, none⟩) zs := ir_own ho2' rfl
    obtain ⟨_, e2, _, hcell⟩ := hn k hk
    cases e2
    rw [add_at] at hcell
    have hfr := own_free ho2' k
    obtain ⟨W4, hW4⟩ : ∃ W4, w3.setCell ⟨g2, k, none⟩ (.int .i64 1) = W4 := ⟨_, rfl⟩
    have hn4 : IR W4 (some ⟨g2, 0, none⟩) (zs.set k 1) := by rw [← hW4]; exact hn.set_ hk
    have hm4 : IR W4 (some ⟨g1, 0, none⟩) (zs.set k 2) := by
      rw [← hW4]
      exact (Hm2.out.below k3).far g2 k _ (fun ad e => by cases e; simp; omega)
    have c4 : Below w.heap.size w W4 := by
      rw [← hW4]
      exact (c2.trans (k3.mono c2.size)).setCell (p := ⟨g2, k, none⟩) (by have := c2.size; simp; omega) _
    obtain ⟨A, hA⟩ : ∃ A, ruledM 0 (zs.set k 2) = A := ⟨_, rfl⟩
    obtain ⟨An, hAn⟩ : ∃ A, ruledM 0 (zs.set k 1) = A := ⟨_, rfl⟩
    obtain ⟨O, hO⟩ : ∃ A, ruledM 1 (zs.set k 2) = A := ⟨_, rfl⟩
    obtain ⟨On, hOn⟩ : ∃ A, ruledM 1 (zs.set k 1) = A := ⟨_, rfl⟩
    have ka : A = 2 ∨ A = An := by rw [← hA, ← hAn]; exact KA.out
    have ko : O = 2 ∨ O = On := by rw [← hO, ← hOn]; exact KO.out
    have hl : ∀ x : Int, (zs.set k x).length = zs.length := fun x => List.length_set
    have CA : Hid (Calls Tryd.prog 7 #[.slice (some ⟨g1, 0, none⟩) zs.length c1] W4 fun e w' => e = .returned (.int .i64 A) ∧ W4 = w') := Lib.hid (by
      have := and_any (some ⟨g1, 0, none⟩) c1 (zs.set k 2) W4 (by rw [hl]; exact hz) hm4; rw [hl, hA] at this; exact this)
    have CO : Hid (Calls Tryd.prog 9 #[.slice (some ⟨g1, 0, none⟩) zs.length c1] W4 fun e w' => e = .returned (.int .i64 O) ∧ W4 = w') := Lib.hid (by
      have := or_any (some ⟨g1, 0, none⟩) c1 (zs.set k 2) W4 (by rw [hl]; exact hz) hm4; rw [hl, hO] at this; exact this)
    have CX : Hid (Calls Tryd.prog 10 #[.slice (some ⟨g1, 0, none⟩) zs.length c1] W4 fun e w' => e = .returned (.int .i64 2) ∧ W4 = w') := Lib.hid (by
      have := xor_any (some ⟨g1, 0, none⟩) c1 (zs.set k 2) W4 (by rw [hl]; exact hz) hm4; rw [hl, KX.out] at this; exact this)
    have CAn : Hid (Calls Tryd.prog 7 #[.slice (some ⟨g2, 0, none⟩) zs.length cc2] W4 fun e w' => e = .returned (.int .i64 An) ∧ W4 = w') := Lib.hid (by
      have := and_any (some ⟨g2, 0, none⟩) cc2 (zs.set k 1) W4 (by rw [hl]; exact hz) hn4; rw [hl, hAn] at this; exact this)
    have COn : Hid (Calls Tryd.prog 9 #[.slice (some ⟨g2, 0, none⟩) zs.length cc2] W4 fun e w' => e = .returned (.int .i64 On) ∧ W4 = w') := Lib.hid (by
      have := or_any (some ⟨g2, 0, none⟩) cc2 (zs.set k 1) W4 (by rw [hl]; exact hz) hn4; rw [hl, hOn] at this; exact this)
    have Ka := Lib.hid ka; have Ko := Lib.hid ko
    clear ho2 ho2' hg2 hb2 hlt2 k3 hn hn4 hm4 hA hAn hO hOn ka ko hl Hm2 Hir2 hg1W c2 KA KO KX hlt1
    go_wp2_with fail
    refine CA.out.mono ?_
    rintro e w' ⟨rfl, rfl⟩
    clear hcell hfr hW4
    go_wp2_with fail
    refine CO.out.mono ?_
    rintro e w' ⟨rfl, rfl⟩
    by_cases hA2 : A = 2
    · subst hA2
      by_cases hO2 : O = 2
      · subst hO2
        go_wp2_with fail
        refine CX.out.mono ?_
        rintro e w' ⟨rfl, rfl⟩
        go_wp2
        go_ret
        exact ⟨rfl, c4⟩
      · obtain rfl : O = On := Ko.out.resolve_left hO2
        have tO : (O == 2) = false := beq_eq_false_iff_ne.2 hO2
        clear hO2
        go_wp2_with fail
        refine COn.out.mono ?_
        rintro e w' ⟨rfl, rfl⟩
        go_wp2_with fail
        refine CX.out.mono ?_
        rintro e w' ⟨rfl, rfl⟩
        go_wp2
        go_ret
        exact ⟨rfl, c4⟩
    · obtain rfl : A = An := Ka.out.resolve_left hA2
      have tA : (A == 2) = false := beq_eq_false_iff_ne.2 hA2
      clear hA2
      go_wp2_with fail
      refine CAn.out.mono ?_
      rintro e w' ⟨rfl, rfl⟩
      by_cases hO2 : O = 2
      · subst hO2
        go_wp2_with fail
        refine CX.out.mono ?_
        rintro e w' ⟨rfl, rfl⟩
        go_wp2
        go_ret
        exact ⟨rfl, c4⟩
      · obtain rfl : O = On := Ko.out.resolve_left hO2
        have tO : (O == 2) = false := beq_eq_false_iff_ne.2 hO2
        clear hO2
        go_wp2_with fail
        refine COn.out.mono ?_
        rintro e w' ⟨rfl, rfl⟩
        go_wp2_with fail
        refine CX.out.mono ?_
        rintro e w' ⟨rfl, rfl⟩
        go_wp2
        go_ret
        exact ⟨rfl, c4⟩
end Go.Proofs.YtdpnkncibimamaaDoor
