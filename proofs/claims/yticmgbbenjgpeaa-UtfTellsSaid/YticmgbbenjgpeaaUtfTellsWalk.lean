/-
  The walk of UtfTells: for every text, every number and every stop it returns true, and leaves what lay in memory as it was.
-/
import Derived.Test.YticmgbbenjgpeaaAlive6
import Derived.Test.YticmgbbenjgpeaaRefPut
import Derived.Test.YticmgbbenjgpeaaRefName
import Derived.Test.YticmgbbenjgpeaaCutRow
namespace Go.Proofs.Yticmgbbenjgpeaa
open Go.RowKit
theorem run_equalIn_fn_nil {P : Program} (d : Nat) (t : TypeId) (f : Fn) (xs ys : Array Value) (a b : Array TypeId) (c : Bool) (h : P.underlying t = some (.func a b c)) (w : World) : (Op.equalIn (d + 1) t (.func f xs ys) .nilFunc).run P w = .ok false w := by
  simp [Op.equalIn, run_underlying h]
def isFn (x : Option TypeDesc) : Bool := match x with | some (.func ..) => true | _ => false
theorem run_eql_fn_nil {P : Program} (t : TypeId) (f : Fn) (xs ys : Array Value) (h : isFn (P.underlying t) = true) (w : World) : (binOp .eql t (.func f xs ys) .nilFunc).run P w = .ok (.bool false) w := by
  have ⟨a, b, c, h⟩ : ∃ a b c, P.underlying t = some (.func a b c) := by
    unfold isFn at h
    split at h
    · exact ⟨_, _, _, by assumption⟩
    · cases h
  have e : (Op.equal t (.func f xs ys) .nilFunc).run P w = .ok false w := run_equalIn_fn_nil 9999 t f xs ys a b c h w
  simp only [binOp]
  simp [e]
/-- What was told is the front of all, as long as is wanted. -/
theorem told_front (all : List (Nat × Nat)) (xs : List Ru) (stop : Int) (k : Nat) (hk : k = if 0 < stop then min all.length stop.toNat else all.length)
    (h : (xs.map (·.1) = all ∧ (stop ≤ 0 ∨ (xs.length : Int) < stop)) ∨ (xs.map (·.1) <+: all ∧ 0 < stop ∧ (xs.length : Int) = stop)) : xs.map (·.1) = all.take k := by
  rcases h with ⟨h1, h2⟩ | ⟨h1, h2, h3⟩
  · have hl : xs.length = all.length := by rw [← h1]; simp
    have : k = all.length := by
      rw [hk]; split
      · omega
      · rfl
    rw [h1, this, List.take_of_length_le (Nat.le_refl _)]
  · have hl := h1.length_le
    rw [List.length_map] at hl
    have : k = (xs.map (·.1)).length := by rw [hk, if_pos h2, List.length_map]; omega
    rw [this]
    exact (List.prefix_iff_eq_take.1 h1)
set_option maxRecDepth 100000 in
set_option maxHeartbeats 4000000 in
theorem utfTells.walk (a0 : ByteArray) (a1 : Int) (a2 : Int) (w0 : a0.size ≤ maxLen) (w1 : (Lit.int .i64 a1).wf = true) (w2 : (Lit.int .i64 a2).wf = true) (w : World) :
    Calls Try.prog 3 #[.string a0, .int .i64 a1, .int .i64 a2] w fun e w' => e = .returned (.bool true) ∧ Below w.heap.size w w' := by
  unfold maxLen at w0
  clear w1 w2
  by_cases h0 : 2000 < a0.size
  · go_enter Try.func3, Try.ntmps3
    go_wp2_with fail
    refine (alive_any _).mono ?_
    rintro e w1 ⟨rfl, hb⟩
    go_wp2
    go_ret
    exact ⟨rfl, hb⟩
  · obtain ⟨E, hE⟩ : ∃ E, uEnd a0.data.toList = E := ⟨_, rfl⟩
    obtain ⟨Y, hY⟩ : ∃ Y, decide (E = a0.size) = Y := ⟨_, rfl⟩
    have hY2 : ((E : Int) == (a0.size : Int)) = Y := by rw [← hY, Bool.eq_iff_iff]; simp; omega
    obtain ⟨R, hR⟩ : ∃ R, uRunes a0.data.toList 0 = R := ⟨_, rfl⟩
    have hRl : R.length ≤ 2000 := by have := uRunes_length a0.data.toList 0; rw [hR] at this; simp at this; omega
    obtain ⟨T, hT⟩ : ∃ T, txt (uPutI a1) = T := ⟨_, rfl⟩
    obtain ⟨D, hD⟩ : ∃ D, decide (uSizeI a1 ≠ 0) = D := ⟨_, rfl⟩
    obtain ⟨C1, hC1⟩ : ∃ b, uChar a1 = b := ⟨_, rfl⟩
    obtain ⟨C2, hC2⟩ : ∃ b, uStart a1 = b := ⟨_, rfl⟩
    obtain ⟨C3, hC3⟩ : ∃ b, uPart a1 = b := ⟨_, rfl⟩
    obtain ⟨C4, hC4⟩ : ∃ b, uSpace a1 = b := ⟨_, rfl⟩
    obtain ⟨n, hn⟩ : ∃ n, R.length = n := ⟨_, rfl⟩
    have hb0 : a0.size ≤ 1000000 := by omega
    have HC : Hid (∀ w, Calls Try.prog 8 #[.string a0] w fun e W' => e = .returned (.tuple #[.int .i64 E, .bool Y]) ∧ Below w.heap.size w W') := Lib.hid (fun w => by
      have := check_any a0 hb0 w; rw [hE, hY2] at this; exact this)
    have HCr : Hid (∀ w, Calls Try.prog 9 #[.string a0] w fun e W' => e = .returned (.tuple #[.int .i64 E, .bool Y]) ∧ w = W') := Lib.hid (fun w => (refcheck_any a0 w hb0).mono (by rintro e w' ⟨h, rfl⟩; unfold EndIs at h; rw [hE, hY] at h; exact ⟨h, rfl⟩))
    have HRr : Hid (∀ w, Calls Try.prog 10 #[.string a0] w fun e W' => ∃ v1 v2, e = .returned (.tuple #[v1, v2]) ∧ Duz w.heap.size w W' v1 v2 (R.map (fun p => (p.1 : Int))) (R.map (fun p => (p.2 : Int)))) := Lib.hid (fun w => (refrunes_any a0 w hb0).mono (by rintro e w' h; unfold RunesAre at h; rw [hR] at h; exact h))
    have HP : Hid (∀ w, Calls Try.prog 11 #[.int .i64 a1] w fun e W' => e = .returned (.tuple #[.string T, .bool D]) ∧ Below w.heap.size w W') := Lib.hid (fun w => by
      have := put_any a1 w; rw [hT, hD] at this; exact this)
    have HPr : Hid (∀ w, Calls Try.prog 12 #[.int .i64 a1] w fun e W' => e = .returned (.tuple #[.string T, .bool D]) ∧ Below w.heap.size w W') := Lib.hid (fun w => by
      have := refput_any a1 w; unfold PutIs at this; rw [hT, hD] at this; exact this)
    have HN : Hid (∀ w, Calls Try.prog 13 #[.string a0] w fun e W' => e = .returned (.int .i64 (n : Int)) ∧ Below w.heap.size w W') := Lib.hid (fun w => by
      have := count_any a0 hb0 w; rw [hR, hn] at this; exact this)
    have H1 : Hid (∀ w, Calls Try.prog 14 #[.int .i64 a1] w fun e W' => e = .returned (.bool C1) ∧ w = W') := Lib.hid (fun w => by rw [← hC1]; exact char_any a1 w)
    have H1r : Hid (∀ w, Calls Try.prog 15 #[.int .i64 a1] w fun e W' => e = .returned (.bool C1) ∧ w = W') := Lib.hid (fun w => by rw [← hC1]; exact refchar_any a1 w)
    have H2 : Hid (∀ w, Calls Try.prog 16 #[.int .i64 a1] w fun e W' => e = .returned (.bool C2) ∧ w = W') := Lib.hid (fun w => by rw [← hC2]; exact start_any a1 w)
    have H2r : Hid (∀ w, Calls Try.prog 17 #[.int .i64 a1] w fun e W' => e = .returned (.bool C2) ∧ w = W') := Lib.hid (fun w => by rw [← hC2]; exact refstart_any a1 w)
    have H3 : Hid (∀ w, Calls Try.prog 18 #[.int .i64 a1] w fun e W' => e = .returned (.bool C3) ∧ w = W') := Lib.hid (fun w => by rw [← hC3]; exact part_any a1 w)
    have H3r : Hid (∀ w, Calls Try.prog 19 #[.int .i64 a1] w fun e W' => e = .returned (.bool C3) ∧ w = W') := Lib.hid (fun w => by rw [← hC3]; exact refpart_any a1 w)
    have H4 : Hid (∀ w, Calls Try.prog 20 #[.int .i64 a1] w fun e W' => e = .returned (.bool C4) ∧ w = W') := Lib.hid (fun w => by rw [← hC4]; exact space_any a1 w)
    have H4r : Hid (∀ w, Calls Try.prog 21 #[.int .i64 a1] w fun e W' => e = .returned (.bool C4) ∧ w = W') := Lib.hid (fun w => by rw [← hC4]; exact refspace_any a1 w)
    have HR := Lib.hid hR
    have Hn := Lib.hid hn
    have hnl : n ≤ 2000 := by omega
    clear hE hY hY2 hR hT hD hC1 hC2 hC3 hC4 hn hRl
    obtain ⟨K, hK⟩ : ∃ K, K = if 0 < a2 then min n a2.toNat else n := ⟨_, rfl⟩
    have hKn : K ≤ n := by rw [hK]; split <;> omega
    have HK := Lib.hid hK
    go_enter Try.func3, Try.ntmps3
    clear hK
    go_wp2_with fail
    refine (alive_any _).mono ?_
    rintro e w1 ⟨rfl, b1⟩
    go_wp2_with fail
    refine (HC.out _).mono ?_
    rintro e w2 ⟨rfl, b2⟩
    have c2 := b1.trans (b2.mono b1.size)
    clear b1 b2
    go_wp2_with fail
    refine (HCr.out _).mono ?_
    rintro e w3 ⟨rfl, rfl⟩
    go_wp2_with fail
    refine (HRr.out _).mono ?_
    rintro e w3 ⟨v1, v2, rfl, hd⟩
    have c3 := c2.trans (hd.bel.mono c2.size)
    obtain ⟨g1, k1, V1, rfl, hs1, hh1⟩ := cut_own K hd.o1 (by rw [List.length_map, Hn.out]; exact hKn) (by rw [List.length_map, Hn.out]; omega)
    obtain ⟨g2, k2, V2, rfl, hs2, hh2⟩ := cut_own K hd.o2 (by rw [List.length_map, Hn.out]; exact hKn) (by rw [List.length_map, Hn.out]; omega)
    rw [List.length_map, Hn.out] at hs1 hs2
    rw [List.length_map, List.length_map, Hn.out]
    have Hs1 := Lib.hid hs1; have Hs2 := Lib.hid hs2; have Hh1 := Lib.hid hh1; have Hh2 := Lib.hid hh2
    clear hd c2 hs1 hs2 hh1 hh2
    go_wp2_with fail
    refine (HP.out _).mono ?_
    rintro e w4 ⟨rfl, b4⟩
    have c4 := c3.trans (b4.mono c3.size)
    have Hg1 := Lib.hid (holds_keep Hh1.out b4); have Hg2 := Lib.hid (holds_keep Hh2.out b4)
    clear c3 b4 Hh1 Hh2
    go_wp2_with fail
    refine (HPr.out _).mono ?_
    rintro e w5 ⟨rfl, b5⟩
    have c5 := c4.trans (b5.mono c4.size)
    have Hh1 := Lib.hid (holds_keep Hg1.out b5); have Hh2 := Lib.hid (holds_keep Hg2.out b5)
    clear c4 b5 Hg1 Hg2
    go_wp2_with fail
    refine (HN.out _).mono ?_
    rintro e w6 ⟨rfl, b6⟩
    have c6 := c5.trans (b6.mono c5.size)
    have Hg1 := Lib.hid (holds_keep Hh1.out b6); have Hg2 := Lib.hid (holds_keep Hh2.out b6)
    clear c5 b6 Hh1 Hh2
    go_wp2_with fail
    refine (H1.out _).mono ?_
    rintro e w' ⟨rfl, rfl⟩
    go_wp2_with fail
    refine (H1r.out _).mono ?_
    rintro e w' ⟨rfl, rfl⟩
    go_wp2_with fail
    refine (H2.out _).mono ?_
    rintro e w' ⟨rfl, rfl⟩
    go_wp2_with fail
    refine (H2r.out _).mono ?_
    rintro e w' ⟨rfl, rfl⟩
    go_wp2_with fail
    refine (H3.out _).mono ?_
    rintro e w' ⟨rfl, rfl⟩
    go_wp2_with fail
    refine (H3r.out _).mono ?_
    rintro e w' ⟨rfl, rfl⟩
    go_wp2_with fail
    refine (H4.out _).mono ?_
    rintro e w' ⟨rfl, rfl⟩
    go_wp2_with fail
    refine (H4r.out _).mono ?_
    rintro e w' ⟨rfl, rfl⟩
    go_wp2_with fail
    refine (runes_any a0 _).mono ?_
    rintro e w7 ⟨rfl, hw7⟩
    have bx : w7.cell? ⟨w6.heap.size, 0, none⟩ = some (.string a0) := by rw [← hw7]; exact (Boxed.new w6 9 (.string a0)).cell
    have hlt : w6.heap.size < w7.heap.size := by rw [← hw7]; simp
    have b7 : Below w6.heap.size w6 w7 := by rw [← hw7]; exact (Below.refl _ _).alloc (Nat.le_refl _) _
    have c7 := c6.trans (b7.mono c6.size)
    have Hh1 := Lib.hid (holds_keep Hg1.out b7); have Hh2 := Lib.hid (holds_keep Hg2.out b7)
    clear hw7 b7 c6 Hg1 Hg2
    have hnil : ∀ wx, (binOp .eql 32 (.func (.func 28) #[] #[.pointer (some ⟨w6.heap.size, 0, none⟩)]) .nilFunc).run Try.prog wx = .ok (.bool false) wx := fun wx => run_eql_fn_nil _ _ _ _ (by kernel_rfl) wx
    obtain ⟨B0, hB0⟩ : ∃ B0, B0 = w6.heap.size := ⟨_, rfl⟩
    rw [← hB0] at hlt bx hnil
    rw [← hB0]
    clear hB0
    by_cases hst : 0 < a2
    · by_cases hna : (n : Int) ≤ a2
      · have hKe : K = n := by rw [HK.out, if_pos hst]; omega
        subst hKe
        go_wp2_with fail
        go_loopw [19] (fun n wr => ∃ j : Nat, n = .int .i64 (j : Int) ∧ j ≤ 2 ∧ Below w7.heap.size w7 wr) (fun n _ => 2 - (intOf n).toNat)
        case atStart => exact ⟨0, rfl, by omega, Below.refl _ _⟩
        case round =>
          obtain ⟨j, rfl, hj, hb⟩ := hrel
          by_cases hjl : j < 2
          · have hBr : B0 < wr.heap.size := Nat.lt_of_lt_of_le hlt hb.size
            have hbr : wr.cell? ⟨B0, 0, none⟩ = some (.string a0) := (hb.cell (p := ⟨B0, 0, none⟩) hlt).trans bx
            have Hi1 := Lib.hid (holds_keep Hh1.out hb); have Hi2 := Lib.hid (holds_keep Hh2.out hb)
            go_wp2_with fail
            refine (callsIn_wide.1 (told_in 3 (by omega) 28 #[.pointer (some ⟨B0, 0, none⟩)] a2 wr (KeepCell B0) (fun ys => ys.map (·.1) = uRunes a0.data.toList 0) (fun pre => pre.map (·.1) <+: uRunes a0.data.toList 0) a0.size (by omega)
              (enters_of Try.func28 (by kernel_rfl) rfl) (runes_stops 2 (by omega) B0 a0 (by omega) wr hBr hbr) KeepCell.trans (fun W l' o o' _ h hc hw => KeepCell.b (n := 0) W l' o o' (by omega) h hc hw) (fun A B h => KeepCell.below h hBr))).mono ?_
            rintro e wt ⟨r1, r2, xs, rfl, hres, ho1, ho2, bt⟩
            rw [HR.out] at hres
            have hfr := told_front R xs a2 K (by rw [Hn.out]; exact HK.out) hres
            have hz1 : xs.map (fun x : Ru => (x.1.1 : Int)) = (R.map (fun p : Nat × Nat => (p.1 : Int))).take K := by
              rw [← List.map_take, ← hfr, List.map_map]; rfl
            have hz2 : xs.map (fun x : Ru => (x.1.2 : Int)) = (R.map (fun p : Nat × Nat => (p.2 : Int))).take K := by
              rw [← List.map_take, ← hfr, List.map_map]; rfl
            have hq1 : Holds wt r1 ((R.map (fun p : Nat × Nat => (p.1 : Int))).take K) := holds_own (zs := (R.map (fun p : Nat × Nat => (p.1 : Int))).take K) ho1 (by rw [← hz1, List.map_map]; rfl)
            have hq2 : Holds wt r2 ((R.map (fun p : Nat × Nat => (p.2 : Int))).take K) := holds_own (zs := (R.map (fun p : Nat × Nat => (p.2 : Int))).take K) ho2 (by rw [← hz2, List.map_map]; rfl)
            have hp1 := holds_keep Hi1.out bt
            have hp2 := holds_keep Hi2.out bt
            have hlen1 : ((R.map (fun p : Nat × Nat => (p.1 : Int))).take K).length ≤ 1000000 := by simp; omega
            have hlen2 : ((R.map (fun p : Nat × Nat => (p.2 : Int))).take K).length ≤ 1000000 := by simp; omega
            have hb2 := hb.trans (bt.mono hb.size)
            have A1 := Lib.hid (alike_any wt r1 V1 _ hlen1 hq1 hp1)
            have Q2 := Lib.hid hq2; have P2 := Lib.hid hp2; have L2 := Lib.hid hlen2
            have s1 := Hs1.out; have s2 := Hs2.out
            clear hres ho1 ho2 hfr hz1 hz2 hq1 hq2 hp1 hp2 hlen1 hlen2 bt hb
            go_wp2_with fail
            refine A1.out.mono ?_
            rintro e wu ⟨rfl, bu⟩
            have hb3 := hb2.trans (bu.mono hb2.size)
            have A2 := Lib.hid (alike_any wu r2 V2 _ L2.out (holds_keep Q2.out bu) (holds_keep P2.out bu))
            clear bu hb2
            go_wp2_with fail
            refine A2.out.mono ?_
            rintro e wv ⟨rfl, bv⟩
            have hb4 := hb3.trans (bv.mono hb3.size)
            clear bv hb3 s1 s2
            go_wp2
            go_roundw
            case rel => exact ⟨j + 1, by go_num, by omega, hb4⟩
            case measure => simp [intOf]; omega
          · go_wp2
            go_ret
            exact ⟨rfl, c7.trans (hb.mono c7.size)⟩
      · obtain rfl : a2 = (K : Int) := by have := HK.out; rw [if_pos hst] at this; omega
        have hK0 : 0 < K := by omega
        have hdec : decide ((0 : Int) < (K : Int)) = true := by simp; omega
        have hdec2 : decide (0 < K) = true := by simp; omega
        go_wp2_with fail
        go_loopw [19] (fun n wr => ∃ j : Nat, n = .int .i64 (j : Int) ∧ j ≤ 2 ∧ Below w7.heap.size w7 wr) (fun n _ => 2 - (intOf n).toNat)
        case atStart => exact ⟨0, rfl, by omega, Below.refl _ _⟩
        case round =>
          obtain ⟨j, rfl, hj, hb⟩ := hrel
          by_cases hjl : j < 2
          · have hBr : B0 < wr.heap.size := Nat.lt_of_lt_of_le hlt hb.size
            have hbr : wr.cell? ⟨B0, 0, none⟩ = some (.string a0) := (hb.cell (p := ⟨B0, 0, none⟩) hlt).trans bx
            have Hi1 := Lib.hid (holds_keep Hh1.out hb); have Hi2 := Lib.hid (holds_keep Hh2.out hb)
            go_wp2_with fail
            refine (callsIn_wide.1 (told_in 3 (by omega) 28 #[.pointer (some ⟨B0, 0, none⟩)] (K : Int) wr (KeepCell B0) (fun ys => ys.map (·.1) = uRunes a0.data.toList 0) (fun pre => pre.map (·.1) <+: uRunes a0.data.toList 0) a0.size (by omega)
              (enters_of Try.func28 (by kernel_rfl) rfl) (runes_stops 2 (by omega) B0 a0 (by omega) wr hBr hbr) KeepCell.trans (fun W l' o o' _ h hc hw => KeepCell.b (n := 0) W l' o o' (by omega) h hc hw) (fun A B h => KeepCell.below h hBr))).mono ?_
            rintro e wt ⟨r1, r2, xs, rfl, hres, ho1, ho2, bt⟩
            rw [HR.out] at hres
            have hfr := told_front R xs (K : Int) K (by rw [Hn.out]; exact HK.out) hres
            have hz1 : xs.map (fun x : Ru => (x.1.1 : Int)) = (R.map (fun p : Nat × Nat => (p.1 : Int))).take K := by
              rw [← List.map_take, ← hfr, List.map_map]; rfl
            have hz2 : xs.map (fun x : Ru => (x.1.2 : Int)) = (R.map (fun p : Nat × Nat => (p.2 : Int))).take K := by
              rw [← List.map_take, ← hfr, List.map_map]; rfl
            have hq1 : Holds wt r1 ((R.map (fun p : Nat × Nat => (p.1 : Int))).take K) := holds_own (zs := (R.map (fun p : Nat × Nat => (p.1 : Int))).take K) ho1 (by rw [← hz1, List.map_map]; rfl)
            have hq2 : Holds wt r2 ((R.map (fun p : Nat × Nat => (p.2 : Int))).take K) := holds_own (zs := (R.map (fun p : Nat × Nat => (p.2 : Int))).take K) ho2 (by rw [← hz2, List.map_map]; rfl)
            have hp1 := holds_keep Hi1.out bt
            have hp2 := holds_keep Hi2.out bt
            have hlen1 : ((R.map (fun p : Nat × Nat => (p.1 : Int))).take K).length ≤ 1000000 := by simp; omega
            have hlen2 : ((R.map (fun p : Nat × Nat => (p.2 : Int))).take K).length ≤ 1000000 := by simp; omega
            have hb2 := hb.trans (bt.mono hb.size)
            have A1 := Lib.hid (alike_any wt r1 V1 _ hlen1 hq1 hp1)
            have Q2 := Lib.hid hq2; have P2 := Lib.hid hp2; have L2 := Lib.hid hlen2
            have s1 := Hs1.out; have s2 := Hs2.out
            clear hres ho1 ho2 hfr hz1 hz2 hq1 hq2 hp1 hp2 hlen1 hlen2 bt hb
            go_wp2_with fail
            refine A1.out.mono ?_
            rintro e wu ⟨rfl, bu⟩
            have hb3 := hb2.trans (bu.mono hb2.size)
            have A2 := Lib.hid (alike_any wu r2 V2 _ L2.out (holds_keep Q2.out bu) (holds_keep P2.out bu))
            clear bu hb2
            go_wp2_with fail
            refine A2.out.mono ?_
            rintro e wv ⟨rfl, bv⟩
            have hb4 := hb3.trans (bv.mono hb3.size)
            clear bv hb3 s1 s2
            go_wp2
            go_roundw
            case rel => first | exact ⟨j + 1, by go_num, by omega, hb4⟩ | ((repeat apply Exists.intro); exact ⟨⟨j + 1, by go_num, by omega, hb4⟩, rfl⟩)
            case measure => simp [intOf]; omega
          · go_wp2
            go_ret
            exact ⟨rfl, c7.trans (hb.mono c7.size)⟩
    · have hKe : K = n := by rw [HK.out, if_neg hst]
      subst hKe
      go_wp2_with fail
      go_loopw [19] (fun n wr => ∃ j : Nat, n = .int .i64 (j : Int) ∧ j ≤ 2 ∧ Below w7.heap.size w7 wr) (fun n _ => 2 - (intOf n).toNat)
      case atStart => exact ⟨0, rfl, by omega, Below.refl _ _⟩
      case round =>
        obtain ⟨j, rfl, hj, hb⟩ := hrel
        by_cases hjl : j < 2
        · have hBr : B0 < wr.heap.size := Nat.lt_of_lt_of_le hlt hb.size
          have hbr : wr.cell? ⟨B0, 0, none⟩ = some (.string a0) := (hb.cell (p := ⟨B0, 0, none⟩) hlt).trans bx
          have Hi1 := Lib.hid (holds_keep Hh1.out hb); have Hi2 := Lib.hid (holds_keep Hh2.out hb)
          go_wp2_with fail
          refine (callsIn_wide.1 (told_in 3 (by omega) 28 #[.pointer (some ⟨B0, 0, none⟩)] a2 wr (KeepCell B0) (fun ys => ys.map (·.1) = uRunes a0.data.toList 0) (fun pre => pre.map (·.1) <+: uRunes a0.data.toList 0) a0.size (by omega)
            (enters_of Try.func28 (by kernel_rfl) rfl) (runes_stops 2 (by omega) B0 a0 (by omega) wr hBr hbr) KeepCell.trans (fun W l' o o' _ h hc hw => KeepCell.b (n := 0) W l' o o' (by omega) h hc hw) (fun A B h => KeepCell.below h hBr))).mono ?_
          rintro e wt ⟨r1, r2, xs, rfl, hres, ho1, ho2, bt⟩
          rw [HR.out] at hres
          have hfr := told_front R xs a2 K (by rw [Hn.out]; exact HK.out) hres
          have hz1 : xs.map (fun x : Ru => (x.1.1 : Int)) = (R.map (fun p : Nat × Nat => (p.1 : Int))).take K := by
            rw [← List.map_take, ← hfr, List.map_map]; rfl
          have hz2 : xs.map (fun x : Ru => (x.1.2 : Int)) = (R.map (fun p : Nat × Nat => (p.2 : Int))).take K := by
            rw [← List.map_take, ← hfr, List.map_map]; rfl
          have hq1 : Holds wt r1 ((R.map (fun p : Nat × Nat => (p.1 : Int))).take K) := holds_own (zs := (R.map (fun p : Nat × Nat => (p.1 : Int))).take K) ho1 (by rw [← hz1, List.map_map]; rfl)
          have hq2 : Holds wt r2 ((R.map (fun p : Nat × Nat => (p.2 : Int))).take K) := holds_own (zs := (R.map (fun p : Nat × Nat => (p.2 : Int))).take K) ho2 (by rw [← hz2, List.map_map]; rfl)
          have hp1 := holds_keep Hi1.out bt
          have hp2 := holds_keep Hi2.out bt
          have hlen1 : ((R.map (fun p : Nat × Nat => (p.1 : Int))).take K).length ≤ 1000000 := by simp; omega
          have hlen2 : ((R.map (fun p : Nat × Nat => (p.2 : Int))).take K).length ≤ 1000000 := by simp; omega
          have hb2 := hb.trans (bt.mono hb.size)
          have A1 := Lib.hid (alike_any wt r1 V1 _ hlen1 hq1 hp1)
          have Q2 := Lib.hid hq2; have P2 := Lib.hid hp2; have L2 := Lib.hid hlen2
          have s1 := Hs1.out; have s2 := Hs2.out
          clear hres ho1 ho2 hfr hz1 hz2 hq1 hq2 hp1 hp2 hlen1 hlen2 bt hb
          go_wp2_with fail
          refine A1.out.mono ?_
          rintro e wu ⟨rfl, bu⟩
          have hb3 := hb2.trans (bu.mono hb2.size)
          have A2 := Lib.hid (alike_any wu r2 V2 _ L2.out (holds_keep Q2.out bu) (holds_keep P2.out bu))
          clear bu hb2
          go_wp2_with fail
          refine A2.out.mono ?_
          rintro e wv ⟨rfl, bv⟩
          have hb4 := hb3.trans (bv.mono hb3.size)
          clear bv hb3 s1 s2
          go_wp2
          go_roundw
          case rel => exact ⟨j + 1, by go_num, by omega, hb4⟩
          case measure => simp [intOf]; omega
        · go_wp2
          go_ret
          exact ⟨rfl, c7.trans (hb.mono c7.size)⟩
end Go.Proofs.Yticmgbbenjgpeaa
