/-
  The walk of PbufFields over a short field and a short text that is whole.
-/
import Derived.Test.YtkaoacoahlbcoaaPbufFieldsH
namespace Go.Proofs.Ytkaoacoahlbcoaa
open Go.RowKit
set_option linter.unusedVariables false
set_option maxRecDepth 100000 in
set_option maxHeartbeats 8000000 in
theorem pbufFields.mainA (p : FdI) (b : ByteArray) (stop : Int) (w0 : World) (hp : p.ok) (hd : p.data.size ≤ 500) (hb : b.size ≤ 3000) (hs0 : -9223372036854775808 ≤ stop) (hs1 : stop ≤ 9223372036854775807) (l : List (Fd × Nat)) (ha : pall b = l.map Pt.pair)
    (z : Nat) (hz : (stop ≤ 0 ∧ z = (pall b).length) ∨ (0 < stop ∧ stop = (z : Int) ∧ z < (pall b).length) ∨ (0 < stop ∧ ((pall b).length : Int) ≤ stop ∧ z = (pall b).length)) :
    Calls Try.prog 4 #[.agg #[.int .i64 p.num, .int .i64 p.kind, .int .i64 p.at_, .int .u64 p.val, .string p.data], .string b, .int .i64 stop] w0 fun e w' => e = .returned (.bool true) ∧ Below w0.heap.size w0 w' := by
  obtain ⟨P, C, hput, hrput⟩ := both_put p hp
  have HPut := Lib.hid hput
  have HRPut := Lib.hid hrput
  obtain ⟨n, hn⟩ : ∃ n, l.length = n := ⟨_, rfl⟩
  have Hn := Lib.hid hn
  have Hall := Lib.hid ha
  have hM : (pall b).length = n := by rw [ha]; simp [hn]
  have hln := (pall_len b (by omega)).1
  have hn3 : n ≤ 3000 := by omega
  have HF := Lib.hid (fun w => fields_ok b (by omega) l ha w)
  have HRF := Lib.hid (fun w => ref_ok b (by omega) l ha w)
  rw [hn] at HRF
  have HRe : Hid (∀ a c w, FHolds w a l → Calls Try.prog 21 #[.slice a n c] w fun e w' => ∃ a' c', e = .returned (.slice a' n c') ∧ FHolds w' a' l ∧ Below w.heap.size w w') := Lib.hid (fun a c w h => by
    have h1 := real_any a c l w (by omega) h
    rw [hn] at h1
    exact h1.mono (fun e w' h => by obtain ⟨a', c', h2, h3, h4⟩ := h; rw [hn] at h2; exact ⟨a', c', h2, h3, h4⟩))
  have HS := Lib.hid (fun a b' c d w ha' hb' => by
    have h1 := same_fds a b' c d l w (by omega) ha' hb'
    rw [hn] at h1
    exact h1)
  have HT : Hid (∀ Bs W, W.cell? ⟨Bs, 0, none⟩ = some (.string b) → Bs < W.heap.size → Calls Try.prog 24 #[.func (.func 31) #[] #[.pointer (some ⟨Bs, 0, none⟩)], .int .i64 stop] W (ToldIs b z W)) := Lib.hid (fun Bs W hc hB => (told_any Bs b (by omega) stop W hB hc).mono (told_z b stop z (hz.imp id (fun h => h.imp (fun h => ⟨h.1, h.2.1, Nat.le_of_lt h.2.2⟩) id)) W))
  rw [hM] at hz
  have hd' : p.data.size ≤ 500 := hd
  have hdd : decide (500 < (p.data.size : Int)) = false := by simp; omega
  have hbd : decide (3000 < (b.size : Int)) = false := by simp; omega
  skip
  have hzM : z ≤ n := by omega
  clear hput hrput hp hn ha hM hln hd hd'
  rcases hz with ⟨h0, hz⟩ | ⟨h0, hz, hz2⟩ | ⟨h0, h00, hz⟩
  · have hst : decide (0 < stop) = false := by simp; omega
    have hz' := hz.symm
    subst hz'
    go_enter Try.func4, Try.ntmps4
    go_wp2_with fail
    refine (alive_any _).mono ?_
    rintro e w1 ⟨rfl, b1⟩
    obtain ⟨k1, b1, z1⟩ := fbox b1
    obtain ⟨c0, c1, c2, c3, c4⟩ := fcells k1
    go_wp2_with fail
    refine (HPut.out _).mono ?_
    rintro e w2 ⟨rfl, b2⟩
    have k2 := k1.below b2 z1
    clear c0 c1 c2 c3 c4 k1
    obtain ⟨c0, c1, c2, c3, c4⟩ := fcells k2
    go_wp2_with fail
    refine (HRPut.out _).mono ?_
    rintro e w3 ⟨rfl, b3⟩
    clear c0 c1 c2 c3 c4 k2
    go_wp2_with fail
    refine (HF.out _).mono ?_
    rintro e w4 ⟨xa, na, rfl, fa, b4⟩
    rw [Hn.out]
    have FA := Lib.hid fa
    clear fa
    have kD := Blk.new w4 39 #[.int .i64 0, .int .i64 0, .string ⟨#[]⟩]
    have b14 : Below w0.heap.size w0 w4 := by
      have h2 := b2.mono b1.size
      have h12 := b1.trans h2
      have h3 := b3.mono h12.size
      have h13 := h12.trans h3
      exact h13.trans (b4.mono h13.size)
    have H4 := Lib.hid b14
    clear b1 b2 b3 b4 b14 z1
    go_wp2_with fail
    refine (HRF.out _).mono ?_
    rintro e w5 ⟨va, vc, rfl, fv, b5⟩
    have kD5 := kD.below b5 (by simp)
    have b5' : Below w4.heap.size w4 w5 := ((Below.refl _ _).alloc (Nat.le_refl _) _).trans (b5.mono (by simp))
    have z5 : w4.heap.size < w5.heap.size := by have := b5.size; simp at this; omega
    have FV := Lib.hid fv
    have KD5 := Lib.hid kD5
    have B5 := Lib.hid b5'
    clear kD kD5 fv b5 b5'
    go_wp2_with fail
    refine (HRe.out va vc _ FV.out).mono ?_
    rintro e w6 ⟨wa, wc, rfl, fw, b6⟩
    obtain ⟨d0, d1, d2⟩ := dcells (KD5.out.below b6 z5)
    have B6 := Lib.hid (B5.out.trans (b6.mono (Nat.le_of_lt z5)))
    have FA6 := Lib.hid (FA.out.below B6.out)
    have FW := Lib.hid fw
    clear fw b6
    go_wp2_with fail
    refine (HS.out _ _ _ _ _ FA6.out FW.out).mono ?_
    rintro e w7 ⟨rfl, b7⟩
    have B7 := Lib.hid (B6.out.trans (b7.mono B6.out.size))
    have FW7 := Lib.hid (FW.out.below b7)
    clear b7 d0 d1 d2
    go_wp2_with fail
    refine (each_any _ _).mono ?_
    rintro e w8 ⟨rfl, hw8⟩
    have hBs : w7.heap.size < w8.heap.size := by rw [← hw8]; simp
    have kS : Blk w8 w7.heap.size 9 #[.string b] := by rw [← hw8]; exact Blk.new _ _ _
    have b8 : Below w7.heap.size w7 w8 := by rw [← hw8]; exact (Below.refl _ _).alloc (Nat.le_refl _) _
    have FW8 := Lib.hid (fun W (h : Below w8.heap.size w8 W) => (FW7.out.below b8).below h)
    have HStr : Hid (∀ W, Below w8.heap.size w8 W → W.cell? ⟨w7.heap.size, 0, none⟩ = some (.string b) ∧ w7.heap.size < W.heap.size) := Lib.hid (fun W h => ⟨(kS.below h hBs).cell 0, Nat.lt_of_lt_of_le hBs h.size⟩)
    have HFin : Hid (∀ W, Below w8.heap.size w8 W → Below w0.heap.size w0 W) := Lib.hid (fun W h => by
      have h1 := H4.out.trans (B7.out.mono H4.out.size)
      have h2 := h1.trans (b8.mono h1.size)
      exact h2.trans (h.mono h2.size))
    have hnil : ∀ wx, (binOp .eql 47 (.func (.func 31) #[] #[.pointer (some ⟨w7.heap.size, 0, none⟩)]) .nilFunc).run Try.prog wx = .ok (.bool false) wx := fun wx => run_eql_func_nil _ _ _ _ (by kernel_rfl) wx
    clear hw8 kS b8 hBs
    go_wp2_with fail
    skip
    skip
    clear hnil
    go_loopw [19] (fun r wr => ∃ k : Nat, r = .int .i64 (k : Int) ∧ k ≤ 2 ∧ Hid (Below w8.heap.size w8 wr)) (fun r _ => 2 - (intOf r).toNat)
    case atStart => exact ⟨0, rfl, by omega, Lib.hid (Below.refl _ _)⟩
    case round =>
      obtain ⟨k, rfl, hk, hbW⟩ := hrel
      by_cases hk2 : k < 2
      · obtain ⟨hs, hBlt⟩ := HStr.out _ hbW.out
        go_wp2_with fail
        refine (HT.out _ _ hs hBlt).mono ?_
        rintro e wt ⟨a1, c1, a2, c2, xs, rfl, hpre, hxl, hv1, hv2, bt⟩
        have Hpre := Lib.hid hpre
        have Hxl := Lib.hid hxl
        have HV1 := Lib.hid hv1
        have HV2 := Lib.hid hv2
        have hbt := hbW.out.trans (bt.mono hbW.out.size)
        have HBT := Lib.hid hbt
        have FWT := Lib.hid (FW8.out _ hbt)
        clear hpre hxl hv1 hv2 bt hbt hs hBlt hbW
        go_wp2_with fail
        go_loopw [22] (fun i wq => ∃ j : Nat, i = .int .i64 (j : Int) ∧ j ≤ n ∧ Below wt.heap.size wt wq) (fun i _ => n - (intOf i).toNat)
        case atStart => exact ⟨0, rfl, by omega, Below.refl _ _⟩
        case round =>
          obtain ⟨j, rfl, hj, hbq⟩ := hrel
          by_cases hjz : j < n
          · obtain ⟨x, hx⟩ : ∃ x, xs[j]? = some x := ⟨_, List.getElem?_eq_getElem (by rw [Hxl.out]; exact hjz)⟩
            have hxp := pre_get Hpre.out hx
            obtain ⟨g1, g2, h1, h2, hg1, hg2, x0, x1, x2, x3, x4, y0, y1⟩ := told_at (HV1.out.below hbq) (HV2.out.below hbq) hx
            cases h1
            cases h2
            rw [Hall.out] at hxp
            have hjn : j < n := by omega
            obtain ⟨p', hp'⟩ : ∃ p', l[j]? = some p' := ⟨_, List.getElem?_eq_getElem (by rw [Hn.out]; exact hjn)⟩
            have hxe : x = Pt.pair p' := by
              rw [List.getElem?_map, hp'] at hxp; simpa using hxp.symm
            subst hxe
            obtain ⟨f, kk⟩ := p'
            obtain ⟨g3, h3, hg3, hc3⟩ := (FWT.out.below hbq) j _ hp'
            cases h3
            have v0 := hc3 0 _ rfl; have v1 := hc3 1 _ rfl; have v2 := hc3 2 _ rfl; have v3 := hc3 3 _ rfl; have v4 := hc3 4 _ rfl
            simp only [Nat.add_zero] at v0
            simp only [Pt.pair, Pt.n0, Pt.n1, Pt.n2, Pt.n3, Pt.n4, Pt.m0, Pt.m1] at x0 x1 x2 x3 x4 y0 y1
            have hjd : ((j : Int) == (n : Int)) = false := by simp; omega
            have hjd2 : decide ((j : Int) < (n : Int)) = true := by simp; omega
            clear hx hxp hc3 hp'
            go_wp2
            go_quiet (fail)
            go_wp2
            go_roundw
            case rel => first | exact ⟨j + 1, by go_num, by omega, below_drewN (hbq.alloc hbq.size _) _⟩ | exact ⟨j + 1, by go_num, by omega, below_drewN hbq _⟩ | ((repeat apply Exists.intro); first | exact ⟨⟨j + 1, by go_num, by omega, below_drewN (hbq.alloc hbq.size _) _⟩, rfl⟩ | exact ⟨⟨j + 1, by go_num, by omega, below_drewN hbq _⟩, rfl⟩)
            case measure => simp [intOf]; omega
          · have hbW2 := Lib.hid (HBT.out.trans (hbq.mono HBT.out.size))
            go_wp2
            go_roundw
            case rel => first | exact ⟨k + 1, by go_num, by omega, hbW2⟩ | ((repeat apply Exists.intro); exact ⟨⟨k + 1, by go_num, by omega, hbW2⟩, rfl⟩)
            case measure => simp [intOf]; omega
      · go_wp2
        go_ret
        exact ⟨rfl, HFin.out _ hbW.out⟩
  · subst hz
    have hst1 : decide ((0 : Int) < (z : Int)) = true := by simp; omega
    have hst2 : decide (0 < z) = true := by simp; omega
    go_enter Try.func4, Try.ntmps4
    go_wp2_with fail
    refine (alive_any _).mono ?_
    rintro e w1 ⟨rfl, b1⟩
    obtain ⟨k1, b1, z1⟩ := fbox b1
    obtain ⟨c0, c1, c2, c3, c4⟩ := fcells k1
    go_wp2_with fail
    refine (HPut.out _).mono ?_
    rintro e w2 ⟨rfl, b2⟩
    have k2 := k1.below b2 z1
    clear c0 c1 c2 c3 c4 k1
    obtain ⟨c0, c1, c2, c3, c4⟩ := fcells k2
    go_wp2_with fail
    refine (HRPut.out _).mono ?_
    rintro e w3 ⟨rfl, b3⟩
    clear c0 c1 c2 c3 c4 k2
    go_wp2_with fail
    refine (HF.out _).mono ?_
    rintro e w4 ⟨xa, na, rfl, fa, b4⟩
    rw [Hn.out]
    have FA := Lib.hid fa
    clear fa
    have kD := Blk.new w4 39 #[.int .i64 0, .int .i64 0, .string ⟨#[]⟩]
    have b14 : Below w0.heap.size w0 w4 := by
      have h2 := b2.mono b1.size
      have h12 := b1.trans h2
      have h3 := b3.mono h12.size
      have h13 := h12.trans h3
      exact h13.trans (b4.mono h13.size)
    have H4 := Lib.hid b14
    clear b1 b2 b3 b4 b14 z1
    go_wp2_with fail
    refine (HRF.out _).mono ?_
    rintro e w5 ⟨va, vc, rfl, fv, b5⟩
    have kD5 := kD.below b5 (by simp)
    have b5' : Below w4.heap.size w4 w5 := ((Below.refl _ _).alloc (Nat.le_refl _) _).trans (b5.mono (by simp))
    have z5 : w4.heap.size < w5.heap.size := by have := b5.size; simp at this; omega
    have FV := Lib.hid fv
    have KD5 := Lib.hid kD5
    have B5 := Lib.hid b5'
    clear kD kD5 fv b5 b5'
    go_wp2_with fail
    refine (HRe.out va vc _ FV.out).mono ?_
    rintro e w6 ⟨wa, wc, rfl, fw, b6⟩
    obtain ⟨d0, d1, d2⟩ := dcells (KD5.out.below b6 z5)
    have B6 := Lib.hid (B5.out.trans (b6.mono (Nat.le_of_lt z5)))
    have FA6 := Lib.hid (FA.out.below B6.out)
    have FW := Lib.hid fw
    clear fw b6
    go_wp2_with fail
    refine (HS.out _ _ _ _ _ FA6.out FW.out).mono ?_
    rintro e w7 ⟨rfl, b7⟩
    have B7 := Lib.hid (B6.out.trans (b7.mono B6.out.size))
    have FW7 := Lib.hid (FW.out.below b7)
    clear b7 d0 d1 d2
    go_wp2_with fail
    refine (each_any _ _).mono ?_
    rintro e w8 ⟨rfl, hw8⟩
    have hBs : w7.heap.size < w8.heap.size := by rw [← hw8]; simp
    have kS : Blk w8 w7.heap.size 9 #[.string b] := by rw [← hw8]; exact Blk.new _ _ _
    have b8 : Below w7.heap.size w7 w8 := by rw [← hw8]; exact (Below.refl _ _).alloc (Nat.le_refl _) _
    have FW8 := Lib.hid (fun W (h : Below w8.heap.size w8 W) => (FW7.out.below b8).below h)
    have HStr : Hid (∀ W, Below w8.heap.size w8 W → W.cell? ⟨w7.heap.size, 0, none⟩ = some (.string b) ∧ w7.heap.size < W.heap.size) := Lib.hid (fun W h => ⟨(kS.below h hBs).cell 0, Nat.lt_of_lt_of_le hBs h.size⟩)
    have HFin : Hid (∀ W, Below w8.heap.size w8 W → Below w0.heap.size w0 W) := Lib.hid (fun W h => by
      have h1 := H4.out.trans (B7.out.mono H4.out.size)
      have h2 := h1.trans (b8.mono h1.size)
      exact h2.trans (h.mono h2.size))
    have hnil : ∀ wx, (binOp .eql 47 (.func (.func 31) #[] #[.pointer (some ⟨w7.heap.size, 0, none⟩)]) .nilFunc).run Try.prog wx = .ok (.bool false) wx := fun wx => run_eql_func_nil _ _ _ _ (by kernel_rfl) wx
    clear hw8 kS b8 hBs
    go_wp2_with fail
    skip
    skip
    clear hnil
    go_loopw [19] (fun r wr => ∃ k : Nat, r = .int .i64 (k : Int) ∧ k ≤ 2 ∧ Hid (Below w8.heap.size w8 wr)) (fun r _ => 2 - (intOf r).toNat)
    case atStart => exact ⟨0, rfl, by omega, Lib.hid (Below.refl _ _)⟩
    case round =>
      obtain ⟨k, rfl, hk, hbW⟩ := hrel
      by_cases hk2 : k < 2
      · obtain ⟨hs, hBlt⟩ := HStr.out _ hbW.out
        go_wp2_with fail
        refine (HT.out _ _ hs hBlt).mono ?_
        rintro e wt ⟨a1, c1, a2, c2, xs, rfl, hpre, hxl, hv1, hv2, bt⟩
        have Hpre := Lib.hid hpre
        have Hxl := Lib.hid hxl
        have HV1 := Lib.hid hv1
        have HV2 := Lib.hid hv2
        have hbt := hbW.out.trans (bt.mono hbW.out.size)
        have HBT := Lib.hid hbt
        have FWT := Lib.hid (FW8.out _ hbt)
        clear hpre hxl hv1 hv2 bt hbt hs hBlt hbW
        go_wp2_with fail
        go_loopw [22] (fun i wq => ∃ j : Nat, i = .int .i64 (j : Int) ∧ j ≤ z ∧ Below wt.heap.size wt wq) (fun i _ => z - (intOf i).toNat)
        case atStart => exact ⟨0, rfl, by omega, Below.refl _ _⟩
        case round =>
          obtain ⟨j, rfl, hj, hbq⟩ := hrel
          by_cases hjz : j < z
          · obtain ⟨x, hx⟩ : ∃ x, xs[j]? = some x := ⟨_, List.getElem?_eq_getElem (by rw [Hxl.out]; exact hjz)⟩
            have hxp := pre_get Hpre.out hx
            obtain ⟨g1, g2, h1, h2, hg1, hg2, x0, x1, x2, x3, x4, y0, y1⟩ := told_at (HV1.out.below hbq) (HV2.out.below hbq) hx
            cases h1
            cases h2
            rw [Hall.out] at hxp
            have hjn : j < n := by omega
            obtain ⟨p', hp'⟩ : ∃ p', l[j]? = some p' := ⟨_, List.getElem?_eq_getElem (by rw [Hn.out]; exact hjn)⟩
            have hxe : x = Pt.pair p' := by
              rw [List.getElem?_map, hp'] at hxp; simpa using hxp.symm
            subst hxe
            obtain ⟨f, kk⟩ := p'
            obtain ⟨g3, h3, hg3, hc3⟩ := (FWT.out.below hbq) j _ hp'
            cases h3
            have v0 := hc3 0 _ rfl; have v1 := hc3 1 _ rfl; have v2 := hc3 2 _ rfl; have v3 := hc3 3 _ rfl; have v4 := hc3 4 _ rfl
            simp only [Nat.add_zero] at v0
            simp only [Pt.pair, Pt.n0, Pt.n1, Pt.n2, Pt.n3, Pt.n4, Pt.m0, Pt.m1] at x0 x1 x2 x3 x4 y0 y1
            have hjd : ((j : Int) == (n : Int)) = false := by simp; omega
            have hjd2 : decide ((j : Int) < (n : Int)) = true := by simp; omega
            clear hx hxp hc3 hp'
            go_wp2
            go_quiet (fail)
            go_wp2
            go_roundw
            case rel => first | exact ⟨j + 1, by go_num, by omega, below_drewN (hbq.alloc hbq.size _) _⟩ | exact ⟨j + 1, by go_num, by omega, below_drewN hbq _⟩ | ((repeat apply Exists.intro); first | exact ⟨⟨j + 1, by go_num, by omega, below_drewN (hbq.alloc hbq.size _) _⟩, rfl⟩ | exact ⟨⟨j + 1, by go_num, by omega, below_drewN hbq _⟩, rfl⟩)
            case measure => simp [intOf]; omega
          · have hbW2 := Lib.hid (HBT.out.trans (hbq.mono HBT.out.size))
            go_wp2
            go_roundw
            case rel => first | exact ⟨k + 1, by go_num, by omega, hbW2⟩ | ((repeat apply Exists.intro); exact ⟨⟨k + 1, by go_num, by omega, hbW2⟩, rfl⟩)
            case measure => simp [intOf]; omega
      · go_wp2
        go_ret
        exact ⟨rfl, HFin.out _ hbW.out⟩
  · have hz' := hz.symm
    subst hz'
    go_enter Try.func4, Try.ntmps4
    go_wp2_with fail
    refine (alive_any _).mono ?_
    rintro e w1 ⟨rfl, b1⟩
    obtain ⟨k1, b1, z1⟩ := fbox b1
    obtain ⟨c0, c1, c2, c3, c4⟩ := fcells k1
    go_wp2_with fail
    refine (HPut.out _).mono ?_
    rintro e w2 ⟨rfl, b2⟩
    have k2 := k1.below b2 z1
    clear c0 c1 c2 c3 c4 k1
    obtain ⟨c0, c1, c2, c3, c4⟩ := fcells k2
    go_wp2_with fail
    refine (HRPut.out _).mono ?_
    rintro e w3 ⟨rfl, b3⟩
    clear c0 c1 c2 c3 c4 k2
    go_wp2_with fail
    refine (HF.out _).mono ?_
    rintro e w4 ⟨xa, na, rfl, fa, b4⟩
    rw [Hn.out]
    have FA := Lib.hid fa
    clear fa
    have kD := Blk.new w4 39 #[.int .i64 0, .int .i64 0, .string ⟨#[]⟩]
    have b14 : Below w0.heap.size w0 w4 := by
      have h2 := b2.mono b1.size
      have h12 := b1.trans h2
      have h3 := b3.mono h12.size
      have h13 := h12.trans h3
      exact h13.trans (b4.mono h13.size)
    have H4 := Lib.hid b14
    clear b1 b2 b3 b4 b14 z1
    go_wp2_with fail
    refine (HRF.out _).mono ?_
    rintro e w5 ⟨va, vc, rfl, fv, b5⟩
    have kD5 := kD.below b5 (by simp)
    have b5' : Below w4.heap.size w4 w5 := ((Below.refl _ _).alloc (Nat.le_refl _) _).trans (b5.mono (by simp))
    have z5 : w4.heap.size < w5.heap.size := by have := b5.size; simp at this; omega
    have FV := Lib.hid fv
    have KD5 := Lib.hid kD5
    have B5 := Lib.hid b5'
    clear kD kD5 fv b5 b5'
    go_wp2_with fail
    refine (HRe.out va vc _ FV.out).mono ?_
    rintro e w6 ⟨wa, wc, rfl, fw, b6⟩
    obtain ⟨d0, d1, d2⟩ := dcells (KD5.out.below b6 z5)
    have B6 := Lib.hid (B5.out.trans (b6.mono (Nat.le_of_lt z5)))
    have FA6 := Lib.hid (FA.out.below B6.out)
    have FW := Lib.hid fw
    clear fw b6
    go_wp2_with fail
    refine (HS.out _ _ _ _ _ FA6.out FW.out).mono ?_
    rintro e w7 ⟨rfl, b7⟩
    have B7 := Lib.hid (B6.out.trans (b7.mono B6.out.size))
    have FW7 := Lib.hid (FW.out.below b7)
    clear b7 d0 d1 d2
    go_wp2_with fail
    refine (each_any _ _).mono ?_
    rintro e w8 ⟨rfl, hw8⟩
    have hBs : w7.heap.size < w8.heap.size := by rw [← hw8]; simp
    have kS : Blk w8 w7.heap.size 9 #[.string b] := by rw [← hw8]; exact Blk.new _ _ _
    have b8 : Below w7.heap.size w7 w8 := by rw [← hw8]; exact (Below.refl _ _).alloc (Nat.le_refl _) _
    have FW8 := Lib.hid (fun W (h : Below w8.heap.size w8 W) => (FW7.out.below b8).below h)
    have HStr : Hid (∀ W, Below w8.heap.size w8 W → W.cell? ⟨w7.heap.size, 0, none⟩ = some (.string b) ∧ w7.heap.size < W.heap.size) := Lib.hid (fun W h => ⟨(kS.below h hBs).cell 0, Nat.lt_of_lt_of_le hBs h.size⟩)
    have HFin : Hid (∀ W, Below w8.heap.size w8 W → Below w0.heap.size w0 W) := Lib.hid (fun W h => by
      have h1 := H4.out.trans (B7.out.mono H4.out.size)
      have h2 := h1.trans (b8.mono h1.size)
      exact h2.trans (h.mono h2.size))
    have hnil : ∀ wx, (binOp .eql 47 (.func (.func 31) #[] #[.pointer (some ⟨w7.heap.size, 0, none⟩)]) .nilFunc).run Try.prog wx = .ok (.bool false) wx := fun wx => run_eql_func_nil _ _ _ _ (by kernel_rfl) wx
    clear hw8 kS b8 hBs
    go_wp2_with fail
    skip
    skip
    clear hnil
    go_loopw [19] (fun r wr => ∃ k : Nat, r = .int .i64 (k : Int) ∧ k ≤ 2 ∧ Hid (Below w8.heap.size w8 wr)) (fun r _ => 2 - (intOf r).toNat)
    case atStart => exact ⟨0, rfl, by omega, Lib.hid (Below.refl _ _)⟩
    case round =>
      obtain ⟨k, rfl, hk, hbW⟩ := hrel
      by_cases hk2 : k < 2
      · obtain ⟨hs, hBlt⟩ := HStr.out _ hbW.out
        go_wp2_with fail
        refine (HT.out _ _ hs hBlt).mono ?_
        rintro e wt ⟨a1, c1, a2, c2, xs, rfl, hpre, hxl, hv1, hv2, bt⟩
        have Hpre := Lib.hid hpre
        have Hxl := Lib.hid hxl
        have HV1 := Lib.hid hv1
        have HV2 := Lib.hid hv2
        have hbt := hbW.out.trans (bt.mono hbW.out.size)
        have HBT := Lib.hid hbt
        have FWT := Lib.hid (FW8.out _ hbt)
        clear hpre hxl hv1 hv2 bt hbt hs hBlt hbW
        go_wp2_with fail
        go_loopw [22] (fun i wq => ∃ j : Nat, i = .int .i64 (j : Int) ∧ j ≤ n ∧ Below wt.heap.size wt wq) (fun i _ => n - (intOf i).toNat)
        case atStart => exact ⟨0, rfl, by omega, Below.refl _ _⟩
        case round =>
          obtain ⟨j, rfl, hj, hbq⟩ := hrel
          by_cases hjz : j < n
          · obtain ⟨x, hx⟩ : ∃ x, xs[j]? = some x := ⟨_, List.getElem?_eq_getElem (by rw [Hxl.out]; exact hjz)⟩
            have hxp := pre_get Hpre.out hx
            obtain ⟨g1, g2, h1, h2, hg1, hg2, x0, x1, x2, x3, x4, y0, y1⟩ := told_at (HV1.out.below hbq) (HV2.out.below hbq) hx
            cases h1
            cases h2
            rw [Hall.out] at hxp
            have hjn : j < n := by omega
            obtain ⟨p', hp'⟩ : ∃ p', l[j]? = some p' := ⟨_, List.getElem?_eq_getElem (by rw [Hn.out]; exact hjn)⟩
            have hxe : x = Pt.pair p' := by
              rw [List.getElem?_map, hp'] at hxp; simpa using hxp.symm
            subst hxe
            obtain ⟨f, kk⟩ := p'
            obtain ⟨g3, h3, hg3, hc3⟩ := (FWT.out.below hbq) j _ hp'
            cases h3
            have v0 := hc3 0 _ rfl; have v1 := hc3 1 _ rfl; have v2 := hc3 2 _ rfl; have v3 := hc3 3 _ rfl; have v4 := hc3 4 _ rfl
            simp only [Nat.add_zero] at v0
            simp only [Pt.pair, Pt.n0, Pt.n1, Pt.n2, Pt.n3, Pt.n4, Pt.m0, Pt.m1] at x0 x1 x2 x3 x4 y0 y1
            have hjd : ((j : Int) == (n : Int)) = false := by simp; omega
            have hjd2 : decide ((j : Int) < (n : Int)) = true := by simp; omega
            clear hx hxp hc3 hp'
            go_wp2
            go_quiet (fail)
            go_wp2
            go_roundw
            case rel => first | exact ⟨j + 1, by go_num, by omega, below_drewN (hbq.alloc hbq.size _) _⟩ | exact ⟨j + 1, by go_num, by omega, below_drewN hbq _⟩ | ((repeat apply Exists.intro); first | exact ⟨⟨j + 1, by go_num, by omega, below_drewN (hbq.alloc hbq.size _) _⟩, rfl⟩ | exact ⟨⟨j + 1, by go_num, by omega, below_drewN hbq _⟩, rfl⟩)
            case measure => simp [intOf]; omega
          · have hbW2 := Lib.hid (HBT.out.trans (hbq.mono HBT.out.size))
            go_wp2
            go_roundw
            case rel => first | exact ⟨k + 1, by go_num, by omega, hbW2⟩ | ((repeat apply Exists.intro); exact ⟨⟨k + 1, by go_num, by omega, hbW2⟩, rfl⟩)
            case measure => simp [intOf]; omega
      · go_wp2
        go_ret
        exact ⟨rfl, HFin.out _ hbW.out⟩
end Go.Proofs.Ytkaoacoahlbcoaa
