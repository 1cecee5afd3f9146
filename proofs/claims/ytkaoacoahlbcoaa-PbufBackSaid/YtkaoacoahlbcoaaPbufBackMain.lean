/-
  The walk of PbufBack over few fields.
-/
import Derived.Test.YtkaoacoahlbcoaaBackB
import Derived.Test.YtkaoacoahlbcoaaAlive10
namespace Go.Proofs.Ytkaoacoahlbcoaa
open Go.RowKit
theorem add_pos (x : Addr) (k : Nat) : x.add (k + 1) = ⟨x.block, x.off + (k + 1), none⟩ := by unfold Addr.add; rw [if_neg (by omega)]
/-- The cells of a field that came in, as the walk spells their places. -/
def C5 (W : World) (x : Addr) (p : FdI) : Prop :=
  W.cell? x = some (.int .i64 p.num) ∧ W.cell? ⟨x.block, x.off + 1, none⟩ = some (.int .i64 p.kind) ∧ W.cell? ⟨x.block, x.off + 2, none⟩ = some (.int .i64 p.at_) ∧ W.cell? ⟨x.block, x.off + 3, none⟩ = some (.int .u64 p.val) ∧ W.cell? ⟨x.block, x.off + 4, none⟩ = some (.string p.data)
theorem c5_of {W : World} {ad : Addr} {n j : Nat} {l : List FdI} {p : FdI} (h : IsFds W (some ad) n l) (hp : l[j]? = some p) : p.ok ∧ C5 W (ad.add (j * 5)) p := by
  obtain ⟨hok, ad', hax, hadl, hcp⟩ := h.2 j p hp
  cases hax
  have c0 := hcp 0 _ rfl; have c1 := hcp 1 _ rfl; have c2 := hcp 2 _ rfl; have c3 := hcp 3 _ rfl; have c4 := hcp 4 _ rfl
  simp only [Nat.add_zero] at c0
  rw [← Deep.add_add, add_pos] at c1 c2 c3 c4
  exact ⟨hok, c0, c1, c2, c3, c4⟩
theorem own_slice {W : World} {b : Nat} {e : TypeId} {s : Nat} {v : Value} {n : Nat} {xs : List Value} (h : W.ownsRow b e s v n xs) : ∃ a c, v = .slice a n c := by
  obtain ⟨hl, ⟨rfl, hn⟩ | ⟨g, cap, cur, rfl, _⟩⟩ := h
  · exact ⟨none, 0, by rw [hn]⟩
  · exact ⟨_, _, rfl⟩
/-- The row at a holds the numbers l. -/
def EHolds (w : World) (a : Option Addr) (l : List Nat) : Prop := ∀ (i x : Nat), l[i]? = some x → ∃ g, a = some ⟨g, 0, none⟩ ∧ g < w.heap.size ∧ w.cell? ⟨g, i, none⟩ = some (.int .i64 (x : Int))
theorem EHolds.below {w w' : World} {a : Option Addr} {l : List Nat} (h : EHolds w a l) (hb : Below w.heap.size w w') : EHolds w' a l := fun i x hx => by
  obtain ⟨g, ha, hg, hc⟩ := h i x hx
  exact ⟨g, ha, Nat.lt_of_lt_of_le hg hb.size, (hb.cell (p := ⟨g, i, none⟩) hg).trans hc⟩
theorem eholds_own {w : World} {b c n : Nat} {a : Option Addr} {l : List Nat} (h : w.ownsRow b 3 1 (.slice a n c) n (l.map (fun n : Nat => Value.int .i64 (n : Int)))) : EHolds w a l := by
  intro i x hx
  have hi : i < l.length := by
    rcases Nat.lt_or_ge i l.length with h' | h'
    · exact h'
    · rw [List.getElem?_eq_none h'] at hx; cases hx
  have hn : n = l.length := by have := h.1; simp at this; omega
  obtain ⟨g, cap, hv, _, hlt⟩ := h.form (by omega)
  have hA : a = some ⟨g, 0, none⟩ := by injection hv
  subst hA
  refine ⟨g, rfl, hlt, ?_⟩
  have hc := World.ownsRow.cellAt h i (by omega)
  rw [hc]
  simp [hx]
set_option maxRecDepth 100000 in
set_option maxHeartbeats 4000000 in
theorem pbufBack.main (a : Option Addr) (n c : Nat) (l : List FdI) (cut : Int) (w0 : World) (hn : n ≤ 40) (hc0 : 0 ≤ cut) (hc1 : cut ≤ 9223372036854775807) (hl : IsFds w0 a n l) :
    Calls Try.prog 5 #[.slice a n c, .int .i64 cut] w0 fun e w' => e = .returned (.bool true) ∧ Below w0.heap.size w0 w' := by
  have HL := Lib.hid hl
  clear hl
  go_enter Try.func5, Try.ntmps5
  go_wp2_with fail
  refine (alive_any _).mono ?_
  rintro e w ⟨rfl, b1⟩
  have HL2 := Lib.hid (HL.out.below b1)
  have B1 := Lib.hid b1
  obtain ⟨B, hB⟩ : ∃ B, w.heap.size = B := ⟨_, rfl⟩
  have HB := Lib.hid hB
  clear b1 HL hB
  go_wp2
  go_loopw [5, 6, 7, 8, 9] (fun s ev wv r i wr => ∃ (j : Nat) (R : Int) (L : List (Fd × ByteArray)), i = .int .i64 (j : Int) ∧ j ≤ n ∧ r = .int .i64 R ∧ -1 ≤ R ∧ R ≤ 5000 ∧ s = .string (cat L) ∧ Hid (∀ p ∈ L, GoodB p) ∧ Hid (Duo B w wr ev wv (ends 0 L) (places 0 L)) ∧ (cat L).size ≤ 70000 * j ∧ (0 ≤ R → (cat L).size ≤ 20 * j + (5000 - R)) ∧ L.length ≤ j) (fun _ _ _ _ i _ => n - (intOf i).toNat)
  case atStart => exact ⟨0, 5000, [], rfl, by omega, rfl, by omega, by omega, rfl, Lib.hid (fun p h => by cases h), Lib.hid (Duo.nil B w (by have := HB.out; omega)), by decide, fun _ => by decide, by simp⟩
  case round =>
    obtain ⟨j, R, L, rfl, hj, rfl, hR0, hR1, rfl, hg, hd, hs1, hs2, hLj⟩ := hrel
    by_cases hR : 0 ≤ R
    · by_cases hlt : j < n
      · obtain ⟨p, hp⟩ : ∃ p, l[j]? = some p := ⟨_, List.getElem?_eq_getElem (by rw [HL2.out.1]; exact hlt)⟩
        have HCW : Hid (∀ W', Below w.heap.size w W' → p.ok ∧ ∃ ad, a = some ad ∧ C5 W' (ad.add (j * 5)) p) := Lib.hid (fun W' h => by
          obtain ⟨_, ad, hax, _, _⟩ := (HL2.out.below h).2 j p hp
          have := c5_of (hax ▸ HL2.out.below h) hp
          exact ⟨this.1, ad, hax, this.2⟩)
        have HD := Lib.hid (fun W' (h : Below wr.heap.size wr W') => hd.out.below h)
        have HW := Lib.hid (fun W' (h : Below wr.heap.size wr W') => show Below w.heap.size w W' by rw [HB.out]; exact (hd.out.below h).bel)
        obtain ⟨hok, ad, hax, c0, c1, c2, c3, c4⟩ := HCW.out wr (HW.out wr (Below.refl _ _))
        subst hax
        have HC : Hid (∀ W', Below wr.heap.size wr W' → C5 W' (ad.add (j * 5)) p) := Lib.hid (fun W' h => by
          obtain ⟨_, ad', hax, hc⟩ := HCW.out W' (HW.out W' h)
          cases hax
          exact hc)
        have hsz : (p.data.size : Int) ≤ 9223372036854775807 := by have := hok.2; unfold maxLen at this; omega
        have Hok := Lib.hid hok
        clear HCW hp hok
        go_wp2_with fail
        refine (room_any R p.data.size wr.heap.size _ hR (by omega) (by omega) hsz (by simp)).mono ?_
        rintro e w1 ⟨rfl, hw1⟩
        have b1 : Below wr.heap.size wr w1 := by rw [← hw1]; exact (Below.refl _ _).alloc (Nat.le_refl _) _
        clear hw1 c0 c1 c2 c3 c4
        obtain ⟨c0, c1, c2, c3, c4⟩ := HC.out w1 b1
        go_wp2_with fail
        refine (put_any p _ Hok.out).mono ?_
        rintro e w2 ⟨hres, b2⟩
        have b2' : Below wr.heap.size wr w2 := b1.trans (b2.mono b1.size)
        clear b1 b2 c0 c1 c2 c3 c4
        rcases hres with ⟨hm, rfl⟩ | ⟨hm, rfl⟩
        · obtain ⟨c0, c1, c2, c3, c4⟩ := HC.out w2 b2'
          obtain ⟨P, hP⟩ : ∃ P, txt (pput p.num.toNat p.kind.toNat p.val p.data) = P := ⟨_, rfl⟩
          rw [hP]
          have HP := Lib.hid hP
          have Hm := Lib.hid hm
          clear hP hm
          have hne := (HD.out w2 b2').fresh1
          have Hd2 := Lib.hid ((HD.out w2 b2').alloc (.cells #[.int .i64 p.num, .int .i64 p.kind, .int .i64 ((cat L).size : Int), .int .u64 p.val, .string p.data] 31))
          have HE := Lib.hid (ends_length L 0)
          have HPL := Lib.hid (places_length L 0)
          have hrm : rm R p.data.size = -1 ∨ rm R p.data.size = R - p.data.size ∧ 0 ≤ rm R p.data.size := by unfold rm; split <;> omega
          have hPsz : P.size ≤ 20 + p.data.size ∧ p.data.size ≤ 60000 ∧ 1 ≤ P.size := by
            have hm := Hm.out
            have h1 := pput_length p.num p.kind.toNat p.val p.data (by have := hm.2.2; rw [show ((p.kind.toNat : Nat) : Int) = p.kind from by omega]; exact hm) Hok.out.1
            rw [← txt_size, HP.out] at h1
            have h2 := hm.2.2
            omega
          obtain ⟨r, hr⟩ : ∃ r, rm R p.data.size = r := ⟨_, rfl⟩
          rw [hr] at hrm ⊢
          clear hr
          go_wp2_with (at_builtin; refine push_1 rfl (.tmp 71) (.tmp 74) rfl B w _ _ _ _ _ ((cat L).size + P.size) _ (by simp) rfl Hd2.out _ (by simp; try rfl) rfl (by rw [HE.out]; omega) ?_)
          intro v3 w3 hd3 b3 hk3
          have k3 := hk3 _ _ _ (Blk.new w2 31 #[.int .i64 p.num, .int .i64 p.kind, .int .i64 ((cat L).size : Int), .int .u64 p.val, .string p.data]) hne
          obtain ⟨f0, f1, f2, f3, f4⟩ := fcells k3
          have Hd3 := Lib.hid hd3
          have hbad : Hid (GoodB ((⟨p.num.toNat, p.kind.toNat, p.val, p.data⟩ : Fd), P)) := Lib.hid (by
            have hm := Hm.out
            refine ⟨fun t => ?_, hPsz.2.2⟩
            have := pget_put p.num p.kind.toNat p.val p.data t (by have := hm.2.2; rw [show ((p.kind.toNat : Nat) : Int) = p.kind from by omega]; exact hm) Hok.out.1
            rw [HP.out] at this
            rw [this]
            have h2 : (pput p.num.toNat p.kind.toNat p.val p.data).length = P.size := by rw [← txt_size, HP.out]
            rw [h2])
          have hcsE : Hid ((#[.int .i64 p.num, .int .i64 p.kind, .int .i64 ((cat L).size : Int), .int .u64 p.val, .string p.data] : Array Value).toList = fdC ((⟨p.num.toNat, p.kind.toNat, p.val, p.data⟩ : Fd), 0 + (cat L).size)) := Lib.hid (by
            have hm := Hm.out
            have h1 := hm.1
            have h2 := hm.2.2
            unfold fdC
            simp only
            rw [show ((p.num.toNat : Nat) : Int) = p.num from by omega, show ((p.kind.toNat : Nat) : Int) = p.kind from by omega, Nat.zero_add])
          clear hd3 b3 hk3 k3 Hd2 hne c0 c1 c2 c3 c4
          go_wp2_with (at_builtin; refine push_2 rfl (.tmp 76) (.tmp 78) rfl B w _ _ _ _ _ ((⟨p.num.toNat, p.kind.toNat, p.val, p.data⟩ : Fd), 0 + (cat L).size) _ hcsE.out rfl Hd3.out _ rfl rfl (by rw [HPL.out]; omega) ?_)
          intro v4 w4 hd4 b4 hk4
          have Hd4 : Hid (Duo B w w4 v3 v4 (ends 0 (L ++ [((⟨p.num.toNat, p.kind.toNat, p.val, p.data⟩ : Fd), P)])) (places 0 (L ++ [((⟨p.num.toNat, p.kind.toNat, p.val, p.data⟩ : Fd), P)]))) := Lib.hid (by rw [ends_snoc, places_snoc, Nat.zero_add]; first | exact hd4 | (rw [Nat.zero_add] at hd4; exact hd4))
          have hg2 : Hid (∀ q ∈ L ++ [((⟨p.num.toNat, p.kind.toNat, p.val, p.data⟩ : Fd), P)], GoodB q) := Lib.hid (fun q hq => by
            rcases List.mem_append.1 hq with hq | hq
            · exact hg.out q hq
            · rw [List.mem_singleton.1 hq]; exact hbad.out)
          have hcat : Hid (cat (L ++ [((⟨p.num.toNat, p.kind.toNat, p.val, p.data⟩ : Fd), P)]) = cat L ++ P) := Lib.hid (cat_snoc _ _)
          clear hd4 b4 hk4 f0 f1 f2 f3 f4 Hd3 hcsE hbad
          go_wp2
          go_roundw
          case rel => exact ⟨j + 1, r, L ++ [((⟨p.num.toNat, p.kind.toNat, p.val, p.data⟩ : Fd), P)], by go_num, by omega, rfl, by omega, by omega, by rw [hcat.out], hg2, Hd4, by rw [hcat.out, bsize_app]; omega, fun _ => by rw [hcat.out, bsize_app]; omega, by simp; omega⟩
          case measure => simp [intOf]; omega
        · have Hd2 := Lib.hid (HD.out w2 b2')
          have hrm : rm R p.data.size = -1 ∨ rm R p.data.size = R - p.data.size ∧ 0 ≤ rm R p.data.size := by unfold rm; split <;> omega
          obtain ⟨r, hr⟩ : ∃ r, rm R p.data.size = r := ⟨_, rfl⟩
          rw [hr] at hrm ⊢
          clear hr hm
          go_wp2
          go_roundw
          case rel => exact ⟨j + 1, r, L, by go_num, by omega, rfl, by omega, by omega, rfl, hg, Hd2, by omega, fun _ => by omega, by omega⟩
          case measure => simp [intOf]; omega
      · obtain ⟨wa, wc, hwv⟩ := own_slice hd.out.o2
        obtain ⟨ea, ec, hev⟩ := own_slice hd.out.o1
        subst hwv hev
        have hS : (cat L).size ≤ 6000 := by have := hs2 hR; omega
        have hL40 : L.length ≤ 40 := by omega
        have hpa := pall_cat L hg.out (by omega)
        have hbelow : Below w0.heap.size w0 wr := B1.out.trans (hd.out.bel.mono (by have := HB.out; have := B1.out.size; omega))
        have HF := Lib.hid (fun w => fields_ok (cat L) (by omega) (places 0 L) hpa w)
        have HW := Lib.hid (fholds_own hd.out.o2 rfl)
        have HE := Lib.hid (eholds_own hd.out.o1)
        have HB0 := Lib.hid hbelow
        have HG := Lib.hid hg.out
        have hpl := places_length L 0
        have hel := ends_length L 0
        rw [hpl, hel]
        obtain ⟨q, hq⟩ : ∃ q, L.length = q := ⟨_, rfl⟩
        obtain ⟨S, hSS⟩ : ∃ S, (cat L).size = S := ⟨_, rfl⟩
        have Hq := Lib.hid hq
        have HSS := Lib.hid hSS
        have hq40 : q ≤ 40 := by omega
        have hS6 : S ≤ 6000 := by omega
        have HPL : Hid ((places 0 L).length = q) := Lib.hid (by rw [hpl, hq])
        rw [hq]
        clear hpa hbelow hg hd hs1 hs2 hpl hel hS hSS hq hLj hL40
        go_wp2_with fail
        refine (HF.out _).mono ?_
        rintro e w2 ⟨xa, na, rfl, fa, b2⟩
        rw [HPL.out]
        have FA := Lib.hid (fa.below ((Below.refl _ _).alloc (Nat.le_refl _) (.cells #[.int .i64 0, .int .i64 0, .string ⟨#[]⟩] 39)))
        have FB := Lib.hid ((HW.out.below b2).below ((Below.refl _ _).alloc (Nat.le_refl _) (.cells #[.int .i64 0, .int .i64 0, .string ⟨#[]⟩] 39)))
        have EB := Lib.hid (fun W (h : Below w2.heap.size w2 W) => (HE.out.below b2).below h)
        have FB2 := Lib.hid (fun W (h : Below w2.heap.size w2 W) => (HW.out.below b2).below h)
        have HB2 := Lib.hid (fun W (h : Below w2.heap.size w2 W) => HB0.out.trans ((b2.trans (h.mono b2.size)).mono HB0.out.size))
        have HS := Lib.hid (fun a b c d w ha hb => by
          have := same_fds a b c d (places 0 L) w (by rw [HPL.out]; omega) ha hb
          rw [HPL.out] at this
          exact this)
        clear fa b2 HW HE
        go_wp2_with fail
        refine (HS.out _ _ _ _ _ FA.out FB.out).mono ?_
        rintro e w3 ⟨rfl, b3⟩
        have b3' : Below w2.heap.size w2 w3 := ((Below.refl _ _).alloc (Nat.le_refl _) _).trans (b3.mono (by simp))
        clear b3
        by_cases hcs : cut ≤ (cat L).size
        · obtain ⟨k, rfl⟩ : ∃ k : Nat, cut = (k : Int) := ⟨cut.toNat, by omega⟩
          have hKS : k ≤ S := by have := HSS.out; omega
          go_wp2_with fail
          go_loop [16] (fun m => ∃ t : Nat, m = .int .i64 (t : Int) ∧ t ≤ q ∧ Hid ((cat (L.take t)).size ≤ k)) (fun m => q - (intOf m).toNat)
          case atStart => exact ⟨0, rfl, by omega, Lib.hid (Nat.zero_le _)⟩
          case round =>
            obtain ⟨t, rfl, htq, hA1⟩ := hrel
            have HT0 : Hid (t = 0 → (cat (L.take t)).size = 0) := Lib.hid (fun h => by rw [h]; rfl)
            have HTE : Hid (∀ u, t = u + 1 → (ends 0 L)[u]? = some (cat (L.take t)).size) := Lib.hid (fun u h => by have := ends_get L 0 u (by rw [Hq.out]; omega); rw [Nat.zero_add] at this; rw [h]; exact this)
            by_cases htl : t < q
            · have hee := ends_get L 0 t (by rw [Hq.out]; exact htl)
              rw [Nat.zero_add] at hee
              obtain ⟨X, hX⟩ : ∃ X, (cat (L.take (t + 1))).size = X := ⟨_, rfl⟩
              rw [hX] at hee
              obtain ⟨g, hea, hgl, hgc⟩ := EB.out w3 b3' t X hee
              clear hee
              by_cases hXK : X ≤ k
              · have hA2 : Hid ((cat (L.take (t + 1))).size ≤ k) := Lib.hid (by rw [hX]; exact hXK)
                clear hX HT0 HTE
                subst hea
                go_wp2
                go_round
                case rel => exact ⟨t + 1, by go_num, by omega, hA2⟩
                case measure => simp [intOf]; omega
              · have HCUT : Hid (pall ((cat L).extract 0 k) = (places 0 (L.take t)).map Pt.pair ++ if (cat (L.take t)).size = k then [] else [.bad 9 (cat (L.take t)).size]) := Lib.hid (pall_cut L HG.out (by rw [HSS.out]; omega) k t (by rw [HSS.out]; omega) (by rw [Hq.out]; omega) hA1.out (fun _ => by rw [hX]; omega))
                clear hX
                by_cases hA : (cat (L.take t)).size = k
                · have HT1 : Hid (∀ u, t = u + 1 → (ends 0 L)[u]? = some k) := Lib.hid (fun u h => by rw [← hA]; exact HTE.out u h)
                  have HT0' : Hid (t = 0 → k = 0) := Lib.hid (fun h => by have := HT0.out h; omega)
                  clear HT0 HTE
                  have HT0 := HT0'
                  clear HT0' hA1
                  subst hea
                  have HP2 := Lib.hid (fun w => fields_ok ((cat L).extract 0 k) (by simp; omega) (places 0 (L.take t)) (by rw [HCUT.out, if_pos hA, List.append_nil]) w)
                  clear hA
                  by_cases ht : t = 0
                  · have hK0 : (((k : Nat) : Int) == 0) = true := by have := HT0.out ht; simp; omega
                    obtain rfl := ht
                    clear HT0 HT1 HCUT
                    go_wp2_with fail
                    refine (HP2.out _).mono ?_
                    rintro e w4 ⟨xb, nb, rfl, _, b4⟩
                    have hfin := Lib.hid ((HB2.out _ (b3'.trans (b4.mono b3'.size))).alloc (HB2.out _ (b3'.trans (b4.mono b3'.size))).size (.cells #[.int .i64 0, .int .i64 0, .string ⟨#[]⟩] 39))
                    clear b4
                    go_wp2_with fail
                    go_quiet (fail)
                    go_wp2
                    go_ret
                    exact ⟨rfl, below_drewN hfin.out _⟩
                  · obtain ⟨u, rfl⟩ : ∃ u, t = u + 1 := ⟨t - 1, by omega⟩
                    have hee := HT1.out u rfl
                    clear HT0 HT1 HCUT
                    go_wp2_with fail
                    refine (HP2.out _).mono ?_
                    rintro e w4 ⟨xb, nb, rfl, _, b4⟩
                    have hb4 := b3'.trans (b4.mono b3'.size)
                    obtain ⟨g, hea, hgl, hgc⟩ := EB.out _ (hb4.alloc hb4.size (.cells #[.int .i64 0, .int .i64 0, .string ⟨#[]⟩] 39)) u k hee
                    cases hea
                    have hfin := Lib.hid ((HB2.out _ hb4).alloc (HB2.out _ hb4).size (.cells #[.int .i64 0, .int .i64 0, .string ⟨#[]⟩] 39))
                    clear b4 hb4 hee
                    go_wp2_with fail
                    go_quiet (fail)
                    go_wp2
                    go_ret
                    exact ⟨rfl, below_drewN hfin.out _⟩
                · obtain ⟨A, hAe⟩ : ∃ A, (cat (L.take t)).size = A := ⟨_, rfl⟩
                  have HP2 := Lib.hid (fun w => fields_bad ((cat L).extract 0 k) (by simp; omega) (places 0 (L.take t)) 9 A 10 (A : Int) (by rw [HCUT.out, if_neg hA, hAe]) rfl rfl w)
                  have hAK : A < k := by have := hA1.out; omega
                  obtain ⟨p, hp⟩ : ∃ p, L[t]? = some p := ⟨_, List.getElem?_eq_getElem (by rw [Hq.out]; exact htl)⟩
                  have hpg := places_get L 0 t p hp
                  rw [hAe, Nat.zero_add] at hpg
                  have HPG := Lib.hid hpg
                  have HT1 : Hid (∀ u, t = u + 1 → (ends 0 L)[u]? = some A) := Lib.hid (fun u h => by rw [← hAe]; exact HTE.out u h)
                  have hK0 : (((k : Nat) : Int) == 0) = false := by simp; omega
                  have hAKf : (((A : Nat) : Int) == ((k : Nat) : Int)) = false := by simp; omega
                  clear hA hAe hp hpg HCUT HTE HT0 hA1
                  cases hea
                  by_cases ht : t = 0
                  · obtain rfl := ht
                    go_wp2_with fail
                    refine (HP2.out _).mono ?_
                    rintro e w4 ⟨rfl, b4⟩
                    have hb4 := b3'.trans (b4.mono b3'.size)
                    obtain ⟨g2, hwa, hgl2, hgc2⟩ := FB2.out _ (hb4.alloc hb4.size (.cells #[.int .i64 10, .int .i64 A, .string ⟨#[]⟩] 39)) 0 _ HPG.out
                    cases hwa
                    have m2 := hgc2 2 _ rfl
                    have hfin := Lib.hid ((HB2.out _ hb4).alloc (HB2.out _ hb4).size (.cells #[.int .i64 10, .int .i64 A, .string ⟨#[]⟩] 39))
                    clear b4 hb4 hgc2
                    go_wp2_with fail
                    go_quiet (fail)
                    go_wp2
                    go_ret
                    exact ⟨rfl, below_drewN hfin.out _⟩
                  · obtain ⟨u, rfl⟩ : ∃ u, t = u + 1 := ⟨t - 1, by omega⟩
                    have hee := HT1.out u rfl
                    go_wp2_with fail
                    refine (HP2.out _).mono ?_
                    rintro e w4 ⟨rfl, b4⟩
                    have hb4 := b3'.trans (b4.mono b3'.size)
                    obtain ⟨g2, hwa, hgl2, hgc2⟩ := FB2.out _ (hb4.alloc hb4.size (.cells #[.int .i64 10, .int .i64 A, .string ⟨#[]⟩] 39)) (u + 1) _ HPG.out
                    cases hwa
                    have m2 := hgc2 2 _ rfl
                    obtain ⟨g', hea, hgl', hgc'⟩ := EB.out _ (hb4.alloc hb4.size (.cells #[.int .i64 10, .int .i64 A, .string ⟨#[]⟩] 39)) u A hee
                    cases hea
                    have hfin := Lib.hid ((HB2.out _ hb4).alloc (HB2.out _ hb4).size (.cells #[.int .i64 10, .int .i64 A, .string ⟨#[]⟩] 39))
                    clear b4 hb4 hgc2 hee ht
                    go_wp2_with fail
                    go_quiet (fail)
                    go_wp2
                    go_ret
                    exact ⟨rfl, below_drewN hfin.out _⟩
            · have HCUT : Hid (pall ((cat L).extract 0 k) = (places 0 (L.take t)).map Pt.pair ++ if (cat (L.take t)).size = k then [] else [.bad 9 (cat (L.take t)).size]) := Lib.hid (pall_cut L HG.out (by rw [HSS.out]; omega) k t (by rw [HSS.out]; omega) (by rw [Hq.out]; omega) hA1.out (fun h => by rw [Hq.out] at h; omega))
              have hA : (cat (L.take t)).size = k := by
                have h1 := hA1.out
                have h2 : L.take t = L := List.take_of_length_le (by rw [Hq.out]; omega)
                have h3 := HSS.out
                rw [h2] at h1 ⊢
                omega
              have HT1 : Hid (∀ u, t = u + 1 → (ends 0 L)[u]? = some k) := Lib.hid (fun u h => by rw [← hA]; exact HTE.out u h)
              have HT0' : Hid (t = 0 → k = 0) := Lib.hid (fun h => by have := HT0.out h; omega)
              clear HT0 HTE
              have HT0 := HT0'
              clear HT0' hA1
              have HP2 := Lib.hid (fun w => fields_ok ((cat L).extract 0 k) (by simp; omega) (places 0 (L.take t)) (by rw [HCUT.out, if_pos hA, List.append_nil]) w)
              clear hA
              by_cases ht : t = 0
              · have hK0 : (((k : Nat) : Int) == 0) = true := by have := HT0.out ht; simp; omega
                obtain rfl := ht
                clear HT0 HT1 HCUT
                go_wp2_with fail
                refine (HP2.out _).mono ?_
                rintro e w4 ⟨xb, nb, rfl, _, b4⟩
                have hfin := Lib.hid ((HB2.out _ (b3'.trans (b4.mono b3'.size))).alloc (HB2.out _ (b3'.trans (b4.mono b3'.size))).size (.cells #[.int .i64 0, .int .i64 0, .string ⟨#[]⟩] 39))
                clear b4
                go_wp2_with fail
                go_quiet (fail)
                go_wp2
                go_ret
                exact ⟨rfl, below_drewN hfin.out _⟩
              · obtain ⟨u, rfl⟩ : ∃ u, t = u + 1 := ⟨t - 1, by omega⟩
                have hee := HT1.out u rfl
                clear HT0 HT1 HCUT
                go_wp2_with fail
                refine (HP2.out _).mono ?_
                rintro e w4 ⟨xb, nb, rfl, _, b4⟩
                have hb4 := b3'.trans (b4.mono b3'.size)
                obtain ⟨g, hea, hgl, hgc⟩ := EB.out _ (hb4.alloc hb4.size (.cells #[.int .i64 0, .int .i64 0, .string ⟨#[]⟩] 39)) u k hee
                cases hea
                have hfin := Lib.hid ((HB2.out _ hb4).alloc (HB2.out _ hb4).size (.cells #[.int .i64 0, .int .i64 0, .string ⟨#[]⟩] 39))
                clear b4 hb4 hee
                go_wp2_with fail
                go_quiet (fail)
                go_wp2
                go_ret
                exact ⟨rfl, below_drewN hfin.out _⟩
        · have hSS := HSS.out
          have hcs' : (S : Int) < cut := by omega
          clear hcs
          have hKS : S ≤ S := by have := HSS.out; omega
          go_wp2_with fail
          clear hSS
          have hcsS : (S : Int) ≤ ((cat L).size : Int) := by have := HSS.out; omega
          go_loop [16] (fun m => ∃ t : Nat, m = .int .i64 (t : Int) ∧ t ≤ q ∧ Hid ((cat (L.take t)).size ≤ S)) (fun m => q - (intOf m).toNat)
          case atStart => exact ⟨0, rfl, by omega, Lib.hid (Nat.zero_le _)⟩
          case round =>
            obtain ⟨t, rfl, htq, hA1⟩ := hrel
            have HT0 : Hid (t = 0 → (cat (L.take t)).size = 0) := Lib.hid (fun h => by rw [h]; rfl)
            have HTE : Hid (∀ u, t = u + 1 → (ends 0 L)[u]? = some (cat (L.take t)).size) := Lib.hid (fun u h => by have := ends_get L 0 u (by rw [Hq.out]; omega); rw [Nat.zero_add] at this; rw [h]; exact this)
            by_cases htl : t < q
            · have hee := ends_get L 0 t (by rw [Hq.out]; exact htl)
              rw [Nat.zero_add] at hee
              obtain ⟨X, hX⟩ : ∃ X, (cat (L.take (t + 1))).size = X := ⟨_, rfl⟩
              rw [hX] at hee
              obtain ⟨g, hea, hgl, hgc⟩ := EB.out w3 b3' t X hee
              clear hee
              by_cases hXK : X ≤ S
              · have hA2 : Hid ((cat (L.take (t + 1))).size ≤ S) := Lib.hid (by rw [hX]; exact hXK)
                clear hX HT0 HTE
                subst hea
                go_wp2
                go_round
                case rel => exact ⟨t + 1, by go_num, by omega, hA2⟩
                case measure => simp [intOf]; omega
              · have HCUT : Hid (pall ((cat L).extract 0 S) = (places 0 (L.take t)).map Pt.pair ++ if (cat (L.take t)).size = S then [] else [.bad 9 (cat (L.take t)).size]) := Lib.hid (pall_cut L HG.out (by rw [HSS.out]; omega) S t (by rw [HSS.out]; omega) (by rw [Hq.out]; omega) hA1.out (fun _ => by rw [hX]; omega))
                clear hX
                by_cases hA : (cat (L.take t)).size = S
                · have HT1 : Hid (∀ u, t = u + 1 → (ends 0 L)[u]? = some S) := Lib.hid (fun u h => by rw [← hA]; exact HTE.out u h)
                  have HT0' : Hid (t = 0 → S = 0) := Lib.hid (fun h => by have := HT0.out h; omega)
                  clear HT0 HTE
                  have HT0 := HT0'
                  clear HT0' hA1
                  subst hea
                  have HP2 := Lib.hid (fun w => fields_ok ((cat L).extract 0 S) (by simp; omega) (places 0 (L.take t)) (by rw [HCUT.out, if_pos hA, List.append_nil]) w)
                  clear hA
                  by_cases ht : t = 0
                  · have hK0 : (((S : Nat) : Int) == 0) = true := by have := HT0.out ht; simp; omega
                    obtain rfl := ht
                    clear HT0 HT1 HCUT
                    go_wp2_with fail
                    refine (HP2.out _).mono ?_
                    rintro e w4 ⟨xb, nb, rfl, _, b4⟩
                    have hfin := Lib.hid ((HB2.out _ (b3'.trans (b4.mono b3'.size))).alloc (HB2.out _ (b3'.trans (b4.mono b3'.size))).size (.cells #[.int .i64 0, .int .i64 0, .string ⟨#[]⟩] 39))
                    clear b4
                    go_wp2_with fail
                    go_quiet (fail)
                    go_wp2
                    go_ret
                    exact ⟨rfl, below_drewN hfin.out _⟩
                  · obtain ⟨u, rfl⟩ : ∃ u, t = u + 1 := ⟨t - 1, by omega⟩
                    have hee := HT1.out u rfl
                    clear HT0 HT1 HCUT
                    go_wp2_with fail
                    refine (HP2.out _).mono ?_
                    rintro e w4 ⟨xb, nb, rfl, _, b4⟩
                    have hb4 := b3'.trans (b4.mono b3'.size)
                    obtain ⟨g, hea, hgl, hgc⟩ := EB.out _ (hb4.alloc hb4.size (.cells #[.int .i64 0, .int .i64 0, .string ⟨#[]⟩] 39)) u S hee
                    cases hea
                    have hfin := Lib.hid ((HB2.out _ hb4).alloc (HB2.out _ hb4).size (.cells #[.int .i64 0, .int .i64 0, .string ⟨#[]⟩] 39))
                    clear b4 hb4 hee
                    go_wp2_with fail
                    go_quiet (fail)
                    go_wp2
                    go_ret
                    exact ⟨rfl, below_drewN hfin.out _⟩
                · obtain ⟨A, hAe⟩ : ∃ A, (cat (L.take t)).size = A := ⟨_, rfl⟩
                  have HP2 := Lib.hid (fun w => fields_bad ((cat L).extract 0 S) (by simp; omega) (places 0 (L.take t)) 9 A 10 (A : Int) (by rw [HCUT.out, if_neg hA, hAe]) rfl rfl w)
                  have hAK : A < S := by have := hA1.out; omega
                  obtain ⟨p, hp⟩ : ∃ p, L[t]? = some p := ⟨_, List.getElem?_eq_getElem (by rw [Hq.out]; exact htl)⟩
                  have hpg := places_get L 0 t p hp
                  rw [hAe, Nat.zero_add] at hpg
                  have HPG := Lib.hid hpg
                  have HT1 : Hid (∀ u, t = u + 1 → (ends 0 L)[u]? = some A) := Lib.hid (fun u h => by rw [← hAe]; exact HTE.out u h)
                  have hK0 : (((S : Nat) : Int) == 0) = false := by simp; omega
                  have hAKf : (((A : Nat) : Int) == ((S : Nat) : Int)) = false := by simp; omega
                  clear hA hAe hp hpg HCUT HTE HT0 hA1
                  cases hea
                  by_cases ht : t = 0
                  · obtain rfl := ht
                    go_wp2_with fail
                    refine (HP2.out _).mono ?_
                    rintro e w4 ⟨rfl, b4⟩
                    have hb4 := b3'.trans (b4.mono b3'.size)
                    obtain ⟨g2, hwa, hgl2, hgc2⟩ := FB2.out _ (hb4.alloc hb4.size (.cells #[.int .i64 10, .int .i64 A, .string ⟨#[]⟩] 39)) 0 _ HPG.out
                    cases hwa
                    have m2 := hgc2 2 _ rfl
                    have hfin := Lib.hid ((HB2.out _ hb4).alloc (HB2.out _ hb4).size (.cells #[.int .i64 10, .int .i64 A, .string ⟨#[]⟩] 39))
                    clear b4 hb4 hgc2
                    go_wp2_with fail
                    go_quiet (fail)
                    go_wp2
                    go_ret
                    exact ⟨rfl, below_drewN hfin.out _⟩
                  · obtain ⟨u, rfl⟩ : ∃ u, t = u + 1 := ⟨t - 1, by omega⟩
                    have hee := HT1.out u rfl
                    go_wp2_with fail
                    refine (HP2.out _).mono ?_
                    rintro e w4 ⟨rfl, b4⟩
                    have hb4 := b3'.trans (b4.mono b3'.size)
                    obtain ⟨g2, hwa, hgl2, hgc2⟩ := FB2.out _ (hb4.alloc hb4.size (.cells #[.int .i64 10, .int .i64 A, .string ⟨#[]⟩] 39)) (u + 1) _ HPG.out
                    cases hwa
                    have m2 := hgc2 2 _ rfl
                    obtain ⟨g', hea, hgl', hgc'⟩ := EB.out _ (hb4.alloc hb4.size (.cells #[.int .i64 10, .int .i64 A, .string ⟨#[]⟩] 39)) u A hee
                    cases hea
                    have hfin := Lib.hid ((HB2.out _ hb4).alloc (HB2.out _ hb4).size (.cells #[.int .i64 10, .int .i64 A, .string ⟨#[]⟩] 39))
                    clear b4 hb4 hgc2 hee ht
                    go_wp2_with fail
                    go_quiet (fail)
                    go_wp2
                    go_ret
                    exact ⟨rfl, below_drewN hfin.out _⟩
            · have HCUT : Hid (pall ((cat L).extract 0 S) = (places 0 (L.take t)).map Pt.pair ++ if (cat (L.take t)).size = S then [] else [.bad 9 (cat (L.take t)).size]) := Lib.hid (pall_cut L HG.out (by rw [HSS.out]; omega) S t (by rw [HSS.out]; omega) (by rw [Hq.out]; omega) hA1.out (fun h => by rw [Hq.out] at h; omega))
              have hA : (cat (L.take t)).size = S := by
                have h1 := hA1.out
                have h2 : L.take t = L := List.take_of_length_le (by rw [Hq.out]; omega)
                have h3 := HSS.out
                rw [h2] at h1 ⊢
                omega
              have HT1 : Hid (∀ u, t = u + 1 → (ends 0 L)[u]? = some S) := Lib.hid (fun u h => by rw [← hA]; exact HTE.out u h)
              have HT0' : Hid (t = 0 → S = 0) := Lib.hid (fun h => by have := HT0.out h; omega)
              clear HT0 HTE
              have HT0 := HT0'
              clear HT0' hA1
              have HP2 := Lib.hid (fun w => fields_ok ((cat L).extract 0 S) (by simp; omega) (places 0 (L.take t)) (by rw [HCUT.out, if_pos hA, List.append_nil]) w)
              clear hA
              by_cases ht : t = 0
              · have hK0 : (((S : Nat) : Int) == 0) = true := by have := HT0.out ht; simp; omega
                obtain rfl := ht
                clear HT0 HT1 HCUT
                go_wp2_with fail
                refine (HP2.out _).mono ?_
                rintro e w4 ⟨xb, nb, rfl, _, b4⟩
                have hfin := Lib.hid ((HB2.out _ (b3'.trans (b4.mono b3'.size))).alloc (HB2.out _ (b3'.trans (b4.mono b3'.size))).size (.cells #[.int .i64 0, .int .i64 0, .string ⟨#[]⟩] 39))
                clear b4
                go_wp2_with fail
                go_quiet (fail)
                go_wp2
                go_ret
                exact ⟨rfl, below_drewN hfin.out _⟩
              · obtain ⟨u, rfl⟩ : ∃ u, t = u + 1 := ⟨t - 1, by omega⟩
                have hee := HT1.out u rfl
                clear HT0 HT1 HCUT
                go_wp2_with fail
                refine (HP2.out _).mono ?_
                rintro e w4 ⟨xb, nb, rfl, _, b4⟩
                have hb4 := b3'.trans (b4.mono b3'.size)
                obtain ⟨g, hea, hgl, hgc⟩ := EB.out _ (hb4.alloc hb4.size (.cells #[.int .i64 0, .int .i64 0, .string ⟨#[]⟩] 39)) u S hee
                cases hea
                have hfin := Lib.hid ((HB2.out _ hb4).alloc (HB2.out _ hb4).size (.cells #[.int .i64 0, .int .i64 0, .string ⟨#[]⟩] 39))
                clear b4 hb4 hee
                go_wp2_with fail
                go_quiet (fail)
                go_wp2
                go_ret
                exact ⟨rfl, below_drewN hfin.out _⟩
    · have hR' : R < 0 := by omega
      have hfin : Hid (Below w0.heap.size w0 wr) := Lib.hid (B1.out.trans (hd.out.bel.mono (by have := HB.out; have := B1.out.size; omega)))
      by_cases hlt : j < n
      · go_wp2
        go_ret
        exact ⟨rfl, hfin.out⟩
      · go_wp2
        go_ret
        exact ⟨rfl, hfin.out⟩
end Go.Proofs.Ytkaoacoahlbcoaa
