/-
  The walk of MsgWithin: for every number and row of ints it returns true, and leaves what lay in memory as it was.
-/
import Derived.Test.YtbkcklefkhlciaaAlive11
import Derived.Test.YtbkcklefkhlciaaMops2
import Derived.Test.YtbkcklefkhlciaaMlastR
namespace Go.Proofs.Ytbkcklefkhlciaa
open Go.RowKit
set_option linter.unusedVariables false
/-- What is known of the slice that came in: it is nil, or it leads to a row of cap cells, the numbers zs. -/
def msgWithin.IsRow (k : IntKind) (w : World) (a : Option Addr) (len cap : Nat) (zs : List Int) : Prop :=
  (a = none ∧ len = 0 ∧ cap = 0 ∧ zs = []) ∨
  ∃ x, a = some x ∧ len ≤ cap ∧ cap ≤ maxLen ∧ zs.length = cap ∧ (∀ i, i < zs.length → w.cell? (x.add i) = some (.int k (zs.getD i 0))) ∧ ∀ n ∈ zs, (Lit.int k n).wf = true
theorem isRow_ir {w : World} {a : Option Addr} {len cap : Nat} {z : List Int} (h : msgWithin.IsRow .i64 w a len cap z) : ∃ zs : List Int, zs.length = len ∧ IR w a zs ∧ ∀ z ∈ zs, InR z := by
  rcases h with ⟨rfl, rfl, _, _⟩ | ⟨x, rfl, hl, _, hz, hc, hw⟩
  · exact ⟨[], rfl, fun i hi => by simp at hi, fun z hz => by simp at hz⟩
  · refine ⟨z.take len, by simp; omega, fun i hi => ?_, fun y hy => wf_i64 (hw y (List.mem_of_mem_take hy))⟩
    have hi' : i < z.length ∧ i < len := by simp at hi; omega
    have hci := hc i hi'.1
    have hb : (x.add i).block = x.block := by unfold Addr.add; split <;> rfl
    refine ⟨x, rfl, by rw [← hb]; exact World.block_lt_of_cell? w _ hci, ?_⟩
    rw [hci, List.getD_eq_getElem?_getD, List.getD_eq_getElem?_getD, List.getElem?_take, if_pos hi'.2]
def ps1 (zs : List Int) : List (Fd × ByteArray) := if zs.length = 0 then [] else [tF 9 (ibs zs)]
theorem ps1_good (zs : List Int) (h : zs.length ≤ 60) : ∀ p ∈ ps1 zs, GoodB p ∧ PutHid p.1 p.2 := by
  intro p hp
  have hd : (ibs zs).size ≤ 60000 := by have := ibs_size zs; omega
  unfold ps1 at hp
  split at hp
  · simp at hp
  · rw [List.mem_singleton] at hp; subst hp
    exact ⟨good_t 9 _ (by omega) (by omega) hd, puthid_t 9 _ (by omega) (by omega) hd⟩
theorem ps1_size (zs : List Int) (h : zs.length ≤ 60) : (cat (ps1 zs)).size ≤ 620 ∧ (ps1 zs).length ≤ 1 := by
  have hd := ibs_size zs
  unfold ps1
  split
  · exact ⟨by simp [cat]; decide, by simp⟩
  · have := size_t 9 (ibs zs) (by omega) (by omega) (by omega)
    exact ⟨by rw [cat_one]; omega, by simp⟩
/-- What Ints tells of the inner message. -/
theorem ps1_ints (zs : List Int) (h : zs.length ≤ 60) (hr : ∀ z ∈ zs, InR z) : ∃ xs : List IA, xs.map iraw = mtell 9 [0, 2] 0 (places 0 (ps1 zs)) ∧ ivals xs = zs := by
  unfold ps1
  by_cases h0 : zs.length = 0
  · rw [if_pos h0]
    exact ⟨[], rfl, (List.length_eq_zero_iff.1 h0).symm⟩
  · rw [if_neg h0]
    exact ⟨[⟨((0, (tF 9 (ibs zs)).1, 0), zs), rfl, rfl, hr, by show zs.length ≤ 6000; omega⟩], by simp [places, mtell, iraw, tF], by simp [ivals]⟩
def ps2 (num : Nat) (s : ByteArray) : List (Fd × ByteArray) := [uF (num + 1) 7, tF num s]
theorem ps2_good (num : Nat) (s : ByteArray) (h1 : 1 ≤ num) (h2 : num ≤ 1000) (hs : s.size ≤ 620) : ∀ p ∈ ps2 num s, GoodB p ∧ PutHid p.1 p.2 := by
  intro p hp
  unfold ps2 at hp
  simp only [List.mem_cons, List.not_mem_nil, or_false] at hp
  rcases hp with rfl | rfl
  · exact ⟨good_u _ _ (by omega) (by omega) (by omega), puthid_u _ _ (by omega) (by omega) (by omega)⟩
  · exact ⟨good_t _ _ (by omega) (by omega) (by omega), puthid_t _ _ (by omega) (by omega) (by omega)⟩
theorem ps2_size (num : Nat) (s : ByteArray) (h1 : 1 ≤ num) (h2 : num ≤ 1000) (hs : s.size ≤ 620) : (cat (ps2 num s)).size ≤ 1000 ∧ s.size ≤ (cat (ps2 num s)).size ∧ (uF (num + 1) 7).2.size ≤ 20 := by
  have a1 := size_u (num + 1) 7 (by omega) (by omega) (by omega)
  have a2 := size_t num s (by omega) (by omega) (by omega)
  have a3 : s.size ≤ (tF num s).2.size := by
    unfold tF; rw [txt_size]; unfold pput pbd
    rw [if_neg (by omega), if_pos rfl]
    simp only [List.length_append, dn_length]
    omega
  unfold ps2
  simp only [cat, bsize_app, bapp_nil]
  omega
theorem ps2_tell (num : Nat) (s : ByteArray) : mtell (num : Int) [2] 0 (places 0 (ps2 num s)) = [(1, (tF num s).1, 0 + (uF (num + 1) 7).2.size)] := by
  unfold ps2
  simp only [places, mtell]
  rw [if_neg (by simp only [uF]; intro h; have := h.1; omega), if_pos ⟨by simp only [tF], by simp only [tF]; decide⟩]
theorem ps2_ends (num : Nat) (s : ByteArray) : (ends 0 (ps2 num s)).getD 1 0 = (cat (ps2 num s)).size ∧ (ends 0 (ps2 num s)).length = 2 := by
  unfold ps2
  simp only [ends, cat, bsize_app, bapp_nil]
  exact ⟨by simp, rfl⟩
theorem below_dn {B : Nat} {a w : World} (h : Below B a w) (n : Nat) : Below B a (w.drewN n) := ⟨h.os, h.tape, h.output, h.size, h.block⟩
theorem new_at (w : World) (m : Nat) (h : w.heap.size = m) : Calls Try.prog 9 #[] w fun e w' => e = .returned (.pointer (some ⟨m, 0, none⟩)) ∧ MsgP m m w' [] 0 ∧ Below m w w' := by subst h; exact new_any w
set_option maxRecDepth 100000 in
set_option maxHeartbeats 4000000 in
theorem msgWithin.walk (a0 : Int) (a1 : Option Addr) (len1 cap1 : Nat) (z1 : List Int) (w : World) (w0 : (Lit.int .i64 a0).wf = true) (w1 : msgWithin.IsRow .i64 w a1 len1 cap1 z1) :
    Calls Try.prog 6 #[.int .i64 a0, .slice a1 len1 cap1] w fun e w' => e = .returned (.bool true) ∧ Below w.heap.size w w' := by
  obtain ⟨zs, rfl, hir, hr⟩ := isRow_ir w1
  have b0 := wf_i64 w0
  clear w0 w1
  have HA := Lib.hid (fun w => alive_any w)
  by_cases h1 : a0 < 1
  · go_enter Try.func6, Try.ntmps6
    clear hir hr
    go_wp2_with fail
    refine (HA.out _).mono ?_
    rintro e w1 ⟨rfl, hb⟩
    have Hb := Lib.hid hb
    clear hb
    go_wp2
    go_ret
    exact ⟨rfl, Hb.out⟩
  by_cases h2 : 1000 < a0
  · go_enter Try.func6, Try.ntmps6
    clear hir hr
    go_wp2_with fail
    refine (HA.out _).mono ?_
    rintro e w1 ⟨rfl, hb⟩
    have Hb := Lib.hid hb
    clear hb
    go_wp2
    go_ret
    exact ⟨rfl, Hb.out⟩
  by_cases h3 : 60 < zs.length
  · have h3i : (60 : Int) < (zs.length : Int) := by omega
    go_enter Try.func6, Try.ntmps6
    clear hir hr
    go_wp2_with fail
    refine (HA.out _).mono ?_
    rintro e w1 ⟨rfl, hb⟩
    have Hb := Lib.hid hb
    clear hb
    go_wp2
    go_ret
    exact ⟨rfl, Hb.out⟩
  have h3i : ¬ (60 : Int) < (zs.length : Int) := by omega
  obtain ⟨n0, hn0⟩ : ∃ n0 : Nat, a0 = (n0 : Int) := ⟨a0.toNat, by omega⟩
  have hz60 : zs.length ≤ 60 := by omega
  have hn1 : 1 ≤ n0 := by omega
  have hn2 : n0 ≤ 1000 := by omega
  have hs1 := ps1_size zs hz60
  have hs2 := ps2_size n0 (cat (ps1 zs)) hn1 hn2 hs1.1
  have hg2 := ps2_good n0 (cat (ps1 zs)) hn1 hn2 hs1.1
  have HPI : Hid (∀ w1 m, MsgP m m w1 [] 0 → m ≤ w1.heap.size → IR w1 a1 zs → Calls Try.prog 15 #[.pointer (some ⟨m, 0, none⟩), .int .i64 9, .slice a1 zs.length cap1] w1 (PutMs m m (ps1 zs) w1)) := Lib.hid (fun w1 m h1 h2 h3 => by
    unfold ps1
    by_cases h0 : zs.length = 0
    · rw [if_pos h0, h0]; exact putints_none m m [] 9 a1 cap1 w1 h1
    · rw [if_neg h0]; exact putints_some m m [] 9 zs a1 cap1 w1 h2 h1 small_nil (by omega) (by omega) (by omega) (by omega) h3)
  have HB1 : Hid (∀ w1 m, MsgP m m w1 (ps1 zs) 0 → Calls Try.prog 23 #[.pointer (some ⟨m, 0, none⟩)] w1 (BytesIs (cat (ps1 zs)) w1)) := Lib.hid (fun w1 m h => bytes_any m m _ w1 h (fun p hp => (ps1_good zs hz60 p hp).2) (by omega) (by omega))
  have HPb : Hid (∀ w1, Calls Try.prog 33 #[.string (cat (ps1 zs))] w1 (ParseIs (ps1 zs) w1)) := Lib.hid (fun w1 => parse_any _ _ (by omega) rfl (fun p hp => (ps1_good zs hz60 p hp).1) w1)
  have HIn : Hid (∀ m k w1, MsgP k m w1 (ps1 zs) 0 → Calls Try.prog 28 #[.pointer (some ⟨m, 0, none⟩), .int .i64 9] w1 (IntsIs zs w1)) := Lib.hid (fun m k w1 h => by
    obtain ⟨xs, hx1, hx2⟩ := ps1_ints zs hz60 hr
    have := ints_any k m _ _ 9 xs (by rw [places_length]; omega) hx1 (by rw [hx2]; omega) w1 h
    rw [hx2] at this
    exact this)
  have HU : Hid (∀ w1 m, MsgP m m w1 [] 0 → m ≤ w1.heap.size → Calls Try.prog 10 #[.pointer (some ⟨m, 0, none⟩), .int .i64 (a0 + 1), .int .u64 7] w1 (PutMs m m [uF (n0 + 1) 7] w1)) := Lib.hid (fun w1 m h1 h2 => by
    have := putuint_any m m [] (n0 + 1) 7 w1 h2 h1 small_nil (by omega) (by omega) (by omega)
    have e : a0 + 1 = ((n0 + 1 : Nat) : Int) := by omega
    rw [e]; exact this)
  have HT : Hid (∀ w1 m g, MsgP m m w1 [uF (n0 + 1) 7] 0 → m ≤ w1.heap.size → w1.cell? ⟨g, 0, none⟩ = some (.string (cat (ps1 zs))) → Calls Try.prog 12 #[.pointer (some ⟨m, 0, none⟩), .int .i64 a0, .slice (some ⟨g, 0, none⟩) 1 1] w1 (PutMs m m (ps2 n0 (cat (ps1 zs))) w1)) := Lib.hid (fun w1 m g h1 h2 h3 => by
    rw [hn0]
    exact puttext_one m m [uF (n0 + 1) 7] n0 g _ w1 h2 h1 ⟨by simp, by rw [cat_one]; omega⟩ (by omega) (by omega) (by omega) h3)
  have HB2 : Hid (∀ w1 m, MsgP m m w1 (ps2 n0 (cat (ps1 zs))) 0 → Calls Try.prog 23 #[.pointer (some ⟨m, 0, none⟩)] w1 (BytesIs (cat (ps2 n0 (cat (ps1 zs)))) w1)) := Lib.hid (fun w1 m h => bytes_any m m _ w1 h (fun p hp => (hg2 p hp).2) (by unfold ps2; simp) (by omega))
  have HPa : Hid (∀ w1, Calls Try.prog 33 #[.string (cat (ps2 n0 (cat (ps1 zs))))] w1 (ParseIs (ps2 n0 (cat (ps1 zs))) w1)) := Lib.hid (fun w1 => parse_any _ _ (by omega) rfl (fun p hp => (hg2 p hp).1) w1)
  have HTx : Hid (∀ m k w1, MsgP k m w1 (ps2 n0 (cat (ps1 zs))) 0 → Calls Try.prog 27 #[.pointer (some ⟨m, 0, none⟩), .int .i64 a0] w1 (GaveV (.tuple #[.string (cat (ps1 zs)), .int .i64 (((cat (ps2 n0 (cat (ps1 zs)))).size - (cat (ps1 zs)).size : Nat) : Int), .bool true]) w1)) := Lib.hid (fun m k w1 h => by
    rw [hn0]
    have he := ps2_ends n0 (cat (ps1 zs))
    have hx : LG (ends 0 (ps2 n0 (cat (ps1 zs)))) (1, (tF n0 (cat (ps1 zs))).1, 0 + (uF (n0 + 1) 7).2.size) := ⟨by rw [he.2]; show 1 < 2; omega, by show (cat (ps1 zs)).size ≤ _; rw [he.1]; omega, by show (ends 0 (ps2 n0 (cat (ps1 zs)))).getD 1 0 ≤ _; rw [he.1]; omega⟩
    have := text_some k m _ _ 0 (n0 : Int) [⟨_, hx⟩] ⟨_, hx⟩ (by rw [places_length]; unfold ps2; simp) (by rw [ps2_tell]; rfl) rfl w1 h
    simp only at this
    rw [he.1] at this
    exact this)
  have hle := hs2.2.1
  have hbig := hs2.1
  obtain ⟨P1, hP1⟩ : ∃ P1, ps1 zs = P1 := ⟨_, rfl⟩
  rw [hP1] at HPI HB1 HPb HIn HT HB2 HPa HTx hle hbig
  obtain ⟨I1, hI1⟩ : ∃ I1, cat P1 = I1 := ⟨_, rfl⟩
  rw [hI1] at HB1 HPb HT HB2 HPa HTx hle hbig
  obtain ⟨P2, hP2⟩ : ∃ P2, ps2 n0 I1 = P2 := ⟨_, rfl⟩
  rw [hP2] at HT HB2 HPa HTx hle hbig
  obtain ⟨B2, hB2⟩ : ∃ B2, cat P2 = B2 := ⟨_, rfl⟩
  rw [hB2] at HB2 HPa HTx hle hbig
  obtain ⟨U1, hU1⟩ : ∃ U1, [uF (n0 + 1) 7] = U1 := ⟨_, rfl⟩
  rw [hU1] at HU HT
  obtain ⟨AT, hAT⟩ : ∃ AT : Int, ((B2.size - I1.size : Nat) : Int) = AT := ⟨_, rfl⟩
  rw [hAT] at HTx
  have hATe : (B2.size : Int) - (I1.size : Int) = AT := by omega
  have q1 : (0 : Int) ≤ (I1.size : Int) := by omega
  have q2 : (I1.size : Int) ≤ (B2.size : Int) := by omega
  have q3 : (B2.size : Int) ≤ 1000 := by omega
  have hw0 : (-1000 : Int) ≤ a0 := by omega
  have hw1 : a0 ≤ 1000 := by omega
  have Hir := Lib.hid hir
  have hz60i : (zs.length : Int) ≤ 60 := by omega
  have Hz := Lib.hid hz60
  clear hir hr hn0 hz60 hn1 hn2 hs1 hs2 hg2 hle hbig hP1 hI1 hP2 hB2 hU1 hAT b0 h2 h3
  go_enter Try.func6, Try.ntmps6
  go_wp2_with fail
  refine (HA.out _).mono ?_
  rintro e w1 ⟨rfl, hb⟩
  have H1 := Lib.hid hb
  clear hb HA h1 h3i
  go_wp2_with fail
  obtain ⟨m1, hm1⟩ : ∃ m1, w1.heap.size = m1 := ⟨_, rfl⟩
  refine (new_at w1 m1 hm1).mono ?_
  rintro e w2 ⟨rfl, hm, hb⟩
  have hle1 : w.heap.size ≤ m1 := by rw [← hm1]; exact H1.out.size
  have Hm2 := Lib.hid hm
  have H2 : Hid (Below w.heap.size w w2) := Lib.hid (H1.out.trans (hb.mono hle1))
  have hsz2 : m1 ≤ w2.heap.size := by have := IsMsg.lt hm; omega
  clear hm hb hm1 H1
  go_wp2_with fail
  refine (HPI.out _ _ Hm2.out hsz2 (Hir.out.below H2.out)).mono ?_
  rintro e w3 ⟨rfl, hm, hb⟩
  have Hm3 := Lib.hid hm
  have H3 : Hid (Below w.heap.size w w3) := Lib.hid (H2.out.trans (hb.mono hle1))
  clear hm hb H2 Hm2 HPI hsz2
  go_wp2_with fail
  refine (HB1.out _ _ Hm3.out).mono ?_
  rintro e w4 ⟨rfl, hb⟩
  have H4 : Hid (Below w.heap.size w w4) := Lib.hid (H3.out.trans (hb.mono H3.out.size))
  clear hb H3 Hm3 HB1
  go_wp2_with fail
  obtain ⟨m2, hm2⟩ : ∃ m2, w4.heap.size = m2 := ⟨_, rfl⟩
  refine (new_at w4 m2 hm2).mono ?_
  rintro e w5 ⟨rfl, hm, hb⟩
  have hle2 : w.heap.size ≤ m2 := by rw [← hm2]; exact H4.out.size
  have Hm5 := Lib.hid hm
  have H5 : Hid (Below w.heap.size w w5) := Lib.hid (H4.out.trans (hb.mono hle2))
  have hsz5 : m2 ≤ w5.heap.size := by have := IsMsg.lt hm; omega
  clear hm hb hm2 H4
  go_wp2_with fail
  refine (HU.out _ _ Hm5.out hsz5).mono ?_
  rintro e w6 ⟨rfl, hm, hb⟩
  have hsz6 : m2 ≤ w6.heap.size := by have := IsMsg.lt hm; omega
  have Hm6 := Lib.hid hm
  have H6 : Hid (Below w.heap.size w w6) := Lib.hid (H5.out.trans (hb.mono hle2))
  clear hm hb H5 Hm5 hsz5 HU
  go_wp2_with fail
  have q := Blk.new w6 9 #[.string I1]
  refine (HT.out _ _ _ (Hm6.out.below ((Below.refl _ _).alloc (Nat.le_refl _) _)) (by simp; omega) (q.cell 0)).mono ?_
  rintro e w7 ⟨rfl, hm, hb⟩
  have Hm7 := Lib.hid hm
  have H7 : Hid (Below w.heap.size w w7) := Lib.hid ((H6.out.alloc H6.out.size _).trans (hb.mono hle2))
  clear hm hb H6 Hm6 hsz6 q HT
  go_wp2_with fail
  refine (HB2.out _ _ Hm7.out).mono ?_
  rintro e w8 ⟨rfl, hb⟩
  have H8 : Hid (Below w.heap.size w w8) := Lib.hid (H7.out.trans (hb.mono H7.out.size))
  clear hb H7 Hm7 HB2
  go_wp2_with fail
  refine (HPa.out _).mono ?_
  rintro e w9 ⟨ma, rfl, hm, hb⟩
  have Hm9 := Lib.hid hm
  have H9 : Hid (Below w.heap.size w w9) := Lib.hid (H8.out.trans (hb.mono H8.out.size))
  clear hm hb H8 HPa
  go_wp2_with fail
  refine (HTx.out _ _ _ (Hm9.out.below ((Below.refl _ _).alloc (Nat.le_refl _) _))).mono ?_
  rintro e w10 ⟨rfl, hb⟩
  have H10 : Hid (Below w.heap.size w w10) := Lib.hid ((H9.out.alloc H9.out.size _).trans (hb.mono (by have := H9.out.size; simp; omega)))
  clear hb H9 Hm9 HTx
  go_wp2_with fail
  refine (HPb.out _).mono ?_
  rintro e w11 ⟨mb, rfl, hm, hb⟩
  have Hm11 := Lib.hid hm
  have H11 : Hid (Below w.heap.size w w11) := Lib.hid (H10.out.trans (hb.mono H10.out.size))
  clear hm hb H10 HPb
  go_wp2_with fail
  refine (HIn.out _ _ _ (Hm11.out.below ((Below.refl _ _).alloc (Nat.le_refl _) _))).mono ?_
  rintro e w12 ⟨la, lc, rfl, hri, _, hb⟩
  have H12 : Hid (Below w.heap.size w w12) := Lib.hid ((H11.out.alloc H11.out.size _).trans (hb.mono (by have := H11.out.size; simp; omega)))
  have Hri := Lib.hid hri
  clear hb hri H11 Hm11 HIn
  go_wp2_with fail
  refine (same_any la a1 lc cap1 zs _ (by have := Hz.out; omega) (Hri.out.below ((Below.refl _ _).alloc (Nat.le_refl _) _)) ((Hir.out.below H12.out).below ((Below.refl _ _).alloc (Nat.le_refl _) _))).mono ?_
  rintro e w13 ⟨rfl, k, rfl⟩
  clear Hri Hir
  go_wp2
  go_ret
  exact ⟨rfl, below_dn (H12.out.alloc H12.out.size _) k⟩
end Go.Proofs.Ytbkcklefkhlciaa
