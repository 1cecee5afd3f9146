/-
 Law 3: the document's own reading of a literal.
-/
import Derived.Test.YtggmnmmjmihnfaaGreatDoorDLm
import Derived.Test.YtggmnmmjmihnfaaGreatDoorDRt
import Derived.Test.YtggmnmmjmihnfaaGreatDoorRQf
namespace Go.Proofs.YtggmnmmjmihnfaaGreatDoor
open Go.RowKit
set_option linter.unusedVariables false
/-- What the document's Lit tells. -/
def RlIs (s : ByteArray) (w : World) (e : Ending) (w' : World) : Prop := ∃ v, e = .returned (.tuple #[v, .int .i64 (lcode s)]) ∧ RQ w' v (litv s) ∧ Below w.heap.size w w'
/-- The document's nought, copied out of its box into the result's. -/
theorem rl_no {s : ByteArray} {w W : World} {v : Value} {c : Int} (hc : lcode s = c) (hc0 : c ≠ 0) (h : GaveQ 0 w (.returned v) W) : RlIs s w (.returned (.tuple #[v, .int .i64 c])) W := by
 obtain ⟨v', he, h1, h2⟩ := h
 injection he with he
 subst he
 exact ⟨v, by rw [hc], by unfold litv; rw [if_neg (by rw [hc]; exact hc0)]; exact h1, h2⟩
theorem rl_yes {s : ByteArray} {w W : World} {v : Value} {x : Rat} (hc : lcode s = 0) (hx : litv s = x) (h : GaveQ x w (.returned v) W) : RlIs s w (.returned (.tuple #[v, .int .i64 0])) W := by
 obtain ⟨v', he, h1, h2⟩ := h
 injection he with he
 subst he
 exact ⟨v, by rw [hc], by rw [hx]; exact h1, h2⟩
theorem ext_one {s : ByteArray} {i : Nat} {b : UInt8} (h : s.data.toList[i]? = some b) : s.extract i (i + 1) = ⟨#[b]⟩ := by
 refine ba_list _ _ ?_
 have h1 : (s.extract i (i + 1)).data.toList = (s.data.toList.drop i).take 1 := by
  rw [ByteArray.data_extract, Array.toList_extract, List.extract_eq_take_drop]
  congr 1
  omega
 rw [h1, drop_at h]
 rfl
theorem bz_snoc (l : List UInt8) (b : UInt8) : bz l ++ ⟨#[b]⟩ = bz (l ++ [b]) := by
 refine ba_list _ _ ?_
 unfold bz
 simp [ByteArray.data_append]
theorem bz_tail (b : UInt8) (l : List UInt8) (n : Nat) (h : n = (bz (b :: l)).size) : (bz (b :: l)).extract 1 n = bz l := by
 refine ba_list _ _ ?_
 subst h
 rw [bz_size]
 unfold bz
 rw [ByteArray.data_extract, Array.toList_extract, List.extract_eq_take_drop]
 simp
/-- Where the digits of a literal end. -/
def In1e (s : ByteArray) (i : Nat) (pt : Bool) : Prop := i = s.size ∨ ∃ b, s.data.toList[i]? = some b ∧ ¬ (48 ≤ b.toNat ∧ b.toNat ≤ 57) ∧ ¬ (b.toNat = 46 ∧ pt = false)
/-- The number of digits N, ten times as often as X says. -/
def lqn (ng : Bool) (N : Nat) (X : Int) : Rat := if 0 ≤ X then mkRat (sgn ng (N * 10 ^ X.toNat)) 1 else mkRat (sgn ng N) (10 ^ (-X).toNat)
theorem litQ_lqn (r : LS) : litQ r = lqn r.neg (dv r.ds) (lexp r) := rfl
/-- What is known behind the exponent. -/
structure In3 (s : ByteArray) (ng : Bool) (N bh E : Nat) (low : Bool) : Prop where
 code : lcode s = if E ≤ 400 then 0 else 2
 val : E ≤ 400 → litv s = lqn ng N (sgn low E - (bh : Int))
theorem in3_end1 {s : ByteArray} {i bh : Nat} {ng pt : Bool} {ds : List UInt8} (h : In1 s i ng pt ds bh) (he : i = s.size) (hd : ds ≠ []) : In3 s ng (dv ds) bh 0 false := by
 obtain ⟨h1, h2⟩ := in1_end h he hd
 exact ⟨h1, fun _ => h2⟩
theorem in3_end2 {s : ByteArray} {i bh : Nat} {ng low fr : Bool} {ds es : List UInt8} (h : In2 s i ng ds es bh low fr) (he : i = s.size) (hd : ds ≠ []) (hes : es ≠ []) : In3 s ng (dv ds) bh (min (dv es) 1000) low := by
 obtain ⟨h1, h2, h3⟩ := in2_end h he hd hes
 refine ⟨?_, fun h4 => ?_⟩
 · rw [h1]
   by_cases h5 : dv es ≤ 400
   · rw [if_pos h5, if_pos (by omega)]
   · rw [if_neg h5, if_neg (by omega)]
 · have h5 : dv es ≤ 400 := by omega
   rw [show min (dv es) 1000 = dv es by omega]
   exact h2 h5
theorem wf_bz {l : List UInt8} (h0 : l ≠ []) (hd : ∀ b ∈ l, isDig b) (hh : ∀ b r, l = b :: r → r ≠ [] → b ≠ 48) : WF (bz l) := by
 have hl : (bz l).data.toList = l := by unfold bz; simp
 refine ⟨by rw [bz_size]; exact List.length_pos_iff.2 h0, ?_, by rw [hl]; exact hd⟩
 rintro ⟨h1, h2⟩
 rw [hl] at h1
 rw [bz_size] at h2
 match l, h1, h2, hh with
 | [b], _, h2, _ => simp at h2
 | b :: c :: r, h1, _, hh =>
  refine hh b (c :: r) rfl (by simp) ?_
  simpa using h1
theorem nn_bz {l : List UInt8} (hw : WF (bz l)) : nn (bz l) = dv l := by
 have hl : (bz l).data.toList = l := by unfold bz; simp
 unfold nn
 rw [if_pos hw, hl]
theorem strip_facts {T : ByteArray} {N : Nat} (h : ∃ l, T = bz l ∧ l ≠ [] ∧ (∀ b ∈ l, isDig b) ∧ dv l = N) : 0 < T.size ∧ (T.size = 1 → WF T ∧ nn T = N) ∧
 ∀ b, T.data.toList[0]? = some b → (b.toNat = 48 → 1 < T.size → ∃ l, T.extract 1 T.size = bz l ∧ l ≠ [] ∧ (∀ b ∈ l, isDig b) ∧ dv l = N) ∧ (b.toNat ≠ 48 → WF T ∧ nn T = N) := by
 obtain ⟨l, rfl, hl0, hld, hlv⟩ := h
 have hs := bz_size l
 have hl : (bz l).data.toList = l := by unfold bz; simp
 match l, hl0, hld, hlv, hs, hl with
 | b :: r, hl0, hld, hlv, hs, hl =>
  refine ⟨by rw [hs]; simp, fun h1 => ?_, fun x hx => ?_⟩
  · have hr : r = [] := by
     rw [hs] at h1
     simpa using h1
    subst hr
    have hw : WF (bz [b]) := wf_bz hl0 hld (fun b' r' h3 h4 => by
     injection h3 with h5 h6
     exact absurd h6.symm h4)
    exact ⟨hw, by rw [nn_bz hw]; exact hlv⟩
  · rw [hl] at hx
    have hxb : b = x := by simpa using hx
    subst hxb
    refine ⟨fun h8 h1 => ?_, fun h8 => ?_⟩
    · have hb : b = 48 := UInt8.toNat_inj.1 (by rw [h8]; rfl)
      refine ⟨r, bz_tail _ _ _ rfl, ?_, fun z hz => hld z (List.mem_cons_of_mem _ hz), by rw [← hlv, hb, dv_nought]⟩
      intro hr
      subst hr
      rw [hs] at h1
      simp at h1
    · have hw : WF (bz (b :: r)) := wf_bz hl0 hld (fun b' r' h3 h4 => by
       injection h3 with h5 h6
       subst h5
       intro h7
       exact h8 (by rw [h7]; rfl))
      exact ⟨hw, by rw [nn_bz hw]; exact hlv⟩
set_option maxRecDepth 100000 in
set_option maxHeartbeats 16000000 in
theorem rlit_any (s : ByteArray) (w : World) (hs : s.size ≤ 300) : Calls Tryz.prog 6 #[.string s] w (RlIs s w) := by
 obtain ⟨n, hn⟩ : ∃ n, s.size = n := ⟨_, rfl⟩
 have Hsn := Lib.hid hn
 have hsn : (s.size : Int) = (n : Int) := by rw [hn]
 have hn3 : n ≤ 300 := by omega
 have hsz : (w.alloc (.cells #[.bool false, .slice none 0 0, .slice none 0 0] 34)).heap.size = w.heap.size + 1 := World.size_alloc _ _
 have V1 := (((Dq.refl w).cons (rn_zero w) (d_pos 900 (by omega) (by omega))).alloc 34 #[.bool false, .slice none 0 0, .slice none 0 0]).lit1
 rw [hsz] at V1
 have V2 := V1.alloc 34 #[.bool false, .slice none 0 0, .slice (some ⟨w.heap.size + 1, 0, none⟩) 1 1]
 obtain ⟨W0, hW0⟩ : ∃ W0, ((w.alloc (.cells #[.bool false, .slice none 0 0, .slice none 0 0] 34)).alloc (.cells #[.int .i64 1] 3)).alloc (.cells #[.bool false, .slice none 0 0, .slice (some ⟨w.heap.size + 1, 0, none⟩) 1 1] 34) = W0 := ⟨_, rfl⟩
 have hs2 : ((w.alloc (.cells #[.bool false, .slice none 0 0, .slice none 0 0] 34)).alloc (.cells #[.int .i64 1] 3)).heap.size = w.heap.size + 1 + 1 := by rw [World.size_alloc, hsz]
 rw [hW0, hs2] at V2
 have HV0 := Lib.hid V2
 clear hs hn hsz V1 V2 hs2
 go_enter Tryz.func6, Tryz.ntmps6
 go_upto_region 4 with fail
 clear hW0
 go_cut [33] (fun tv wx => ∃ B : Bool, tv = .bool B ∧ Hid (B = true → ∃ b, s.data.toList[0]? = some b ∧ (b.toNat = 43 ∨ b.toNat = 45)) ∧ Hid (B = false → ∀ b, s.data.toList[0]? = some b → b.toNat ≠ 43 ∧ b.toNat ≠ 45) ∧ W0 = wx)
 case first => as_aux_lemma =>
  by_cases h0 : n = 0
  · have Hst : Hid (∀ b, s.data.toList[0]? = some b → b.toNat ≠ 43 ∧ b.toNat ≠ 45) := Lib.hid (fun b hb => absurd (at_lt hb) (by have := Hsn.out; omega))
    subst h0
    go_wp2_with fail
    go_meet
    case rel => exact ⟨false, rfl, Lib.hid (fun h => by cases h), Lib.hid (fun _ => Hst.out), rfl⟩
  · have hks : 0 < s.size := by rw [Hsn.out]; omega
    have hat := toList_at s 0 hks
    obtain ⟨b, hb⟩ : ∃ b, s[0] = b := ⟨_, rfl⟩
    rw [hb] at hat
    obtain ⟨C, hC⟩ : ∃ C : Int, (b.toNat : Int) = C := ⟨_, rfl⟩
    have hC0 : 0 ≤ C := by omega
    have hC2 : C < 256 := by have := b.toNat_lt; omega
    have HC := Lib.hid hC; have Hat := Lib.hid hat
    have hi1 : (0 : Int) < (n : Int) := by omega
    by_cases h43 : C = 43
    · have Hst : Hid (∃ b, s.data.toList[0]? = some b ∧ (b.toNat = 43 ∨ b.toNat = 45)) := Lib.hid ⟨b, Hat.out, by have := HC.out; omega⟩
      subst h43
      go_wp2_with fail
      go_meet
      case rel => exact ⟨true, rfl, Lib.hid (fun _ => Hst.out), Lib.hid (fun h => by cases h), rfl⟩
    · by_cases h45 : C = 45
      · have Hst : Hid (∃ b, s.data.toList[0]? = some b ∧ (b.toNat = 43 ∨ b.toNat = 45)) := Lib.hid ⟨b, Hat.out, by have := HC.out; omega⟩
        subst h45
        go_wp2_with fail
        go_meet
        case rel => exact ⟨true, rfl, Lib.hid (fun _ => Hst.out), Lib.hid (fun h => by cases h), rfl⟩
      · have g43 : (C == 43) = false := by simpa using h43
        have g45 : (C == 45) = false := by simpa using h45
        have Hst : Hid (∀ b, s.data.toList[0]? = some b → b.toNat ≠ 43 ∧ b.toNat ≠ 45) := Lib.hid (fun b' hb' => by
         have h := Hat.out
         rw [hb'] at h
         injection h with h
         subst h
         have := HC.out
         omega)
        go_wp2_with fail
        go_meet
        case rel => exact ⟨false, rfl, Lib.hid (fun h => by cases h), Lib.hid (fun _ => Hst.out), rfl⟩
 case rest =>
 obtain ⟨B, rfl, HB1, HB0, rfl⟩ := hcut
 go_upto_if 33 with fail
 go_cut [5, 6] (fun iv nv wx => ∃ (i : Nat) (ng : Bool), i ≤ n ∧ iv = .int .i64 (i : Int) ∧ nv = .bool ng ∧ Hid (In1 s i ng false [] 0) ∧ W0 = wx)
 case first => as_aux_lemma =>
  cases B with
  | false =>
   have Hst : Hid (In1 s 0 false false [] 0) := Lib.hid (in1_start0 s (HB0.out rfl))
   go_wp2_with fail
   go_meet
   case rel => exact ⟨0, false, by omega, rfl, rfl, Hst, rfl⟩
  | true =>
   have hn0 : 0 < n := by
    obtain ⟨b, hb, -⟩ := HB1.out rfl
    have := at_lt hb
    have := Hsn.out
    omega
   have hks : 0 < s.size := by rw [Hsn.out]; omega
   have hat := toList_at s 0 hks
   obtain ⟨b, hb⟩ : ∃ b, s[0] = b := ⟨_, rfl⟩
   rw [hb] at hat
   obtain ⟨C, hC⟩ : ∃ C : Int, (b.toNat : Int) = C := ⟨_, rfl⟩
   have hC0 : 0 ≤ C := by omega
   have hC2 : C < 256 := by have := b.toNat_lt; omega
   have HC := Lib.hid hC; have Hat := Lib.hid hat
   have hi1 : (0 : Int) < (n : Int) := by omega
   have Hbb : Hid (b.toNat = 43 ∨ b.toNat = 45) := Lib.hid (by
    obtain ⟨b', hb', h⟩ := HB1.out rfl
    have h2 := Hat.out
    rw [hb'] at h2
    injection h2 with h2
    rw [← h2]
    exact h)
   have Hst := Lib.hid (in1_start1 s b Hat.out Hbb.out)
   by_cases h45 : C = 45
   · rw [show decide (b.toNat = 45) = true from decide_eq_true (by have := HC.out; omega)] at Hst
     clear Hbb
     subst h45
     go_wp2_with fail
     go_meet
     case rel => exact ⟨1, true, by omega, rfl, rfl, Hst, rfl⟩
   · rw [show decide (b.toNat = 45) = false from decide_eq_false (by have := HC.out; omega)] at Hst
     have g45 : (C == 45) = false := by simpa using h45
     clear Hbb
     go_wp2_with fail
     go_meet
     case rel => exact ⟨1, false, by omega, rfl, rfl, Hst, rfl⟩
 case rest =>
 obtain ⟨i0, ng, hi0n, rfl, rfl, Hin0, rfl⟩ := hcut
 clear HB1 HB0
 go_upto_block 0 with fail
 go_cut [5, 7, 8, 9] (fun iv dw bv pv wx => ∃ (i bh : Nat) (pt : Bool) (ds : List UInt8), i ≤ n ∧ iv = .int .i64 (i : Int) ∧ dw = .string (bz ds) ∧ bv = .int .i64 (bh : Int) ∧ pv = .bool pt ∧ Hid (In1 s i ng pt ds bh) ∧ Hid (∀ b ∈ ds, isDig b) ∧ Hid (In1e s i pt) ∧ W0 = wx)
 case first => as_aux_lemma =>
  go_wp2_with fail
  go_loop [5, 7, 8, 9] (fun iv dw bv pv => ∃ (i bh : Nat) (pt : Bool) (ds : List UInt8), i ≤ n ∧ iv = .int .i64 (i : Int) ∧ dw = .string (bz ds) ∧ bv = .int .i64 (bh : Int) ∧ pv = .bool pt ∧ Hid (In1 s i ng pt ds bh) ∧ Hid (∀ b ∈ ds, isDig b)) (fun iv _ _ _ => n - (intOf iv).toNat)
  case atStart => exact ⟨i0, 0, false, [], hi0n, rfl, rfl, rfl, rfl, Hin0, Lib.hid (fun b h => by simp at h)⟩
  case round =>
   clear Hin0
   obtain ⟨i, bh, pt, ds, hin, rfl, rfl, rfl, rfl, Hin, Hds⟩ := hrel
   by_cases hend : i = n
   · have He : Hid (In1e s i pt) := Lib.hid (Or.inl (by rw [Hsn.out]; exact hend))
     subst hend
     go_wp2_with fail
     go_meet
     case rel => exact ⟨i, bh, pt, ds, by omega, rfl, rfl, rfl, rfl, Hin, Hds, He, rfl⟩
   · have hks : i < s.size := by rw [Hsn.out]; omega
     have hat := toList_at s i hks
     obtain ⟨b, hb⟩ : ∃ b, s[i] = b := ⟨_, rfl⟩
     rw [hb] at hat
     obtain ⟨C, hC⟩ : ∃ C : Int, (b.toNat : Int) = C := ⟨_, rfl⟩
     have hC0 : 0 ≤ C := by omega
     have hC2 : C < 256 := by have := b.toNat_lt; omega
     have HC := Lib.hid hC; have Hat := Lib.hid hat
     have hi1 : ((i : Nat) : Int) < (n : Int) := by omega
     have hbl : bh ≤ 300 := by have := Hin.out.bl; have := Hin.out.dl; omega
     have hdl : ds.length ≤ 300 := by have := Hin.out.dl; omega
     by_cases hdg : 48 ≤ C ∧ C ≤ 57
     · obtain ⟨hg1, hg2⟩ := hdg
       have Hd2 : Hid (∀ x ∈ ds ++ [b], isDig x) := Lib.hid (fun x hx => by
        rcases List.mem_append.1 hx with h | h
        · exact Hds.out x h
        · simp at h
          subst h
          have := HC.out
          unfold isDig
          omega)
       have hx1 := ext_one Hat.out
       have hx2 := bz_snoc ds b
       have hq1 : (bz ds).size + 1 ≤ 9223372036854775807 := by rw [bz_size]; omega
       have hq2 : ¬ 9223372036854775807 < (bz ds).size + 1 := by omega
       have g46 : (C == 46) = false := by simpa using (show ¬ C = 46 by omega)
       have hi2 : (i : Int) + 1 ≤ (n : Int) := by omega
       cases pt with
       | false =>
        have Hi2 := Lib.hid (in1_dig Hin.out Hat.out (by have := HC.out; omega) (by have := HC.out; omega))
        clear Hin Hds
        go_wp2_with fail
        go_round
        case rel => exact ⟨i + 1, bh, false, ds ++ [b], by omega, by go_num, by first | rfl | (rw [hx1, hx2]), by go_num, rfl, Hi2, Hd2⟩
        case measure => simp [intOf]; omega
       | true =>
        have Hi2 := Lib.hid (in1_dig Hin.out Hat.out (by have := HC.out; omega) (by have := HC.out; omega))
        clear Hin Hds
        go_wp2_with fail
        go_round
        case rel => exact ⟨i + 1, bh + 1, true, ds ++ [b], by omega, by go_num, by first | rfl | (rw [hx1, hx2]), by go_num, rfl, Hi2, Hd2⟩
        case measure => simp [intOf]; omega
     · by_cases h46 : C = 46
       · cases pt with
         | false =>
          have Hi2 := Lib.hid (in1_dot Hin.out Hat.out (by have := HC.out; omega))
          clear Hin hdg
          subst h46
          go_wp2_with fail
          go_round
          case rel => exact ⟨i + 1, bh, true, ds, by omega, by go_num, rfl, rfl, rfl, Hi2, Hds⟩
          case measure => simp [intOf]; omega
         | true =>
          have He : Hid (In1e s i true) := Lib.hid (Or.inr ⟨b, Hat.out, by have := HC.out; omega, by simp⟩)
          clear hdg
          subst h46
          go_wp2_with fail
          go_meet
          case rel => exact ⟨i, bh, true, ds, by omega, rfl, rfl, rfl, rfl, Hin, Hds, He, rfl⟩
       · have He : Hid (In1e s i pt) := Lib.hid (Or.inr ⟨b, Hat.out, by have := HC.out; omega, by have := HC.out; omega⟩)
         have g46 : (C == 46) = false := by simpa using h46
         by_cases h48 : 48 ≤ C
         · have h57 : ¬ C ≤ 57 := by omega
           clear hdg
           go_wp2_with fail
           go_meet
           case rel => exact ⟨i, bh, pt, ds, by omega, rfl, rfl, rfl, rfl, Hin, Hds, He, rfl⟩
         · clear hdg
           go_wp2_with fail
           go_meet
           case rel => exact ⟨i, bh, pt, ds, by omega, rfl, rfl, rfl, rfl, Hin, Hds, He, rfl⟩
 case rest =>
  obtain ⟨i1, bh, pt, ds, hi1n, rfl, rfl, rfl, rfl, Hin1, Hds, He1, rfl⟩ := hcut
  have hbl : bh ≤ 300 := by have := Hin1.out.bl; have := Hin1.out.dl; omega
  have hdl : ds.length ≤ 300 := by have := Hin1.out.dl; omega
  by_cases hds0 : ds = []
  · subst hds0
    have HNo : Hid (lcode s = 3) := Lib.hid (in1_none Hin1.out He1.out)
    have hq0 : (bz []).toList.isEmpty = true := by rw [ByteArray.toList_eq]; rfl
    have V := HV0.out
    have r0 := V.c0 0 rfl; have r1 := V.c1 0 rfl; have r2 := V.c2 0 rfl
    have u0 := V.c0 1 rfl; have u1 := V.c1 1 rfl; have u2 := V.c2 1 rfl
    have f0 := V.frozen 1 0 rfl; have f1 := V.frozen 1 1 rfl; have f2 := V.frozen 1 2 rfl
    have HF := Lib.hid (V.fin3 (x := 0) (y := false) 1 1 0 rfl rfl rfl rfl)
    clear V
    go_wp2_with fail
    exact bodyPost_ret (res_ref2 rfl _ _ _ _ _ _ _ _ _ _ (.int .i64 3) rfl rfl HF.out.1) rfl (rl_no HNo.out (by decide) HF.out.2)
  · have hq0 : (bz ds).toList.isEmpty = false := by
     rw [ByteArray.toList_eq, List.isEmpty_eq_false_iff]
     unfold bz
     simpa using hds0
    have Hd0 := Lib.hid hds0
    go_upto_if 88 with fail
    go_cut [5, 10, 11] (fun iv ev lv wx => ∃ (j E : Nat) (low : Bool), iv = .int .i64 (j : Int) ∧ ev = .int .i64 (E : Int) ∧ lv = .bool low ∧ E ≤ 1000 ∧ Hid (In3 s ng (dv ds) bh E low) ∧ W0 = wx)
    case first => as_aux_lemma =>
     by_cases hend : i1 = n
     · have H3 := Lib.hid (in3_end1 Hin1.out (by rw [Hsn.out]; exact hend) Hd0.out)
       subst hend
       go_wp2_with fail
       go_meet
       case rel => exact ⟨_, 0, false, rfl, rfl, rfl, by omega, H3, rfl⟩
     · have hks : i1 < s.size := by rw [Hsn.out]; omega
       have hat := toList_at s i1 hks
       obtain ⟨b, hb⟩ : ∃ b, s[i1] = b := ⟨_, rfl⟩
       rw [hb] at hat
       obtain ⟨C, hC⟩ : ∃ C : Int, (b.toNat : Int) = C := ⟨_, rfl⟩
       have hC0 : 0 ≤ C := by omega
       have hC2 : C < 256 := by have := b.toNat_lt; omega
       have HC := Lib.hid hC; have Hat := Lib.hid hat
       have hi1 : ((i1 : Nat) : Int) < (n : Int) := by omega
       go_upto_region 20 with fail
       go_cut [98] (fun tv wx => ∃ B : Bool, tv = .bool B ∧ Hid (B = false → C = 101 ∨ C = 69) ∧ Hid (B = true → lcode s = 3) ∧ W0 = wx)
       case first => as_aux_lemma =>
        by_cases h101 : C = 101
        · subst h101
          go_wp2_with fail
          go_meet
          case rel => exact ⟨false, rfl, Lib.hid (fun _ => Or.inl rfl), Lib.hid (fun h => by cases h), rfl⟩
        · by_cases h69 : C = 69
          · subst h69
            go_wp2_with fail
            go_meet
            case rel => exact ⟨false, rfl, Lib.hid (fun _ => Or.inr rfl), Lib.hid (fun h => by cases h), rfl⟩
          · have g1 : (C == 101) = false := by simpa using h101
            have g2 : (C == 69) = false := by simpa using h69
            have HNo : Hid (lcode s = 3) := Lib.hid (by
             rcases He1.out with h | ⟨b', hb', h1, h2⟩
             · exact absurd h (by rw [Hsn.out]; exact hend)
             · have h := Hat.out
               rw [hb'] at h
               injection h with h
               subst h
               exact in1_stop Hin1.out Hat.out h1 h2 (by have := HC.out; omega))
            go_wp2_with fail
            go_meet
            case rel => exact ⟨true, by rw [show (C != 101 && C != 69) = true from by simp [h101, h69]], Lib.hid (fun h => by cases h), Lib.hid (fun _ => HNo.out), rfl⟩
       case rest =>
       obtain ⟨B, rfl, HB0, HB1, rfl⟩ := hcut
       cases B with
       | true =>
        have HNo := Lib.hid (HB1.out rfl)
        have V := HV0.out
        have r0 := V.c0 0 rfl; have r1 := V.c1 0 rfl; have r2 := V.c2 0 rfl
        have u0 := V.c0 1 rfl; have u1 := V.c1 1 rfl; have u2 := V.c2 1 rfl
        have f0 := V.frozen 1 0 rfl; have f1 := V.frozen 1 1 rfl; have f2 := V.frozen 1 2 rfl
        have HF := Lib.hid (V.fin3 (x := 0) (y := false) 1 1 0 rfl rfl rfl rfl)
        clear V
        go_wp2_with fail
        exact bodyPost_ret (res_ref2 rfl _ _ _ _ _ _ _ _ _ _ (.int .i64 3) rfl rfl HF.out.1) rfl (rl_no HNo.out (by decide) HF.out.2)
       | false =>
        have hCe := HB0.out rfl
        clear HB0 HB1
        have Hin2 := Lib.hid (in1_e Hin1.out Hat.out (by have := HC.out; omega))
        clear hb hC hat Hin1 He1 hC0 hC2 hCe HC Hat
        obtain ⟨j, hj⟩ : ∃ j, i1 + 1 = j := ⟨_, rfl⟩
        have hji : (i1 : Int) + 1 = (j : Int) := by omega
        have hjn : j ≤ n := by omega
        rw [hj] at Hin2
        go_upto_region 23 with fail
        go_cut [117] (fun tv wx => ∃ B : Bool, tv = .bool B ∧ Hid (B = true → ∃ b, s.data.toList[j]? = some b ∧ (b.toNat = 43 ∨ b.toNat = 45)) ∧ Hid (B = false → ∀ b, s.data.toList[j]? = some b → b.toNat ≠ 43 ∧ b.toNat ≠ 45) ∧ W0 = wx)
        case first => as_aux_lemma =>
         by_cases hen2 : j = n
         · subst hen2
           have hnl : ¬ ((j : Int) < (j : Int)) := by omega
           have Hno : Hid (∀ b, s.data.toList[j]? = some b → b.toNat ≠ 43 ∧ b.toNat ≠ 45) := Lib.hid (fun b hb => absurd (at_lt hb) (by have := Hsn.out; omega))
           go_wp2_with fail
           go_meet
           case rel => exact ⟨false, rfl, Lib.hid (fun h => by cases h), Lib.hid (fun _ => Hno.out), rfl⟩
         · have hks : j < s.size := by rw [Hsn.out]; omega
           have hat := toList_at s j hks
           obtain ⟨b, hb⟩ : ∃ b, s[j] = b := ⟨_, rfl⟩
           rw [hb] at hat
           obtain ⟨C, hC⟩ : ∃ C : Int, (b.toNat : Int) = C := ⟨_, rfl⟩
           have hC0 : 0 ≤ C := by omega
           have hC2 : C < 256 := by have := b.toNat_lt; omega
           have HC := Lib.hid hC; have Hat := Lib.hid hat
           have hi1 : ((j : Nat) : Int) < (n : Int) := by omega
           by_cases h43 : C = 43
           · have Hst : Hid (∃ b, s.data.toList[j]? = some b ∧ (b.toNat = 43 ∨ b.toNat = 45)) := Lib.hid ⟨b, Hat.out, by have := HC.out; omega⟩
             subst h43
             go_wp2_with fail
             go_meet
             case rel => exact ⟨true, rfl, Lib.hid (fun _ => Hst.out), Lib.hid (fun h => by cases h), rfl⟩
           · by_cases h45 : C = 45
             · have Hst : Hid (∃ b, s.data.toList[j]? = some b ∧ (b.toNat = 43 ∨ b.toNat = 45)) := Lib.hid ⟨b, Hat.out, by have := HC.out; omega⟩
               subst h45
               go_wp2_with fail
               go_meet
               case rel => exact ⟨true, rfl, Lib.hid (fun _ => Hst.out), Lib.hid (fun h => by cases h), rfl⟩
             · have g43 : (C == 43) = false := by simpa using h43
               have g45 : (C == 45) = false := by simpa using h45
               have Hno : Hid (∀ b, s.data.toList[j]? = some b → b.toNat ≠ 43 ∧ b.toNat ≠ 45) := Lib.hid (fun b' hb' => by
                have h := Hat.out
                rw [hb'] at h
                injection h with h
                subst h
                have := HC.out
                omega)
               go_wp2_with fail
               go_meet
               case rel => exact ⟨false, rfl, Lib.hid (fun h => by cases h), Lib.hid (fun _ => Hno.out), rfl⟩
        case rest =>
        obtain ⟨B, rfl, HB1, HB0, rfl⟩ := hcut
        go_upto_if 117 with fail
        go_cut [5, 11] (fun iv lv wx => ∃ (j : Nat) (low fr : Bool), j ≤ n ∧ iv = .int .i64 (j : Int) ∧ lv = .bool low ∧ Hid (In2 s j ng ds [] bh low fr) ∧ Hid (fr = true → ∀ b, s.data.toList[j]? = some b → b.toNat ≠ 43 ∧ b.toNat ≠ 45) ∧ W0 = wx)
        case first => as_aux_lemma =>
         cases B with
         | false =>
          have Hno : Hid (∀ b, s.data.toList[j]? = some b → b.toNat ≠ 43 ∧ b.toNat ≠ 45) := Lib.hid (HB0.out rfl)
          go_wp2_with fail
          go_meet
          case rel => exact ⟨j, false, true, hjn, by go_num, rfl, Hin2, Lib.hid (fun _ => Hno.out), rfl⟩
         | true =>
          have hjn2 : j < n := by
           obtain ⟨b, hb, -⟩ := HB1.out rfl
           have := at_lt hb
           have := Hsn.out
           omega
          have hks : j < s.size := by rw [Hsn.out]; omega
          have hat := toList_at s j hks
          obtain ⟨b, hb⟩ : ∃ b, s[j] = b := ⟨_, rfl⟩
          rw [hb] at hat
          obtain ⟨C, hC⟩ : ∃ C : Int, (b.toNat : Int) = C := ⟨_, rfl⟩
          have hC0 : 0 ≤ C := by omega
          have hC2 : C < 256 := by have := b.toNat_lt; omega
          have HC := Lib.hid hC; have Hat := Lib.hid hat
          have hi1 : ((j : Nat) : Int) < (n : Int) := by omega
          have Hbb : Hid (b.toNat = 43 ∨ b.toNat = 45) := Lib.hid (by
           obtain ⟨b', hb', h⟩ := HB1.out rfl
           have h2 := Hat.out
           rw [hb'] at h2
           injection h2 with h2
           rw [← h2]
           exact h)
          have Hst := Lib.hid (in2_sign Hin2.out Hat.out Hbb.out)
          by_cases h45 : C = 45
          · rw [show decide (b.toNat = 45) = true from decide_eq_true (by have := HC.out; omega)] at Hst
            clear Hbb
            subst h45
            go_wp2_with fail
            go_meet
            case rel => exact ⟨j + 1, true, false, by omega, by go_num, rfl, Hst, Lib.hid (fun h => by cases h), rfl⟩
          · rw [show decide (b.toNat = 45) = false from decide_eq_false (by have := HC.out; omega)] at Hst
            have g45 : (C == 45) = false := by simpa using h45
            clear Hbb
            go_wp2_with fail
            go_meet
            case rel => exact ⟨j + 1, false, false, by omega, by go_num, rfl, Hst, Lib.hid (fun h => by cases h), rfl⟩
        case rest =>
         obtain ⟨j0, low, fr, hj0, rfl, rfl, Hin3, Hfr, rfl⟩ := hcut
         clear Hin2 HB1 HB0
         by_cases hen3 : j0 = n
         · have HNo : Hid (lcode s = 3) := Lib.hid (in2_none Hin3.out (by rw [Hsn.out]; exact hen3))
           have gq : ((j0 : Int) == (n : Int)) = true := by rw [hen3]; simp
           have V := HV0.out
           have r0 := V.c0 0 rfl; have r1 := V.c1 0 rfl; have r2 := V.c2 0 rfl
           have u0 := V.c0 1 rfl; have u1 := V.c1 1 rfl; have u2 := V.c2 1 rfl
           have f0 := V.frozen 1 0 rfl; have f1 := V.frozen 1 1 rfl; have f2 := V.frozen 1 2 rfl
           have HF := Lib.hid (V.fin3 (x := 0) (y := false) 1 1 0 rfl rfl rfl rfl)
           clear V
           go_wp2_with fail
           exact bodyPost_ret (res_ref2 rfl _ _ _ _ _ _ _ _ _ _ (.int .i64 3) rfl rfl HF.out.1) rfl (rl_no HNo.out (by decide) HF.out.2)
         · have gq : ((j0 : Int) == (n : Int)) = false := by simpa using (show ¬ (j0 : Int) = (n : Int) by omega)
           go_wp2_with fail
           go_loop [5, 10] (fun iv ev => ∃ (j E : Nat) (es : List UInt8) (fr : Bool), j ≤ n ∧ iv = .int .i64 (j : Int) ∧ ev = .int .i64 (E : Int) ∧ E ≤ 1000 ∧ Hid (E = min (dv es) 1000) ∧ Hid (In2 s j ng ds es bh low fr) ∧ Hid (fr = true → ∀ b, s.data.toList[j]? = some b → b.toNat ≠ 43 ∧ b.toNat ≠ 45) ∧ Hid (es = [] → j < n)) (fun iv _ => n - (intOf iv).toNat)
           case atStart => exact ⟨j0, 0, [], fr, hj0, rfl, rfl, by omega, Lib.hid rfl, Hin3, Hfr, Lib.hid (fun _ => by omega)⟩
           case round =>
            clear Hin3 Hfr gq hen3 hj0
            obtain ⟨j, E, es, fr, hjn, rfl, rfl, hE1, HE, Hin3, Hfr, Hes⟩ := hrel
            by_cases hend3 : j = n
            · have H3 := Lib.hid (in3_end2 Hin3.out (by rw [Hsn.out]; exact hend3) Hd0.out (fun h => absurd (Hes.out h) (by omega)))
              rw [← HE.out] at H3
              clear HE Hes Hin3 Hfr
              subst hend3
              go_wp2_with fail
              go_meet
              case rel => exact ⟨j, E, low, rfl, rfl, rfl, hE1, H3, rfl⟩
            · have hks : j < s.size := by rw [Hsn.out]; omega
              have hat := toList_at s j hks
              obtain ⟨b, hb⟩ : ∃ b, s[j] = b := ⟨_, rfl⟩
              rw [hb] at hat
              obtain ⟨C, hC⟩ : ∃ C : Int, (b.toNat : Int) = C := ⟨_, rfl⟩
              have hC0 : 0 ≤ C := by omega
              have hC2 : C < 256 := by have := b.toNat_lt; omega
              have HC := Lib.hid hC; have Hat := Lib.hid hat
              have hi1 : ((j : Nat) : Int) < (n : Int) := by omega
              by_cases hdg : 48 ≤ C ∧ C ≤ 57
              · obtain ⟨hg1, hg2⟩ := hdg
                have hl1 : ¬ C < 48 := by omega
                have hl2 : ¬ 57 < C := by omega
                have Hn2 := Lib.hid (in2_dig Hin3.out Hat.out (by have := HC.out; omega) (by have := HC.out; omega))
                obtain ⟨m, hm⟩ : ∃ m : Nat, (m : Int) = (E : Int) * 10 + (C - 48) := ⟨((E : Int) * 10 + (C - 48)).toNat, by omega⟩
                have hm0 : m ≤ 10009 := by omega
                have HE2 : Hid (min m 1000 = min (dv (es ++ [b])) 1000) := Lib.hid (by
                 rw [dv_snoc]
                 have h1 := HE.out; have h2 := HC.out
                 omega)
                have Hes2 : Hid (es ++ [b] = [] → j + 1 < n) := Lib.hid (fun h => absurd h (by simp))
                have hji2 : (j : Int) + 1 ≤ (n : Int) := by omega
                clear HE Hes Hin3 Hfr
                have hmm : (E : Int) * 10 + (C - 48) = (m : Int) := hm.symm
                clear hm
                by_cases hmin : (1000 : Int) < (m : Int)
                · have hm1 : min m 1000 = 1000 := by omega
                  rw [hm1] at HE2
                  go_wp2_with fail
                  go_round
                  case rel => exact ⟨j + 1, 1000, es ++ [b], false, by omega, by go_num, by rw [Int.min_eq_right (by omega)]; rfl, by omega, HE2, Hn2, Lib.hid (fun h => by cases h), Hes2⟩
                  case measure => simp [intOf]; omega
                · have hm1 : min m 1000 = m := by omega
                  rw [hm1] at HE2
                  go_wp2_with fail
                  go_round
                  case rel => exact ⟨j + 1, m, es ++ [b], false, by omega, by go_num, by rw [Int.min_eq_left (by omega)], by omega, HE2, Hn2, Lib.hid (fun h => by cases h), Hes2⟩
                  case measure => simp [intOf]; omega
              · have HNo : Hid (lcode s = 3) := Lib.hid (in2_stop Hin3.out Hat.out (by have := HC.out; omega) (fun h => Hfr.out h b Hat.out))
                clear HE Hes Hin3 Hfr
                by_cases h48 : C < 48
                · clear hdg
                  have V := HV0.out
                  have r0 := V.c0 0 rfl; have r1 := V.c1 0 rfl; have r2 := V.c2 0 rfl
                  have u0 := V.c0 1 rfl; have u1 := V.c1 1 rfl; have u2 := V.c2 1 rfl
                  have f0 := V.frozen 1 0 rfl; have f1 := V.frozen 1 1 rfl; have f2 := V.frozen 1 2 rfl
                  have HF := Lib.hid (V.fin3 (x := 0) (y := false) 1 1 0 rfl rfl rfl rfl)
                  clear V
                  go_wp2_with fail
                  exact bodyPost_ret (res_ref2 rfl _ _ _ _ _ _ _ _ _ _ (.int .i64 3) rfl rfl HF.out.1) rfl (rl_no HNo.out (by decide) HF.out.2)
                · have h57 : 57 < C := by omega
                  clear hdg
                  have V := HV0.out
                  have r0 := V.c0 0 rfl; have r1 := V.c1 0 rfl; have r2 := V.c2 0 rfl
                  have u0 := V.c0 1 rfl; have u1 := V.c1 1 rfl; have u2 := V.c2 1 rfl
                  have f0 := V.frozen 1 0 rfl; have f1 := V.frozen 1 1 rfl; have f2 := V.frozen 1 2 rfl
                  have HF := Lib.hid (V.fin3 (x := 0) (y := false) 1 1 0 rfl rfl rfl rfl)
                  clear V
                  go_wp2_with fail
                  exact bodyPost_ret (res_ref2 rfl _ _ _ _ _ _ _ _ _ _ (.int .i64 3) rfl rfl HF.out.1) rfl (rl_no HNo.out (by decide) HF.out.2)
    case rest =>
     obtain ⟨i2, E, low, rfl, rfl, rfl, hE1, H3, rfl⟩ := hcut
     clear Hin1 He1
     obtain ⟨DS, hDS⟩ : ∃ D, bz ds = D := ⟨_, rfl⟩
     obtain ⟨N, hN⟩ : ∃ N, dv ds = N := ⟨_, rfl⟩
     have hDsz : DS.size = ds.length := by rw [← hDS]; exact bz_size ds
     have HDS : Hid (∃ l, DS = bz l ∧ l ≠ [] ∧ (∀ b ∈ l, isDig b) ∧ dv l = N) := Lib.hid ⟨ds, hDS.symm, Hd0.out, Hds.out, hN⟩
     have hNb : N < 10000 ^ 100 := Nat.lt_trans (by rw [← hN]; exact dv_lt _ ds rfl Hds.out) (ten4 _ 99 (by omega))
     have HNb := Lib.hid hNb
     rw [hN] at H3
     rw [hDS]
     have hD3 : DS.size ≤ 300 := by omega
     have hD4 : ¬ (400 : Int) < (DS.size : Int) := by omega
     clear hNb hN hDS hDsz Hd0 Hds hds0 hq0 hdl
     by_cases hE4 : E ≤ 400
     · have HYes : Hid (lcode s = 0 ∧ litv s = lqn ng N (sgn low E - (bh : Int))) := Lib.hid ⟨by rw [H3.out.code, if_pos hE4], H3.out.val hE4⟩
       have hE5 : ¬ (400 : Int) < (E : Int) := by omega
       clear H3
       go_upto_block 4 with fail
       go_cut [7] (fun dw wx => ∃ T : ByteArray, dw = .string T ∧ T.size ≤ 300 ∧ Hid (WF T ∧ nn T = N) ∧ W0 = wx)
       case first => as_aux_lemma =>
        go_wp2_with fail
        go_loop [7] (fun dw => ∃ T : ByteArray, dw = .string T ∧ T.size ≤ 300 ∧ Hid (∃ l, T = bz l ∧ l ≠ [] ∧ (∀ b ∈ l, isDig b) ∧ dv l = N)) (fun dw => szOf dw)
        case atStart => exact ⟨DS, rfl, hD3, HDS⟩
        case round =>
         clear HDS hD3 hD4
         obtain ⟨T, rfl, hT3, HT⟩ := hrel
         obtain ⟨hT0, hT1, hTb⟩ := strip_facts HT.out
         by_cases h1 : T.size = 1
         · have HW : Hid (WF T ∧ nn T = N) := Lib.hid (hT1 h1)
           have hs1 : ¬ (1 : Int) < (T.size : Int) := by rw [h1]; simp
           clear hT1 hTb hT0 HT h1
           go_wp2_with fail
           go_meet
           case rel => exact ⟨T, rfl, hT3, HW, rfl⟩
         · have hs1 : (1 : Int) < (T.size : Int) := by omega
           have hat := toList_at T 0 hT0
           obtain ⟨x, hx⟩ : ∃ x, T[0] = x := ⟨_, rfl⟩
           rw [hx] at hat
           obtain ⟨C, hC⟩ : ∃ C : Int, (x.toNat : Int) = C := ⟨_, rfl⟩
           have hC0 : 0 ≤ C := by omega
           have hC2 : C < 256 := by have := x.toNat_lt; omega
           obtain ⟨hk1, hk2⟩ := hTb x hat
           by_cases h48 : C = 48
           · have HT2 := Lib.hid (hk1 (by omega) (by omega))
             have hts : (T.extract 1 T.size).size = T.size - 1 := by rw [ByteArray.size_extract]; omega
             have h1s : 1 ≤ T.size := by omega
             clear hT1 hTb HT hat hk1 hk2 h1
             subst h48
             go_wp2_with fail
             go_round
             case rel => exact ⟨_, rfl, by rw [hts]; omega, HT2⟩
             case measure => simp only [szOf, hts]; omega
           · have g48 : (C == 48) = false := by simpa using h48
             have HW := Lib.hid (hk2 (by omega))
             clear hT1 hTb HT hat hk1 hk2 h1
             go_wp2_with fail
             go_meet
             case rel => exact ⟨T, rfl, hT3, HW, rfl⟩
       case rest =>
        obtain ⟨T, rfl, hT3, HW, rfl⟩ := hcut
        clear HDS hD3 hD4
        have hPa := fun W => par_yes T W (by omega) HW.out.1
        rw [HW.out.2] at hPa
        have HPa := Lib.hid hPa
        clear hPa HW
        go_wp2_with fail
        refine (HPa.out _).mono ?_
        rintro e w1 ⟨an, nn, cn, rfl, hn, hb⟩
        have HV1 := Lib.hid ((HV0.out.below hb).cons hn (pow_up 100 900 HNb.out (by omega)))
        clear HV0 HPa hn hb hT3
        obtain ⟨X1, hX1⟩ : ∃ X : Int, sgn low E = X := ⟨_, rfl⟩
        rw [hX1] at HYes
        have HX1 := Lib.hid hX1
        have hX1b : -400 ≤ X1 ∧ X1 ≤ 400 := by rw [← hX1]; unfold sgn; split <;> omega
        obtain ⟨hXa, hXb⟩ := hX1b
        clear hX1
        go_upto_if 178 with fail
        go_cut [10] (fun ev wx => ev = .int .i64 X1 ∧ w1 = wx)
        case first => as_aux_lemma =>
         cases low with
         | false =>
          have hx : (E : Int) = X1 := by rw [← HX1.out]; rfl
          go_wp2_with fail
          go_meet
          case rel => exact ⟨by rw [hx], rfl⟩
         | true =>
          have hx : -(E : Int) = X1 := by rw [← HX1.out]; rfl
          go_wp2_with fail
          go_meet
          case rel => exact ⟨by first | rfl | rw [hx], rfl⟩
        case rest =>
         obtain ⟨rfl, rfl⟩ := hcut
         obtain ⟨X, hX⟩ : ∃ X : Int, X1 - (bh : Int) = X := ⟨_, rfl⟩
         rw [hX] at HYes
         have hXc : -700 ≤ X := by omega
         have hXd : X ≤ 400 := by omega
         obtain ⟨P, hP⟩ : ∃ P : Nat, (if 0 ≤ X then X.toNat else (-X).toNat) = P := ⟨_, rfl⟩
         have hP7 : P ≤ 700 := by rw [← hP]; split <;> omega
         have hPX : (0 ≤ X ∧ X = (P : Int)) ∨ (X < 0 ∧ X = -(P : Int)) := by
          by_cases h : 0 ≤ X
          · left; rw [if_pos h] at hP; omega
          · right; rw [if_neg h] at hP; omega
         have hten : ∀ k, k ≤ P → 10 ^ k < 10000 ^ 200 := fun k hk => ten4 k 199 (by omega)
         have Hten := Lib.hid hten
         have HV2 := HV1.out.lit1
         have HVL := Lib.hid HV2
         have HVn := Lib.hid (HV2.num 0 _ _ rfl).1
         clear HX1 hP hten HV2
         go_upto_block 6 with fail
         go_cut [14, 15] (fun tv kv wx => ∃ (a : Option Addr) (m c : Nat), tv = .slice a m c ∧ kv = .int .i64 0 ∧ Hid (RN wx (.slice a m c) (10 ^ P)) ∧ Hid (Dq w [(w.heap.size + 1 + 1, 34, #[.bool false, .slice none 0 0, .slice (some ⟨w.heap.size + 1, 0, none⟩) 1 1]), (w.heap.size, 34, #[.bool false, .slice none 0 0, .slice none 0 0])] ((.slice an nn cn, N) :: [(.slice (some ⟨w.heap.size + 1, 0, none⟩) 1 1, 1), ((.slice none 0 0 : Value), 0)]) [] [] wx))
         case first => as_aux_lemma =>
          go_wp2_with fail
          go_loopw [14, 15] (fun tv kv wx => ∃ (j : Nat) (K : Int) (a : Option Addr) (m c : Nat), j ≤ P ∧ tv = .slice a m c ∧ kv = .int .i64 K ∧ ((0 ≤ X ∧ K = (P : Int) - j) ∨ (X < 0 ∧ K = (j : Int) - P)) ∧ Hid (RN wx (.slice a m c) (10 ^ j)) ∧ Hid (Dq w [(w.heap.size + 1 + 1, 34, #[.bool false, .slice none 0 0, .slice (some ⟨w.heap.size + 1, 0, none⟩) 1 1]), (w.heap.size, 34, #[.bool false, .slice none 0 0, .slice none 0 0])] ((.slice an nn cn, N) :: [(.slice (some ⟨w.heap.size + 1, 0, none⟩) 1 1, 1), ((.slice none 0 0 : Value), 0)]) [] [] wx)) (fun _ kv _ => (intOf kv).natAbs)
          case atStart => exact ⟨0, X, _, _, _, by omega, rfl, rfl, by omega, HVn, Lib.hid HVL.out.tl⟩
          case round =>
           clear HVL HVn HV1
           obtain ⟨j, K, a, m, c, hj, rfl, rfl, hK, hv, hV⟩ := hrel
           by_cases h0 : K = 0
           · obtain rfl : j = P := by omega
             subst h0
             go_wp2_with fail
             go_meet
             case rel => exact ⟨a, m, c, rfl, rfl, hv, hV⟩
           · have g0 : (K == 0) = false := by simpa using h0
             have hjP : j + 1 ≤ P := by omega
             have HMl := Lib.hid (mul_lit (10 ^ j) 10 _ wr hv.out (pow_up 200 9000 (Hten.out j (by omega)) (by omega)) (by omega))
             clear hv
             by_cases hpos : 0 < K
             · go_wp2_with fail
               refine HMl.out.mono ?_
               rintro e w5 ⟨v5, rfl, hr5, hb⟩
               have HR5 : Hid (RN w5 v5 (10 ^ (j + 1))) := Lib.hid (by rw [Nat.pow_succ]; exact hr5)
               have HV5 := Lib.hid (hV.out.below hb)
               obtain ⟨a5, n5, c5, rfl, -, -⟩ := rn_form hr5
               clear hr5 hb HMl hV
               go_wp2_with fail
               go_roundw
               case rel => exact ⟨j + 1, K - 1, a5, n5, c5, hjP, rfl, by go_num, by omega, HR5, HV5⟩
               case measure => simp [intOf]; omega
             · go_wp2_with fail
               refine HMl.out.mono ?_
               rintro e w5 ⟨v5, rfl, hr5, hb⟩
               have HR5 : Hid (RN w5 v5 (10 ^ (j + 1))) := Lib.hid (by rw [Nat.pow_succ]; exact hr5)
               have HV5 := Lib.hid (hV.out.below hb)
               obtain ⟨a5, n5, c5, rfl, -, -⟩ := rn_form hr5
               clear hr5 hb HMl hV
               go_wp2_with fail
               go_roundw
               case rel => exact ⟨j + 1, K + 1, a5, n5, c5, hjP, rfl, by go_num, by omega, HR5, HV5⟩
               case measure => simp [intOf]; omega
         case rest =>
          obtain ⟨a, m, c, rfl, rfl, hv, hV⟩ := hcut
          clear HVL HVn HV1
          have V3 := hV.out.cons hv.out (pow_up 200 900 (Hten.out _ (Nat.le_refl _)) (by omega))
          clear hV hv
          by_cases hpos : 0 ≤ X
          · obtain rfl : X = (P : Int) := by omega
            have hVal : litv s = mkRat (sgn ng (N * 10 ^ P)) 1 := by
             rw [HYes.out.2]
             unfold lqn
             rw [if_pos hpos]
             rfl
            have hN9 : N * 10 ^ P < 10000 ^ 900 := pow_up (100 + 200) 900 (d_mul HNb.out (Hten.out _ (Nat.le_refl _))) (by omega)
            obtain ⟨Q, hQ⟩ : ∃ Q, litv s = Q := ⟨_, rfl⟩
            have HMk : Hid (∀ W va vb, RN W va (N * 10 ^ P) → RN W vb 1 → Calls Tryz.prog 26 #[.bool ng, va, vb] W (GaveQ Q W)) := Lib.hid (fun W va vb h1 h2 => rmake_any Q ng _ 1 va vb W h1 h2 hN9 (d_pos 900 (by omega) (by omega)) (by omega) (by rw [← hQ]; exact hVal))
            have HEnd : Hid (lcode s = 0 ∧ litv s = Q) := Lib.hid ⟨HYes.out.1, hQ⟩
            have HN9 := Lib.hid hN9
            clear hVal hN9 hQ HYes Hten
            go_wp2_with fail
            refine (V3.mul 1 0 rfl rfl ⟨rfl, HN9.out⟩).mono ?_
            rintro E w6 ⟨x6, y6, z6, rfl, V6⟩
            clear V3
            have V7 := V6.lit1
            clear V6
            go_wp2_with fail
            refine (HMk.out _ _ _ (V7.num 1 _ _ rfl).1 (V7.num 0 _ _ rfl).1).mono ?_
            rintro E w8 ⟨v8, rfl, hq, hb⟩
            have V8 := (V7.below hb).qcons hq
            clear V7
            obtain ⟨xa, ya, za, xb, yb, zb, rfl, -, -⟩ := hq
            obtain ⟨sg, hsg⟩ : ∃ y, decide (Q.num < 0) = y := ⟨_, rfl⟩
            rw [hsg] at V8 ⊢
            have HF := Lib.hid (V8.finq 1 0 rfl rfl)
            have r0 := V8.c0 1 rfl; have r1 := V8.c1 1 rfl; have r2 := V8.c2 1 rfl
            have f0 := V8.frozen 1 0 rfl; have f1 := V8.frozen 1 1 rfl; have f2 := V8.frozen 1 2 rfl
            clear V8 hsg hb
            go_wp2_with fail
            exact bodyPost_ret (res_ref2 rfl _ _ _ _ _ _ _ _ _ _ (.int .i64 0) rfl rfl HF.out.1) rfl (rl_yes HEnd.out.1 HEnd.out.2 HF.out.2)
          · obtain rfl : X = -(P : Int) := by omega
            have hVal : litv s = mkRat (sgn ng N) (10 ^ P) := by
             rw [HYes.out.2]
             unfold lqn
             rw [if_neg hpos, show (- -(P : Int)).toNat = P by omega]
            obtain ⟨Q, hQ⟩ : ∃ Q, litv s = Q := ⟨_, rfl⟩
            have HMk : Hid (∀ W va vb, RN W va N → RN W vb (10 ^ P) → Calls Tryz.prog 26 #[.bool ng, va, vb] W (GaveQ Q W)) := Lib.hid (fun W va vb h1 h2 => rmake_any Q ng _ _ va vb W h1 h2 (pow_up 100 900 HNb.out (by omega)) (pow_up 200 900 (Hten.out _ (Nat.le_refl _)) (by omega)) (Nat.pow_pos (by omega)) (by rw [← hQ]; exact hVal))
            have HEnd : Hid (lcode s = 0 ∧ litv s = Q) := Lib.hid ⟨HYes.out.1, hQ⟩
            clear hVal hQ HYes Hten
            go_wp2_with fail
            refine (HMk.out _ _ _ (V3.num 1 _ _ rfl).1 (V3.num 0 _ _ rfl).1).mono ?_
            rintro E w8 ⟨v8, rfl, hq, hb⟩
            have V8 := (V3.below hb).qcons hq
            clear V3
            obtain ⟨xa, ya, za, xb, yb, zb, rfl, -, -⟩ := hq
            obtain ⟨sg, hsg⟩ : ∃ y, decide (Q.num < 0) = y := ⟨_, rfl⟩
            rw [hsg] at V8 ⊢
            have HF := Lib.hid (V8.finq 1 0 rfl rfl)
            have r0 := V8.c0 1 rfl; have r1 := V8.c1 1 rfl; have r2 := V8.c2 1 rfl
            have f0 := V8.frozen 1 0 rfl; have f1 := V8.frozen 1 1 rfl; have f2 := V8.frozen 1 2 rfl
            clear V8 hsg hb
            go_wp2_with fail
            exact bodyPost_ret (res_ref2 rfl _ _ _ _ _ _ _ _ _ _ (.int .i64 0) rfl rfl HF.out.1) rfl (rl_yes HEnd.out.1 HEnd.out.2 HF.out.2)
     · have HNo : Hid (lcode s = 2) := Lib.hid (by rw [H3.out.code, if_neg hE4])
       have hE5 : (400 : Int) < (E : Int) := by omega
       clear H3
       have V := HV0.out
       have r0 := V.c0 0 rfl; have r1 := V.c1 0 rfl; have r2 := V.c2 0 rfl
       have u0 := V.c0 1 rfl; have u1 := V.c1 1 rfl; have u2 := V.c2 1 rfl
       have f0 := V.frozen 1 0 rfl; have f1 := V.frozen 1 1 rfl; have f2 := V.frozen 1 2 rfl
       have HF := Lib.hid (V.fin3 (x := 0) (y := false) 1 1 0 rfl rfl rfl rfl)
       clear V
       go_wp2_with fail
       exact bodyPost_ret (res_ref2 rfl _ _ _ _ _ _ _ _ _ _ (.int .i64 2) rfl rfl HF.out.1) rfl (rl_no HNo.out (by decide) HF.out.2)
end Go.Proofs.YtggmnmmjmihnfaaGreatDoor
