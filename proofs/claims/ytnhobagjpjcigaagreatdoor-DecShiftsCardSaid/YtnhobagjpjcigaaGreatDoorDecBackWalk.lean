/-
 The walk of DecBack: for every input it returns true, and leaves what lay in memory as it was.
-/
import Derived.Test.YtnhobagjpjcigaaGreatDoorDAlive
import Derived.Test.YtnhobagjpjcigaaGreatDoorDBackM
namespace Go.Proofs.YtnhobagjpjcigaaGreatDoor
open Go.RowKit
set_option linter.unusedVariables false
theorem bz_of {T : ByteArray} {l : List UInt8} (h : T.data.toList = l) : T = bz l := by
 subst h
 unfold bz
 simp
theorem bz_toList (l : List UInt8) : (bz l).data.toList = l := by unfold bz; simp
theorem appd_list (A B : ByteArray) : (A ++ B).data.toList = A.data.toList ++ B.data.toList := by
 simp only [ByteArray.data_append, Array.toList_append]
theorem lit_rst (n e : Int) (k : Nat) (h : -(k : Int) ≤ e) : rst (q10 n e).den = 1 ∧ plc (q10 n e).den ≤ k := by
 have hd := q10_den n e k h
 have h10 : 10 ^ k = 2 ^ k * 5 ^ k := by rw [← Nat.mul_pow]
 obtain ⟨f1, f2, f3⟩ := fin_parts (by rw [← h10]; exact hd)
 refine ⟨f1, ?_⟩
 unfold plc
 exact Nat.max_le.2 ⟨f2, f3⟩
theorem lit_num (n e : Int) (a c k : Nat) (hn : n.natAbs < 10 ^ a) (he : e ≤ c) (hk : a + c < 19 * k) : (q10 n e).num.natAbs < 18446744073709551616 ^ k := Nat.lt_trans (q10_num n e a c hn he) (ten_lt hk)
theorem lit_den (n e : Int) (b k : Nat) (he : -(b : Int) ≤ e) (hk : b < 19 * k) : (q10 n e).den < 18446744073709551616 ^ k := Nat.lt_of_le_of_lt (q10_denle n e b he) (ten_lt hk)
/-- The sizes of what a literal of at most 150 bytes says. -/
theorem lit_sz (s : ByteArray) (hs : s.size ≤ 150) (h0 : lcode s = 0) : Sz 35 (litv s) ∧ rst (litv s).den = 1 ∧ plc (litv s).den ≤ 550 := by
 obtain ⟨k1, k2, k3, k4⟩ := lcut_k s
 have hv : litv s = q10 (sgn (lcut s).1.neg (dv (lcut s).1.ds)) (lexp (lcut s).1) := by unfold litv; rw [if_pos h0, litQ_q10]
 have he : dv (lcut s).1.es ≤ 400 := by
  unfold lcode at h0
  split at h0
  · split at h0
    · assumption
    · cases h0
  · cases h0
 have hx : -(550 : Int) ≤ lexp (lcut s).1 ∧ lexp (lcut s).1 ≤ 400 := by
  unfold lexp sgn
  split <;> omega
 have hn : (sgn (lcut s).1.neg (dv (lcut s).1.ds)).natAbs < 10 ^ 150 := by
  rw [sgn_ab]
  exact Nat.lt_of_lt_of_le (dv_lt _ _ rfl k4.ds) (Nat.pow_le_pow_right (by decide) (by omega))
 rw [hv]
 generalize sgn (lcut s).1.neg (dv (lcut s).1.ds) = n at *
 generalize lexp (lcut s).1 = e at *
 exact ⟨⟨w_up (lit_num n e 150 400 35 hn (by omega) (by omega)) (by omega), lit_den n e 550 35 (by omega) (by omega)⟩, lit_rst n e 550 (by omega)⟩
set_option maxRecDepth 100000 in
set_option maxHeartbeats 8000000 in
theorem decBack.early (s : ByteArray) (n : Int) (w : World) (htab : Tab w) (htb : TabB w) (h : 150 < s.size ∨ n < 0 ∨ 40 < n) :
 Calls Tryz.prog 4 #[.string s, .int .i64 n] w fun e w' => e = .returned (.bool true) ∧ Below w.heap.size w w' := by
 have HAl := Lib.hid (alive_d w htab htb)
 clear htab htb
 obtain ⟨S, hS⟩ : ∃ S, s.size = S := ⟨_, rfl⟩
 rw [hS] at h
 by_cases hk : 150 < S
 · have g1 : (150 : Int) < (S : Int) := by omega
   clear h
   go_enter Tryz.func4, Tryz.ntmps4
   go_wp2_with fail
   refine HAl.out.mono ?_
   rintro e w1 ⟨rfl, hb⟩
   have HB := Lib.hid hb
   clear hb HAl
   go_wp2_with fail
   go_ret
   exact ⟨rfl, HB.out⟩
 have g1 : ¬ (150 : Int) < (S : Int) := by omega
 have k1 := hk
 clear hk
 by_cases hk : n < 0
 · have g2 : decide (n < 0) = true := decide_eq_true hk
   clear h
   go_enter Tryz.func4, Tryz.ntmps4
   go_wp2_with fail
   refine HAl.out.mono ?_
   rintro e w1 ⟨rfl, hb⟩
   have HB := Lib.hid hb
   clear hb HAl
   go_wp2_with fail
   go_ret
   exact ⟨rfl, HB.out⟩
 have g2 : decide (n < 0) = false := decide_eq_false hk
 have k2 := hk
 clear hk
 have hk : 40 < n := by omega
 have g3 : decide (40 < n) = true := decide_eq_true hk
 clear h
 go_enter Tryz.func4, Tryz.ntmps4
 go_wp2_with fail
 refine HAl.out.mono ?_
 rintro e w1 ⟨rfl, hb⟩
 have HB := Lib.hid hb
 clear hb HAl
 go_wp2_with fail
 go_ret
 exact ⟨rfl, HB.out⟩
set_option maxRecDepth 100000 in
set_option maxHeartbeats 8000000 in
theorem decBack.no (s : ByteArray) (n : Nat) (w : World) (htab : Tab w) (htb : TabB w) (hs : s.size ≤ 150) (hn : n ≤ 40) (h0 : lcode s ≠ 0) :
 Calls Tryz.prog 4 #[.string s, .int .i64 (n : Int)] w fun e w' => e = .returned (.bool true) ∧ Below w.heap.size w w' := by
 have HAl := Lib.hid (alive_d w htab htb)
 have hv0 : litv s = 0 := by unfold litv; rw [if_neg h0]
 have HP : Hid (∀ W, Below w.heap.size w W → Calls Tryz.prog 11 #[.string s] W fun e w' => ∃ v, e = .returned (.tuple #[v, .int .i64 (lcode s)]) ∧ IsR w' v 0 ∧ Below W.heap.size W w') := Lib.hid (fun W hB => by
  have h := dparse_any s W (by omega) (fun h => by have := (lcut_k s).1; omega) (htab.below hB (Nat.le_refl _)) (htb.below hB (Nat.le_refl _))
  unfold LitIs at h
  rw [hv0] at h
  exact h)
 have HTx : Hid (∀ W v, Below w.heap.size w W → IsR W v 0 → Calls Tryz.prog 13 #[v] W fun e w' => e = .returned (.string ⟨#[48]⟩) ∧ Below W.heap.size W w') := Lib.hid (fun W v hB h => by
  have e1 : tx 0 = ⟨#[48]⟩ := by decide +kernel
  have h2 := text_r 0 v W h ⟨Nat.pow_pos (by decide), Nat.one_lt_pow (by decide) (by decide)⟩ (htab.below hB (Nat.le_refl _))
  rw [e1] at h2
  exact h2)
 obtain ⟨C, hC⟩ : ∃ C, lcode s = C := ⟨_, rfl⟩
 rw [hC] at HP h0
 have hc0 : (C == 0) = false := by simpa using h0
 obtain ⟨S, hS⟩ : ∃ S, s.size = S := ⟨_, rfl⟩
 have g1 : ¬ (150 : Int) < (S : Int) := by omega
 have g2 : ¬ (n : Int) < 0 := by omega
 have g3 : ¬ (40 : Int) < (n : Int) := by omega
 obtain ⟨X, hX⟩ : ∃ X : Rat, 0 = X := ⟨_, rfl⟩
 rw [hX] at HP HTx
 clear htab htb hv0 hC hX hs hn
 go_enter Tryz.func4, Tryz.ntmps4
 go_wp2_with fail
 refine HAl.out.mono ?_
 rintro e w0 ⟨rfl, hb⟩
 have V0 := (Mq.refl w).below hb
 clear hb HAl
 go_wp2_with fail
 refine (HP.out _ V0.bel).mono ?_
 rintro e w1 ⟨v, rfl, hr, hb⟩
 have V1' := (V0.below hb).rcons hr
 obtain ⟨p, q, c, p', q', c', rfl, -, -⟩ := hr
 obtain ⟨z, hz⟩ : ∃ z, decide (X.num < 0) = z := ⟨_, rfl⟩
 rw [hz] at V1' ⊢
 have V1 := V1'.alloc 27 #[.bool z, .slice p q c, .slice p' q' c']
 have a0 := V1.c0 0 rfl; have a1 := V1.c1 0 rfl; have a2 := V1.c2 0 rfl
 clear V1' hb hz HP V0
 go_wp2_with fail
 refine (HTx.out _ _ V1.bel (V1.rat 0 _ _ rfl)).mono ?_
 rintro e w2 ⟨rfl, hb⟩
 have HB := Lib.hid (V1.below hb).bel
 clear V1 hb a0 a1 a2 HTx
 go_wp2_with fail
 go_ret
 exact ⟨rfl, HB.out⟩
set_option maxRecDepth 100000 in
set_option maxHeartbeats 8000000 in
theorem decBack.yes (s : ByteArray) (n : Nat) (w : World) (htab : Tab w) (htb : TabB w) (hs : s.size ≤ 150) (hn : n ≤ 40) (h0 : lcode s = 0) :
 Calls Tryz.prog 4 #[.string s, .int .i64 (n : Int)] w fun e w' => e = .returned (.bool true) ∧ Below w.heap.size w w' := by
 have HAl := Lib.hid (alive_d w htab htb)
 obtain ⟨z1, z2, z3⟩ := lit_sz s hs h0
 obtain ⟨X, hX⟩ : ∃ X : Rat, litv s = X := ⟨_, rfl⟩
 have HTA : Hid (∀ W, Below w.heap.size w W → Tab W ∧ TabB W) := Lib.hid (fun W hB => ⟨htab.below hB (Nat.le_refl _), htb.below hB (Nat.le_refl _)⟩)
 have HP : Hid (∀ W, Below w.heap.size w W → Calls Tryz.prog 11 #[.string s] W fun e w' => ∃ v, e = .returned (.tuple #[v, .int .i64 0]) ∧ IsR w' v X ∧ Below W.heap.size W w') := Lib.hid (fun W hB => by
  have h := dparse_any s W (by omega) (fun h => by have := (lcut_k s).1; omega) (HTA.out W hB).1 (HTA.out W hB).2
  unfold LitIs at h
  rw [h0, hX] at h
  exact h)
 rw [hX] at z1 z2 z3
 have HTx : Hid (∀ W v, Below w.heap.size w W → IsR W v X → Calls Tryz.prog 19 #[v] W fun e w' => e = .returned (.tuple #[.string (ltx X), .int .i64 0]) ∧ Below W.heap.size W w') := Lib.hid (fun W v hB h => dtext_some X v W h z1 z2 (by omega) (HTA.out W hB).1)
 have HSm : Hid (∀ W va vb, IsR W va X → IsR W vb X → Calls Tryz.prog 22 #[va, vb] W fun e w' => e = .returned (.bool true) ∧ Below W.heap.size W w') := Lib.hid (fun W va vb h1 h2 => by
  have h := same_any X X va vb W h1 h2 (z1.mono (by omega)) (z1.mono (by omega))
  rw [decide_eq_true rfl] at h
  exact h)
 obtain ⟨L, hL⟩ : ∃ L, ltx X = L := ⟨_, rfl⟩
 have HP2 : Hid (L.size ≤ 300 → ∀ W, Below w.heap.size w W → Calls Tryz.prog 11 #[.string L] W fun e w' => ∃ v, e = .returned (.tuple #[v, .int .i64 0]) ∧ IsR w' v X ∧ Below W.heap.size W w') := Lib.hid (fun hl W hB => by
  obtain ⟨t1, t2, t3⟩ := lit_told X z2
  rw [hL] at t1 t2 t3
  have h := dparse_any L W (by omega) (fun h => by have := (lcut_k L).1; rw [t3]; have e0 : dv [] = 0 := rfl; omega) (HTA.out W hB).1 (HTA.out W hB).2
  unfold LitIs at h
  rw [t1, t2] at h
  exact h)
 have HP3 : Hid (L.size ≤ 300 → ∀ T W, T.data.toList = lnt X n → Below w.heap.size w W → Calls Tryz.prog 11 #[.string T] W fun e w' => ∃ v, e = .returned (.tuple #[v, .int .i64 0]) ∧ IsR w' v X ∧ Below W.heap.size W w') := Lib.hid (fun hl T W hT hB => by
  obtain ⟨t1, t2, t3⟩ := lit_noughts X n z2
  have hlen := lnt_length X n
  rw [hL] at hlen
  have hls : L.data.toList.length = L.size := by show _ = L.data.size; simp
  have e1 := bz_of hT
  have hsz : (bz (lnt X n)).size ≤ 341 := by rw [bz_size]; omega
  rw [e1]
  have h := dparse_any (bz (lnt X n)) W (by omega) (fun h => by have := (lcut_k (bz (lnt X n))).1; rw [t3]; have e0 : dv [] = 0 := rfl; omega) (HTA.out W hB).1 (HTA.out W hB).2
  unfold LitIs at h
  rw [t1, t2] at h
  exact h)
 rw [hL] at HTx
 have HLn : Hid (lnt X n = L.data.toList ++ ((if 46 ∈ L.data.toList then [] else [46]) ++ List.replicate n 48)) := Lib.hid (by unfold lnt; rw [hL])
 obtain ⟨S, hS⟩ : ∃ S, s.size = S := ⟨_, rfl⟩
 have g1 : ¬ (150 : Int) < (S : Int) := by omega
 have g2 : ¬ (n : Int) < 0 := by omega
 have g3 : ¬ (40 : Int) < (n : Int) := by omega
 obtain ⟨LN, hLN⟩ : ∃ l, lnt X n = l := ⟨_, rfl⟩
 rw [hLN] at HP3 HLn
 clear htab htb h0 hs z1 z2 z3 hX hL hLN HTA
 go_enter Tryz.func4, Tryz.ntmps4
 go_wp2_with fail
 refine HAl.out.mono ?_
 rintro e w0 ⟨rfl, hb⟩
 have V0 := (Mq.refl w).below hb
 clear hb HAl
 go_wp2_with fail
 refine (HP.out _ V0.bel).mono ?_
 rintro e w1 ⟨v, rfl, hr, hb⟩
 have V1' := (V0.below hb).rcons hr
 obtain ⟨p, q, c, p', q', c', rfl, -, -⟩ := hr
 obtain ⟨z, hz⟩ : ∃ z, decide (X.num < 0) = z := ⟨_, rfl⟩
 rw [hz] at V1' ⊢
 have V1 := V1'.alloc 27 #[.bool z, .slice p q c, .slice p' q' c']
 have a0 := V1.c0 0 rfl; have a1 := V1.c1 0 rfl; have a2 := V1.c2 0 rfl
 clear V1' hb HP V0
 go_wp2_with fail
 refine (HTx.out _ _ V1.bel (V1.rat 0 _ _ rfl)).mono ?_
 rintro e w2 ⟨rfl, hb⟩
 have V2 := V1.below hb
 clear V1 hb a0 a1 a2 HTx
 by_cases hl : 300 < L.size
 · have g4 : (300 : Int) < (L.size : Int) := by omega
   have HB := Lib.hid V2.bel
   clear V2
   go_wp2_with fail
   go_ret
   exact ⟨rfl, HB.out⟩
 have g4 : ¬ (300 : Int) < (L.size : Int) := by omega
 have HPb := Lib.hid (HP2.out (by omega))
 have HPc := Lib.hid (HP3.out (by omega))
 clear HP2 HP3
 go_wp2_with fail
 refine (HPb.out _ V2.bel).mono ?_
 rintro e w3 ⟨v, rfl, hr, hb⟩
 have V3' := (V2.below hb).rcons hr
 obtain ⟨p2, q2, c2, p2', q2', c2', rfl, -, -⟩ := hr
 rw [hz] at V3' ⊢
 have V3 := V3'.alloc 27 #[.bool z, .slice p2 q2 c2, .slice p2' q2' c2']
 clear V3' hb HPb V2
 have HV3 := Lib.hid V3
 have Hz := Lib.hid hz
 clear V3 hz
 obtain ⟨m, hm⟩ : ∃ m, L.size = m := ⟨_, rfl⟩
 have hml : Hid (L.data.toList.length = m) := Lib.hid (by rw [← hm]; show _ = L.data.size; simp)
 have hm300 : m ≤ 300 := by omega
 clear hl g4
 go_wp2_with fail
 go_loop [11, 12] (fun v i => ∃ k : Nat, k ≤ m ∧ i = .int .i64 (k : Int) ∧ v = .bool (decide (46 ∈ L.data.toList.take k))) (fun _ i => m - (intOf i).toNat)
 case atStart => exact ⟨0, by omega, rfl, by simp⟩
 case round =>
  obtain ⟨k, hk, rfl, rfl⟩ := hrel
  by_cases hlt : k < m
  · have hks : k < L.size := by omega
    have hat := toList_at L k hks
    obtain ⟨b, hb⟩ : ∃ b, L[k] = b := ⟨_, rfl⟩
    rw [hb] at hat
    have htk : L.data.toList.take (k + 1) = L.data.toList.take k ++ [b] := by rw [List.take_add_one, hat]; rfl
    obtain ⟨C, hC⟩ : ∃ C : Int, (b.toNat : Int) = C := ⟨_, rfl⟩
    have hbC : (C == 46) = decide (b = 46) := by
     rw [← hC]
     have : b = 46 ↔ (b.toNat : Int) = 46 := by rw [← UInt8.toNat_inj]; show b.toNat = 46 ↔ _; omega
     simp only [this]
     rfl
    obtain ⟨y, hy⟩ : ∃ y, decide (b = 46) = y := ⟨_, rfl⟩
    rw [hy] at hbC
    obtain ⟨o, ho⟩ : ∃ o, decide (46 ∈ L.data.toList.take k) = o := ⟨_, rfl⟩
    rw [ho]
    have hnext : Hid (decide (46 ∈ L.data.toList.take (k + 1)) = (o || y)) := Lib.hid (by
     rw [htk, ← ho, ← hy]
     simp only [List.mem_append, List.mem_singleton, Bool.decide_or]
     congr 1
     exact decide_eq_decide.2 eq_comm)
    have hi0 : (0 : Int) ≤ (k : Int) := by omega
    have hi1 : (k : Int) < (m : Int) := by omega
    clear ho hy htk
    cases o with
    | true =>
     go_wp2_with fail
     go_round
     case rel => exact ⟨k + 1, by omega, by go_num, by rw [hnext.out]; rfl⟩
     case measure => simp [intOf]; omega
    | false =>
     go_wp2_with fail
     go_round
     case rel => exact ⟨k + 1, by omega, by go_num, by rw [hnext.out]; rfl⟩
     case measure => simp [intOf]; omega
  · obtain rfl : k = m := by omega
    rw [List.take_of_length_le (by rw [hml.out]; exact Nat.le_refl _)]
    have hLs9 : ¬ (9223372036854775807 : Int) < (k : Int) + 1 := by omega
    have hLs8 : ¬ (9223372036854775807 : Int) < 1 + (k : Int) := by omega
    have hout : ∀ (T0 : ByteArray), T0.size ≤ 301 → T0.data.toList = L.data.toList ++ (if 46 ∈ L.data.toList then [] else [46]) → Hid (T0.size ≤ 301 ∧ LN = T0.data.toList ++ List.replicate n 48) := fun T0 h1 h2 => Lib.hid ⟨h1, by rw [HLn.out, h2, List.append_assoc]⟩
    have Hout := Lib.hid hout
    clear hout HLn
    by_cases hpt : 46 ∈ L.data.toList
    · rw [decide_eq_true hpt]
      have HT0 := Hout.out L (by omega) (by rw [if_pos hpt, List.append_nil])
      clear Hout hpt
      go_wp2_with fail
      go_loop [7, 13] (fun t i => ∃ (j : Nat) (T : ByteArray), j ≤ n ∧ i = .int .i64 (j : Int) ∧ t = .string T ∧ Hid (T.size ≤ 301 + j ∧ T.data.toList = L.data.toList ++ List.replicate j 48)) (fun _ i => n - (intOf i).toNat)
      case atStart => exact ⟨0, L, by omega, rfl, by first | rfl | rw [hT0], Lib.hid ⟨HT0.out.1, by simp⟩⟩
      case round =>
       obtain ⟨j, T, hj, rfl, rfl, hT⟩ := hrel
       by_cases hlt2 : j < n
       · have hTs : ¬ (9223372036854775807 : Int) < 1 + (T.size : Int) := by have := hT.out.1; omega
         have hTs2 : ¬ (9223372036854775807 : Int) < (T.size : Int) + 1 := by have := hT.out.1; omega
         have hj1 : (j : Int) < (n : Int) := by omega
         have hnew : Hid ((T ++ ⟨#[48]⟩).size ≤ 301 + (j + 1) ∧ (T ++ ⟨#[48]⟩).data.toList = L.data.toList ++ List.replicate (j + 1) 48) := Lib.hid ⟨by rw [ByteArray.size_append]; have := hT.out.1; show T.size + 1 ≤ _; omega, by rw [appd_list, hT.out.2, List.append_assoc, List.replicate_succ']⟩
         clear hT
         go_wp2_with fail
         go_round
         case rel => exact ⟨j + 1, _, by omega, by go_num, rfl, hnew⟩
         case measure => simp [intOf]; omega
       · obtain rfl : j = n := by omega
         have HTe : Hid (T.data.toList = LN) := Lib.hid (by rw [hT.out.2, HT0.out.2])
         clear hT HT0 hlt2
         have V3 := HV3.out
         go_wp2_with fail
         refine (HPc.out T _ HTe.out V3.bel).mono ?_
         rintro e w4 ⟨v, rfl, hr, hb⟩
         have V4' := (V3.below hb).rcons hr
         obtain ⟨p3, q3, c3, p3', q3', c3', rfl, -, -⟩ := hr
         rw [Hz.out] at V4' ⊢
         have V4 := V4'.alloc 27 #[.bool z, .slice p3 q3 c3, .slice p3' q3' c3']
         have a0 := V4.c0 2 rfl; have a1 := V4.c1 2 rfl; have a2 := V4.c2 2 rfl
         have b0 := V4.c0 1 rfl; have b1 := V4.c1 1 rfl; have b2 := V4.c2 1 rfl
         clear V3 V4' hb HPc HV3
         go_wp2_with fail
         refine (HSm.out _ _ _ (V4.rat 1 _ _ rfl) (V4.rat 2 _ _ rfl)).mono ?_
         rintro e w5 ⟨rfl, hb⟩
         have V5 := V4.below hb
         clear V4 hb a0 a1 a2 b0 b1 b2
         have a0 := V5.c0 2 rfl; have a1 := V5.c1 2 rfl; have a2 := V5.c2 2 rfl
         have b0 := V5.c0 0 rfl; have b1 := V5.c1 0 rfl; have b2 := V5.c2 0 rfl
         go_wp2_with fail
         refine (HSm.out _ _ _ (V5.rat 0 _ _ rfl) (V5.rat 2 _ _ rfl)).mono ?_
         rintro e w6 ⟨rfl, hb⟩
         have HB := Lib.hid (V5.below hb).bel
         clear V5 hb a0 a1 a2 b0 b1 b2
         go_wp2_with fail
         go_ret
         exact ⟨rfl, HB.out⟩
    · rw [decide_eq_false hpt]
      have HT0 := Hout.out (L ++ ⟨#[46]⟩) (by rw [ByteArray.size_append]; show L.size + 1 ≤ 301; omega) (by rw [if_neg hpt, appd_list])
      clear Hout hpt
      obtain ⟨T0, hT0⟩ : ∃ T0, L ++ ⟨#[46]⟩ = T0 := ⟨_, rfl⟩
      rw [hT0] at HT0
      go_wp2_with fail
      go_loop [7, 13] (fun t i => ∃ (j : Nat) (T : ByteArray), j ≤ n ∧ i = .int .i64 (j : Int) ∧ t = .string T ∧ Hid (T.size ≤ 301 + j ∧ T.data.toList = T0.data.toList ++ List.replicate j 48)) (fun _ i => n - (intOf i).toNat)
      case atStart => exact ⟨0, T0, by omega, rfl, by first | rfl | rw [hT0], Lib.hid ⟨HT0.out.1, by simp⟩⟩
      case round =>
       obtain ⟨j, T, hj, rfl, rfl, hT⟩ := hrel
       by_cases hlt2 : j < n
       · have hTs : ¬ (9223372036854775807 : Int) < 1 + (T.size : Int) := by have := hT.out.1; omega
         have hTs2 : ¬ (9223372036854775807 : Int) < (T.size : Int) + 1 := by have := hT.out.1; omega
         have hj1 : (j : Int) < (n : Int) := by omega
         have hnew : Hid ((T ++ ⟨#[48]⟩).size ≤ 301 + (j + 1) ∧ (T ++ ⟨#[48]⟩).data.toList = T0.data.toList ++ List.replicate (j + 1) 48) := Lib.hid ⟨by rw [ByteArray.size_append]; have := hT.out.1; show T.size + 1 ≤ _; omega, by rw [appd_list, hT.out.2, List.append_assoc, List.replicate_succ']⟩
         clear hT
         go_wp2_with fail
         go_round
         case rel => exact ⟨j + 1, _, by omega, by go_num, rfl, hnew⟩
         case measure => simp [intOf]; omega
       · obtain rfl : j = n := by omega
         have HTe : Hid (T.data.toList = LN) := Lib.hid (by rw [hT.out.2, HT0.out.2])
         clear hT HT0 hlt2
         have V3 := HV3.out
         go_wp2_with fail
         refine (HPc.out T _ HTe.out V3.bel).mono ?_
         rintro e w4 ⟨v, rfl, hr, hb⟩
         have V4' := (V3.below hb).rcons hr
         obtain ⟨p3, q3, c3, p3', q3', c3', rfl, -, -⟩ := hr
         rw [Hz.out] at V4' ⊢
         have V4 := V4'.alloc 27 #[.bool z, .slice p3 q3 c3, .slice p3' q3' c3']
         have a0 := V4.c0 2 rfl; have a1 := V4.c1 2 rfl; have a2 := V4.c2 2 rfl
         have b0 := V4.c0 1 rfl; have b1 := V4.c1 1 rfl; have b2 := V4.c2 1 rfl
         clear V3 V4' hb HPc HV3
         go_wp2_with fail
         refine (HSm.out _ _ _ (V4.rat 1 _ _ rfl) (V4.rat 2 _ _ rfl)).mono ?_
         rintro e w5 ⟨rfl, hb⟩
         have V5 := V4.below hb
         clear V4 hb a0 a1 a2 b0 b1 b2
         have a0 := V5.c0 2 rfl; have a1 := V5.c1 2 rfl; have a2 := V5.c2 2 rfl
         have b0 := V5.c0 0 rfl; have b1 := V5.c1 0 rfl; have b2 := V5.c2 0 rfl
         go_wp2_with fail
         refine (HSm.out _ _ _ (V5.rat 0 _ _ rfl) (V5.rat 2 _ _ rfl)).mono ?_
         rintro e w6 ⟨rfl, hb⟩
         have HB := Lib.hid (V5.below hb).bel
         clear V5 hb a0 a1 a2 b0 b1 b2
         go_wp2_with fail
         go_ret
         exact ⟨rfl, HB.out⟩
/-- The walk of DecBack. -/
theorem decBack.walk (s : ByteArray) (n : Int) (_ : s.size ≤ maxLen) (_ : (Lit.int .i64 n).wf = true) (w : World) (htab : Tab w) (htb : TabB w) :
 Calls Tryz.prog 4 #[.string s, .int .i64 n] w fun e w' => e = .returned (.bool true) ∧ Below w.heap.size w w' := by
 by_cases h : 150 < s.size ∨ n < 0 ∨ 40 < n
 · exact decBack.early s n w htab htb h
 · obtain ⟨N, rfl⟩ : ∃ N : Nat, n = N := ⟨n.toNat, by omega⟩
   by_cases h0 : lcode s = 0
   · exact decBack.yes s N w htab htb (by omega) (by omega) h0
   · exact decBack.no s N w htab htb (by omega) (by omega) h0
end Go.Proofs.YtnhobagjpjcigaaGreatDoor
