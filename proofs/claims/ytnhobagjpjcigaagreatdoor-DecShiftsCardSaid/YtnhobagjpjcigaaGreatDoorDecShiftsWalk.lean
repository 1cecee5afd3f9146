/-
 The walk of DecShifts: for every input it returns true, and leaves what lay in memory as it was.
-/
import Derived.Test.YtnhobagjpjcigaaGreatDoorDecBackWalk
import Derived.Test.YtnhobagjpjcigaaGreatDoorQJ
import Derived.Test.YtnhobagjpjcigaaGreatDoorRQb
namespace Go.Proofs.YtnhobagjpjcigaaGreatDoor
open Go.RowKit
set_option linter.unusedVariables false
section
variable {w W : World} {bx : List (Nat × TypeId × Array Value)} {l : List (Value × Nat)} {r : List (Value × Rat)}
theorem two_rats (h : Mq w bx l r W) (i j : Nat) {v u : Value} {x y : Rat} (hi : r[i]? = some (v, x)) (hj : r[j]? = some (u, y)) : Mq w bx [] [(v, x), (u, y)] W :=
 ⟨h.bel, h.box, fun k v N e => by simp at e, fun k v' x' e => by
  match k with
  | 0 => simp at e; obtain ⟨rfl, rfl⟩ := e; exact h.rat i _ _ hi
  | 1 => simp at e; obtain ⟨rfl, rfl⟩ := e; exact h.rat j _ _ hj
  | k + 2 => simp at e⟩
end
/-- The text of an exponent: a sign, digits. -/
theorem txl_int (v : Int) : (tx (v : Rat)).data.toList = (if decide (v < 0) then [45] else []) ++ Lib.decDigits v.natAbs := by
 have h1 : ((v : Rat)).den = 1 := rfl
 have h2 : ((v : Rat)).num = v := rfl
 unfold tx
 rw [if_pos h1, h2]
 by_cases h : v < 0
 · rw [if_pos h, appd_list, dg_list, decide_eq_true h]
   rfl
 · rw [if_neg h, dg_list, decide_eq_false h]
   rfl
theorem sgn_self (v : Int) : sgn (decide (v < 0)) v.natAbs = v := by
 unfold sgn
 by_cases h : v < 0
 · simp [h]; omega
 · simp [h]; omega
/-- What the law knows of its literal, with an exponent and without. -/
theorem shift_facts (s : ByteArray) (hs : s.size ≤ 60) (h0 : lcode s = 0) (hne : ∀ b ∈ s.data.toList, b.toNat ≠ 101 ∧ b.toNat ≠ 69) (E : Int) (h1 : -60 ≤ E) (h2 : E ≤ 60) :
 ∃ (n : Int) (p : Nat), p ≤ 60 ∧ n.natAbs < 10 ^ 60 ∧ litv s = q10 n (0 - (p : Int)) ∧ lcode ((s ++ ⟨#[101]⟩) ++ tx (E : Rat)) = 0 ∧ litv ((s ++ ⟨#[101]⟩) ++ tx (E : Rat)) = q10 n (E - (p : Int)) ∧ (lcut ((s ++ ⟨#[101]⟩) ++ tx (E : Rat))).1.ds.length ≤ 60 ∧ dv (lcut ((s ++ ⟨#[101]⟩) ++ tx (E : Rat))).1.es ≤ 60 := by
 obtain ⟨d1, d2, d3, -⟩ := dec_facts E.natAbs
 obtain ⟨k1, k2, k3, k4⟩ := lcut_k s
 have hl : (s ++ ⟨#[101]⟩) ++ tx (E : Rat) = bz (s.data.toList ++ epart (decide (E < 0)) (Lib.decDigits E.natAbs)) := by
  refine bz_of ?_
  rw [appd_list, appd_list, txl_int, List.append_assoc]
  rfl
 obtain ⟨t1, t2, t3, t4⟩ := lit_e s (Lib.decDigits E.natAbs) (decide (E < 0)) h0 hne d1 d2 (by rw [d3]; omega)
 rw [d3, sgn_self] at t2
 rw [hl, t1, t2, t3, t4]
 refine ⟨_, (lcut s).1.pl, by omega, ?_, rfl, rfl, rfl, by show (lcut s).1.ds.length ≤ 60; omega, by show dv (Lib.decDigits E.natAbs) ≤ 60; rw [d3]; omega⟩
 rw [sgn_ab]
 exact Nat.lt_of_lt_of_le (dv_lt _ _ rfl k4.ds) (Nat.pow_le_pow_right (by decide) (by omega))
theorem tx_small (E : Int) (h1 : -60 ≤ E) (h2 : E ≤ 60) : (tx (E : Rat)).size ≤ 40 := by
 have h : Sz 1 (E : Rat) := ⟨by show E.natAbs < _; omega, by show 1 < _; decide⟩
 have e1 : (tx (E : Rat)).data.toList.length = (tx (E : Rat)).size := by show _ = (tx (E : Rat)).data.size; simp
 have h3 := dg_size (N := E.natAbs) (k := 1) (by show E.natAbs < _; omega) (by omega)
 have e2 : (dg E.natAbs).data.toList.length = (dg E.natAbs).size := by show _ = (dg E.natAbs).data.size; simp
 rw [dg_list] at e2
 rw [← e1, txl_int, List.length_append, e2]
 split <;> simp <;> omega
theorem q10_sz (n e : Int) (hn : n.natAbs < 10 ^ 60) (h1 : -120 ≤ e) (h2 : e ≤ 60) : Sz 10 (q10 n e) :=
 ⟨Nat.lt_trans (q10_num n e 60 60 hn (by omega)) (ten_lt (by omega)), Nat.lt_of_le_of_lt (q10_denle n e 120 (by omega)) (ten_lt (by omega))⟩
set_option maxRecDepth 100000 in
set_option maxHeartbeats 8000000 in
theorem decShifts.early (s : ByteArray) (n : Int) (w : World) (htab : Tab w) (htb : TabB w) (h : 60 < s.size ∨ n < -60 ∨ 60 < n) :
 Calls Tryz.prog 5 #[.string s, .int .i64 n] w fun e w' => e = .returned (.bool true) ∧ Below w.heap.size w w' := by
 have HAl := Lib.hid (alive_d w htab htb)
 clear htab htb
 obtain ⟨S, hS⟩ : ∃ S, s.size = S := ⟨_, rfl⟩
 rw [hS] at h
 by_cases hk : 60 < S
 · have g1 : (60 : Int) < (S : Int) := by omega
   clear h
   go_enter Tryz.func5, Tryz.ntmps5
   go_wp2_with fail
   refine HAl.out.mono ?_
   rintro e w1 ⟨rfl, hb⟩
   have HB := Lib.hid hb
   clear hb HAl
   go_wp2_with fail
   go_ret
   exact ⟨rfl, HB.out⟩
 have g1 : ¬ (60 : Int) < (S : Int) := by omega
 have k1 := hk
 clear hk
 by_cases hk : n < -60
 · have g2 : decide (n < -60) = true := decide_eq_true hk
   clear h
   go_enter Tryz.func5, Tryz.ntmps5
   go_wp2_with fail
   refine HAl.out.mono ?_
   rintro e w1 ⟨rfl, hb⟩
   have HB := Lib.hid hb
   clear hb HAl
   go_wp2_with fail
   go_ret
   exact ⟨rfl, HB.out⟩
 have g2 : decide (n < -60) = false := decide_eq_false hk
 have k2 := hk
 clear hk
 have hk : 60 < n := by omega
 have g3 : decide (60 < n) = true := decide_eq_true hk
 clear h
 go_enter Tryz.func5, Tryz.ntmps5
 go_wp2_with fail
 refine HAl.out.mono ?_
 rintro e w1 ⟨rfl, hb⟩
 have HB := Lib.hid hb
 clear hb HAl
 go_wp2_with fail
 go_ret
 exact ⟨rfl, HB.out⟩
set_option maxRecDepth 100000 in
set_option maxHeartbeats 16000000 in
theorem decShifts.up (s : ByteArray) (E : Int) (hpos : 0 ≤ E) (w : World) (htab : Tab w) (htb : TabB w) (hs : s.size ≤ 60) (hE0 : -60 ≤ E) (hE1 : E ≤ 60) :
 Calls Tryz.prog 5 #[.string s, .int .i64 E] w fun e w' => e = .returned (.bool true) ∧ Below w.heap.size w w' := by
 have HAl := Lib.hid (alive_d w htab htb)
 have HTA : Hid (∀ W, Below w.heap.size w W → Tab W ∧ TabB W) := Lib.hid (fun W hB => ⟨htab.below hB (Nat.le_refl _), htb.below hB (Nat.le_refl _)⟩)
 have HTBo : Hid (∀ W, Below w.heap.size w W → TabB W) := Lib.hid (fun W hB => (HTA.out W hB).2)
 have HP : Hid (∀ W, Below w.heap.size w W → Calls Tryz.prog 11 #[.string s] W fun e w' => ∃ v, e = .returned (.tuple #[v, .int .i64 (lcode s)]) ∧ IsR w' v (litv s) ∧ Below W.heap.size W w') := Lib.hid (fun W hB => dparse_any s W (by omega) (fun h => by have := (lcut_k s).1; omega) (HTA.out W hB).1 (HTA.out W hB).2)
 obtain ⟨T, hT⟩ : ∃ T, tx (E : Rat) = T := ⟨_, rfl⟩
 have HF := Lib.hid (fun h0 hne => shift_facts s hs h0 hne E hE0 hE1)
 have hTs := tx_small E hE0 hE1
 have HI : Hid (∀ W, Calls Tryz.prog 23 #[.int .i64 E] W (GaveQ (E : Rat) W)) := Lib.hid (fun W => rint_any E W (by omega) (by omega))
 have HT : Hid (∀ W v, RQ W v (E : Rat) → Calls Tryz.prog 14 #[v] W fun e w' => e = .returned (.string T) ∧ Below W.heap.size W w') := Lib.hid (fun W v h => by
  have h2 := rattext_any (E : Rat) v W h ⟨pow_up 1 900 (by show E.natAbs < _; omega) (by omega), pow_up 1 900 (by show 1 < _; omega) (by omega)⟩
  rw [hT] at h2
  exact h2)
 have HP2 : Hid (lcode ((s ++ ⟨#[101]⟩) ++ T) = 0 → (lcut ((s ++ ⟨#[101]⟩) ++ T)).1.ds.length ≤ 60 → dv (lcut ((s ++ ⟨#[101]⟩) ++ T)).1.es ≤ 60 → ∀ W, Below w.heap.size w W → Calls Tryz.prog 11 #[.string ((s ++ ⟨#[101]⟩) ++ T)] W fun e w' => ∃ v, e = .returned (.tuple #[v, .int .i64 0]) ∧ IsR w' v (litv ((s ++ ⟨#[101]⟩) ++ T)) ∧ Below W.heap.size W w') := Lib.hid (fun h0 h1 h2 W hB => by
  have hsz : ((s ++ ⟨#[101]⟩) ++ T).size ≤ 400 := by
   rw [ByteArray.size_append, ByteArray.size_append, ← hT]
   show s.size + 1 + _ ≤ 400
   omega
  have h := dparse_any ((s ++ ⟨#[101]⟩) ++ T) W hsz (fun h => by omega) (HTA.out W hB).1 (HTA.out W hB).2
  unfold LitIs at h
  rw [h0] at h
  exact h)
 obtain ⟨T10, hT10⟩ : ∃ x : Rat, 10 = x := ⟨_, rfl⟩
 have HOf : Hid (∀ W, Calls Tryz.prog 25 #[.int .i64 10] W (GaveR T10 W)) := Lib.hid (fun W => by
  have h := of_r 10 W (by omega) (by omega)
  rw [← hT10]
  exact h)
 rw [hT] at HF hTs
 obtain ⟨QE, hQE⟩ : ∃ Q : Rat, (E : Rat) = Q := ⟨_, rfl⟩
 rw [hQE] at HI HT
 have H10 : Hid (T10 = 10) := Lib.hid hT10.symm
 obtain ⟨m, hm⟩ : ∃ m, s.size = m := ⟨_, rfl⟩
 have g1 : ¬ (60 : Int) < (m : Int) := by omega
 have g2 : ¬ E < -60 := by omega
 have g3 : ¬ 60 < E := by omega
 have hml : Hid (s.data.toList.length = m) := Lib.hid (by rw [← hm]; show _ = s.data.size; simp)
 have hm60 : m ≤ 60 := by omega
 clear hT htab htb hT10 hQE hs
 go_enter Tryz.func5, Tryz.ntmps5
 go_wp2_with fail
 refine HAl.out.mono ?_
 rintro e w0 ⟨rfl, hb⟩
 have HV0 := Lib.hid ((Mq.refl w).below hb)
 clear hb HAl
 go_wp2_with fail
 go_loop [5] (fun i => ∃ k : Nat, k ≤ m ∧ i = .int .i64 (k : Int) ∧ Hid (∀ b ∈ s.data.toList.take k, b.toNat ≠ 101 ∧ b.toNat ≠ 69)) (fun i => m - (intOf i).toNat)
 case atStart => exact ⟨0, by omega, rfl, Lib.hid (by simp)⟩
 case round =>
  obtain ⟨k, hk, rfl, hN⟩ := hrel
  by_cases hlt : k < m
  · have hks : k < s.size := by omega
    have hat := toList_at s k hks
    obtain ⟨b, hb⟩ : ∃ b, s[k] = b := ⟨_, rfl⟩
    rw [hb] at hat
    have htk : s.data.toList.take (k + 1) = s.data.toList.take k ++ [b] := by rw [List.take_add_one, hat]; rfl
    obtain ⟨C, hC⟩ : ∃ C : Int, (b.toNat : Int) = C := ⟨_, rfl⟩
    have hi0 : (0 : Int) ≤ (k : Int) := by omega
    have hi1 : (k : Int) < (m : Int) := by omega
    by_cases c1 : b.toNat = 101
    · have hC1 : (C == 101) = true := by simp; omega
      have HB := Lib.hid HV0.out.bel
      clear htk hN c1
      go_wp2_with fail
      go_ret
      exact ⟨rfl, HB.out⟩
    · have hC1 : (C == 101) = false := by simp; omega
      by_cases c2 : b.toNat = 69
      · have hC2 : (C == 69) = true := by simp; omega
        have HB := Lib.hid HV0.out.bel
        clear htk hN c1 c2
        go_wp2_with fail
        go_ret
        exact ⟨rfl, HB.out⟩
      · have hC2 : (C == 69) = false := by simp; omega
        have hnext : Hid (∀ b ∈ s.data.toList.take (k + 1), b.toNat ≠ 101 ∧ b.toNat ≠ 69) := Lib.hid (by
         rw [htk]
         intro x hx
         rcases List.mem_append.1 hx with h | h
         · exact hN.out x h
         · rw [List.mem_singleton.1 h]; exact ⟨c1, c2⟩)
        clear htk hN c1 c2
        go_wp2_with fail
        go_round
        case rel => exact ⟨k + 1, by omega, by go_num, hnext⟩
        case measure => simp [intOf]; omega
  · obtain rfl : k = m := by omega
    have HNE : Hid (∀ b ∈ s.data.toList, b.toNat ≠ 101 ∧ b.toNat ≠ 69) := Lib.hid (by
     have := hN.out
     rwa [List.take_of_length_le (by rw [hml.out]; exact Nat.le_refl _)] at this)
    clear hN hlt
    obtain ⟨X, hX⟩ : ∃ X, litv s = X := ⟨_, rfl⟩
    rw [hX] at HP
    obtain ⟨C, hC⟩ : ∃ C, lcode s = C := ⟨_, rfl⟩
    rw [hC] at HP
    have V0 := HV0.out
    go_wp2_with fail
    refine (HP.out _ V0.bel).mono ?_
    rintro e w1 ⟨v, rfl, hr, hb⟩
    have V1' := (V0.below hb).rcons hr
    obtain ⟨p, q, c, p', q', c', rfl, -, -⟩ := hr
    obtain ⟨z1, hz1⟩ : ∃ z, decide (X.num < 0) = z := ⟨_, rfl⟩
    rw [hz1] at V1' ⊢
    have V1 := V1'.alloc 27 #[.bool z1, .slice p q c, .slice p' q' c']
    clear V1' hb HP V0 HV0 hz1
    by_cases hc0 : C = 0
    · subst hc0
      obtain ⟨n, pl, f1, f2, f3, f4, f5, f6, f7⟩ := HF.out hC HNE.out
      have HPb := Lib.hid (HP2.out f4 f6 f7)
      clear f4 f6 f7 HP2 HF HNE hC
      rw [hX] at f3
      subst f3
      rw [f5] at HPb
      clear f5 hX
      have hs1 : ¬ (9223372036854775807 : Int) < 1 + (k : Int) := by omega
      have hs2 : ¬ (9223372036854775807 : Int) < (k : Int) + 1 := by omega
      obtain ⟨U, hU⟩ : ∃ U, s ++ ⟨#[101]⟩ = U := ⟨_, rfl⟩
      have hUs : U.size = k + 1 := by rw [← hU, ByteArray.size_append, hm]; rfl
      rw [hU] at HPb
      have hs3 : ¬ (9223372036854775807 : Int) < (U.size : Int) + (T.size : Int) := by omega
      have hs4 : ¬ (9223372036854775807 : Int) < (T.size : Int) + (U.size : Int) := by omega
      go_wp2_with fail
      refine (HI.out _).mono ?_
      rintro e w2 ⟨v, rfl, hq, hb⟩
      have V2 := V1.below hb
      clear V1 hb
      go_wp2_with fail
      refine (HT.out _ _ hq).mono ?_
      rintro e w3 ⟨rfl, hb⟩
      have V3 := V2.below hb
      clear V2 hb hq
      go_wp2_with fail
      refine (HPb.out _ V3.bel).mono ?_
      rintro e w4 ⟨v, rfl, hr, hb⟩
      have V4' := (V3.below hb).rcons hr
      obtain ⟨p2, q2, c2, p2', q2', c2', rfl, -, -⟩ := hr
      obtain ⟨z2, hz2⟩ : ∃ z, decide ((q10 n (E - (pl : Int))).num < 0) = z := ⟨_, rfl⟩
      rw [hz2] at V4' ⊢
      have hlt8 : w1.heap.size < w4.heap.size := (V4'.box 0 _ _ _ rfl).1.lt
      have V4 := V4'.alloc 27 #[.bool z2, .slice p2 q2 c2, .slice p2' q2' c2']
      have HV4 := Lib.hid (two_rats V4 0 1 rfl rfl)
      have HDst : Hid (∀ (cs : Array Value) (k' b' : Nat) (t' : TypeId) (cs' : Array Value), [(w4.heap.size, 27, #[Value.bool z2, .slice p2 q2 c2, .slice p2' q2' c2']), (w1.heap.size, 27, cs)][k']? = some (b', t', cs') → k' ≠ 1 → b' ≠ w1.heap.size) := Lib.hid (fun cs k' b' t' cs' e hne => by
       match k' with
       | 0 => simp at e; omega
       | 1 => exact absurd rfl hne
       | k + 2 => simp at e)
      have H2 := Lib.hid f2
      clear V3 V4' V4 hb hz2 hlt8 HPb HI HT hs1 hs2 hs3 hs4 hU f2
      go_wp2_with fail
      obtain ⟨M, rfl⟩ : ∃ M : Nat, E = M := ⟨E.toNat, by omega⟩
      have HSm : Hid (∀ W va vb, IsR W va (q10 n ((M : Int) - (pl : Int))) → IsR W vb (q10 n ((M : Int) - (pl : Int))) → Calls Tryz.prog 22 #[va, vb] W fun e w' => e = .returned (.bool true) ∧ Below W.heap.size W w') := Lib.hid (fun W va vb h1 h2 => by
       have hz := q10_sz n ((M : Int) - (pl : Int)) H2.out (by omega) (by omega)
       have h := same_any _ _ va vb W h1 h2 (hz.mono (by omega)) (hz.mono (by omega))
       rw [decide_eq_true rfl] at h
       exact h)
      go_loopw [10] (fun i wr => ∃ (j : Nat) (z : Bool) (x : Option Addr) (y s : Nat) (x' : Option Addr) (y' s' : Nat), j ≤ M ∧ i = .int .i64 (j : Int) ∧ Hid (Mq w [(w4.heap.size, 27, #[.bool z2, .slice p2 q2 c2, .slice p2' q2' c2']), (w1.heap.size, 27, #[.bool z, .slice x y s, .slice x' y' s'])] [] [(.agg #[.bool z2, .slice p2 q2 c2, .slice p2' q2' c2'], q10 n ((M : Int) - (pl : Int))), (.agg #[.bool z, .slice x y s, .slice x' y' s'], q10 n ((j : Int) - (pl : Int)))] wr)) (fun i _ => M - (intOf i).toNat)
      case atStart => exact ⟨0, z1, p, q, c, p', q', c', by omega, rfl, HV4⟩
      case round =>
       clear HV4
       obtain ⟨j, z, x, y, s, x', y', s', hj, rfl, hV⟩ := hrel
       by_cases hlt2 : j < M
       · have hj1 : (j : Int) < (M : Int) := by omega
         have hqz := q10_sz n ((j : Int) - (pl : Int)) H2.out (by omega) (by omega)
         have hnx : q10 n ((j : Int) - (pl : Int)) * 10 = q10 n (((j + 1 : Nat) : Int) - (pl : Int)) := by
          rw [q10_up]
          congr 1
          omega
         obtain ⟨QN, hQN⟩ : ∃ Q, q10 n (((j + 1 : Nat) : Int) - (pl : Int)) = Q := ⟨_, rfl⟩
         obtain ⟨QO, hQO⟩ : ∃ Q, q10 n ((j : Int) - (pl : Int)) = Q := ⟨_, rfl⟩
         rw [hQN, hQO] at hnx
         rw [hQO] at hqz hV
         have HMul : Hid (∀ W va vb, TabB W → IsR W va QO → IsR W vb T10 → Calls Tryz.prog 24 #[va, vb] W (GaveR QN W)) := Lib.hid (fun W va vb ht h1 h2 => by
          have h := mulr_any QO T10 10 1 va vb W h1 h2 hqz (by rw [H10.out]; exact ⟨by decide, by decide⟩) (by omega) (by omega) ht
          rw [H10.out, hnx] at h
          exact h)
         have HQN := Lib.hid hQN
         have V1 := hV.out
         clear hV hqz hnx hQN hQO
         go_wp2_with fail
         refine wp_region_inv 3 (fun a0 dj a W => ∃ vq0 vq1 vq2 : Value, a = puts a0 [(66, vq0), (67, vq1), (68, vq2)] ∧ Below wr.heap.size wr W ∧ (dj 0 = true → vq0 = .agg #[.bool z, .slice x y s, .slice x' y' s']) ∧ (dj 1 = true → IsR W vq1 (T10)) ∧ (dj 2 = true → IsR W vq2 (QN))) (by kernel_rfl) (by kernel_rfl) (by kernel_rfl) ?_ ?_ ?_ ?_
         · intro dj hcl i hi1 hi2 hd j hj
           have hi2 := Nat.lt_of_lt_of_le hi2 (show _ ≤ 4 from of_decide_eq_true (by kernel_rfl))
           obtain rfl : i = 3 := by omega
           · have e2 : dj 2 = true := hd 2 (by kernel_rfl)
             have e0 : dj 0 = true := hd 0 (by kernel_rfl)
             have e1 : dj 1 = true := hd 1 (by kernel_rfl)
             obtain rfl | rfl | rfl : j = 0 ∨ j = 1 ∨ j = 2 := by omega
             · exact e0
             · exact e1
             · exact e2
         · refine ⟨u66, u67, u68, (by simp only [pus]), (Below.refl _ _).drew, (fun h => by cases h), (fun h => by cases h), (fun h => by cases h)⟩
         · intro dj a W i hi hdi hcl hdep hI K hK
           obtain ⟨vq0, vq1, vq2, rfl, hB, p0, p1, p2⟩ := hI
           have V := V1.below hB
           obtain rfl | rfl | rfl : i = 0 ∨ i = 1 ∨ i = 2 := by omega
           · simp only [pus]
             have c0 := V.c0 1 rfl
             have c1 := V.c1 1 rfl
             have c2 := V.c2 1 rfl
             refine any_op (o := _) rfl rfl ?_
             go_wp2_with fail
             refine hK.out _ _ ?_
             exact ⟨.agg #[.bool z, .slice x y s, .slice x' y' s'], vq1, vq2, (by simp only [pus]), hB, (fun _ => rfl), p1, p2⟩
           · simp only [pus]
             refine any_op (o := _) rfl rfl ?_
             have hC := Lib.hid (HOf.out W)
             go_simp
             refine hC.out.mono ?_
             rintro e W2 ⟨u, rfl, hn, hb⟩
             refine hK.out _ _ ?_
             exact ⟨vq0, u, vq2, (by simp only [pus]), hB.trans (hb.mono hB.size), p0, (fun _ => hn), (fun h => (p2 h).below hb (Nat.le_refl _))⟩
           · obtain rfl := p0 (hdep 0 (by kernel_rfl))
             have n1 := p1 (hdep 1 (by kernel_rfl))
             simp only [pus]
             refine any_op (o := _) rfl rfl ?_
             have hC := Lib.hid (HMul.out W _ _ (HTBo.out W (V.bel)) (V.rat 1 _ _ rfl) n1)
             go_simp
             refine hC.out.mono ?_
             rintro e W2 ⟨u, rfl, hn, hb⟩
             refine hK.out _ _ ?_
             exact ⟨.agg #[.bool z, .slice x y s, .slice x' y' s'], vq1, u, (by simp only [pus]), hB.trans (hb.mono hB.size), (fun _ => rfl), (fun _ => n1.below hb (Nat.le_refl _)), (fun _ => hn)⟩
         · intro dj a W hd hI
           obtain ⟨vq0, vq1, vq2, rfl, hB, p0, p1, p2⟩ := hI
           have V := V1.below hB
           obtain rfl := p0 (hd 0 (by omega))
           have nq1 := p1 (hd 1 (by omega))
           have nq2 := p2 (hd 2 (by omega))
           clear hd p0 p1 p2 dj
           simp only [pus]
           show wpAny Tryz.prog .any _ _ 1 #[true, true, true, false] _ _
           obtain ⟨e1, e2, e3, e4, e5, e6, rfl, m1, m2⟩ := nq2
           obtain ⟨zx, hzx⟩ : ∃ zx, decide (QN.num < 0) = zx := ⟨_, rfl⟩
           rw [hzx]
           have hQN : IsR W (.agg #[.bool zx, .slice e1 e2 e3, .slice e4 e5 e6]) QN := ⟨e1, e2, e3, e4, e5, e6, by rw [hzx], m1, m2⟩
           have V2 := V.rcons hQN
           have r0 := V2.c0 1 rfl; have r1 := V2.c1 1 rfl; have r2 := V2.c2 1 rfl
           have f0 := V2.frozen 1 0 rfl; have f1 := V2.frozen 1 1 rfl; have f2 := V2.frozen 1 2 rfl
           have V3 := ((V2.put 1 0 rfl (plain_rat _ _ _ _ _ _ _) (HDst.out _) (.bool zx)).put 1 1 rfl (plain_rat _ _ _ _ _ _ _) (HDst.out _) (.slice e1 e2 e3)).put 1 2 rfl (plain_rat _ _ _ _ _ _ _) (HDst.out _) (.slice e4 e5 e6)
           have HV3 := Lib.hid (two_rats V3 1 0 rfl rfl)
           clear V V1 V2 V3 m1 m2 hQN
           refine wpAny_of_held (S := fun _ => True) _ _ _ _ ?_
           refine wpAnyH_ready (rs := [3]) (by kernel_rfl) (by simp) ?_
           refine (AllReadyH.cons (o := _) rfl (fun K hK => ?_) AllReadyH.nil)
           · go_simp
             refine hK.out _ _ trivial (fun _ => ?_)
             clear hK K
             try simp only [las]
             refine wpAnyH_done (by kernel_rfl) ?_ _
             go_wp2_with fail
             go_round
             case rel => exact ⟨j + 1, zx, e1, e2, e3, e4, e5, e6, by omega, by go_num, by rw [HQN.out]; exact HV3.out⟩
             case measure => simp [intOf]; omega
       · obtain rfl : j = M := by omega
         clear hlt2
         have hM0 : ¬ (j : Int) < 0 := by omega
         go_wp2_with fail
         go_loop [11] (fun i => i = .int .i64 0) (fun _ => 0)
         case atStart => rfl
         case round =>
          obtain rfl := hrel
          have V9 := hV.out
          have a0 := V9.c0 0 rfl; have a1 := V9.c1 0 rfl; have a2 := V9.c2 0 rfl
          have b0 := V9.c0 1 rfl; have b1 := V9.c1 1 rfl; have b2 := V9.c2 1 rfl
          go_wp2_with fail
          refine (HSm.out _ _ _ (V9.rat 0 _ _ rfl) (V9.rat 1 _ _ rfl)).mono ?_
          rintro e w9 ⟨rfl, hb⟩
          have HB := Lib.hid (V9.below hb).bel
          clear V9 hb a0 a1 a2 b0 b1 b2
          go_wp2_with fail
          go_ret
          exact ⟨rfl, HB.out⟩
    · have hc1 : (C == 0) = false := by simpa using hc0
      have HB := Lib.hid V1.bel
      clear V1 HF HP2 HNE
      go_wp2_with fail
      go_ret
      exact ⟨rfl, HB.out⟩
set_option maxRecDepth 100000 in
set_option maxHeartbeats 16000000 in
theorem decShifts.down (s : ByteArray) (E : Int) (hpos : ¬ 0 ≤ E) (w : World) (htab : Tab w) (htb : TabB w) (hs : s.size ≤ 60) (hE0 : -60 ≤ E) (hE1 : E ≤ 60) :
 Calls Tryz.prog 5 #[.string s, .int .i64 E] w fun e w' => e = .returned (.bool true) ∧ Below w.heap.size w w' := by
 have HAl := Lib.hid (alive_d w htab htb)
 have HTA : Hid (∀ W, Below w.heap.size w W → Tab W ∧ TabB W) := Lib.hid (fun W hB => ⟨htab.below hB (Nat.le_refl _), htb.below hB (Nat.le_refl _)⟩)
 have HTBo : Hid (∀ W, Below w.heap.size w W → TabB W) := Lib.hid (fun W hB => (HTA.out W hB).2)
 have HP : Hid (∀ W, Below w.heap.size w W → Calls Tryz.prog 11 #[.string s] W fun e w' => ∃ v, e = .returned (.tuple #[v, .int .i64 (lcode s)]) ∧ IsR w' v (litv s) ∧ Below W.heap.size W w') := Lib.hid (fun W hB => dparse_any s W (by omega) (fun h => by have := (lcut_k s).1; omega) (HTA.out W hB).1 (HTA.out W hB).2)
 obtain ⟨T, hT⟩ : ∃ T, tx (E : Rat) = T := ⟨_, rfl⟩
 have HF := Lib.hid (fun h0 hne => shift_facts s hs h0 hne E hE0 hE1)
 have hTs := tx_small E hE0 hE1
 have HI : Hid (∀ W, Calls Tryz.prog 23 #[.int .i64 E] W (GaveQ (E : Rat) W)) := Lib.hid (fun W => rint_any E W (by omega) (by omega))
 have HT : Hid (∀ W v, RQ W v (E : Rat) → Calls Tryz.prog 14 #[v] W fun e w' => e = .returned (.string T) ∧ Below W.heap.size W w') := Lib.hid (fun W v h => by
  have h2 := rattext_any (E : Rat) v W h ⟨pow_up 1 900 (by show E.natAbs < _; omega) (by omega), pow_up 1 900 (by show 1 < _; omega) (by omega)⟩
  rw [hT] at h2
  exact h2)
 have HP2 : Hid (lcode ((s ++ ⟨#[101]⟩) ++ T) = 0 → (lcut ((s ++ ⟨#[101]⟩) ++ T)).1.ds.length ≤ 60 → dv (lcut ((s ++ ⟨#[101]⟩) ++ T)).1.es ≤ 60 → ∀ W, Below w.heap.size w W → Calls Tryz.prog 11 #[.string ((s ++ ⟨#[101]⟩) ++ T)] W fun e w' => ∃ v, e = .returned (.tuple #[v, .int .i64 0]) ∧ IsR w' v (litv ((s ++ ⟨#[101]⟩) ++ T)) ∧ Below W.heap.size W w') := Lib.hid (fun h0 h1 h2 W hB => by
  have hsz : ((s ++ ⟨#[101]⟩) ++ T).size ≤ 400 := by
   rw [ByteArray.size_append, ByteArray.size_append, ← hT]
   show s.size + 1 + _ ≤ 400
   omega
  have h := dparse_any ((s ++ ⟨#[101]⟩) ++ T) W hsz (fun h => by omega) (HTA.out W hB).1 (HTA.out W hB).2
  unfold LitIs at h
  rw [h0] at h
  exact h)
 obtain ⟨T10, hT10⟩ : ∃ x : Rat, 10 = x := ⟨_, rfl⟩
 have HOf : Hid (∀ W, Calls Tryz.prog 25 #[.int .i64 10] W (GaveR T10 W)) := Lib.hid (fun W => by
  have h := of_r 10 W (by omega) (by omega)
  rw [← hT10]
  exact h)
 rw [hT] at HF hTs
 obtain ⟨QE, hQE⟩ : ∃ Q : Rat, (E : Rat) = Q := ⟨_, rfl⟩
 rw [hQE] at HI HT
 have H10 : Hid (T10 = 10) := Lib.hid hT10.symm
 obtain ⟨m, hm⟩ : ∃ m, s.size = m := ⟨_, rfl⟩
 have g1 : ¬ (60 : Int) < (m : Int) := by omega
 have g2 : ¬ E < -60 := by omega
 have g3 : ¬ 60 < E := by omega
 have hml : Hid (s.data.toList.length = m) := Lib.hid (by rw [← hm]; show _ = s.data.size; simp)
 have hm60 : m ≤ 60 := by omega
 clear hT htab htb hT10 hQE hs
 go_enter Tryz.func5, Tryz.ntmps5
 go_wp2_with fail
 refine HAl.out.mono ?_
 rintro e w0 ⟨rfl, hb⟩
 have HV0 := Lib.hid ((Mq.refl w).below hb)
 clear hb HAl
 go_wp2_with fail
 go_loop [5] (fun i => ∃ k : Nat, k ≤ m ∧ i = .int .i64 (k : Int) ∧ Hid (∀ b ∈ s.data.toList.take k, b.toNat ≠ 101 ∧ b.toNat ≠ 69)) (fun i => m - (intOf i).toNat)
 case atStart => exact ⟨0, by omega, rfl, Lib.hid (by simp)⟩
 case round =>
  obtain ⟨k, hk, rfl, hN⟩ := hrel
  by_cases hlt : k < m
  · have hks : k < s.size := by omega
    have hat := toList_at s k hks
    obtain ⟨b, hb⟩ : ∃ b, s[k] = b := ⟨_, rfl⟩
    rw [hb] at hat
    have htk : s.data.toList.take (k + 1) = s.data.toList.take k ++ [b] := by rw [List.take_add_one, hat]; rfl
    obtain ⟨C, hC⟩ : ∃ C : Int, (b.toNat : Int) = C := ⟨_, rfl⟩
    have hi0 : (0 : Int) ≤ (k : Int) := by omega
    have hi1 : (k : Int) < (m : Int) := by omega
    by_cases c1 : b.toNat = 101
    · have hC1 : (C == 101) = true := by simp; omega
      have HB := Lib.hid HV0.out.bel
      clear htk hN c1
      go_wp2_with fail
      go_ret
      exact ⟨rfl, HB.out⟩
    · have hC1 : (C == 101) = false := by simp; omega
      by_cases c2 : b.toNat = 69
      · have hC2 : (C == 69) = true := by simp; omega
        have HB := Lib.hid HV0.out.bel
        clear htk hN c1 c2
        go_wp2_with fail
        go_ret
        exact ⟨rfl, HB.out⟩
      · have hC2 : (C == 69) = false := by simp; omega
        have hnext : Hid (∀ b ∈ s.data.toList.take (k + 1), b.toNat ≠ 101 ∧ b.toNat ≠ 69) := Lib.hid (by
         rw [htk]
         intro x hx
         rcases List.mem_append.1 hx with h | h
         · exact hN.out x h
         · rw [List.mem_singleton.1 h]; exact ⟨c1, c2⟩)
        clear htk hN c1 c2
        go_wp2_with fail
        go_round
        case rel => exact ⟨k + 1, by omega, by go_num, hnext⟩
        case measure => simp [intOf]; omega
  · obtain rfl : k = m := by omega
    have HNE : Hid (∀ b ∈ s.data.toList, b.toNat ≠ 101 ∧ b.toNat ≠ 69) := Lib.hid (by
     have := hN.out
     rwa [List.take_of_length_le (by rw [hml.out]; exact Nat.le_refl _)] at this)
    clear hN hlt
    obtain ⟨X, hX⟩ : ∃ X, litv s = X := ⟨_, rfl⟩
    rw [hX] at HP
    obtain ⟨C, hC⟩ : ∃ C, lcode s = C := ⟨_, rfl⟩
    rw [hC] at HP
    have V0 := HV0.out
    go_wp2_with fail
    refine (HP.out _ V0.bel).mono ?_
    rintro e w1 ⟨v, rfl, hr, hb⟩
    have V1' := (V0.below hb).rcons hr
    obtain ⟨p, q, c, p', q', c', rfl, -, -⟩ := hr
    obtain ⟨z1, hz1⟩ : ∃ z, decide (X.num < 0) = z := ⟨_, rfl⟩
    rw [hz1] at V1' ⊢
    have V1 := V1'.alloc 27 #[.bool z1, .slice p q c, .slice p' q' c']
    clear V1' hb HP V0 HV0 hz1
    by_cases hc0 : C = 0
    · subst hc0
      obtain ⟨n, pl, f1, f2, f3, f4, f5, f6, f7⟩ := HF.out hC HNE.out
      have HPb := Lib.hid (HP2.out f4 f6 f7)
      clear f4 f6 f7 HP2 HF HNE hC
      rw [hX] at f3
      subst f3
      rw [f5] at HPb
      clear f5 hX
      have hs1 : ¬ (9223372036854775807 : Int) < 1 + (k : Int) := by omega
      have hs2 : ¬ (9223372036854775807 : Int) < (k : Int) + 1 := by omega
      obtain ⟨U, hU⟩ : ∃ U, s ++ ⟨#[101]⟩ = U := ⟨_, rfl⟩
      have hUs : U.size = k + 1 := by rw [← hU, ByteArray.size_append, hm]; rfl
      rw [hU] at HPb
      have hs3 : ¬ (9223372036854775807 : Int) < (U.size : Int) + (T.size : Int) := by omega
      have hs4 : ¬ (9223372036854775807 : Int) < (T.size : Int) + (U.size : Int) := by omega
      go_wp2_with fail
      refine (HI.out _).mono ?_
      rintro e w2 ⟨v, rfl, hq, hb⟩
      have V2 := V1.below hb
      clear V1 hb
      go_wp2_with fail
      refine (HT.out _ _ hq).mono ?_
      rintro e w3 ⟨rfl, hb⟩
      have V3 := V2.below hb
      clear V2 hb hq
      go_wp2_with fail
      refine (HPb.out _ V3.bel).mono ?_
      rintro e w4 ⟨v, rfl, hr, hb⟩
      have V4' := (V3.below hb).rcons hr
      obtain ⟨p2, q2, c2, p2', q2', c2', rfl, -, -⟩ := hr
      obtain ⟨z2, hz2⟩ : ∃ z, decide ((q10 n (E - (pl : Int))).num < 0) = z := ⟨_, rfl⟩
      rw [hz2] at V4' ⊢
      have hlt8 : w1.heap.size < w4.heap.size := (V4'.box 0 _ _ _ rfl).1.lt
      have V4 := V4'.alloc 27 #[.bool z2, .slice p2 q2 c2, .slice p2' q2' c2']
      have HV4 := Lib.hid (two_rats V4 0 1 rfl rfl)
      have HDst : Hid (∀ (cs : Array Value) (k' b' : Nat) (t' : TypeId) (cs' : Array Value), [(w4.heap.size, 27, #[Value.bool z2, .slice p2 q2 c2, .slice p2' q2' c2']), (w1.heap.size, 27, cs)][k']? = some (b', t', cs') → k' ≠ 1 → b' ≠ w1.heap.size) := Lib.hid (fun cs k' b' t' cs' e hne => by
       match k' with
       | 0 => simp at e; omega
       | 1 => exact absurd rfl hne
       | k + 2 => simp at e)
      have H2 := Lib.hid f2
      clear V3 V4' V4 hb hz2 hlt8 HPb HI HT hs1 hs2 hs3 hs4 hU f2
      go_wp2_with fail
      have HSm : Hid (∀ W va vb, IsR W va (q10 n (E - (pl : Int))) → IsR W vb (q10 n (E - (pl : Int))) → Calls Tryz.prog 22 #[va, vb] W fun e w' => e = .returned (.bool true) ∧ Below W.heap.size W w') := Lib.hid (fun W va vb h1 h2 => by
       have hz := q10_sz n (E - (pl : Int)) H2.out (by omega) (by omega)
       have h := same_any _ _ va vb W h1 h2 (hz.mono (by omega)) (hz.mono (by omega))
       rw [decide_eq_true rfl] at h
       exact h)
      have hM0 : ¬ (0 : Int) < E := by omega
      go_loop [10] (fun i => i = .int .i64 0) (fun _ => 0)
      case atStart => rfl
      case round =>
       obtain rfl := hrel
       go_wp2_with fail
       go_loopw [11] (fun i wr => ∃ (y : Int) (z : Bool) (x : Option Addr) (y0 s : Nat) (x' : Option Addr) (y' s' : Nat), E ≤ y ∧ y ≤ 0 ∧ i = .int .i64 y ∧ Hid (Mq w [(w4.heap.size, 27, #[.bool z2, .slice p2 q2 c2, .slice p2' q2' c2']), (w1.heap.size, 27, #[.bool z, .slice x y0 s, .slice x' y' s'])] [] [(.agg #[.bool z2, .slice p2 q2 c2, .slice p2' q2' c2'], q10 n (E - (pl : Int))), (.agg #[.bool z, .slice x y0 s, .slice x' y' s'], q10 n (y - (pl : Int)))] wr)) (fun i _ => (intOf i - E).toNat)
       case atStart => exact ⟨0, z1, p, q, c, p', q', c', by omega, by omega, rfl, HV4⟩
       case round =>
        clear HV4
        obtain ⟨y, z, x, y0, s, x', y', s', hj, hj0, rfl, hV⟩ := hrel
        by_cases hlt2 : E < y
        · have hj1 : y ≤ 0 := hj0
          have hqz := q10_sz n (y - (pl : Int)) H2.out (by omega) (by omega)
          have hnx : q10 n (y - (pl : Int)) * (10 : Rat)⁻¹ = q10 n ((y - 1) - (pl : Int)) := by
           rw [q10_down]
           congr 1
           omega
          obtain ⟨QN, hQN⟩ : ∃ Q, q10 n ((y - 1) - (pl : Int)) = Q := ⟨_, rfl⟩
          obtain ⟨QO, hQO⟩ : ∃ Q, q10 n (y - (pl : Int)) = Q := ⟨_, rfl⟩
          rw [hQN, hQO] at hnx
          rw [hQO] at hqz hV
          have HDiv : Hid (∀ W va vb, TabB W → IsR W va QO → IsR W vb T10 → Calls Tryz.prog 26 #[va, vb] W fun e w' => ∃ v, e = .returned (.tuple #[v, .int .i64 0]) ∧ IsR w' v QN ∧ Below W.heap.size W w') := Lib.hid (fun W va vb ht h1 h2 => by
           have h := divr_any QO T10 10 1 va vb W h1 h2 hqz (by rw [H10.out]; exact ⟨by decide, by decide⟩) (by omega) (by omega) (by rw [H10.out]; decide) ht
           rw [H10.out, hnx] at h
           exact h)
          have HQN := Lib.hid hQN
          have V1 := hV.out
          clear hV hqz hnx hQN hQO
          go_wp2_with fail
          refine wp_region_inv 4 (fun a0 dj a W => ∃ vq0 vq1 vq2 vq3 : Value, a = puts a0 [(75, vq0), (76, vq1), (77, vq2), (74, vq3)] ∧ Below wr.heap.size wr W ∧ (dj 0 = true → vq0 = .agg #[.bool z, .slice x y0 s, .slice x' y' s']) ∧ (dj 1 = true → IsR W vq1 (T10)) ∧ (dj 2 = true → Rp W vq2 (QN)) ∧ (dj 3 = true → Rp W vq3 (QN))) (by kernel_rfl) (by kernel_rfl) (by kernel_rfl) ?_ ?_ ?_ ?_
          · intro dj hcl i hi1 hi2 hd j hj
            have hi2 := Nat.lt_of_lt_of_le hi2 (show _ ≤ 7 from of_decide_eq_true (by kernel_rfl))
            obtain rfl | rfl | rfl : i = 4 ∨ i = 5 ∨ i = 6 := by omega
            · have e3 : dj 3 = true := hd 3 (by kernel_rfl)
              have e2 : dj 2 = true := hcl 3 2 (by kernel_rfl) e3
              have e0 : dj 0 = true := hcl 2 0 (by kernel_rfl) e2
              have e1 : dj 1 = true := hcl 2 1 (by kernel_rfl) e2
              obtain rfl | rfl | rfl | rfl : j = 0 ∨ j = 1 ∨ j = 2 ∨ j = 3 := by omega
              · exact e0
              · exact e1
              · exact e2
              · exact e3
            · have e3 : dj 3 = true := hd 3 (by kernel_rfl)
              have e2 : dj 2 = true := hcl 3 2 (by kernel_rfl) e3
              have e0 : dj 0 = true := hcl 2 0 (by kernel_rfl) e2
              have e1 : dj 1 = true := hcl 2 1 (by kernel_rfl) e2
              obtain rfl | rfl | rfl | rfl : j = 0 ∨ j = 1 ∨ j = 2 ∨ j = 3 := by omega
              · exact e0
              · exact e1
              · exact e2
              · exact e3
            · have e4 : dj 4 = true := hd 4 (by kernel_rfl)
              have e2 : dj 2 = true := hd 2 (by kernel_rfl)
              have e0 : dj 0 = true := hd 0 (by kernel_rfl)
              have e1 : dj 1 = true := hd 1 (by kernel_rfl)
              have e3 : dj 3 = true := hd 3 (by kernel_rfl)
              obtain rfl | rfl | rfl | rfl : j = 0 ∨ j = 1 ∨ j = 2 ∨ j = 3 := by omega
              · exact e0
              · exact e1
              · exact e2
              · exact e3
          · refine ⟨u75, u76, u77, u74, (by simp only [pus]), (Below.refl _ _).drew, (fun h => by cases h), (fun h => by cases h), (fun h => by cases h), (fun h => by cases h)⟩
          · intro dj a W i hi hdi hcl hdep hI K hK
            obtain ⟨vq0, vq1, vq2, vq3, rfl, hB, p0, p1, p2, p3⟩ := hI
            have V := V1.below hB
            obtain rfl | rfl | rfl | rfl : i = 0 ∨ i = 1 ∨ i = 2 ∨ i = 3 := by omega
            · simp only [pus]
              have c0 := V.c0 1 rfl
              have c1 := V.c1 1 rfl
              have c2 := V.c2 1 rfl
              refine any_op (o := _) rfl rfl ?_
              go_wp2_with fail
              refine hK.out _ _ ?_
              exact ⟨.agg #[.bool z, .slice x y0 s, .slice x' y' s'], vq1, vq2, vq3, (by simp only [pus]), hB, (fun _ => rfl), p1, p2, p3⟩
            · simp only [pus]
              refine any_op (o := _) rfl rfl ?_
              have hC := Lib.hid (HOf.out W)
              go_simp
              refine hC.out.mono ?_
              rintro e W2 ⟨u, rfl, hn, hb⟩
              refine hK.out _ _ ?_
              exact ⟨vq0, u, vq2, vq3, (by simp only [pus]), hB.trans (hb.mono hB.size), p0, (fun _ => hn), (fun h => (p2 h).below hb), (fun h => (p3 h).below hb)⟩
            · obtain rfl := p0 (hdep 0 (by kernel_rfl))
              have n1 := p1 (hdep 1 (by kernel_rfl))
              simp only [pus]
              refine any_op (o := _) rfl rfl ?_
              have hC := Lib.hid (HDiv.out W _ _ (HTBo.out W (V.bel)) (V.rat 1 _ _ rfl) n1)
              go_simp
              refine hC.out.mono ?_
              rintro e W2 ⟨u, rfl, hn, hb⟩
              refine hK.out _ _ ?_
              exact ⟨.agg #[.bool z, .slice x y0 s, .slice x' y' s'], vq1, .tuple #[u, .int .i64 0], vq3, (by simp only [pus]), hB.trans (hb.mono hB.size), (fun _ => rfl), (fun _ => n1.below hb (Nat.le_refl _)), (fun _ => ⟨u, rfl, hn⟩), (fun h => (p3 h).below hb)⟩
            · generalize hG : wpOp _ _ _ _ _ _ _ = G
              have k2 := p2 (hdep 2 (by kernel_rfl))
              obtain ⟨u2, rfl, n2⟩ := k2
              subst hG
              simp only [pus]
              refine any_op (o := _) rfl rfl ?_
              go_wp2_with fail
              refine hK.out _ _ ?_
              exact ⟨vq0, vq1, .tuple #[u2, .int .i64 0], .tuple #[u2, .int .i64 0], (by simp only [pus]), hB, p0, p1, (fun _ => ⟨u2, rfl, n2⟩), (fun _ => ⟨u2, rfl, n2⟩)⟩
          · intro dj a W hd hI
            obtain ⟨vq0, vq1, vq2, vq3, rfl, hB, p0, p1, p2, p3⟩ := hI
            have V := V1.below hB
            obtain rfl := p0 (hd 0 (by omega))
            have nq1 := p1 (hd 1 (by omega))
            obtain ⟨uq2, rfl, nq2⟩ := p2 (hd 2 (by omega))
            obtain ⟨uq3, rfl, nq3⟩ := p3 (hd 3 (by omega))
            clear hd p0 p1 p2 p3 dj
            simp only [pus]
            show wpAny Tryz.prog .any _ _ 3 #[true, true, true, true, false, false, false] _ _
            obtain ⟨e1, e2, e3, e4, e5, e6, rfl, m1, m2⟩ := nq3
            obtain ⟨zx, hzx⟩ : ∃ zx, decide (QN.num < 0) = zx := ⟨_, rfl⟩
            rw [hzx]
            have hQN : IsR W (.agg #[.bool zx, .slice e1 e2 e3, .slice e4 e5 e6]) QN := ⟨e1, e2, e3, e4, e5, e6, by rw [hzx], m1, m2⟩
            have V2 := V.rcons hQN
            have r0 := V2.c0 1 rfl; have r1 := V2.c1 1 rfl; have r2 := V2.c2 1 rfl
            have f0 := V2.frozen 1 0 rfl; have f1 := V2.frozen 1 1 rfl; have f2 := V2.frozen 1 2 rfl
            have V3 := ((V2.put 1 0 rfl (plain_rat _ _ _ _ _ _ _) (HDst.out _) (.bool zx)).put 1 1 rfl (plain_rat _ _ _ _ _ _ _) (HDst.out _) (.slice e1 e2 e3)).put 1 2 rfl (plain_rat _ _ _ _ _ _ _) (HDst.out _) (.slice e4 e5 e6)
            have HV3 := Lib.hid (two_rats V3 1 0 rfl rfl)
            clear V V1 V2 V3 m1 m2 hQN
            refine wpAny_of_held (S := fun _ => True) _ _ _ _ ?_
            refine wpAnyH_ready (rs := [4, 5]) (by kernel_rfl) (by simp) ?_
            refine (AllReadyH.cons (o := _) rfl (fun K hK => ?_) (AllReadyH.cons (o := _) rfl (fun K hK => ?_) AllReadyH.nil))
            · go_simp
              refine hK.out _ _ trivial (fun _ => ?_)
              clear hK K
              try simp only [las]
              refine wpAnyH_ready (rs := [5, 6]) (by kernel_rfl) (by simp) ?_
              refine (AllReadyH.cons (o := _) rfl (fun K hK => ?_) (AllReadyH.cons (o := _) rfl (fun K hK => ?_) AllReadyH.nil))
              · go_simp
                refine hK.out _ _ trivial (fun _ => ?_)
                clear hK K
                try simp only [las]
                refine wpAnyH_ready (rs := [6]) (by kernel_rfl) (by simp) ?_
                refine (AllReadyH.cons (o := _) rfl (fun K hK => ?_) AllReadyH.nil)
                · go_simp
                  refine hK.out _ _ trivial (fun _ => ?_)
                  clear hK K
                  try simp only [las]
                  refine wpAnyH_done (by kernel_rfl) ?_ _
                  go_wp2_with fail
                  go_round
                  case rel => exact ⟨y - 1, zx, e1, e2, e3, e4, e5, e6, by omega, by omega, rfl, by rw [HQN.out]; exact HV3.out⟩
                  case measure => simp [intOf]; omega
              · go_simp
                refine hK.out _ _ trivial (fun _ => ?_)
                clear hK K
                try simp only [las]
                refine wpAnyH_ready (rs := [5]) (by kernel_rfl) (by simp) ?_
                refine (AllReadyH.cons (o := _) rfl (fun K hK => ?_) AllReadyH.nil)
                · go_simp
                  refine hK.out _ _ trivial (fun _ => ?_)
                  clear hK K
                  try simp only [las]
                  refine wpAnyH_done (by kernel_rfl) ?_ _
                  go_wp2_with fail
                  go_round
                  case rel => exact ⟨y - 1, zx, e1, e2, e3, e4, e5, e6, by omega, by omega, rfl, by rw [HQN.out]; exact HV3.out⟩
                  case measure => simp [intOf]; omega
            · go_simp
              refine hK.out _ _ trivial (fun _ => ?_)
              clear hK K
              try simp only [las]
              refine wpAnyH_ready (rs := [4]) (by kernel_rfl) (by simp) ?_
              refine (AllReadyH.cons (o := _) rfl (fun K hK => ?_) AllReadyH.nil)
              · go_simp
                refine hK.out _ _ trivial (fun _ => ?_)
                clear hK K
                try simp only [las]
                refine wpAnyH_ready (rs := [6]) (by kernel_rfl) (by simp) ?_
                refine (AllReadyH.cons (o := _) rfl (fun K hK => ?_) AllReadyH.nil)
                · go_simp
                  refine hK.out _ _ trivial (fun _ => ?_)
                  clear hK K
                  try simp only [las]
                  refine wpAnyH_done (by kernel_rfl) ?_ _
                  go_wp2_with fail
                  go_round
                  case rel => exact ⟨y - 1, zx, e1, e2, e3, e4, e5, e6, by omega, by omega, rfl, by rw [HQN.out]; exact HV3.out⟩
                  case measure => simp [intOf]; omega
        · obtain rfl : y = E := by omega
          clear hlt2
          have V9 := hV.out
          have a0 := V9.c0 0 rfl; have a1 := V9.c1 0 rfl; have a2 := V9.c2 0 rfl
          have b0 := V9.c0 1 rfl; have b1 := V9.c1 1 rfl; have b2 := V9.c2 1 rfl
          go_wp2_with fail
          refine (HSm.out _ _ _ (V9.rat 0 _ _ rfl) (V9.rat 1 _ _ rfl)).mono ?_
          rintro e w9 ⟨rfl, hb⟩
          have HB := Lib.hid (V9.below hb).bel
          clear V9 hb a0 a1 a2 b0 b1 b2
          go_wp2_with fail
          go_ret
          exact ⟨rfl, HB.out⟩
    · have hc1 : (C == 0) = false := by simpa using hc0
      have HB := Lib.hid V1.bel
      clear V1 HF HP2 HNE
      go_wp2_with fail
      go_ret
      exact ⟨rfl, HB.out⟩
/-- The walk of DecShifts. -/
theorem decShifts.walk (s : ByteArray) (n : Int) (_ : s.size ≤ maxLen) (_ : (Lit.int .i64 n).wf = true) (w : World) (htab : Tab w) (htb : TabB w) :
 Calls Tryz.prog 5 #[.string s, .int .i64 n] w fun e w' => e = .returned (.bool true) ∧ Below w.heap.size w w' := by
 by_cases h : 60 < s.size ∨ n < -60 ∨ 60 < n
 · exact decShifts.early s n w htab htb h
 · by_cases hp : 0 ≤ n
   · exact decShifts.up s n hp w htab htb (by omega) (by omega) (by omega)
   · exact decShifts.down s n hp w htab htb (by omega) (by omega) (by omega)
end Go.Proofs.YtnhobagjpjcigaaGreatDoor
