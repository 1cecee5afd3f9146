/-
  Law 1: the document's own Bits, Gcd, Two.
  Law 1: the document's own reading of a number.
  Law 1: the document's own text of a number.
-/
import Derived.Test.YtggmnmmjmihnfaaGreatDoorRefA
import Derived.Test.YtggmnmmjmihnfaaGreatDoorNBits
import Derived.Test.YtggmnmmjmihnfaaGreatDoorNCmp
import Derived.Test.YtggmnmmjmihnfaaGreatDoorNParse
import Derived.Test.YtggmnmmjmihnfaaGreatDoorNSmall
import Derived.Test.YtggmnmmjmihnfaaGreatDoorNNines
namespace Go.Proofs.YtggmnmmjmihnfaaGreatDoor
open Go.RowKit
set_option linter.unusedVariables false
theorem rn_inj {w : World} {v : Value} {M N : Nat} (h : RN w v M) (k : RN w v N) : M = N := by
  obtain ⟨ds, ⟨a, c, rfl, _, hr, _⟩, _, _, rfl⟩ := h
  obtain ⟨es, ⟨a', c', hv, _, hr', _⟩, _, _, rfl⟩ := k
  injection hv with h1 h2 h3
  subst h1
  have : ds = es := by
    refine List.ext_getElem h2 fun i hi hj => ?_
    obtain ⟨ad, he, _, hc⟩ := hr i hi
    obtain ⟨ad', he', _, hc'⟩ := hr' i hj
    rw [he] at he'
    cases he'
    rw [hc] at hc'
    rw [List.getD_eq_getElem?_getD, List.getD_eq_getElem?_getD, List.getElem?_eq_getElem hi, List.getElem?_eq_getElem hj] at hc'
    simp only [Option.getD_some, Option.some.injEq, Value.int.injEq, true_and] at hc'
    omega
  rw [this]
theorem rn_form {w : World} {v : Value} {N : Nat} (h : RN w v N) : ∃ a n c, v = .slice a n c ∧ n ≤ c ∧ (n = 0 ↔ N = 0) := by
  obtain ⟨ds, ⟨a, c, rfl, hc, _, _⟩, hd, ht, rfl⟩ := h
  refine ⟨a, _, c, rfl, hc, fun h => ?_, fun h => ?_⟩
  · rw [List.eq_nil_of_length_eq_zero h]; rfl
  · rcases Nat.eq_zero_or_pos ds.length with h0 | h0
    · exact h0
    · have h1 := trm_ge ht (fun e => by rw [e] at h0; simp at h0)
      have h2 : 0 < 10000 ^ (ds.length - 1) := Nat.pow_pos (by omega)
      omega
/-- Of a number trim takes nothing. -/
theorem rtrim_num (N : Nat) (v : Value) (w : World) (h : RN w v N) (hN : N < 10000 ^ 9000) :
    Calls Tryz.prog 62 #[v] w fun e w' => e = .returned v ∧ w = w' := by
  obtain ⟨ds, ⟨a, c, rfl, hc, hr, _⟩, hd, ht, rfl⟩ := h
  exact rtrim_self a c ds w hr (by have := trm_len ht hN; omega) hc ht
/-- The number that a value is. -/
noncomputable def rnum (w : World) (v : Value) : Nat := by
  classical exact if h : ∃ N, RN w v N then h.choose else 0
theorem rnum_eq {w : World} {v : Value} {N : Nat} (h : RN w v N) : rnum w v = N := by
  unfold rnum
  rw [dif_pos ⟨N, h⟩]
  exact rn_inj (Exists.choose_spec (⟨N, h⟩ : ∃ N, RN w v N)) h
theorem rdiv_num (M B : Nat) (va vb : Value) (w : World) (ha : RN w va M) (hM : M < 10000 ^ 9000) (hb : RN w vb B) (hB0 : 0 < B) (hB : B < 10000 ^ 2000) :
    Calls Tryz.prog 38 #[va, vb] w (RDivIs M B w) := by
  obtain ⟨ds, h1, h2, h3, rfl⟩ := ha
  exact rdiv_any B va vb ds w h1 h2 (by have := trm_len h3 hM; omega) hb hB0 hB
/-- By a digit that is written as a row. -/
theorem div_lit (M d : Nat) (va : Value) (W : World) (ha : RN W va M) (hM : M < 10000 ^ 9000) (hd : d < 10000) (hd0 : 0 < d) :
    Calls Tryz.prog 38 #[va, .slice (some ⟨W.heap.size, 0, none⟩) 1 1] (W.alloc (.cells #[.int .i64 (d : Int)] 3)) (RDivIs M d W) := by
  have hl := below_litR W (.cells #[.int .i64 (d : Int)] 3)
  have hv : RN (W.alloc (.cells #[.int .i64 (d : Int)] 3)) (.slice (some ⟨W.heap.size, 0, none⟩) 1 1) d :=
    ⟨[d], od_rd (od_lit W.heap.size W d (Nat.le_refl _)), fun x hx => by simp at hx; omega, fun _ => by simp; omega, by simp [dvl]⟩
  refine (rdiv_num M d va _ _ (ha.below hl (Nat.le_refl _)) hM hv hd0 (pow_up 1 2000 (by omega) (by decide))).mono fun e w' h => ?_
  obtain ⟨v1, v2, h1, h2, h3, h4⟩ := h
  exact ⟨v1, v2, h1, h2, h3, hl.trans (h4.mono hl.size)⟩
theorem isLen_hlv : ∀ N, IsLen N (hlv N).length := by
  intro N
  induction N using Nat.strongRecOn with
  | ind N ih =>
    rcases Nat.eq_zero_or_pos N with h | h
    · subst h; rw [hlv_zero]; exact ⟨by simp, fun h => absurd h (by simp)⟩
    · rw [hlv_pos (by omega), List.length_cons, Nat.add_comm]
      exact isLen_half (by omega) (ih (N / 2) (by omega))
def RBitsIs (N : Nat) (w : World) (e : Ending) (w' : World) : Prop := ∃ L : Nat, e = .returned (.int .i64 (L : Int)) ∧ IsLen N L ∧ Below w.heap.size w w'
set_option maxRecDepth 100000 in
set_option maxHeartbeats 4000000 in
theorem rgcd_any (M N : Nat) (va vb : Value) (w : World) (ha : RN w va M) (hb : RN w vb N) (hM : M < 10000 ^ 2000) (hN : N < 10000 ^ 2000) :
    Calls Tryz.prog 63 #[va, vb] w (GotR (Nat.gcd M N) w) := by
  have HVA := Lib.hid ha; have HVB := Lib.hid hb
  have HM := Lib.hid hM; have HN := Lib.hid hN
  obtain ⟨a0, n0, c0, rfl, _, _⟩ := rn_form hb
  clear ha hb hM hN
  go_enter Tryz.func63, Tryz.ntmps63
  go_wp2_with fail
  go_loopw [0, 1, 5, 6] (fun av bv _ _ wr => ∃ (A B n : Nat) (a : Option Addr) (c : Nat), bv = .slice a n c ∧ Hid (RN wr av A) ∧ Hid (RN wr (.slice a n c) B) ∧ Hid (Nat.gcd A B = Nat.gcd M N) ∧ Hid (A < 10000 ^ 2000) ∧ Hid (B < 10000 ^ 2000) ∧ Hid (Below w.heap.size w wr)) (fun _ bv _ _ wr => rnum wr bv)
  case atStart => exact ⟨M, N, n0, a0, c0, rfl, HVA, HVB, Lib.hid rfl, HM, HN, Lib.hid (Below.refl _ _)⟩
  case round =>
    clear HVA HVB HM HN
    obtain ⟨A, B, n, a, c, rfl, hA, hB, hg, hA9, hB9, hbel⟩ := hrel
    obtain ⟨a', n', c', he, hnc, hz⟩ := rn_form hB.out
    injection he with e1 e2 e3
    subst e1 e2 e3
    by_cases h0 : B = 0
    · have hn0 : n = 0 := hz.2 h0
      have hG : Hid (A = Nat.gcd M N) := Lib.hid (by rw [← hg.out, h0, Nat.gcd_zero_right])
      subst hn0
      clear hg hz h0 hA9 hB9 hB
      go_wp2_with fail
      go_ret
      exact ⟨_, rfl, hG.out ▸ hA.out, hbel.out⟩
    · have hn0 : (0 : Int) < (n : Int) := by
        have : n ≠ 0 := fun h => h0 (hz.1 h)
        omega
      have hBp : 0 < B := by omega
      have HBp := Lib.hid hBp
      have Hm := Lib.hid (rnum_eq hB.out)
      have HD := Lib.hid (rdiv_num A B _ _ wr hA.out (pow_up 2000 9000 hA9.out (by decide)) hB.out hBp hB9.out)
      have Hg2 : Hid (Nat.gcd B (A % B) = Nat.gcd M N) := Lib.hid (by rw [← hg.out, Nat.gcd_comm A B, Nat.gcd_rec B A, Nat.gcd_comm])
      have Hmod : Hid (A % B < B) := Lib.hid (Nat.mod_lt _ hBp)
      clear hg hz h0 hA hA9 hBp
      go_wp2_with fail
      refine HD.out.mono ?_
      rintro e w3 ⟨v1, v2, rfl, hq, hr, hb⟩
      have Hr := Lib.hid hr
      have Hb := Lib.hid (hbel.out.trans (hb.mono hbel.out.size))
      have HB3 := Lib.hid (hB.out.below hb (Nat.le_refl _))
      have Hm3 := Lib.hid (rnum_eq hr)
      have Hmod9 := Lib.hid (Nat.lt_trans Hmod.out hB9.out)
      obtain ⟨a3, n3, c3, rfl, _, _⟩ := rn_form hr
      clear hq hr hb HD hbel hB
      go_wp2_with fail
      go_roundw
      case rel => exact ⟨B, A % B, n3, a3, c3, rfl, HB3, Hr, Hg2, hB9, Hmod9, Hb⟩
      case measure => show rnum _ _ < rnum _ _; rw [Hm3.out, Hm.out]; exact Hmod.out
theorem rn_lit (W : World) {d : Nat} (hd : d < 10000) (hd0 : 0 < d) : RN (W.alloc (.cells #[.int .i64 (d : Int)] 3)) (.slice (some ⟨W.heap.size, 0, none⟩) 1 1) d :=
  ⟨[d], od_rd (od_lit W.heap.size W d (Nat.le_refl _)), fun x hx => by simp at hx; omega, fun _ => by simp; omega, by simp [dvl]⟩
theorem two_up (k m : Nat) (h : k < m) : 2 ^ k < 10000 ^ m := Nat.lt_of_le_of_lt (Nat.pow_le_pow_left (by decide) k) (Nat.pow_lt_pow_right (by decide) h)
end Go.Proofs.YtggmnmmjmihnfaaGreatDoor
namespace Go.Proofs.YtggmnmmjmihnfaaGreatDoor
open Go.RowKit
set_option linter.unusedVariables false
/-- What the document's Parse tells. -/
def RParseIs (s : ByteArray) (w : World) (e : Ending) (w' : World) : Prop :=
  (WF s ∧ (∃ v, e = .returned (.tuple #[v, .int .i64 0]) ∧ RN w' v (dv s.data.toList) ∧ Aft w.heap.size v) ∨ ¬ WF s ∧ e = .returned (.tuple #[.slice none 0 0, .int .i64 3])) ∧ Below w.heap.size w w'
theorem dv_drop_take (L : List UInt8) (lo k : Nat) (b : UInt8) (h : L[lo + k]? = some b) : dv ((L.drop lo).take (k + 1)) = dv ((L.drop lo).take k) * 10 + (b.toNat - 48) := by
  rw [List.take_add_one, List.getElem?_drop, h]
  exact dv_snoc _ _
/-- Four digits more, from behind. -/
theorem dv_chunk (L : List UInt8) (e lo : Nat) (he : e ≤ L.length) (hlo : lo = e - 4) : dv (L.take e) = dv (L.take lo) * 10000 + dv ((L.drop lo).take (e - lo)) := by
  have e1 : L.take e = L.take lo ++ (L.drop lo).take (e - lo) := by
    have := List.take_add (l := L) (i := lo) (j := e - lo)
    rwa [show lo + (e - lo) = e from by omega] at this
  rw [e1, dv_append]
  have hl : ((L.drop lo).take (e - lo)).length = e - lo := by rw [List.length_take, List.length_drop]; omega
  rw [hl]
  rcases Nat.lt_or_ge e 4 with h | h
  · have h0 : lo = 0 := by omega
    subst h0
    simp [dv]
  · have : e - lo = 4 := by omega
    rw [this]
/-- What the loop over the digits keeps. -/
structure Pq (L : List UInt8) (j : Nat) (os : List Nat) : Prop where
  len : os.length = j
  dg : Dg os
  eq : dv L = dv (L.take (L.length - 4 * j)) * 10000 ^ j + dvl os
theorem pq_zero (L : List UInt8) : Pq L 0 [] := ⟨rfl, fun d h => by simp at h, by simp [dvl]⟩
theorem pq_step {L : List UInt8} {j : Nat} {os : List Nat} (h : Pq L j os) {d lo : Nat} (hlo : lo = L.length - 4 * j - 4) (hd : d = dv ((L.drop lo).take (L.length - 4 * j - lo))) (hd9 : d < 10000) : Pq L (j + 1) (os ++ [d]) := by
  refine ⟨by rw [List.length_append, h.len]; rfl, h.dg.snoc hd9, ?_⟩
  rw [dvl_snoc h.len, h.eq, dv_chunk L (L.length - 4 * j) lo (by omega) hlo, ← hd, show L.length - 4 * (j + 1) = lo from by omega, Nat.pow_succ, Nat.add_mul, Nat.mul_assoc, Nat.mul_comm 10000, Nat.mul_comm d]
  omega
theorem pq_done {L : List UInt8} {j : Nat} {os : List Nat} (h : Pq L j os) (hj : L.length ≤ 4 * j) : dvl os = dv L := by
  rw [h.eq, show L.length - 4 * j = 0 from by omega]
  simp [dv]
set_option maxRecDepth 100000 in
set_option maxHeartbeats 8000000 in
theorem rparse_any (s : ByteArray) (w : World) (hs : s.size ≤ 1200) :
    Calls Tryz.prog 24 #[.string s] w (RParseIs s w) := by
  by_cases h0 : s.size = 0
  · have hs0 : s = ⟨#[]⟩ := ByteArray.size_eq_zero_iff.1 h0
    subst hs0
    have HF : Hid (RParseIs ⟨#[]⟩ w (.returned (.tuple #[.slice none 0 0, .int .i64 3])) w) := Lib.hid ⟨.inr ⟨fun h => absurd h.ne (by decide), rfl⟩, Below.refl _ _⟩
    go_enter Tryz.func24, Tryz.ntmps24
    go_wp2
    go_ret2
    exact HF.out
  · have hp : 0 < s.size := by omega
    have hpi : (0 : Int) < (s.size : Int) := by omega
    have hE : s.toList.isEmpty = false := by
      rw [List.isEmpty_eq_false_iff]
      intro h; exact h0 (by rw [ByteArray.toList_eq] at h; exact List.length_eq_zero_iff.2 h)
    have hat := toList_at s 0 hp
    obtain ⟨b0, hb0⟩ : ∃ b0, s[0] = b0 := ⟨_, rfl⟩
    rw [hb0] at hat
    have hhead : s.data.toList.head? = some b0 := by rw [List.head?_eq_getElem?]; exact hat
    obtain ⟨Z, hZ⟩ : ∃ Z : Int, (b0.toNat : Int) = Z := ⟨_, rfl⟩
    obtain ⟨n, hn⟩ : ∃ n, s.size = n := ⟨_, rfl⟩
    have Hn := Lib.hid hn
    have Hln : Hid (s.data.toList.length = n) := Lib.hid (by simpa using hn)
    have HNo : Hid (¬ (∀ b ∈ s.data.toList, isDig b) → RParseIs s w (.returned (.tuple #[.slice none 0 0, .int .i64 3])) w) := Lib.hid (fun h => ⟨.inr ⟨fun hw => h hw.dig, rfl⟩, Below.refl _ _⟩)
    by_cases hl : Z = 48 ∧ 1 < n
    · have HF : Hid (RParseIs s w (.returned (.tuple #[.slice none 0 0, .int .i64 3])) w) := Lib.hid ⟨.inr ⟨fun h => h.lead ⟨by rw [hhead]; congr 1; exact UInt8.toNat_inj.1 (by have := hl.1; show b0.toNat = 48; omega), by omega⟩, rfl⟩, Below.refl _ _⟩
      obtain ⟨rfl, hl1⟩ := hl
      have hl2 : (1 : Int) < (n : Int) := by omega
      clear hhead hat
      go_enter Tryz.func24, Tryz.ntmps24
      go_wp2_with fail
      go_ret2
      exact HF.out
    · have HYes : Hid ((∀ b ∈ s.data.toList, isDig b) → WF s) := Lib.hid (fun h => ⟨hp, fun hh => hl ⟨by
        have h1 := hh.1
        rw [hhead] at h1
        have h2 : b0 = 48 := Option.some.inj h1
        rw [← hZ, h2]; rfl, by have := hh.2; omega⟩, h⟩)
      rw [hn] at hs hp hpi
      by_cases hz : Z = 48
      · have hn1 : ¬ (1 : Int) < (n : Int) := by omega
        subst hz
        clear hhead hat hl
        go_enter Tryz.func24, Tryz.ntmps24
        go_wp2_with fail
        go_loop [5] (fun i => ∃ k : Nat, k ≤ n ∧ i = .int .i64 (k : Int) ∧ Hid (∀ j b, j < k → s.data.toList[j]? = some b → isDig b)) (fun i => n - (intOf i).toNat)
        case atStart => exact ⟨0, by omega, rfl, Lib.hid (fun j b hj => by omega)⟩
        case round =>
          obtain ⟨k, hk, rfl, hd⟩ := hrel
          by_cases hlt : k < n
          · have hks : k < s.size := by rw [Hn.out]; exact hlt
            have hat := toList_at s k hks
            obtain ⟨b, hb⟩ : ∃ b, s[k] = b := ⟨_, rfl⟩
            rw [hb] at hat
            obtain ⟨C, hC⟩ : ∃ C : Int, (b.toNat : Int) = C := ⟨_, rfl⟩
            have hi0 : (0 : Int) ≤ (k : Int) := by omega
            have hi1 : (k : Int) < (n : Int) := by omega
            have HC := Lib.hid hC
            have Hat := Lib.hid hat
            have hsn := Hn.out
            by_cases hlo : C < 48
            · have HX := Lib.hid (HNo.out (fun hd => by have h1 := hd b (List.mem_of_getElem? Hat.out); have := h1.1; have := HC.out; omega))
              clear hat
              go_wp2_with fail
              go_ret2
              exact HX.out
            · by_cases hhi : 57 < C
              · have HX := Lib.hid (HNo.out (fun hd => by have h1 := hd b (List.mem_of_getElem? Hat.out); have := h1.2; have := HC.out; omega))
                clear hat
                go_wp2_with fail
                go_ret2
                exact HX.out
              · have hd1 : Hid (∀ j b, j < k + 1 → s.data.toList[j]? = some b → isDig b) := Lib.hid (fun j b' hj hjb => by
                  by_cases hjk : j < k
                  · exact hd.out j b' hjk hjb
                  · have : j = k := by omega
                    subst this
                    rw [Hat.out] at hjb
                    cases hjb
                    have := HC.out
                    exact ⟨by omega, by omega⟩)
                clear hd hat
                go_wp2_with fail
                go_round
                case rel => exact ⟨k + 1, by omega, by go_num, hd1⟩
                case measure => simp [intOf]; omega
          · obtain rfl : k = n := by omega
            have HD : Hid (∀ b ∈ s.data.toList, isDig b) := Lib.hid (fun b hb => by
              obtain ⟨j, hj⟩ := List.mem_iff_getElem?.1 hb
              exact hd.out j b (by have := (List.getElem?_eq_some_iff.1 hj).1; have := Hn.out; simp at *; omega) hj)
            have HWF := Lib.hid (HYes.out HD.out)
            have hn12 : ¬ (1200 : Int) < (k : Int) := by omega
            have hkk : ¬ (k : Int) < (k : Int) := by omega
            clear hd
            obtain ⟨n, rfl⟩ : ∃ n, n = k := ⟨_, rfl⟩
            have HR0 := Lib.hid (pq_zero s.data.toList)
            have HO0 := Lib.hid (od_nil w.heap.size w)
            have HB0 := Lib.hid (Below.refl w.heap.size w)
            go_wp2_with fail
            go_loopw [4, 6] (fun av ev wr => ∃ (j : Nat) (z : Int) (os : List Nat), j ≤ n ∧ z = (n : Int) - 4 * (j : Int) ∧ -4 ≤ z ∧ ev = .int .i64 z ∧ Hid (Pq s.data.toList j os) ∧ Hid (OD w.heap.size wr av os) ∧ Hid (Below w.heap.size w wr)) (fun _ ev _ => (intOf ev + 4).toNat)
            case atStart => exact ⟨0, n, [], by omega, by omega, by omega, rfl, HR0, HO0, HB0⟩
            case round =>
              clear HR0 HO0 HB0
              obtain ⟨j, z, os, hj, hz, hz4, rfl, hP, ho, hbel⟩ := hrel
              by_cases hzp : 0 < z
              · obtain ⟨e, he⟩ : ∃ e, n - 4 * j = e := ⟨_, rfl⟩
                obtain ⟨lo, hlo⟩ : ∃ lo, e - 4 = lo := ⟨_, rfl⟩
                have hez : (e : Int) = z := by omega
                have hjn : j + 1 ≤ n := by omega
                have hzn : z - 4 = (n : Int) - 4 * ((j + 1 : Nat) : Int) := by omega
                have Hzn := Lib.hid hzn
                have Hlo := Lib.hid hlo
                have He := Lib.hid he
                have hle : lo < e := by omega
                have hle4 : e - lo ≤ 4 := by omega
                have hen : e ≤ n := by omega
                have hmx : max ((e : Int) - 4) 0 = (lo : Int) := by omega
                clear hz he hlo hzn
                subst hez
                have hlen := hP.out.len
                obtain ⟨a0, c0, hv0, _, _⟩ := od_form ho.out
                rw [hlen] at hv0
                subst hv0
                have hwr : w.heap.size ≤ wr.heap.size := hbel.out.size
                go_wp2_with fail
                go_loop [7, 8] (fun vv kv => ∃ (k : Nat) (V : Int), k ≤ e ∧ lo ≤ k ∧ kv = .int .i64 (k : Int) ∧ vv = .int .i64 V ∧ Hid (V = (dv ((s.data.toList.drop lo).take (k - lo)) : Nat))) (fun _ kv => e - (intOf kv).toNat)
                case atStart => exact ⟨lo, 0, by omega, Nat.le_refl _, rfl, rfl, Lib.hid (by rw [Nat.sub_self]; simp [dv])⟩
                case round =>
                  obtain ⟨k, V, hke, hlk, rfl, rfl, hV⟩ := hrel
                  have hdl : dv ((s.data.toList.drop lo).take (k - lo)) < 10 ^ (k - lo) := dv_lt (k - lo) _ (by rw [List.length_take, List.length_drop, Hln.out]; omega) (fun x hx => HD.out x (List.mem_of_mem_drop (List.mem_of_mem_take hx)))
                  by_cases hlt : k < e
                  · have hks : k < s.size := by rw [Hn.out]; omega
                    have hat := toList_at s k hks
                    obtain ⟨b, hb⟩ : ∃ b, s[k] = b := ⟨_, rfl⟩
                    rw [hb] at hat
                    have hdb := HD.out b (List.mem_of_getElem? hat)
                    have hnx := dv_drop_take s.data.toList lo (k - lo) b (by rw [show lo + (k - lo) = k from by omega]; exact hat)
                    rw [show k - lo + 1 = k + 1 - lo from by omega] at hnx
                    have h4 : 10 ^ (k - lo) ≤ 10 ^ 3 := Nat.pow_le_pow_right (by decide) (by omega)
                    have e3 : (10 : Nat) ^ 3 = 1000 := by decide
                    obtain ⟨E, hE⟩ : ∃ E : Int, ((b.toNat - 48 : Nat) : Int) = E := ⟨_, rfl⟩
                    unfold isDig at hdb
                    have e1 : ((b.toNat : Int) - 48) % 256 = E := by omega
                    obtain ⟨V1, hV1⟩ : ∃ V1 : Int, ((dv ((s.data.toList.drop lo).take (k + 1 - lo)) : Nat) : Int) = V1 := ⟨_, rfl⟩
                    have hVe := hV.out
                    have e2 : V * 10 + E = V1 := by rw [← hV1, hnx, ← hE]; omega
                    have hi0 : (0 : Int) ≤ (k : Int) := by omega
                    have hi1 : (k : Int) < (n : Int) := by omega
                    have hi2 : (k : Int) < (e : Int) := by omega
                    have hV0 : 0 ≤ V := by omega
                    have hV9 : V < 1000 := by omega
                    have hE0 : 0 ≤ E := by omega
                    have hE9 : E ≤ 9 := by omega
                    have HV1 := Lib.hid hV1.symm
                    have hsn := Hn.out
                    clear hat hdb hdl h4 e3 hE hV hVe hV1 hnx hmx
                    go_wp2_with fail
                    go_round
                    case rel => exact ⟨k + 1, V1, by omega, by omega, by go_num, rfl, HV1⟩
                    case measure => simp [intOf]; omega
                  · obtain rfl : k = e := by omega
                    have h4 : 10 ^ (k - lo) ≤ 10 ^ 4 := Nat.pow_le_pow_right (by decide) (by omega)
                    have e4 : (10 : Nat) ^ 4 = 10000 := by decide
                    obtain ⟨d, hd⟩ : ∃ d, dv ((s.data.toList.drop lo).take (k - lo)) = d := ⟨_, rfl⟩
                    have hVd : V = (d : Int) := by rw [hV.out, hd]
                    have Hst := Lib.hid (pq_step hP.out (d := d) (lo := lo) (by rw [Hln.out, He.out, Hlo.out]) (by rw [Hln.out, He.out]; exact hd.symm) (by omega))
                    have hi2 : ¬ (k : Int) < (k : Int) := by omega
                    clear hV hdl h4 e4 hd hmx
                    subst hVd
                    go_wp2_with (at_builtin; refine push_d rfl (.tmp 62) (.tmp 64) 32 Tryz.underR rfl w.heap.size _ _ os d rfl ho.out hwr _ rfl rfl (by omega) ?_)
                    intro v' W' ho' _ hb'
                    have hO := Lib.hid ho'
                    have hbel2 := Lib.hid (hbel.out.trans (hb'.mono (Nat.le_refl _)))
                    clear ho' hb' ho hbel hP
                    go_wp2_with fail
                    go_roundw
                    case rel => exact ⟨j + 1, _, os ++ [d], hjn, Hzn.out, by omega, rfl, Hst, hO, hbel2⟩
                    case measure => simp [intOf]; omega
              · have hfin := pq_done hP.out (by rw [Hln.out]; omega)
                have hlen := hP.out.len
                have HT := Lib.hid (rtrim_aft w.heap.size _ _ os wr ho.out hP.out.dg (by omega) hfin)
                obtain ⟨a0, c0, hv0, _, _⟩ := od_form ho.out
                subst hv0
                rw [hlen] at HT
                clear hfin ho hP hz
                go_wp2_with fail
                refine HT.out.mono ?_
                rintro e w2 ⟨⟨v', rfl, hR, hAf⟩, rfl⟩
                have HR := Lib.hid hR
                have HAf := Lib.hid hAf
                clear hR HT hAf
                go_wp2_with fail
                go_ret2
                exact ⟨.inl ⟨HWF.out, v', rfl, HR.out, HAf.out⟩, hbel.out⟩
      · have hzb : (Z == 48) = false := by simp [hz]
        clear hhead hat hl
        go_enter Tryz.func24, Tryz.ntmps24
        go_wp2_with fail
        go_loop [5] (fun i => ∃ k : Nat, k ≤ n ∧ i = .int .i64 (k : Int) ∧ Hid (∀ j b, j < k → s.data.toList[j]? = some b → isDig b)) (fun i => n - (intOf i).toNat)
        case atStart => exact ⟨0, by omega, rfl, Lib.hid (fun j b hj => by omega)⟩
        case round =>
          obtain ⟨k, hk, rfl, hd⟩ := hrel
          by_cases hlt : k < n
          · have hks : k < s.size := by rw [Hn.out]; exact hlt
            have hat := toList_at s k hks
            obtain ⟨b, hb⟩ : ∃ b, s[k] = b := ⟨_, rfl⟩
            rw [hb] at hat
            obtain ⟨C, hC⟩ : ∃ C : Int, (b.toNat : Int) = C := ⟨_, rfl⟩
            have hi0 : (0 : Int) ≤ (k : Int) := by omega
            have hi1 : (k : Int) < (n : Int) := by omega
            have HC := Lib.hid hC
            have Hat := Lib.hid hat
            have hsn := Hn.out
            by_cases hlo : C < 48
            · have HX := Lib.hid (HNo.out (fun hd => by have h1 := hd b (List.mem_of_getElem? Hat.out); have := h1.1; have := HC.out; omega))
              clear hat
              go_wp2_with fail
              go_ret2
              exact HX.out
            · by_cases hhi : 57 < C
              · have HX := Lib.hid (HNo.out (fun hd => by have h1 := hd b (List.mem_of_getElem? Hat.out); have := h1.2; have := HC.out; omega))
                clear hat
                go_wp2_with fail
                go_ret2
                exact HX.out
              · have hd1 : Hid (∀ j b, j < k + 1 → s.data.toList[j]? = some b → isDig b) := Lib.hid (fun j b' hj hjb => by
                  by_cases hjk : j < k
                  · exact hd.out j b' hjk hjb
                  · have : j = k := by omega
                    subst this
                    rw [Hat.out] at hjb
                    cases hjb
                    have := HC.out
                    exact ⟨by omega, by omega⟩)
                clear hd hat
                go_wp2_with fail
                go_round
                case rel => exact ⟨k + 1, by omega, by go_num, hd1⟩
                case measure => simp [intOf]; omega
          · obtain rfl : k = n := by omega
            have HD : Hid (∀ b ∈ s.data.toList, isDig b) := Lib.hid (fun b hb => by
              obtain ⟨j, hj⟩ := List.mem_iff_getElem?.1 hb
              exact hd.out j b (by have := (List.getElem?_eq_some_iff.1 hj).1; have := Hn.out; simp at *; omega) hj)
            have HWF := Lib.hid (HYes.out HD.out)
            have hn12 : ¬ (1200 : Int) < (k : Int) := by omega
            have hkk : ¬ (k : Int) < (k : Int) := by omega
            clear hd
            obtain ⟨n, rfl⟩ : ∃ n, n = k := ⟨_, rfl⟩
            have HR0 := Lib.hid (pq_zero s.data.toList)
            have HO0 := Lib.hid (od_nil w.heap.size w)
            have HB0 := Lib.hid (Below.refl w.heap.size w)
            go_wp2_with fail
            go_loopw [4, 6] (fun av ev wr => ∃ (j : Nat) (z : Int) (os : List Nat), j ≤ n ∧ z = (n : Int) - 4 * (j : Int) ∧ -4 ≤ z ∧ ev = .int .i64 z ∧ Hid (Pq s.data.toList j os) ∧ Hid (OD w.heap.size wr av os) ∧ Hid (Below w.heap.size w wr)) (fun _ ev _ => (intOf ev + 4).toNat)
            case atStart => exact ⟨0, n, [], by omega, by omega, by omega, rfl, HR0, HO0, HB0⟩
            case round =>
              clear HR0 HO0 HB0
              obtain ⟨j, z, os, hj, hz, hz4, rfl, hP, ho, hbel⟩ := hrel
              by_cases hzp : 0 < z
              · obtain ⟨e, he⟩ : ∃ e, n - 4 * j = e := ⟨_, rfl⟩
                obtain ⟨lo, hlo⟩ : ∃ lo, e - 4 = lo := ⟨_, rfl⟩
                have hez : (e : Int) = z := by omega
                have hjn : j + 1 ≤ n := by omega
                have hzn : z - 4 = (n : Int) - 4 * ((j + 1 : Nat) : Int) := by omega
                have Hzn := Lib.hid hzn
                have Hlo := Lib.hid hlo
                have He := Lib.hid he
                have hle : lo < e := by omega
                have hle4 : e - lo ≤ 4 := by omega
                have hen : e ≤ n := by omega
                have hmx : max ((e : Int) - 4) 0 = (lo : Int) := by omega
                clear hz he hlo hzn
                subst hez
                have hlen := hP.out.len
                obtain ⟨a0, c0, hv0, _, _⟩ := od_form ho.out
                rw [hlen] at hv0
                subst hv0
                have hwr : w.heap.size ≤ wr.heap.size := hbel.out.size
                go_wp2_with fail
                go_loop [7, 8] (fun vv kv => ∃ (k : Nat) (V : Int), k ≤ e ∧ lo ≤ k ∧ kv = .int .i64 (k : Int) ∧ vv = .int .i64 V ∧ Hid (V = (dv ((s.data.toList.drop lo).take (k - lo)) : Nat))) (fun _ kv => e - (intOf kv).toNat)
                case atStart => exact ⟨lo, 0, by omega, Nat.le_refl _, rfl, rfl, Lib.hid (by rw [Nat.sub_self]; simp [dv])⟩
                case round =>
                  obtain ⟨k, V, hke, hlk, rfl, rfl, hV⟩ := hrel
                  have hdl : dv ((s.data.toList.drop lo).take (k - lo)) < 10 ^ (k - lo) := dv_lt (k - lo) _ (by rw [List.length_take, List.length_drop, Hln.out]; omega) (fun x hx => HD.out x (List.mem_of_mem_drop (List.mem_of_mem_take hx)))
                  by_cases hlt : k < e
                  · have hks : k < s.size := by rw [Hn.out]; omega
                    have hat := toList_at s k hks
                    obtain ⟨b, hb⟩ : ∃ b, s[k] = b := ⟨_, rfl⟩
                    rw [hb] at hat
                    have hdb := HD.out b (List.mem_of_getElem? hat)
                    have hnx := dv_drop_take s.data.toList lo (k - lo) b (by rw [show lo + (k - lo) = k from by omega]; exact hat)
                    rw [show k - lo + 1 = k + 1 - lo from by omega] at hnx
                    have h4 : 10 ^ (k - lo) ≤ 10 ^ 3 := Nat.pow_le_pow_right (by decide) (by omega)
                    have e3 : (10 : Nat) ^ 3 = 1000 := by decide
                    obtain ⟨E, hE⟩ : ∃ E : Int, ((b.toNat - 48 : Nat) : Int) = E := ⟨_, rfl⟩
                    unfold isDig at hdb
                    have e1 : ((b.toNat : Int) - 48) % 256 = E := by omega
                    obtain ⟨V1, hV1⟩ : ∃ V1 : Int, ((dv ((s.data.toList.drop lo).take (k + 1 - lo)) : Nat) : Int) = V1 := ⟨_, rfl⟩
                    have hVe := hV.out
                    have e2 : V * 10 + E = V1 := by rw [← hV1, hnx, ← hE]; omega
                    have hi0 : (0 : Int) ≤ (k : Int) := by omega
                    have hi1 : (k : Int) < (n : Int) := by omega
                    have hi2 : (k : Int) < (e : Int) := by omega
                    have hV0 : 0 ≤ V := by omega
                    have hV9 : V < 1000 := by omega
                    have hE0 : 0 ≤ E := by omega
                    have hE9 : E ≤ 9 := by omega
                    have HV1 := Lib.hid hV1.symm
                    have hsn := Hn.out
                    clear hat hdb hdl h4 e3 hE hV hVe hV1 hnx hmx
                    go_wp2_with fail
                    go_round
                    case rel => exact ⟨k + 1, V1, by omega, by omega, by go_num, rfl, HV1⟩
                    case measure => simp [intOf]; omega
                  · obtain rfl : k = e := by omega
                    have h4 : 10 ^ (k - lo) ≤ 10 ^ 4 := Nat.pow_le_pow_right (by decide) (by omega)
                    have e4 : (10 : Nat) ^ 4 = 10000 := by decide
                    obtain ⟨d, hd⟩ : ∃ d, dv ((s.data.toList.drop lo).take (k - lo)) = d := ⟨_, rfl⟩
                    have hVd : V = (d : Int) := by rw [hV.out, hd]
                    have Hst := Lib.hid (pq_step hP.out (d := d) (lo := lo) (by rw [Hln.out, He.out, Hlo.out]) (by rw [Hln.out, He.out]; exact hd.symm) (by omega))
                    have hi2 : ¬ (k : Int) < (k : Int) := by omega
                    clear hV hdl h4 e4 hd hmx
                    subst hVd
                    go_wp2_with (at_builtin; refine push_d rfl (.tmp 62) (.tmp 64) 32 Tryz.underR rfl w.heap.size _ _ os d rfl ho.out hwr _ rfl rfl (by omega) ?_)
                    intro v' W' ho' _ hb'
                    have hO := Lib.hid ho'
                    have hbel2 := Lib.hid (hbel.out.trans (hb'.mono (Nat.le_refl _)))
                    clear ho' hb' ho hbel hP
                    go_wp2_with fail
                    go_roundw
                    case rel => exact ⟨j + 1, _, os ++ [d], hjn, Hzn.out, by omega, rfl, Hst, hO, hbel2⟩
                    case measure => simp [intOf]; omega
              · have hfin := pq_done hP.out (by rw [Hln.out]; omega)
                have hlen := hP.out.len
                have HT := Lib.hid (rtrim_aft w.heap.size _ _ os wr ho.out hP.out.dg (by omega) hfin)
                obtain ⟨a0, c0, hv0, _, _⟩ := od_form ho.out
                subst hv0
                rw [hlen] at HT
                clear hfin ho hP hz
                go_wp2_with fail
                refine HT.out.mono ?_
                rintro e w2 ⟨⟨v', rfl, hR, hAf⟩, rfl⟩
                have HR := Lib.hid hR
                have HAf := Lib.hid hAf
                clear hR HT hAf
                go_wp2_with fail
                go_ret2
                exact ⟨.inl ⟨HWF.out, v', rfl, HR.out, HAf.out⟩, hbel.out⟩
end Go.Proofs.YtggmnmmjmihnfaaGreatDoor
namespace Go.Proofs.YtggmnmmjmihnfaaGreatDoor
open Go.RowKit
set_option linter.unusedVariables false
/-- The digits of V, or nothing of 0. -/
def dz (V : Nat) : List UInt8 := if V = 0 then [] else Lib.decDigits V
theorem dz_dec {V : Nat} (h : 0 < V) : dz V = dz (V / 10) ++ [UInt8.ofNat (48 + V % 10)] := by
  unfold dz
  rw [if_neg (by omega)]
  by_cases h10 : V < 10
  · rw [if_pos (by omega), Lib.decDigits_one h10, Nat.mod_eq_of_lt h10]; rfl
  · rw [if_neg (by omega)]
    conv => lhs; rw [Lib.decDigits, dif_neg h10]
theorem dv_upper {ds : List Nat} {i : Nat} (hi : i < ds.length) : dvl (ds.drop i) = ds.getD i 0 + 10000 * dvl (ds.drop (i + 1)) := by rw [drop_get ds i hi]; rfl
/-- What the loop over the digits keeps: cl is the text of the digits that are done. -/
def Tz (ds : List Nat) (i : Nat) (cl : List UInt8) : Prop := Lib.decDigits (dvl ds) = dz (dvl (ds.drop i)) ++ cl
theorem upper_pos {ds : List Nat} (ht : Trm ds) {i : Nat} (hi : i < ds.length) : 0 < dvl (ds.drop i) := by
  have h1 : Trm (ds.drop i) := fun _ => by
    have h2 := ht (fun e => by rw [e] at hi; simp at hi)
    rw [List.length_drop, List.getD_eq_getElem?_getD, List.getElem?_drop, show i + (ds.length - i - 1) = ds.length - 1 from by omega, ← List.getD_eq_getElem?_getD]
    exact h2
  have h3 := trm_ge h1 (fun e => by have := congrArg List.length e; rw [List.length_drop] at this; simp at this; omega)
  have h4 : 0 < 10000 ^ ((ds.drop i).length - 1) := Nat.pow_pos (by omega)
  omega
theorem tz_zero {ds : List Nat} (ht : Trm ds) (hne : 0 < ds.length) : Tz ds 0 [] := by
  unfold Tz dz
  have := upper_pos ht hne
  rw [List.drop_zero] at this ⊢
  rw [if_neg (by omega), List.append_nil]
theorem tz_mid {ds : List Nat} {i : Nat} {cl : List UInt8} (h : Tz ds i cl) (ht : Trm ds) (hd : Dg ds) (hi : i + 1 < ds.length) : Tz ds (i + 1) (pk 4 (ds.getD i 0) ++ cl) := by
  have h1 := upper_pos ht hi
  have h2 := dv_upper (ds := ds) (i := i) (by omega)
  unfold Tz dz at h ⊢
  rw [h, if_neg (by omega), if_neg (by omega), ← List.append_assoc, ← dec_join 4 _ _ h1 (hd.getD i), h2]
  congr 2
  omega
theorem tz_last {ds : List Nat} {i : Nat} {cl : List UInt8} (h : Tz ds i cl) (hi : i + 1 = ds.length) : Lib.decDigits (dvl ds) = dz (ds.getD i 0) ++ cl := by
  have h2 := dv_upper (ds := ds) (i := i) (by omega)
  rw [List.drop_of_length_le (i := i + 1) (by omega)] at h2
  unfold Tz at h
  rw [h, h2]
  simp [dvl]
theorem rem10 (V : Nat) : ((UInt8.ofNat (48 + V % 10)).toNat : Int) = 48 + (V : Int) % 10 := by
  have : (UInt8.ofNat (48 + V % 10)).toNat = 48 + V % 10 := by rw [UInt8.toNat_ofNat', Nat.mod_eq_of_lt (by omega)]
  rw [this]; omega
theorem byte_conv (W : World) (b : UInt8) : (convert 85 9 (.slice (some ⟨W.heap.size, 0, none⟩) 1 1)).run Tryz.prog (W.alloc (.cells #[.int .u8 (b.toNat : Int)] 5)) = .ok (.string ⟨#[b]⟩) (W.alloc (.cells #[.int .u8 (b.toNat : Int)] 5)) := by
  have h1 := run_convert_bytes_back (P := Tryz.prog) (W.alloc (.cells #[.int .u8 (b.toNat : Int)] 5)) 85 9 5 ⟨W.heap.size, 0, none⟩ 1 [b] Tryz.underlying85 Tryz.underlying5 Tryz.underlying9 (fun j hj => by
    have hj0 : j = 0 := by simp at hj; omega
    subst hj0
    have e : (⟨W.heap.size, 0, none⟩ : Addr).add 0 = ⟨W.heap.size, 0, none⟩ := rfl
    rw [e, (Blk.new W 5 #[.int .u8 (b.toNat : Int)]).cell 0]
    simp)
  exact h1
set_option maxRecDepth 100000 in
set_option maxHeartbeats 4000000 in
theorem rtext_any (N : Nat) (v : Value) (w : World) (h : RN w v N) (hN : N < 10000 ^ 9000) :
    Calls Tryz.prog 29 #[v] w (TextIs N w) := by
  have HT := Lib.hid (rtrim_num N v w h hN)
  obtain ⟨ds, ⟨a0, c0, rfl, hc0, hr, _⟩, hd, ht, rfl⟩ := h
  have hl := trm_len ht hN
  have HF : Hid (∀ E w', E.data.toList = Lib.decDigits (dvl ds) → Below w.heap.size w w' → TextIs (dvl ds) w (.returned (.string E)) w') := Lib.hid (fun E w' h1 h2 => ⟨by rw [← h1], h2⟩)
  have Hr := Lib.hid hr; have Hd := Lib.hid hd; have Ht := Lib.hid ht
  obtain ⟨n, hn⟩ : ∃ n, ds.length = n := ⟨_, rfl⟩
  have Hn := Lib.hid hn
  rw [hn] at HT hl ⊢
  by_cases h0 : n = 0
  · have hds : ds = [] := List.eq_nil_of_length_eq_zero (by omega)
    have HZ : Hid (TextIs (dvl ds) w (.returned (.string ⟨#[48]⟩)) w) := Lib.hid (HF.out ⟨#[48]⟩ w (by rw [hds]; show [48] = Lib.decDigits 0; rw [Lib.decDigits_one (by decide)]; rfl) (Below.refl _ _))
    subst h0
    clear hr hd ht hN hds hn
    go_enter Tryz.func29, Tryz.ntmps29
    go_wp2_with fail
    refine HT.out.mono ?_
    rintro e w1 ⟨rfl, rfl⟩
    go_wp2_with fail
    go_ret
    exact HZ.out
  · have hn0 : ((n : Int) == 0) = false := by simp; omega
    have H0 := Lib.hid (tz_zero ht (by omega))
    have HB0 := Lib.hid (Below.refl w.heap.size w)
    clear hr hd ht hN hn
    go_enter Tryz.func29, Tryz.ntmps29
    go_wp2_with fail
    refine HT.out.mono ?_
    rintro e w1 ⟨rfl, rfl⟩
    clear HT
    go_wp2_with fail
    go_loopw [3, 4] (fun sv iv wr => ∃ (i : Nat) (E : ByteArray) (cl : List UInt8), i ≤ n ∧ sv = .string E ∧ iv = .int .i64 (i : Int) ∧ Hid (E.data.toList = cl) ∧ Hid (cl.length ≤ 4 * i) ∧ Hid (Tz ds i cl) ∧ Hid (Below w.heap.size w wr)) (fun _ iv _ => n - (intOf iv).toNat)
    case atStart => exact ⟨0, ⟨#[]⟩, [], by omega, rfl, rfl, Lib.hid rfl, Lib.hid (Nat.le_refl _), H0, HB0⟩
    case round =>
      clear H0 HB0
      obtain ⟨i, E, cl, hi, rfl, rfl, hE, hL, hT, hbel⟩ := hrel
      by_cases hlt : i < n
      · obtain ⟨ad, rfl, hadl, hca⟩ := Hr.out i (by rw [Hn.out]; exact hlt)
        have hca1 := (hbel.out.cell (p := ad.add i) (by rw [add_block]; exact hadl)).trans hca
        have hd9 := Hd.out.getD i
        have hi0 : (0 : Int) ≤ (i : Int) := by omega
        have hi1 : (i : Int) < (n : Int) := by omega
        by_cases hm : i + 1 < n
        · have hT2 := Lib.hid (tz_mid hT.out Ht.out Hd.out (by rw [Hn.out]; exact hm))
          generalize ds.getD i 0 = d at *
          have hi2 : (i : Int) + 1 < (n : Int) := by omega
          clear hca hadl hT
          go_wp2_with fail
          go_loopw [3, 5, 6] (fun sv vv kv wr => ∃ (k V : Nat) (E : ByteArray) (c1 : List UInt8), k ≤ 4 ∧ sv = .string E ∧ vv = .int .i64 (V : Int) ∧ kv = .int .i64 (k : Int) ∧ V < 10000 ∧ Hid (E.data.toList = c1) ∧ Hid (c1.length ≤ 4 * i + k) ∧ Hid (pk (4 - k) V ++ c1 = pk 4 d ++ cl) ∧ Hid (Below w.heap.size w wr)) (fun _ _ kv _ => 4 - (intOf kv).toNat)
          case atStart => exact ⟨0, d, E, cl, by omega, rfl, rfl, rfl, hd9, hE, hL, Lib.hid rfl, hbel⟩
          case round =>
            clear hE hbel
            obtain ⟨k, V, E, c1, hk, rfl, rfl, rfl, hV9, hE, hL1, hP, hbel⟩ := hrel
            by_cases hk4 : k < 4
            · have hki : (k : Int) < 4 := by omega
              obtain ⟨b, hb⟩ : ∃ b, UInt8.ofNat (48 + V % 10) = b := ⟨_, rfl⟩
              have hbt := rem10 V
              rw [hb] at hbt
              have hP2 : Hid (pk (4 - (k + 1)) (V / 10) ++ ([b] ++ c1) = pk 4 d ++ cl) := Lib.hid (by
                have h1 := hP.out
                rw [show 4 - k = (4 - (k + 1)) + 1 from by omega] at h1
                rw [← h1, ← hb]
                simp [pk])
              have hE2 : Hid (((⟨#[b]⟩ : ByteArray) ++ E).data.toList = [b] ++ c1) := Lib.hid (by rw [ByteArray.data_append, Array.toList_append, hE.out])
              have eb : ((48 : Int) + (V : Int) % 10) % 256 = (b.toNat : Int) := by omega
              have eb2 : (48 : Int) + (V : Int) % 10 = (b.toNat : Int) := by omega
              have eq1 : ((V : Int)).tdiv 10 = ((V / 10 : Nat) : Int) := by rw [Int.tdiv_eq_ediv_of_nonneg (by omega)]; omega
              obtain ⟨V2, hV2⟩ : ∃ V2, V / 10 = V2 := ⟨_, rfl⟩
              rw [hV2] at eq1 hP2
              have hV29 : V2 < 10000 := by omega
              have hVi0 : 0 ≤ (V : Int) := by omega
              have hcv := byte_conv wr b
              have hsz : ¬ 9223372036854775807 < 1 + E.size := by
                have h1 := hL1.out
                have h2 : E.size = c1.length := by rw [← hE.out]; simp
                omega
              have hL2 : Hid (([b] ++ c1).length ≤ 4 * i + (k + 1)) := Lib.hid (by have h1 := hL1.out; simp; omega)
              have hb2 : Hid (Below w.heap.size w (wr.alloc (.cells #[.int .u8 (b.toNat : Int)] 5))) := Lib.hid (hbel.out.alloc hbel.out.size _)
              clear hb hbt hV2 hP hE hbel
              go_wp2_with fail
              go_roundw
              case rel => exact ⟨k + 1, V2, _, [b] ++ c1, by omega, rfl, rfl, by go_num, hV29, hE2, hL2, hP2, hb2⟩
              case measure => simp [intOf]; omega
            · obtain rfl : k = 4 := by omega
              have hT3 : Hid (Tz ds (i + 1) c1) := Lib.hid (by have h1 := hP.out; have h2 := hT2.out; rw [← h1] at h2; simpa [pk] using h2)
              clear hP hT2
              go_wp2_with fail
              go_roundw
              case rel => exact ⟨i + 1, E, c1, by omega, rfl, by go_num, hE, Lib.hid (by have := hL1.out; omega), hT3, hbel⟩
              case measure => simp [intOf]; omega
        · have hni : i + 1 = n := by omega
          have hT2 := Lib.hid (tz_last hT.out (by rw [Hn.out]; exact hni))
          generalize ds.getD i 0 = d at *
          have hi2 : ¬ (i : Int) + 1 < (n : Int) := by omega
          have hd94 : d < 10 ^ (4 - 0) := hd9
          clear hca hadl hT
          go_wp2_with fail
          go_loopw [3, 5, 6] (fun sv vv kv wr => ∃ (k V : Nat) (E : ByteArray) (c1 : List UInt8), k ≤ 4 ∧ sv = .string E ∧ vv = .int .i64 (V : Int) ∧ kv = .int .i64 (k : Int) ∧ V < 10 ^ (4 - k) ∧ Hid (E.data.toList = c1) ∧ Hid (c1.length ≤ 4 * i + k) ∧ Hid (Lib.decDigits (dvl ds) = dz V ++ c1) ∧ Hid (Below w.heap.size w wr)) (fun _ _ kv _ => 4 - (intOf kv).toNat)
          case atStart => exact ⟨0, d, E, cl, by omega, rfl, rfl, rfl, hd94, hE, hL, hT2, hbel⟩
          case round =>
            clear hE hbel hT2 hd94 hd9
            obtain ⟨k, V, E, c1, hk, rfl, rfl, rfl, hV9, hE, hL1, hP, hbel⟩ := hrel
            by_cases hk4 : k < 4 ∧ 0 < V
            · obtain ⟨hk4, hV0⟩ := hk4
              have hki : (k : Int) < 4 := by omega
              have hVp : (0 : Int) < (V : Int) := by omega
              obtain ⟨b, hb⟩ : ∃ b, UInt8.ofNat (48 + V % 10) = b := ⟨_, rfl⟩
              have hbt := rem10 V
              rw [hb] at hbt
              have hP2 : Hid (Lib.decDigits (dvl ds) = dz (V / 10) ++ ([b] ++ c1)) := Lib.hid (by
                rw [hP.out, dz_dec hV0, hb]
                simp)
              have hE2 : Hid (((⟨#[b]⟩ : ByteArray) ++ E).data.toList = [b] ++ c1) := Lib.hid (by rw [ByteArray.data_append, Array.toList_append, hE.out])
              have eb : ((48 : Int) + (V : Int) % 10) % 256 = (b.toNat : Int) := by omega
              have eb2 : (48 : Int) + (V : Int) % 10 = (b.toNat : Int) := by omega
              have eq1 : ((V : Int)).tdiv 10 = ((V / 10 : Nat) : Int) := by rw [Int.tdiv_eq_ediv_of_nonneg (by omega)]; omega
              have hV10k : V / 10 < 10 ^ (4 - (k + 1)) := by
                rw [show 4 - k = (4 - (k + 1)) + 1 from by omega, Nat.pow_succ] at hV9
                omega
              obtain ⟨V2, hV2⟩ : ∃ V2, V / 10 = V2 := ⟨_, rfl⟩
              rw [hV2] at eq1 hP2 hV10k
              have hV9b : V < 10000 := Nat.lt_of_lt_of_le hV9 (by
                have : 10 ^ (4 - k) ≤ 10 ^ 4 := Nat.pow_le_pow_right (by decide) (by omega)
                simpa using this)
              have hVi0 : 0 ≤ (V : Int) := by omega
              have HV10k := Lib.hid hV10k
              have hV29 : V2 < 10000 := by omega
              have hcv := byte_conv wr b
              have hsz : ¬ 9223372036854775807 < 1 + E.size := by
                have h1 := hL1.out
                have h2 : E.size = c1.length := by rw [← hE.out]; simp
                omega
              have hL2 : Hid (([b] ++ c1).length ≤ 4 * i + (k + 1)) := Lib.hid (by have h1 := hL1.out; simp; omega)
              have hb2 : Hid (Below w.heap.size w (wr.alloc (.cells #[.int .u8 (b.toNat : Int)] 5))) := Lib.hid (hbel.out.alloc hbel.out.size _)
              clear hb hbt hV2 hP hE hbel hV9 hV10k
              go_wp2_with fail
              go_roundw
              case rel => exact ⟨k + 1, V2, _, [b] ++ c1, by omega, rfl, rfl, by go_num, HV10k.out, hE2, hL2, hP2, hb2⟩
              case measure => simp [intOf]; omega
            · have hV0 : V = 0 := by
                by_cases h : k < 4
                · have : ¬ 0 < V := fun h2 => hk4 ⟨h, h2⟩
                  omega
                · rw [show 4 - k = 0 from by omega] at hV9
                  simpa using hV9
              have hT3 : Hid (Tz ds (i + 1) c1) := Lib.hid (by
                unfold Tz
                rw [hP.out, hV0, List.drop_of_length_le (by rw [Hn.out]; omega)]
                rfl)
              subst hV0
              clear hP hV9
              by_cases hk5 : k < 4
              · have hki : (k : Int) < 4 := by omega
                go_wp2_with fail
                go_roundw
                case rel => exact ⟨i + 1, E, c1, by omega, rfl, by go_num, hE, Lib.hid (by have := hL1.out; omega), hT3, hbel⟩
                case measure => simp [intOf]; omega
              · obtain rfl : k = 4 := by omega
                go_wp2_with fail
                go_roundw
                case rel => exact ⟨i + 1, E, c1, by omega, rfl, by go_num, hE, Lib.hid (by have := hL1.out; omega), hT3, hbel⟩
                case measure => simp [intOf]; omega
      · obtain rfl : i = n := by omega
        have hfin : E.data.toList = Lib.decDigits (dvl ds) := by
          have h1 := hT.out
          unfold Tz at h1
          rw [List.drop_of_length_le (by rw [Hn.out]; omega)] at h1
          rw [hE.out, h1]
          rfl
        have HR := Lib.hid (HF.out E wr hfin hbel.out)
        have hii : ¬ (i : Int) < (i : Int) := by omega
        clear hfin hT hE
        go_wp2_with fail
        go_ret
        exact HR.out
end Go.Proofs.YtggmnmmjmihnfaaGreatDoor
