/-
  bits.Div64: quotient and rest.
-/
import Derived.Test.YtllmacokhjmdgaaGreatDoorShelf
import Derived.Test.YtllmacokhjmdgaaGreatDoorNDivP
import Derived.WalkSpells
import Derived.WalkSmall
import Derived.ProofKit
import Derived.BigQuiet
import Derived.Deep.QuietTactic
import Derived.Deep.CutRange
import Derived.Deep.CutBlock
namespace Go.Proofs.YtllmacokhjmdgaaGreatDoor
open Go.RowKit
set_option linter.unusedVariables false
theorem wrap_tdiv (a b : Nat) (h : a < 18446744073709551616) : IntKind.u64.wrap ((a : Int).tdiv (b : Int)) = ((a / b : Nat) : Int) := by
  rw [Int.tdiv_eq_ediv_of_nonneg (by omega), ← Int.natCast_ediv, wrapu64 _ (Nat.lt_of_le_of_lt (Nat.div_le_self a b) h)]
theorem wrap_tmod (a b : Nat) (h : a < 18446744073709551616) : IntKind.u64.wrap ((a : Int).tmod (b : Int)) = ((a % b : Nat) : Int) := by
  rw [Int.tmod_eq_emod_of_nonneg (by omega), ← Int.natCast_emod, wrapu64 _ (Nat.lt_of_le_of_lt (Nat.mod_le a b) h)]
def DivIs (hi lo y : Nat) (w : World) (e : Ending) (w' : World) : Prop :=
  ∃ q r : Nat, q = (hi * 18446744073709551616 + lo) / y ∧ r = (hi * 18446744073709551616 + lo) % y ∧ e = .returned (.tuple #[.int .u64 (q : Int), .int .u64 (r : Int)]) ∧ Below w.heap.size w w'
set_option maxRecDepth 100000 in
set_option maxHeartbeats 4000000 in
theorem div64_any (hi lo y : Nat) (hlo : lo < 18446744073709551616) (hy : y < 18446744073709551616) (h : hi < y) (w : World) :
    Calls Tryz.prog 59 #[.int .u64 (hi : Int), .int .u64 (lo : Int), .int .u64 (y : Int)] w (DivIs hi lo y w) := by
  by_cases h0 : hi = 0
  · subst h0
    have HD : Hid (∀ w', Below w.heap.size w w' → DivIs 0 lo y w (.returned (.tuple #[.int .u64 (IntKind.u64.wrap ((lo : Int).tdiv (y : Int))), .int .u64 ((lo : Int) % (y : Int))])) w') := Lib.hid (fun w' hb => ⟨lo / y, lo % y, by simp, by simp, by rw [wrap_tdiv lo y hlo, ← Int.natCast_emod], hb⟩)
    obtain ⟨LO, hLO⟩ : ∃ LO : Int, (lo : Int) = LO := ⟨_, rfl⟩
    obtain ⟨Y, hY⟩ : ∃ Y : Int, (y : Int) = Y := ⟨_, rfl⟩
    have hY0 : (Y == 0) = false := by simp; omega
    have hYH : ¬ Y ≤ 0 := by omega
    have hL0 : 0 ≤ LO := by omega
    rw [hLO, hY] at HD ⊢
    clear hLO hY hlo hy h
    go_enter Tryz.func59, Tryz.ntmps59
    go_wp2
    go_quiet (fail)
    go_wp2
    go_ret2
    exact HD.out _ (below_drewN (Below.refl _ _) nq)
  · obtain ⟨s, yn, u, v, eS, hsh, eY, eU, eV⟩ := div_pre hi lo y hlo hy h
    have h1 := hsh.ylt; have h2 := hsh.yge; have h3 := hsh.ult; have h4 := hsh.vlt
    obtain ⟨HI, hHI⟩ : ∃ HI : Int, (hi : Int) = HI := ⟨_, rfl⟩
    obtain ⟨LO, hLO⟩ : ∃ LO : Int, (lo : Int) = LO := ⟨_, rfl⟩
    obtain ⟨Y, hY⟩ : ∃ Y : Int, (y : Int) = Y := ⟨_, rfl⟩
    have hY0 : (Y == 0) = false := by simp; omega
    have hYH : ¬ Y ≤ HI := by omega
    have hH0 : (HI == 0) = false := by simp; omega
    have hLe := Lib.hid (Tryz.bits_LeadingZeros64 Y w (by omega) (by omega))
    have hYn : Y.toNat = y := by omega
    rw [hYn, eS] at hLe
    obtain ⟨YS, hYS⟩ : ∃ YS : Int, (yn : Int) = YS := ⟨_, rfl⟩
    obtain ⟨U, hU⟩ : ∃ U : Int, (u : Int) = U := ⟨_, rfl⟩
    obtain ⟨V, hV⟩ : ∃ V : Int, (v : Int) = V := ⟨_, rfl⟩
    obtain ⟨Y1, hY1⟩ : ∃ Y1 : Int, ((yn / 4294967296 : Nat) : Int) = Y1 := ⟨_, rfl⟩
    obtain ⟨Y0, hY00⟩ : ∃ Y0 : Int, ((yn % 4294967296 : Nat) : Int) = Y0 := ⟨_, rfl⟩
    obtain ⟨V1, hV1⟩ : ∃ V1 : Int, ((v / 4294967296 : Nat) : Int) = V1 := ⟨_, rfl⟩
    obtain ⟨V0, hV0⟩ : ∃ V0 : Int, ((v % 4294967296 : Nat) : Int) = V0 := ⟨_, rfl⟩
    have eY1 : YS / 4294967296 = Y1 := by omega
    have eY0 : bits .and .u64 YS 4294967295 = Y0 := by rw [← hYS, mask32 yn h1, hY00]
    have eV1 : V / 4294967296 = V1 := by omega
    have eV0 : bits .and .u64 V 4294967295 = V0 := by rw [← hV, mask32 v h4, hV0]
    have hY1z : ¬ Y1 = 0 := by omega
    have hs0 : (0 : Int) ≤ (s : Int) := by omega
    have hs1 : (s : Int) ≤ 63 := by have := hsh.s63; omega
    obtain ⟨S, hS⟩ : ∃ S : Int, (s : Int) = S := ⟨_, rfl⟩
    have eS2 : s = S.toNat := by omega
    rw [hHI] at eU
    rw [hLO] at eU eV
    rw [hY] at eY
    rw [hHI, hLO, hY]
    rw [hS] at hLe hs0 hs1 eU
    rw [eS2, hYS] at eY
    rw [eS2, hU] at eU
    rw [eS2, hV] at eV
    have HQ := dz_init (u := u) (v := v / 4294967296) (n := yn) h2 h1 (by omega) h3
    rw [hU, hY1] at HQ
    obtain ⟨K0, hK0'⟩ : ∃ K0, U / Y1 = K0 := ⟨_, rfl⟩
    have hK0 : IntKind.u64.wrap (U.tdiv Y1) = K0 := by rw [← hU, ← hY1, wrap_tdiv _ _ (by omega), ← hK0', ← hU, ← hY1, Int.natCast_ediv]
    rw [hK0'] at HQ
    clear hK0'
    obtain ⟨R0, hR0⟩ : ∃ R0, IntKind.u64.wrap (U - IntKind.u64.wrap (K0 * Y1)) = R0 := ⟨_, rfl⟩
    rw [hR0] at HQ
    have HQ := Lib.hid HQ
    obtain ⟨q1, hq1⟩ : ∃ q1, (u * 4294967296 + v / 4294967296) / yn = q1 := ⟨_, rfl⟩
    obtain ⟨r1, hr1⟩ : ∃ r1, (u * 4294967296 + v / 4294967296) % yn = r1 := ⟨_, rfl⟩
    obtain ⟨Q1, hQ1⟩ : ∃ Q1 : Int, (q1 : Int) = Q1 := ⟨_, rfl⟩
    have HS1 : Hid (∀ K R : Int, DZ u (v / 4294967296) yn K R → (4294967296 ≤ K ∨ ¬ 4294967296 ≤ K ∧ DT K R Y0 V1) → ∃ K1 R1 : Int, IntKind.u64.wrap (K - 1) = K1 ∧ IntKind.u64.wrap (R + Y1) = R1 ∧ K1.toNat < K.toNat ∧
        (4294967296 ≤ R1 ∧ K1 = Q1 ∨ ¬ 4294967296 ≤ R1 ∧ DZ u (v / 4294967296) yn K1 R1)) := Lib.hid (fun K R hz ht => by
      have := dz_step h2 h1 (by omega) h3 hz (by rw [hY00, hV1]; exact ht)
      rw [hY1, hq1, hQ1] at this
      exact this)
    have HD1 : Hid (∀ K R : Int, DZ u (v / 4294967296) yn K R → ¬ 4294967296 ≤ K → ¬ DT K R Y0 V1 → K = Q1) := Lib.hid (fun K R hz h5 h6 => by
      have := dz_done h2 h1 (by omega) h3 hz h5 (by rw [hY00, hV1]; exact h6)
      rw [hq1, hQ1] at this
      exact this)
    -- the second digit
    have h5 : r1 < yn := by rw [← hr1]; exact Nat.mod_lt _ (by omega)
    obtain ⟨U2, hU2⟩ : ∃ U2 : Int, (r1 : Int) = U2 := ⟨_, rfl⟩
    have eU2 : IntKind.u64.wrap (IntKind.u64.wrap (IntKind.u64.wrap (U * 4294967296) + V1) - IntKind.u64.wrap (Q1 * YS)) = U2 := by
      have := rest_eq (u := u) (v := v / 4294967296) (n := yn) (by omega) h1
      rw [hq1, hr1, hU, hV1, hQ1, hYS, hU2] at this
      exact this
    have HQ2 := dz_init (u := r1) (v := v % 4294967296) (n := yn) h2 h1 (by omega) h5
    rw [hU2, hY1] at HQ2
    obtain ⟨K2, hK2'⟩ : ∃ K2, U2 / Y1 = K2 := ⟨_, rfl⟩
    have hK2 : IntKind.u64.wrap (U2.tdiv Y1) = K2 := by rw [← hU2, ← hY1, wrap_tdiv _ _ (by omega), ← hK2', ← hU2, ← hY1, Int.natCast_ediv]
    rw [hK2'] at HQ2
    clear hK2'
    obtain ⟨R2, hR2⟩ : ∃ R2, IntKind.u64.wrap (U2 - IntKind.u64.wrap (K2 * Y1)) = R2 := ⟨_, rfl⟩
    rw [hR2] at HQ2
    have HQ2 := Lib.hid HQ2
    obtain ⟨q2, hq2⟩ : ∃ q2, (r1 * 4294967296 + v % 4294967296) / yn = q2 := ⟨_, rfl⟩
    obtain ⟨rm, hrm⟩ : ∃ rm, (r1 * 4294967296 + v % 4294967296) % yn = rm := ⟨_, rfl⟩
    obtain ⟨Q2, hQ2⟩ : ∃ Q2 : Int, (q2 : Int) = Q2 := ⟨_, rfl⟩
    have HS2 : Hid (∀ K R : Int, DZ r1 (v % 4294967296) yn K R → (4294967296 ≤ K ∨ K < 4294967296 ∧ DT K R Y0 V0) → ∃ K1 R1 : Int, IntKind.u64.wrap (K - 1) = K1 ∧ IntKind.u64.wrap (R + Y1) = R1 ∧ K1.toNat < K.toNat ∧
        (4294967296 ≤ R1 ∧ K1 = Q2 ∨ R1 < 4294967296 ∧ DZ r1 (v % 4294967296) yn K1 R1)) := Lib.hid (fun K R hz ht => by
      have := dz_step h2 h1 (by omega) h5 hz (by rw [hY00, hV0]; exact ht.imp id (fun h => ⟨Int.not_le.2 h.1, h.2⟩))
      rw [hY1, hq2, hQ2] at this
      obtain ⟨K1, R1, e1, e2, e3, e4⟩ := this
      exact ⟨K1, R1, e1, e2, e3, e4.imp id (fun h => ⟨Int.not_le.1 h.1, h.2⟩)⟩)
    have HD2 : Hid (∀ K R : Int, DZ r1 (v % 4294967296) yn K R → K < 4294967296 → ¬ DT K R Y0 V0 → K = Q2) := Lib.hid (fun K R hz h8 h6 => by
      have := dz_done h2 h1 (by omega) h5 hz (Int.not_le.2 h8) (by rw [hY00, hV0]; exact h6)
      rw [hq2, hQ2] at this
      exact this)
    obtain ⟨RM, hRM⟩ : ∃ RM : Int, (rm : Int) = RM := ⟨_, rfl⟩
    have eRM : IntKind.u64.wrap (IntKind.u64.wrap (IntKind.u64.wrap (U2 * 4294967296) + V0) - IntKind.u64.wrap (Q2 * YS)) = RM := by
      have := rest_eq (u := r1) (v := v % 4294967296) (n := yn) (by omega) h1
      rw [hq2, hrm, hU2, hV0, hQ2, hYS, hRM] at this
      exact this
    have hq1b : q1 < 4294967296 := by
      rw [← hq1, Nat.div_lt_iff_lt_mul (by omega)]; omega
    have hq2b : q2 < 4294967296 := by
      rw [← hq2, Nat.div_lt_iff_lt_mul (by omega)]; omega
    obtain ⟨QQ, hQQ⟩ : ∃ QQ : Int, ((q1 * 4294967296 + q2 : Nat) : Int) = QQ := ⟨_, rfl⟩
    have eQQ : IntKind.u64.wrap (IntKind.u64.wrap (Q1 * 4294967296) + Q2) = QQ := by
      rw [← hQ1, ← hQ2, ← hQQ]
      have e : (q1 : Int) * 4294967296 = ((q1 * 4294967296 : Nat) : Int) := by rw [Int.natCast_mul]; rfl
      rw [e, wrapu64 _ (by omega), ← Int.natCast_add, wrapu64 _ (by omega)]
    have HFin : Hid (∀ w', Below w.heap.size w w' → DivIs hi lo y w (.returned (.tuple #[.int .u64 QQ, .int .u64 (RM / 2 ^ S.toNat)])) w') := Lib.hid (fun w' hb => by
      have g1 : u * 4294967296 + v / 4294967296 = q1 * yn + r1 := by have := Nat.div_add_mod (u * 4294967296 + v / 4294967296) yn; rw [hq1, hr1, Nat.mul_comm yn q1] at this; exact this.symm
      have g0 : r1 * 4294967296 + v % 4294967296 = q2 * yn + rm := by have := Nat.div_add_mod (r1 * 4294967296 + v % 4294967296) yn; rw [hq2, hrm, Nat.mul_comm yn q2] at this; exact this.symm
      have g2 := two_digits 4294967296 yn (v / 4294967296) (v % 4294967296) q1 r1 q2 rm u g1 g0
      have g3 : (hi * 18446744073709551616 + lo) * 2 ^ s = (q1 * 4294967296 + q2) * (y * 2 ^ s) + rm := by
        rw [hsh.num, ← hsh.ey, ← g2, join_eq]
      have hrmlt : rm < yn := by rw [← hrm]; exact Nat.mod_lt _ (by omega)
      obtain ⟨g4, g5⟩ := div_shift (Nat.two_pow_pos s) (by omega) g3 (by rw [← hsh.ey]; exact hrmlt)
      refine ⟨_, _, g4.symm, g5.symm, ?_, hb⟩
      have e2 : ((2 : Int) ^ S.toNat) = ((2 ^ s : Nat) : Int) := by rw [← eS2, Int.natCast_pow]; rfl
      rw [← hQQ, e2, ← hRM, Int.natCast_ediv])
    clear h1 h2 h3 h4 h5 hq1b hq2b hlo hy h hYn eS eS2 hS
    go_enter Tryz.func59, Tryz.ntmps59
    go_wp2_with fail
    refine hLe.out.mono ?_
    rintro e w1 ⟨rfl, rfl⟩
    go_upto_block 0 with fail
    go_cut [15, 16] from 67 to 85 (fun k r wc => k = .int .u64 Q1 ∧ (∃ R' : Int, r = .int .u64 R') ∧ wc = w1)
    case first =>
      go_wp2_with fail
      go_loop [15, 16] (fun k r => ∃ K R : Int, k = .int .u64 K ∧ r = .int .u64 R ∧ Hid (DZ u (v / 4294967296) yn K R)) (fun k _ => (intOf k).toNat)
      case atStart => exact ⟨K0, R0, rfl, rfl, HQ⟩
      case round =>
        obtain ⟨K, R, rfl, rfl, hz⟩ := hrel
        by_cases hk : (4294967296 : Int) ≤ K
        · obtain ⟨K1, R1, eK1, eR1, hlt, hfin⟩ := HS1.out K R hz.out (.inl hk)
          rcases hfin with ⟨hR1, rfl⟩ | ⟨hR1, hz1⟩
          · clear hz
            go_wp2_with fail
            go_meet
            case rel => exact ⟨rfl, ⟨_, rfl⟩, rfl⟩
          · have Hz1 := Lib.hid hz1
            clear hz hz1
            go_wp2_with fail
            go_round
            case rel => exact ⟨K1, R1, rfl, rfl, Hz1⟩
            case measure => simpa [intOf] using hlt
        · by_cases hT : IntKind.u64.wrap (IntKind.u64.wrap (4294967296 * R) + V1) < IntKind.u64.wrap (K * Y0)
          · obtain ⟨K1, R1, eK1, eR1, hlt, hfin⟩ := HS1.out K R hz.out (.inr ⟨Int.not_le.1 hk, hT⟩)
            rcases hfin with ⟨hR1, rfl⟩ | ⟨hR1, hz1⟩
            · clear hz
              go_wp2_with fail
              go_meet
              case rel => exact ⟨rfl, ⟨_, rfl⟩, rfl⟩
            · have Hz1 := Lib.hid hz1
              clear hz hz1
              go_wp2_with fail
              go_round
              case rel => exact ⟨K1, R1, rfl, rfl, Hz1⟩
              case measure => simpa [intOf] using hlt
          · obtain rfl := HD1.out K R hz.out (Int.not_le.1 hk) hT
            clear hz
            go_wp2_with fail
            go_meet
            case rel => exact ⟨rfl, ⟨_, rfl⟩, rfl⟩
    case rest =>
      obtain ⟨rfl, ⟨R', rfl⟩, rfl⟩ := hcut
      clear HS1 HD1 HQ
      go_upto_block 2 with fail
      go_cut [18, 16] from 102 to 120 (fun k r wz => k = .int .u64 Q2 ∧ (∃ R' : Int, r = .int .u64 R') ∧ wz = wc)
      case first =>
        go_wp2_with fail
        go_loop [18, 16] (fun k r => ∃ K R : Int, k = .int .u64 K ∧ r = .int .u64 R ∧ Hid (DZ r1 (v % 4294967296) yn K R)) (fun k _ => (intOf k).toNat)
        case atStart => exact ⟨K2, R2, rfl, rfl, HQ2⟩
        case round =>
          obtain ⟨K, R, rfl, rfl, hz⟩ := hrel
          by_cases hk : (4294967296 : Int) ≤ K
          · obtain ⟨K1, R1, eK1, eR1, hlt, hfin⟩ := HS2.out K R hz.out (.inl hk)
            rcases hfin with ⟨hR1, rfl⟩ | ⟨hR1, hz1⟩
            · clear hz
              go_wp2_with fail
              go_meet
              case rel => exact ⟨rfl, ⟨_, rfl⟩, rfl⟩
            · have Hz1 := Lib.hid hz1
              clear hz hz1
              go_wp2_with fail
              go_round
              case rel => exact ⟨K1, R1, rfl, rfl, Hz1⟩
              case measure => simpa [intOf] using hlt
          · by_cases hT : IntKind.u64.wrap (IntKind.u64.wrap (4294967296 * R) + V0) < IntKind.u64.wrap (K * Y0)
            · obtain ⟨K1, R1, eK1, eR1, hlt, hfin⟩ := HS2.out K R hz.out (.inr ⟨Int.not_le.1 hk, hT⟩)
              rcases hfin with ⟨hR1, rfl⟩ | ⟨hR1, hz1⟩
              · clear hz
                go_wp2_with fail
                go_meet
                case rel => exact ⟨rfl, ⟨_, rfl⟩, rfl⟩
              · have Hz1 := Lib.hid hz1
                clear hz hz1
                go_wp2_with fail
                go_round
                case rel => exact ⟨K1, R1, rfl, rfl, Hz1⟩
                case measure => simpa [intOf] using hlt
            · obtain rfl := HD2.out K R hz.out (Int.not_le.1 hk) hT
              clear hz
              go_wp2_with fail
              go_meet
              case rel => exact ⟨rfl, ⟨_, rfl⟩, rfl⟩
      case rest =>
        obtain ⟨rfl, ⟨R'', rfl⟩, rfl⟩ := hcut
        clear HS2 HD2 HQ2
        go_wp2_with fail
        go_ret2
        exact HFin.out _ (Below.refl _ _)
end Go.Proofs.YtllmacokhjmdgaaGreatDoor
