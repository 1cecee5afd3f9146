/-
  Law 5: what is light; lists alike; names, texts; the first call.
-/
import Derived.Test.YtinkdjplehaibaaDoorDFirst
import Derived.BigQuiet
import Derived.Deep.QuietTactic
import Derived.Deep.RegionHeld3
import Derived.Deep.RegionLaw
namespace Go.Proofs.YtinkdjplehaibaaDoor
open Go.RowKit
set_option linter.unusedVariables false
/-- How much room is left. -/
def rm (L n : Int) : Int := if L < n then -1 else L - n
set_option maxRecDepth 100000 in
set_option maxHeartbeats 1000000 in
theorem room_any (L n : Int) (b : Nat) (w : World) (h0 : 0 ≤ L) (h1 : L ≤ 100000) (hn : 0 ≤ n) (hn1 : n ≤ 9223372036854775807) (hc : w.cell? ⟨b, 0, none⟩ = some (.int .i64 n)) :
    Calls Tryd.prog 21 #[.int .i64 L, .slice (some ⟨b, 0, none⟩) 1 1] w fun e w' => e = .returned (.int .i64 (rm L n)) ∧ w = w' := by
  by_cases hl : L < n
  · have hr : Hid (rm L n = -1) := Lib.hid (by unfold rm; rw [if_pos hl])
    go_enter Tryd.func21, Tryd.ntmps21
    go_wp2
    go_loop [0, 5] (fun l i => l = .int .i64 L ∧ i = .int .i64 0) (fun _ i => 1 - (intOf i).toNat)
    case atStart => exact ⟨rfl, rfl⟩
    case round =>
      obtain ⟨rfl, rfl⟩ := hrel
      go_wp2
      go_ret
      exact ⟨by rw [hr.out]; rfl, rfl⟩
  · have hr : Hid (rm L n = L - n) := Lib.hid (by unfold rm; rw [if_neg hl])
    go_enter Tryd.func21, Tryd.ntmps21
    go_wp2
    go_loop [0, 5] (fun l i => ∃ k : Nat, k ≤ 1 ∧ i = .int .i64 k ∧ l = .int .i64 (if k = 0 then L else L - n)) (fun _ i => 1 - (intOf i).toNat)
    case atStart => exact ⟨0, by omega, rfl, rfl⟩
    case round =>
      obtain ⟨k, hk, rfl, rfl⟩ := hrel
      by_cases hk0 : k = 0
      · subst hk0
        rw [if_pos rfl]
        go_wp2
        go_round
        case rel => exact ⟨1, by omega, by go_num, by rw [if_neg (by omega)]⟩
        case measure => simp [intOf]
      · obtain rfl : k = 1 := by omega
        rw [if_neg (by omega)]
        go_wp2
        go_ret
        exact ⟨by rw [hr.out]; rfl, rfl⟩

def LightIs (w : World) (e : Ending) (w' : World) : Prop := (∃ b, e = .returned (.bool b)) ∧ Below w.heap.size w w'
set_option maxRecDepth 100000 in
set_option maxHeartbeats 1000000 in
theorem light_any (a : Option Addr) (c : Nat) (l : List Dg) (w : World) (h : DR w (.slice a l.length c) l) (hs : ∀ d ∈ l, d.what.size ≤ maxLen) (hl : l.length ≤ maxLen) :
    Calls Tryd.prog 5 #[.slice a l.length c] w (LightIs w) := by
  have HD := Lib.hid h
  have HS := Lib.hid hs
  unfold maxLen at hl
  obtain ⟨n, hn⟩ : ∃ n, l.length = n := ⟨_, rfl⟩
  have Hn := Lib.hid hn
  rw [hn] at hl ⊢
  clear h hs hn
  go_enter Tryd.func5, Tryd.ntmps5
  go_wp2
  go_loopw [3, 4] (fun r i wr => ∃ (k : Nat) (R : Int), k ≤ n ∧ k ≤ 200 ∧ i = .int .i64 (k : Int) ∧ r = .int .i64 R ∧ -1 ≤ R ∧ R ≤ 6000 ∧ Hid (Below w.heap.size w wr)) (fun _ i _ => n - (intOf i).toNat)
  case atStart => exact ⟨0, 6000, by omega, by omega, rfl, rfl, by omega, by omega, Lib.hid (Below.refl _ _)⟩
  case round =>
    obtain ⟨k, R, hk, hk2, rfl, rfl, hR1, hR2, hb⟩ := hrel
    by_cases hlt : k < n
    · have hi : (k : Int) < (n : Int) := by omega
      by_cases h200 : k < 200
      · have hi2 : (k : Int) < 200 := by omega
        by_cases hR0 : 0 ≤ R
        · obtain ⟨d, hd⟩ : ∃ d, l[k]? = some d := ⟨_, List.getElem?_eq_getElem (by rw [Hn.out]; exact hlt)⟩
          have hsz := HS.out d (List.mem_of_getElem? hd)
          unfold maxLen at hsz
          obtain ⟨a', c', hv', hcell⟩ := HD.out
          cases hv'
          obtain ⟨ad, had, hadl, hc⟩ := hcell k d hd
          subst had
          obtain ⟨_, _, c2⟩ := c3_of hc
          have c2' : wr.cell? ⟨(ad.add (k * 3)).block, (ad.add (k * 3)).off + 2, none⟩ = some (.string d.what) := (hb.out.cell (by rw [show (⟨(ad.add (k * 3)).block, (ad.add (k * 3)).off + 2, none⟩ : Addr).block = ad.block from add_block ad _]; exact hadl)).trans c2
          have hi0 : (0 : Int) ≤ (k : Int) := by omega
          have HR : Hid (∀ b wq, wq.cell? ⟨b, 0, none⟩ = some (.int .i64 (d.what.size : Int)) → Calls Tryd.prog 21 #[.int .i64 R, .slice (some ⟨b, 0, none⟩) 1 1] wq fun e w' => e = .returned (.int .i64 (rm R d.what.size)) ∧ wq = w') := Lib.hid (fun b wq h0 => room_any R _ b wq hR0 (by omega) (by omega) (by omega) h0)
          have hrm : -1 ≤ rm R d.what.size ∧ rm R d.what.size ≤ 6000 := by unfold rm; split <;> omega
          obtain ⟨R1, hR1e⟩ : ∃ R1, rm R d.what.size = R1 := ⟨_, rfl⟩
          rw [hR1e] at hrm HR
          obtain ⟨hm1, hm2⟩ := hrm
          clear hR1e hcell hc c2 hd
          go_wp2_with fail
          refine (HR.out _ _ ((Blk.new _ _ _).cell 0)).mono ?_
          rintro e w3 ⟨rfl, rfl⟩
          have hb' := Lib.hid (hb.out.alloc hb.out.size (.cells #[.int .i64 (d.what.size : Int)] 3))
          clear hb HR c2' hsz
          go_wp2
          go_roundw
          case rel => first | exact ⟨k + 1, R1, by omega, by omega, by go_num, rfl, hm1, hm2, hb'⟩ | ((repeat apply Exists.intro); exact ⟨⟨k + 1, R1, by omega, by omega, by go_num, rfl, hm1, hm2, hb'⟩, rfl⟩)
          case measure => simp [intOf]; omega
        · have hRn : R < 0 := by omega
          by_cases h130 : (n : Int) ≤ 130
          · go_wp2
            go_ret
            exact ⟨⟨_, rfl⟩, hb.out⟩
          · go_wp2
            go_ret
            exact ⟨⟨_, rfl⟩, hb.out⟩
      · have hi2 : ¬ (k : Int) < 200 := by omega
        by_cases h130 : (n : Int) ≤ 130
        · omega
        · go_wp2
          go_ret
          exact ⟨⟨_, rfl⟩, hb.out⟩
    · have hi : ¬ (k : Int) < (n : Int) := by omega
      by_cases h130 : (n : Int) ≤ 130
      · by_cases hR0 : 0 ≤ R
        · go_wp2
          go_ret
          exact ⟨⟨_, rfl⟩, hb.out⟩
        · go_wp2
          go_ret
          exact ⟨⟨_, rfl⟩, hb.out⟩
      · go_wp2
        go_ret
        exact ⟨⟨_, rfl⟩, hb.out⟩
set_option maxRecDepth 100000 in
set_option maxHeartbeats 1000000 in
theorem samed_any (v1 v2 : Value) (l : List Dg) (w : World) (hl : l.length ≤ 1000) (ha : DR w v1 l) (hb : DR w v2 l) :
    Calls Tryd.prog 15 #[v1, v2] w fun e w' => e = .returned (.bool true) ∧ Below w.heap.size w w' := by
  obtain ⟨a, c, rfl, ha⟩ := ha
  obtain ⟨b, d, rfl, hb⟩ := hb
  have HA : Hid (DR w (.slice a l.length c) l) := Lib.hid ⟨a, c, rfl, ha⟩
  have HB : Hid (DR w (.slice b l.length d) l) := Lib.hid ⟨b, d, rfl, hb⟩
  obtain ⟨n, hn⟩ : ∃ n, l.length = n := ⟨_, rfl⟩
  have Hn := Lib.hid hn
  rw [hn] at HA HB ⊢
  have hn1 : n ≤ 1000 := by omega
  clear ha hb hn hl
  go_enter Tryd.func15, Tryd.ntmps15
  go_wp2
  go_loopw [5] (fun i wr => ∃ j : Nat, i = .int .i64 (j : Int) ∧ j ≤ n ∧ Below w.heap.size w wr) (fun i _ => n - (intOf i).toNat)
  case atStart => exact ⟨0, rfl, by omega, Below.refl _ _⟩
  case round =>
    obtain ⟨j, rfl, hj, hbr⟩ := hrel
    by_cases hlt : j < n
    · obtain ⟨p, hp⟩ : ∃ p, l[j]? = some p := ⟨_, List.getElem?_eq_getElem (by rw [Hn.out]; exact hlt)⟩
      obtain ⟨_, _, ea, ka⟩ := HA.out.below hbr (Nat.le_refl _)
      obtain ⟨_, _, eb, kb⟩ := HB.out.below hbr (Nat.le_refl _)
      cases ea; cases eb
      obtain ⟨ga, hxa, hga, hca⟩ := ka j p hp
      obtain ⟨gb, hxb, hgb, hcb⟩ := kb j p hp
      subst hxa hxb
      obtain ⟨n0, n1, n2⟩ := c3_of hca
      obtain ⟨m0, m1, m2⟩ := c3_of hcb
      clear hca hcb ka kb hp
      go_wp2
      go_quiet (fail)
      go_wp2
      go_roundw
      case rel => first | exact ⟨j + 1, by go_num, by omega, below_drewN hbr _⟩ | ((repeat apply Exists.intro); exact ⟨⟨j + 1, by go_num, by omega, below_drewN hbr _⟩, rfl⟩)
      case measure => simp [intOf]; omega
    · go_wp2
      go_ret
      exact ⟨rfl, hbr⟩
end Go.Proofs.YtinkdjplehaibaaDoor
