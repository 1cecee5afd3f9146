/-
  PbufBack's helpers: Room, same; put for every field; two rows of the call's own, one of ints, one of fields.
-/
import Derived.Test.YtkaoacoahlbcoaaFds
import Derived.Test.YtkaoacoahlbcoaaFieldsOk
import Derived.Test.YtkaoacoahlbcoaaCat
import Derived.Maps.AppendAt
import Derived.BigQuiet
import Derived.Deep.QuietTactic
namespace Go.Proofs.Ytkaoacoahlbcoaa
open Go.RowKit
/-- How much room is left. -/
def rm (L n : Int) : Int := if L < n then -1 else L - n
set_option maxRecDepth 100000 in
set_option maxHeartbeats 1000000 in
theorem room_any (L n : Int) (b : Nat) (w : World) (h0 : 0 ≤ L) (h1 : L ≤ 100000) (hn : 0 ≤ n) (hn1 : n ≤ 9223372036854775807) (hc : w.cell? ⟨b, 0, none⟩ = some (.int .i64 n)) :
    Calls Try.prog 25 #[.int .i64 L, .slice (some ⟨b, 0, none⟩) 1 1] w fun e w' => e = .returned (.int .i64 (rm L n)) ∧ w = w' := by
  by_cases hl : L < n
  · have hr : Hid (rm L n = -1) := Lib.hid (by unfold rm; rw [if_pos hl])
    go_enter Try.func25, Try.ntmps25
    go_wp2
    go_loop [0, 5] (fun l i => l = .int .i64 L ∧ i = .int .i64 0) (fun _ i => 1 - (intOf i).toNat)
    case atStart => exact ⟨rfl, rfl⟩
    case round =>
      obtain ⟨rfl, rfl⟩ := hrel
      go_wp2
      go_ret
      exact ⟨by rw [hr.out]; rfl, rfl⟩
  · have hr : Hid (rm L n = L - n) := Lib.hid (by unfold rm; rw [if_neg hl])
    go_enter Try.func25, Try.ntmps25
    go_wp2
    go_loop [0, 5] (fun l i => ∃ k : Nat, k ≤ 1 ∧ i = .int .i64 k ∧ l = .int .i64 (if k = 0 then L else L - n)) (fun _ i => 1 - (intOf i).toNat)
    case atStart => exact ⟨0, by omega, rfl, rfl⟩
    case round =>
      obtain ⟨k, hk, rfl, rfl⟩ := hrel
      by_cases hk0 : k = 0
      · subst hk0
        rw [if_pos rfl]
        go_wp2
        go_round
        case rel => exact ⟨1, by omega, by go_num, by rw [if_neg (by omega)]⟩
        case measure => simp [intOf]
      · obtain rfl : k = 1 := by omega
        rw [if_neg (by omega)]
        go_wp2
        go_ret
        exact ⟨by rw [hr.out]; rfl, rfl⟩
set_option maxRecDepth 100000 in
set_option maxHeartbeats 1000000 in
theorem same_fds (a b : Option Addr) (c d : Nat) (l : List (Fd × Nat)) (w : World) (hl : l.length ≤ 100000) (ha : FHolds w a l) (hb : FHolds w b l) :
    Calls Try.prog 22 #[.slice a l.length c, .slice b l.length d] w fun e w' => e = .returned (.bool true) ∧ Below w.heap.size w w' := by
  have HA := Lib.hid ha
  have HB := Lib.hid hb
  obtain ⟨n, hn⟩ : ∃ n, l.length = n := ⟨_, rfl⟩
  have Hn := Lib.hid hn
  rw [hn]
  have hn1 : n ≤ 100000 := by omega
  clear ha hb hn hl
  go_enter Try.func22, Try.ntmps22
  go_wp2
  go_loopw [5] (fun i wr => ∃ j : Nat, i = .int .i64 (j : Int) ∧ j ≤ n ∧ Below w.heap.size w wr) (fun i _ => n - (intOf i).toNat)
  case atStart => exact ⟨0, rfl, by omega, Below.refl _ _⟩
  case round =>
    obtain ⟨j, rfl, hj, hbr⟩ := hrel
    by_cases hlt : j < n
    · obtain ⟨p, hp⟩ : ∃ p, l[j]? = some p := ⟨_, List.getElem?_eq_getElem (by rw [Hn.out]; exact hlt)⟩
      obtain ⟨ga, hxa, hga, hca⟩ := (HA.out.below hbr) j p hp
      obtain ⟨gb, hxb, hgb, hcb⟩ := (HB.out.below hbr) j p hp
      subst hxa hxb
      obtain ⟨f, k⟩ := p
      have n0 := hca 0 _ rfl; have n1 := hca 1 _ rfl; have n2 := hca 2 _ rfl; have n3 := hca 3 _ rfl; have n4 := hca 4 _ rfl
      have m0 := hcb 0 _ rfl; have m1 := hcb 1 _ rfl; have m2 := hcb 2 _ rfl; have m3 := hcb 3 _ rfl; have m4 := hcb 4 _ rfl
      simp only [Nat.add_zero] at n0 m0
      have Hp := Lib.hid hp
      clear hca hcb hp
      go_wp2
      go_quiet (fail)
      go_wp2
      go_roundw
      case rel => first | exact ⟨j + 1, by go_num, by omega, below_drewN hbr _⟩ | ((repeat apply Exists.intro); exact ⟨⟨j + 1, by go_num, by omega, below_drewN hbr _⟩, rfl⟩)
      case measure => simp [intOf]; omega
    · go_wp2
      go_ret
      exact ⟨rfl, hbr⟩
/-- A put of whatever field. -/
def PutIs (p : FdI) (w : World) (e : Ending) (w' : World) : Prop :=
  ((May p.num p.kind p.val p.data ∧ e = .returned (.tuple #[.string (txt (pput p.num.toNat p.kind.toNat p.val p.data)), .int .i64 0])) ∨
   (¬ May p.num p.kind p.val p.data ∧ e = .returned (.tuple #[.string ⟨#[]⟩, .int .i64 1]))) ∧ Below w.heap.size w w'
theorem put_any (p : FdI) (w : World) (h : p.ok) :
    Calls Try.prog 17 #[.agg #[.int .i64 p.num, .int .i64 p.kind, .int .i64 p.at_, .int .u64 p.val, .string p.data]] w (PutIs p w) := by
  obtain ⟨num, kind, at_, val, data⟩ := p
  obtain ⟨hv, hd⟩ := h
  simp only at hv hd
  by_cases hm : May num kind val data
  · have fin : ∀ e w', GavePut (txt (pput num.toNat kind.toNat val data)) 0 w e w' → PutIs ⟨num, kind, at_, val, data⟩ w e w' := fun e w' h => ⟨.inl ⟨hm, h.1⟩, h.2⟩
    obtain ⟨h1, h2, h3⟩ := id hm
    rcases h3 with ⟨rfl, hz⟩ | ⟨rfl, hz⟩ | ⟨rfl, hz, _⟩ | ⟨rfl, rfl, _⟩
    · obtain rfl := size_zero _ hz
      exact (put_varint num at_ val w hv hm).mono fin
    · obtain rfl := size_zero _ hz
      exact (put_eight num at_ val w hv hm).mono fin
    · obtain rfl := size_zero _ hz
      exact (put_four num at_ val w hv hm).mono fin
    · exact (put_bytes num at_ data w hm).mono fin
  · exact (put_no num kind at_ val data w hv hd hm).mono fun e w' h => ⟨.inr ⟨hm, h.1⟩, h.2⟩
end Go.Proofs.Ytkaoacoahlbcoaa
