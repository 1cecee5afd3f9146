/-
  pbuf.get: the field at the front of a text.
-/
import Derived.Test.YtbkcklefkhlciaaPgMath
import Derived.Test.YtbkcklefkhlciaaGv
import Derived.Below
import Derived.Outline
import Derived.RegionTactic
import Derived.BigRegion
import Derived.Deep.QuietTactic
import Derived.BigQuiet
import Derived.Deep.Draws
namespace Go.Proofs.Ytbkcklefkhlciaa
open Go.RowKit
set_option linter.unusedVariables false
/-- A field as Go has it. -/
def fdV (f : Fd) (at_ : Int) : Value := .agg #[.int .i64 f.num, .int .i64 f.kind, .int .i64 at_, .int .u64 f.val, .string f.data]
def aggFive (v : Value) : Prop := ∃ a b c d s, v = .agg #[.int .i64 a, .int .i64 b, .int .i64 c, .int .u64 d, .string s]
def GotIs (s : ByteArray) (w : World) (e : Ending) (w' : World) : Prop :=
  ((∃ f n, pget s = some (f, n) ∧ e = .returned (.tuple #[fdV f 0, .int .i64 (n : Nat), .bool true])) ∨ (∃ v n, pget s = none ∧ aggFive v ∧ e = .returned (.tuple #[v, .int .i64 n, .bool false]))) ∧ Below w.heap.size w w'
theorem got_none {s : ByteArray} {w w' : World} {a b c d n : Int} {t : ByteArray} (h : pget s = none) (hb : Below w.heap.size w w') : GotIs s w (.returned (.tuple #[.agg #[.int .i64 a, .int .i64 b, .int .i64 c, .int .u64 d, .string t], .int .i64 n, .bool false])) w' :=
  ⟨.inr ⟨_, n, h, ⟨a, b, c, d, t, rfl⟩, rfl⟩, hb⟩
theorem store3 (A : World) (a b c d e v : Value) (t : TypeId) (n g : Nat) (hg : g = A.heap.size) : ((A.alloc (.cells #[a, b, c, d, e] t)).drewN n).setCell ⟨g, 3, none⟩ v = (A.alloc (.cells #[a, b, c, v, e] t)).drewN n := by
  subst hg
  have h : ∀ (W : World) (p : Addr) (x : Value), (W.drewN n).setCell p x = (W.setCell p x).drewN n := fun _ _ _ => rfl
  rw [h, World.setCell_alloc_new]
  rfl
/-- What GetVarint tells of a text, for the walk. -/
def GvIs (s : ByteArray) (T z : Int) (b : Bool) : Prop := ∀ w, Calls Try.prog 48 #[.string s] w fun e w' => e = .returned (.tuple #[.int .u64 T, .int .i64 z, .bool b]) ∧ w = w'
theorem gvIs_of (s : ByteArray) (hs : s.size ≤ 1000000) (t z : Nat) (b : Bool) (h : gv s.data.toList = (t, z, b)) : GvIs s t z b := fun w => by
  have := getv_any s w (by unfold maxLen; omega)
  rw [h] at this
  exact this
def fsz (k : Int) : Int := if k = 5 then 4 else 8
set_option maxHeartbeats 400000 in
theorem fsz_any (k : Int) (w : World) : Calls Try.prog 56 #[.int .i64 k] w fun e w' => e = .returned (.int .i64 (fsz k)) ∧ w = w' := by
  by_cases h : k = 5
  · subst h
    go_enter Try.func56, Try.ntmps56
    go_wp2
    go_ret
    exact ⟨rfl, rfl⟩
  · have hb : (k == 5) = false := by simpa using h
    have hv : Hid (fsz k = 8) := Lib.hid (if_neg h)
    go_enter Try.func56, Try.ntmps56
    go_wp2
    go_ret
    exact ⟨by rw [hv.out]; rfl, rfl⟩
set_option maxRecDepth 100000 in
set_option maxHeartbeats 1000000 in
theorem get_bad (s : ByteArray) (w : World) (T z : Int) (b : Bool) (hp : pget s = none) (hg : GvIs s T z b) (h : b = false ∨ T / 8 = 0 ∨ 536870911 < T / 8) (h0 : 0 ≤ T) (h1 : T < 18446744073709551616) :
    Calls Try.prog 62 #[.string s] w (GotIs s w) := by
  have Hp := Lib.hid hp
  have Hg := Lib.hid hg
  clear hg hp
  rcases h with rfl | h | h
  · go_enter Try.func62, Try.ntmps62
    go_wp2_with fail
    refine (Hg.out _).mono ?_
    rintro e w' ⟨rfl, rfl⟩
    go_wp2
    refine bodyPost_ret (v := .tuple #[.agg #[.int .i64 0, .int .i64 0, .int .i64 0, .int .u64 0, .string ⟨#[]⟩], .int .i64 0, .bool false]) (by simp [results, Try.results62, go_sem]) rfl (got_none Hp.out ?_)
    exact ((Below.refl _ _).alloc (Nat.le_refl _) _)
  · have t8 : (T / 8 == 0) = true := by rw [h]; rfl
    clear h
    cases b
    all_goals
      go_enter Try.func62, Try.ntmps62
      go_wp2_with fail
      refine (Hg.out _).mono ?_
      rintro e w' ⟨rfl, rfl⟩
      go_wp2
      refine bodyPost_ret (v := .tuple #[.agg #[.int .i64 0, .int .i64 0, .int .i64 0, .int .u64 0, .string ⟨#[]⟩], .int .i64 0, .bool false]) (by simp [results, Try.results62, go_sem]) rfl (got_none Hp.out ?_)
      exact ((Below.refl _ _).alloc (Nat.le_refl _) _)
  · have t8 : (T / 8 == 0) = false := by simp; omega
    cases b
    all_goals
      go_enter Try.func62, Try.ntmps62
      go_wp2_with fail
      refine (Hg.out _).mono ?_
      rintro e w' ⟨rfl, rfl⟩
      go_wp2
      refine bodyPost_ret (v := .tuple #[.agg #[.int .i64 0, .int .i64 0, .int .i64 0, .int .u64 0, .string ⟨#[]⟩], .int .i64 0, .bool false]) (by simp [results, Try.results62, go_sem]) rfl (got_none Hp.out ?_)
      exact ((Below.refl _ _).alloc (Nat.le_refl _) _)
set_option maxRecDepth 100000 in
set_option maxHeartbeats 1000000 in
theorem get_other (s : ByteArray) (w : World) (T z : Int) (hg : GvIs s T z true) (h0 : 0 ≤ T) (h1 : T < 18446744073709551616) (h2 : 1 ≤ T / 8) (h3 : T / 8 ≤ 536870911) (hz0 : 0 ≤ z) (hz1 : z ≤ s.size) (hs : s.size ≤ 1000000) (hp : pget s = none) (k : Int) (hk : bits .and .u64 T 7 = k) (hk2 : k = 3 ∨ k = 4 ∨ k = 6 ∨ k = 7) :
    Calls Try.prog 62 #[.string s] w (GotIs s w) := by
  have Hg := Lib.hid hg
  clear hg
  have t8 : (T / 8 == 0) = false := by simp; omega
  have Hp := Lib.hid hp
  clear hp
  rcases hk2 with rfl | rfl | rfl | rfl
  all_goals
    go_enter Try.func62, Try.ntmps62
    go_wp2_with fail
    refine (Hg.out _).mono ?_
    rintro e w' ⟨rfl, rfl⟩
    go_wp2
    refine bodyPost_ret (v := .tuple #[.agg #[.int .i64 0, .int .i64 0, .int .i64 0, .int .u64 0, .string ⟨#[]⟩], .int .i64 0, .bool false]) (by simp [results, Try.results62, go_sem]) rfl (got_none Hp.out ?_)
    exact ((Below.refl _ _).alloc (Nat.le_refl _) _).alloc (by simp) _
set_option maxRecDepth 100000 in
set_option maxHeartbeats 1000000 in
theorem get_varint (s : ByteArray) (w : World) (T z : Int) (hg : GvIs s T z true) (h0 : 0 ≤ T) (h1 : T < 18446744073709551616) (h2 : 1 ≤ T / 8) (h3 : T / 8 ≤ 536870911) (hz0 : 0 ≤ z) (hz1 : z ≤ s.size) (hs : s.size ≤ 1000000) (hk : bits .and .u64 T 7 = 0) (V n : Int) (b : Bool) (hv : GvIs (s.extract z.toNat s.size) V n b) (hn0 : 0 ≤ n) (hn1 : n ≤ 10) (hV0 : 0 ≤ V) (hV1 : V < 18446744073709551616) (hyes : b = true → ∃ f m, pget s = some (f, m) ∧ (f.num : Int) = T / 8 ∧ f.kind = 0 ∧ (f.val : Int) = V ∧ f.data = ⟨#[]⟩ ∧ (m : Int) = z + n) (hno : b = false → pget s = none) :
    Calls Try.prog 62 #[.string s] w (GotIs s w) := by
  have Hg := Lib.hid hg
  clear hg
  have t8 : (T / 8 == 0) = false := by simp; omega
  have Hv := Lib.hid hv
  have Hyes := Lib.hid hyes
  have Hno := Lib.hid hno
  clear hv hyes hno
  go_enter Try.func62, Try.ntmps62
  go_wp2_with fail
  refine (Hg.out _).mono ?_
  rintro e w' ⟨rfl, rfl⟩
  go_wp2_with fail
  refine (Hv.out _).mono ?_
  rintro e w' ⟨rfl, rfl⟩
  go_wp2
  refine bodyPost_ret (v := .tuple #[.agg #[.int .i64 (T / 8), .int .i64 0, .int .i64 0, .int .u64 V, .string ⟨#[]⟩], .int .i64 (z + n), .bool b]) (by simp [results, Try.results62, go_sem]) rfl ?_
  have hb : Below w.heap.size w ((w.alloc (.cells #[.int .i64 (T / 8), .int .i64 0, .int .i64 0, .int .u64 V, .string ⟨#[]⟩] 77)).alloc (.cells #[.int .i64 (T / 8), .int .i64 0, .int .i64 0, .int .u64 V, .string ⟨#[]⟩] 77)) := ((Below.refl _ _).alloc (Nat.le_refl _) _).alloc (by simp) _
  cases b with
  | false => exact got_none (Hno.out rfl) hb
  | true =>
    obtain ⟨f, m, e1, e2, e3, e4, e5, e6⟩ := Hyes.out rfl
    refine ⟨.inl ⟨f, m, e1, ?_⟩, hb⟩
    unfold fdV
    rw [e2, e3, e4, e5, e6]
    rfl
set_option maxRecDepth 100000 in
set_option maxHeartbeats 1000000 in
theorem get_bytes (s : ByteArray) (w : World) (T z : Int) (hg : GvIs s T z true) (h0 : 0 ≤ T) (h1 : T < 18446744073709551616) (h2 : 1 ≤ T / 8) (h3 : T / 8 ≤ 536870911) (hz0 : 0 ≤ z) (hz1 : z ≤ s.size) (hs : s.size ≤ 1000000) (hk : bits .and .u64 T 7 = 2) (V n : Int) (b : Bool) (hv : GvIs (s.extract z.toNat s.size) V n b) (m : Nat) (hm : (s.extract z.toNat s.size).size = m) (hm1 : m ≤ 1000000) (hn0 : 0 ≤ n) (hn1 : n ≤ m) (hV0 : 0 ≤ V) (hV1 : V < 18446744073709551616) (hyes : b = true → V ≤ m - n → ∃ f q, pget s = some (f, q) ∧ (f.num : Int) = T / 8 ∧ f.kind = 2 ∧ f.val = 0 ∧ f.data = (s.extract z.toNat s.size).extract n.toNat (n + V).toNat ∧ (q : Int) = z + n + V) (hno : b = false ∨ m - n < V → pget s = none) :
    Calls Try.prog 62 #[.string s] w (GotIs s w) := by
  have Hg := Lib.hid hg
  clear hg
  have t8 : (T / 8 == 0) = false := by simp; omega
  have Hv := Lib.hid hv
  have Hyes := Lib.hid hyes
  have Hno := Lib.hid hno
  clear hv hyes hno
  cases b with
  | false =>
    go_enter Try.func62, Try.ntmps62
    go_wp2_with fail
    refine (Hg.out _).mono ?_
    rintro e w' ⟨rfl, rfl⟩
    go_wp2_with fail
    refine (Hv.out _).mono ?_
    rintro e w' ⟨rfl, rfl⟩
    go_wp2
    refine bodyPost_ret (v := .tuple #[.agg #[.int .i64 0, .int .i64 0, .int .i64 0, .int .u64 0, .string ⟨#[]⟩], .int .i64 0, .bool false]) (by simp [results, Try.results62, go_sem]) rfl (got_none (Hno.out (.inl (by simp))) ?_)
    exact ((Below.refl _ _).alloc (Nat.le_refl _) _).alloc (by simp) _
  | true =>
    by_cases hlen : m - n < V
    · go_enter Try.func62, Try.ntmps62
      go_wp2_with fail
      refine (Hg.out _).mono ?_
      rintro e w' ⟨rfl, rfl⟩
      go_wp2_with fail
      refine (Hv.out _).mono ?_
      rintro e w' ⟨rfl, rfl⟩
      go_wp2
      refine bodyPost_ret (v := .tuple #[.agg #[.int .i64 0, .int .i64 0, .int .i64 0, .int .u64 0, .string ⟨#[]⟩], .int .i64 0, .bool false]) (by simp [results, Try.results62, go_sem]) rfl (got_none (Hno.out (.inr hlen)) ?_)
      exact ((Below.refl _ _).alloc (Nat.le_refl _) _).alloc (by simp) _
    · go_enter Try.func62, Try.ntmps62
      go_wp2_with fail
      refine (Hg.out _).mono ?_
      rintro e w' ⟨rfl, rfl⟩
      go_wp2_with fail
      refine (Hv.out _).mono ?_
      rintro e w' ⟨rfl, rfl⟩
      go_wp2
      refine bodyPost_ret (v := .tuple #[.agg #[.int .i64 (T / 8), .int .i64 2, .int .i64 0, .int .u64 0, .string ((s.extract z.toNat s.size).extract n.toNat (n + V).toNat)], .int .i64 (z + n + V), .bool true]) (by simp [results, Try.results62, go_sem]) rfl ?_
      have hb : Below w.heap.size w ((w.alloc (.cells #[.int .i64 (T / 8), .int .i64 2, .int .i64 0, .int .u64 0, .string ((s.extract z.toNat s.size).extract n.toNat (n + V).toNat)] 77)).alloc (.cells #[.int .i64 (T / 8), .int .i64 2, .int .i64 0, .int .u64 0, .string ((s.extract z.toNat s.size).extract n.toNat (n + V).toNat)] 77)) := ((Below.refl _ _).alloc (Nat.le_refl _) _).alloc (by simp) _
      obtain ⟨f, q, e1, e2, e3, e4, e5, e6⟩ := Hyes.out (by simp) (by omega)
      refine ⟨.inl ⟨f, q, e1, ?_⟩, hb⟩
      unfold fdV
      rw [e2, e3, e4, e5, e6]
      rfl
set_option maxRecDepth 100000 in
set_option maxHeartbeats 1000000 in
theorem get_four (s : ByteArray) (w : World) (T z : Int) (hg : GvIs s T z true) (h0 : 0 ≤ T) (h1 : T < 18446744073709551616) (h2 : 1 ≤ T / 8) (h3 : T / 8 ≤ 536870911) (hz0 : 0 ≤ z) (hz1 : z ≤ s.size) (hs : s.size ≤ 1000000) (hk : bits .and .u64 T 7 = 5) (m : Nat) (hm : (s.extract z.toNat s.size).size = m) (hm1 : m ≤ 1000000) (hyes : 4 ≤ m → ∃ f q, pget s = some (f, q) ∧ (f.num : Int) = T / 8 ∧ f.kind = 5 ∧ f.val = lit ((s.extract z.toNat s.size).data.toList.take 4) ∧ f.data = ⟨#[]⟩ ∧ (q : Int) = z + 4) (hno : m < 4 → pget s = none) :
    Calls Try.prog 62 #[.string s] w (GotIs s w) := by
  have Hg := Lib.hid hg
  clear hg
  have t8 : (T / 8 == 0) = false := by simp; omega
  have Hyes := Lib.hid hyes
  have Hno := Lib.hid hno
  have hfs : Hid (fsz 5 = 4) := Lib.hid (by decide)
  clear hyes hno
  by_cases hlen : m < 4
  · go_enter Try.func62, Try.ntmps62
    go_wp2_with fail
    refine (Hg.out _).mono ?_
    rintro e w' ⟨rfl, rfl⟩
    go_wp2_with fail
    refine (fsz_any 5 _).mono ?_
    rintro e w' ⟨rfl, rfl⟩
    rw [hfs.out]
    go_wp2
    refine bodyPost_ret (v := .tuple #[.agg #[.int .i64 0, .int .i64 0, .int .i64 0, .int .u64 0, .string ⟨#[]⟩], .int .i64 0, .bool false]) (by simp [results, Try.results62, go_sem]) rfl (got_none (Hno.out hlen) ?_)
    exact ((Below.refl _ _).alloc (Nat.le_refl _) _).alloc (by simp) _
  · go_enter Try.func62, Try.ntmps62
    go_wp2_with fail
    refine (Hg.out _).mono ?_
    rintro e w' ⟨rfl, rfl⟩
    go_wp2_with fail
    refine (fsz_any 5 _).mono ?_
    rintro e w' ⟨rfl, rfl⟩
    rw [hfs.out]
    obtain ⟨r, hr⟩ : ∃ r, s.extract z.toNat s.size = r := ⟨_, rfl⟩
    rw [hr] at hm Hyes
    rw [hr]
    have hr0 : r.size = m := hm
    clear hr
    go_wp2_with fail
    go_loopw [111] (fun i wr => ∃ k d : Nat, k ≤ 4 ∧ i = .int .i64 (k : Int) ∧ wr = (((w.alloc (.cells #[.int .i64 0, .int .i64 0, .int .i64 0, .int .u64 0, .string ⟨#[]⟩] 77)).alloc (.cells #[.int .i64 (T / 8), .int .i64 5, .int .i64 0, .int .u64 (lit (r.data.toList.take k) : Nat), .string ⟨#[]⟩] 77)).drewN d)) (fun i _ => 4 - (intOf i).toNat)
    case atStart => exact ⟨0, 0, by omega, rfl, rfl⟩
    case round =>
      obtain ⟨k, d, hk, rfl, rfl⟩ := hrel
      by_cases hlt : k < 4
      · have hidx : k < r.size := by omega
        have hkm : k < m := by omega
        have hb8 : r[k].toNat < 256 := UInt8.toNat_lt _
        have hst := Lib.hid (lit_step r k hidx)
        have hor := lit_or (lit (r.data.toList.take k)) r[k].toNat k (lit_take_lt r k (by omega)) (by omega) hb8
        rw [← hst.out] at hor
        obtain ⟨V0, hV0⟩ : ∃ V0, lit (r.data.toList.take k) = V0 := ⟨_, rfl⟩
        obtain ⟨V1, hV1⟩ : ∃ V1, lit (r.data.toList.take (k + 1)) = V1 := ⟨_, rfl⟩
        rw [hV0, hV1] at hor
        have Hor := Lib.hid hor
        have HV0 := Lib.hid hV0
        have HV1 := Lib.hid hV1
        rw [hV0]
        clear hor hV0 hV1 hst
        go_wp2
        go_region
        rw [Hor.out]
        go_wp2
        go_roundw
        case rel => exact ⟨k + 1, d + 1, by omega, by go_num, by rw [HV1.out]; exact store3 _ _ _ _ _ _ _ _ _ _ (by simp)⟩
        case measure => simp [intOf]; omega
      · obtain rfl : k = 4 := by omega
        obtain ⟨V0, hV0⟩ : ∃ V0, lit (r.data.toList.take 4) = V0 := ⟨_, rfl⟩
        rw [hV0] at Hyes
        rw [hV0]
        clear hV0
        go_wp2
        refine bodyPost_ret (v := .tuple #[.agg #[.int .i64 (T / 8), .int .i64 5, .int .i64 0, .int .u64 (V0 : Nat), .string ⟨#[]⟩], .int .i64 (z + 4), .bool true]) (by simp [results, Try.results62, go_sem]) rfl ?_
        obtain ⟨f, q, e1, e2, e3, e4, e5, e6⟩ := Hyes.out (by omega)
        refine ⟨.inl ⟨f, q, e1, ?_⟩, ?_⟩
        · unfold fdV
          rw [e2, e3, e4, e5, e6]
          rfl
        · refine Below.setCell (Below.setCell (Below.setCell (Below.setCell (Below.setCell (below_drewN ?_ d) ?_ _) ?_ _) ?_ _) ?_ _) ?_ _
          · exact ((Below.refl _ _).alloc (Nat.le_refl _) _).alloc (by simp) _
          all_goals simp
set_option maxRecDepth 100000 in
set_option maxHeartbeats 1000000 in
theorem get_eight (s : ByteArray) (w : World) (T z : Int) (hg : GvIs s T z true) (h0 : 0 ≤ T) (h1 : T < 18446744073709551616) (h2 : 1 ≤ T / 8) (h3 : T / 8 ≤ 536870911) (hz0 : 0 ≤ z) (hz1 : z ≤ s.size) (hs : s.size ≤ 1000000) (hk : bits .and .u64 T 7 = 1) (m : Nat) (hm : (s.extract z.toNat s.size).size = m) (hm1 : m ≤ 1000000) (hyes : 8 ≤ m → ∃ f q, pget s = some (f, q) ∧ (f.num : Int) = T / 8 ∧ f.kind = 1 ∧ f.val = lit ((s.extract z.toNat s.size).data.toList.take 8) ∧ f.data = ⟨#[]⟩ ∧ (q : Int) = z + 8) (hno : m < 8 → pget s = none) :
    Calls Try.prog 62 #[.string s] w (GotIs s w) := by
  have Hg := Lib.hid hg
  clear hg
  have t8 : (T / 8 == 0) = false := by simp; omega
  have Hyes := Lib.hid hyes
  have Hno := Lib.hid hno
  have hfs : Hid (fsz 1 = 8) := Lib.hid (by decide)
  clear hyes hno
  by_cases hlen : m < 8
  · go_enter Try.func62, Try.ntmps62
    go_wp2_with fail
    refine (Hg.out _).mono ?_
    rintro e w' ⟨rfl, rfl⟩
    go_wp2_with fail
    refine (fsz_any 1 _).mono ?_
    rintro e w' ⟨rfl, rfl⟩
    rw [hfs.out]
    go_wp2
    refine bodyPost_ret (v := .tuple #[.agg #[.int .i64 0, .int .i64 0, .int .i64 0, .int .u64 0, .string ⟨#[]⟩], .int .i64 0, .bool false]) (by simp [results, Try.results62, go_sem]) rfl (got_none (Hno.out hlen) ?_)
    exact ((Below.refl _ _).alloc (Nat.le_refl _) _).alloc (by simp) _
  · go_enter Try.func62, Try.ntmps62
    go_wp2_with fail
    refine (Hg.out _).mono ?_
    rintro e w' ⟨rfl, rfl⟩
    go_wp2_with fail
    refine (fsz_any 1 _).mono ?_
    rintro e w' ⟨rfl, rfl⟩
    rw [hfs.out]
    obtain ⟨r, hr⟩ : ∃ r, s.extract z.toNat s.size = r := ⟨_, rfl⟩
    rw [hr] at hm Hyes
    rw [hr]
    have hr0 : r.size = m := hm
    clear hr
    go_wp2_with fail
    go_loopw [111] (fun i wr => ∃ k d : Nat, k ≤ 8 ∧ i = .int .i64 (k : Int) ∧ wr = (((w.alloc (.cells #[.int .i64 0, .int .i64 0, .int .i64 0, .int .u64 0, .string ⟨#[]⟩] 77)).alloc (.cells #[.int .i64 (T / 8), .int .i64 1, .int .i64 0, .int .u64 (lit (r.data.toList.take k) : Nat), .string ⟨#[]⟩] 77)).drewN d)) (fun i _ => 8 - (intOf i).toNat)
    case atStart => exact ⟨0, 0, by omega, rfl, rfl⟩
    case round =>
      obtain ⟨k, d, hk, rfl, rfl⟩ := hrel
      by_cases hlt : k < 8
      · have hidx : k < r.size := by omega
        have hkm : k < m := by omega
        have hb8 : r[k].toNat < 256 := UInt8.toNat_lt _
        have hst := Lib.hid (lit_step r k hidx)
        have hor := lit_or (lit (r.data.toList.take k)) r[k].toNat k (lit_take_lt r k (by omega)) (by omega) hb8
        rw [← hst.out] at hor
        obtain ⟨V0, hV0⟩ : ∃ V0, lit (r.data.toList.take k) = V0 := ⟨_, rfl⟩
        obtain ⟨V1, hV1⟩ : ∃ V1, lit (r.data.toList.take (k + 1)) = V1 := ⟨_, rfl⟩
        rw [hV0, hV1] at hor
        have Hor := Lib.hid hor
        have HV0 := Lib.hid hV0
        have HV1 := Lib.hid hV1
        rw [hV0]
        clear hor hV0 hV1 hst
        go_wp2
        go_region
        rw [Hor.out]
        go_wp2
        go_roundw
        case rel => exact ⟨k + 1, d + 1, by omega, by go_num, by rw [HV1.out]; exact store3 _ _ _ _ _ _ _ _ _ _ (by simp)⟩
        case measure => simp [intOf]; omega
      · obtain rfl : k = 8 := by omega
        obtain ⟨V0, hV0⟩ : ∃ V0, lit (r.data.toList.take 8) = V0 := ⟨_, rfl⟩
        rw [hV0] at Hyes
        rw [hV0]
        clear hV0
        go_wp2
        refine bodyPost_ret (v := .tuple #[.agg #[.int .i64 (T / 8), .int .i64 1, .int .i64 0, .int .u64 (V0 : Nat), .string ⟨#[]⟩], .int .i64 (z + 8), .bool true]) (by simp [results, Try.results62, go_sem]) rfl ?_
        obtain ⟨f, q, e1, e2, e3, e4, e5, e6⟩ := Hyes.out (by omega)
        refine ⟨.inl ⟨f, q, e1, ?_⟩, ?_⟩
        · unfold fdV
          rw [e2, e3, e4, e5, e6]
          rfl
        · refine Below.setCell (Below.setCell (Below.setCell (Below.setCell (Below.setCell (below_drewN ?_ d) ?_ _) ?_ _) ?_ _) ?_ _) ?_ _
          · exact ((Below.refl _ _).alloc (Nat.le_refl _) _).alloc (by simp) _
          all_goals simp
theorem and7 (t : Nat) (h : t < 18446744073709551616) : bits .and .u64 (t : Int) 7 = ((t % 8 : Nat) : Int) := by
  have := u64_and_nat t 7 h (by omega)
  rw [nat_mask3] at this
  exact this
theorem get_any (s : ByteArray) (w : World) (hs : s.size ≤ 1000000) : Calls Try.prog 62 #[.string s] w (GotIs s w) := by
  obtain ⟨t, z, b, hg⟩ : ∃ t z b, gv s.data.toList = (t, z, b) := ⟨_, _, _, rfl⟩
  have ht : t < 18446744073709551616 := by have := gv_lt s.data.toList; rw [hg] at this; exact this
  have hz := gv_le s.data.toList
  rw [hg] at hz
  have hz1 : z ≤ s.size := hz.1
  have hG := gvIs_of s hs t z b hg
  by_cases hbad : b = false ∨ t / 8 = 0 ∨ 536870911 < t / 8
  · refine get_bad s w t z b (pget_bad s t z b hg hbad) hG ?_ (by omega) (by omega)
    rcases hbad with h | h | h
    · exact .inl h
    · exact .inr (.inl (by omega))
    · exact .inr (.inr (by omega))
  · have hb : b = true := by cases b with | true => rfl | false => exact absurd (.inl rfl) hbad
    subst hb
    have h1 : 1 ≤ t / 8 := by omega
    have h2 : t / 8 ≤ 536870911 := by omega
    have hp := pget_tag s t z hg h1 h2
    have hand := and7 t ht
    have hzn : ((z : Int)).toNat = z := Int.toNat_natCast z
    obtain ⟨r, hr⟩ : ∃ r, s.extract z s.size = r := ⟨_, rfl⟩
    have hrs : r.size = s.size - z := by rw [← hr]; simp
    rw [hr] at hp
    have hre : s.extract ((z : Int)).toNat s.size = r := by rw [hzn]; exact hr
    obtain ⟨V, n, c, hgr⟩ : ∃ V n c, gv r.data.toList = (V, n, c) := ⟨_, _, _, rfl⟩
    have hV : V < 18446744073709551616 := by have := gv_lt r.data.toList; rw [hgr] at this; exact this
    have hn := gv_le r.data.toList
    rw [hgr] at hn
    have hn1 : n ≤ r.size := hn.1
    have hGr := gvIs_of r (by omega) V n c hgr
    rcases (show t % 8 = 0 ∨ t % 8 = 2 ∨ t % 8 = 5 ∨ t % 8 = 1 ∨ (t % 8 = 3 ∨ t % 8 = 4 ∨ t % 8 = 6 ∨ t % 8 = 7) from by omega) with k | k | k | k | k
    · rw [k] at hp hand
      refine get_varint s w t z hG (by omega) (by omega) (by omega) (by omega) (by omega) (by omega) hs hand V n c (by rw [hre]; exact hGr) (by omega) (by have := hn.2; simp only at this; omega) (by omega) (by omega) ?_ ?_
      · intro hc
        refine ⟨⟨t / 8, 0, V, ⟨#[]⟩⟩, z + n, ?_, by simp, rfl, rfl, rfl, by simp⟩
        rw [hp]; unfold pbody; rw [hgr, hc]; rfl
      · intro hc
        rw [hp]; unfold pbody; rw [hgr, hc]; rfl
    · rw [k] at hp hand
      refine get_bytes s w t z hG (by omega) (by omega) (by omega) (by omega) (by omega) (by omega) hs hand V n c (by rw [hre]; exact hGr) r.size (by rw [hre]) (by omega) (by omega) (by omega) (by omega) (by omega) ?_ ?_
      · intro hc hl
        refine ⟨⟨t / 8, 2, 0, r.extract n (n + V)⟩, z + (n + V), ?_, by simp, rfl, rfl, ?_, by simp; omega⟩
        · rw [hp]; unfold pbody; rw [hgr, hc, if_neg (by decide), if_pos rfl, if_pos ⟨rfl, by show V ≤ r.size - n; omega⟩]
        · rw [hre]; congr 1
      · intro hc
        rw [hp]; unfold pbody; rw [hgr, if_neg (by decide), if_pos rfl, if_neg]
        rintro ⟨h3, h4⟩
        simp only at h3 h4
        rcases hc with hc | hc
        · rw [hc] at h3; cases h3
        · omega
    · rw [k] at hp hand
      refine get_four s w t z hG (by omega) (by omega) (by omega) (by omega) (by omega) (by omega) hs hand r.size (by rw [hre]) (by omega) ?_ ?_
      · intro hl
        refine ⟨⟨t / 8, 5, lit (r.data.toList.take 4), ⟨#[]⟩⟩, z + 4, ?_, by simp, rfl, by rw [hre], rfl, by simp⟩
        rw [hp]; unfold pbody; rw [if_neg (by decide), if_neg (by decide), if_pos rfl, if_pos hl]
      · intro hl
        rw [hp]; unfold pbody; rw [if_neg (by decide), if_neg (by decide), if_pos rfl, if_neg (by omega)]
    · rw [k] at hp hand
      refine get_eight s w t z hG (by omega) (by omega) (by omega) (by omega) (by omega) (by omega) hs hand r.size (by rw [hre]) (by omega) ?_ ?_
      · intro hl
        refine ⟨⟨t / 8, 1, lit (r.data.toList.take 8), ⟨#[]⟩⟩, z + 8, ?_, by simp, rfl, by rw [hre], rfl, by simp⟩
        rw [hp]; unfold pbody; rw [if_neg (by decide), if_neg (by decide), if_neg (by decide), if_pos rfl, if_pos hl]
      · intro hl
        rw [hp]; unfold pbody; rw [if_neg (by decide), if_neg (by decide), if_neg (by decide), if_pos rfl, if_neg (by omega)]
    · refine get_other s w t z hG (by omega) (by omega) (by omega) (by omega) (by omega) (by omega) hs ?_ _ hand (by omega)
      rw [hp]; unfold pbody
      rw [if_neg (by omega), if_neg (by omega), if_neg (by omega), if_neg (by omega)]
end Go.Proofs.Ytbkcklefkhlciaa
