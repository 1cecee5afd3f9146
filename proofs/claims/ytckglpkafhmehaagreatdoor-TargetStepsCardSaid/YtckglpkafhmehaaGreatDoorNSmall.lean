/-
  strings.Builder: what writing into one of the call's own does.
  strconv.FormatUint at base 10.
  Law 1: decimal digits by parts of nineteen.
  Law 1: a number's digits.
  Law 1: numbers: is it 0, a small one, how many digits.
-/
import Derived.Test.YtckglpkafhmehaaGreatDoorNParse
import Derived.Test.YtckglpkafhmehaaGreatDoorShelf
import Derived.Lib.FrozenHead2
import Derived.Lib.ItoaNum
import Derived.WalkSmall
import Derived.Lib.ItoaMem
import Derived.Lib.ItoaLen
import Derived.Lib.AppendIntMem
import Derived.Lib.Walk
import Derived.Laws.AppendOwnNone
import Derived.Lib.SmallJoins
namespace Go.Proofs.YtckglpkafhmehaaGreatDoor
open Go.RowKit
set_option linter.unusedVariables false
/-- The builder b, of the call's own from block B on, holds the bytes of t. -/
def IsBd (B b : Nat) (t : ByteArray) (w : World) : Prop := Lib.IsBuilderF 78 5 B b (Lib.byteCells t.data.toList) w
def BdAt (B b : Nat) (p : Value) (t : ByteArray) (w : World) : Prop := Lib.BuilderAtF 78 5 B b p (Lib.byteCells t.data.toList) w
theorem Tryz.sizeBd : (Tryz.prog.info? 78).map (·.size) = some 2 := by kernel_rfl
theorem Tryz.liesBd : liesAt Tryz.prog Tryz.prog.depth 78 (2 / Tryz.prog.cellsOf 78) 0 78 1 = true := by kernel_rfl
theorem cells_app (s t : ByteArray) : Lib.byteCells (s ++ t).data.toList = Lib.byteCells s.data.toList ++ Lib.strCells t := by
  simp [Lib.byteCells, Lib.strCells]
theorem cells_len (s : ByteArray) : (Lib.byteCells s.data.toList).length = s.size := by simp [Lib.byteCells]
theorem Tryz.infoU8 : (Tryz.prog.info? 5).map (fun i => (i.zero, i.size, i.bytes)) = some (some (.int .u8 0), 1, 1) := by kernel_rfl
def CopyIs (B b : Nat) (t : ByteArray) (w : World) (e : Ending) (w' : World) : Prop := e = .returned (.tuple #[]) ∧ BdAt B b (.pointer (some ⟨b, 0, none⟩)) t w' ∧ Below B w w'
set_option maxHeartbeats 1000000 in
set_option maxRecDepth 100000 in
theorem copy_any (B b : Nat) (t : ByteArray) (w : World) (h : IsBd B b t w) :
    Calls Tryz.prog 76 #[.pointer (some ⟨b, 0, none⟩)] w (CopyIs B b t w) := by
  obtain ⟨j, hj, hjs⟩ := Option.map_eq_some_iff.1 Tryz.sizeBd
  rcases h with h | h
  · have h0 := h.cell0
    have hsh := h.shape
    have hfz := h.frozen0
    go_enter Tryz.func76, Tryz.ntmps76
    go_wp2
    rw [Lib.run_to_unsafe w ⟨b, 0, none⟩ Tryz.underlying75 Tryz.underlying127 hj (by rw [hjs]; decide) hsh (Nat.zero_lt_succ 1)]
    simp only [Result.andThen]
    rw [Oper.upon_value]
    go_wp2
    rw [run_callFunc_extern Tryz.func100 (by kernel_rfl) (by kernel_rfl) (by kernel_rfl) (e := Extern.AbiNoEscape.same) (by kernel_rfl)]
    rw [Lib.run_noEscape]
    simp only [Result.andThen]
    rw [Oper.upon_value]
    go_wp2
    rw [Lib.run_from_unsafe w ⟨b, 0, none⟩ Tryz.underlying127 Tryz.underlying75 hj hsh Tryz.liesBd]
    simp only [Result.andThen]
    rw [Oper.upon_value]
    go_wp2
    go_end0
    exact ⟨rfl, h.used _, (Below.refl B w).setCell (p := ⟨b, 0, none⟩) h.1 _⟩
  · have h0 := h.cell0
    go_enter Tryz.func76, Tryz.ntmps76
    go_wp2
    rw [Lib.run_neq_ptr_same w _ Tryz.underlying75 hj]
    go_wp2
    go_end0
    exact ⟨rfl, h, Below.refl B _⟩
/-- Behind what was written the builder holds t. -/
def WroteIs (v : Value) (B b : Nat) (t : ByteArray) (w : World) (e : Ending) (w' : World) : Prop := e = .returned v ∧ IsBd B b t w' ∧ Below B w w'
set_option maxHeartbeats 2000000 in
set_option maxRecDepth 100000 in
theorem ws_any (B b : Nat) (t s : ByteArray) (w : World) (h : IsBd B b t w) (hlen : t.size + s.size ≤ 140737488355328) (hBw : B ≤ w.heap.size) :
    Calls Tryz.prog 54 #[.pointer (some ⟨b, 0, none⟩), .string s] w (WroteIs (.tuple #[.int .i64 s.size, .nilIface]) B b (t ++ s) w) := by
  obtain ⟨i0, hi, hz0, hz1, hz2⟩ := info_parts Tryz.infoU8
  go_enter Tryz.func54, Tryz.ntmps54
  go_wp2_with (refine (copy_any B b t _ h).mono ?_)
  rintro e w1 ⟨rfl, h1, hb1⟩
  obtain ⟨hB, v, hbk, hown, hne⟩ := h1
  rw [cells_len] at hown
  have c0 : w1.cell? ⟨b, 0, none⟩ = some (.pointer (some ⟨b, 0, none⟩)) := by rw [Lib.cell_of_heap hbk]; rfl
  have c1 : w1.cell? ⟨b, 1, none⟩ = some v := by rw [Lib.cell_of_heap hbk]; rfl
  go_wp2_with (at_builtin; refine Lib.wpList_append_own_stringF _ rfl _ _ 76 9 rfl B 5 i0 Tryz.underlying76 Tryz.underlying9 hi hz0 hz1 hz2 _ _ _ rfl hown s rfl ?c3 ?c4 ?c5 ?_)
  case c3 => unfold maxLen; omega
  case c4 => omega
  case c5 => have := hb1.size; omega
  intro v' w2 hown' hgrow _
  have hlt : b < w1.heap.size := by
    rcases Nat.lt_or_ge b w1.heap.size with h' | h'
    · exact h'
    · simp [Array.getElem?_eq_none h'] at hbk
  have hb2 : w2.heap[b]? = some (.cells #[.pointer (some ⟨b, 0, none⟩), v] 78 (0, 0)) := by
    rw [hgrow.block b hlt (fun e => hne e.symm)]
    exact hbk
  have d0 : w2.cell? ⟨b, 0, none⟩ = some (.pointer (some ⟨b, 0, none⟩)) := by rw [Lib.cell_of_heap hb2]; rfl
  have d1 : w2.cell? ⟨b, 1, none⟩ = some v := by rw [Lib.cell_of_heap hb2]; rfl
  have f1 : w2.frozen? ⟨b, 1, none⟩ = false := Lib.frozen_of_heap hb2 1
  obtain ⟨ao, n', cap, rfl⟩ : ∃ ao n' cap, v' = .slice ao n' cap := by
    rcases hown'.2 with ⟨hv, _⟩ | ⟨g, cap, cur, fz, hv, _⟩
    · exact ⟨_, _, _, hv⟩
    · exact ⟨_, _, _, hv⟩
  go_wp2
  go_ret2
  refine ⟨rfl, .inr ?_, ?_⟩
  · rw [cells_app]
    exact Lib.BuilderAtF.put (T := 78) (e := 5) hB hb2 (bs' := Lib.byteCells t.data.toList ++ Lib.strCells s) (by simpa [Lib.strCells_length, Lib.byteCells_length] using hown') (by decide)
  · exact (hb1.grown hgrow (by have := hb1.size; omega) (fun k hk => (hown.lt k hk).1)).setCell (p := ⟨b, 1, none⟩) hB _
set_option maxHeartbeats 2000000 in
theorem bd_new (w : World) (B : Nat) (hB : B ≤ w.heap.size) : IsBd B w.heap.size ⟨#[]⟩ (w.alloc (.cells #[.pointer none, .slice none 0 0] 78)) :=
  .inl ⟨hB, .slice none 0 0, Blk.new w _ _, World.ownsRowF_nil _ _ _ _, by simp [Value.ownBlock]⟩
theorem bd_alloc {B b : Nat} {t : ByteArray} {w : World} (h : IsBd B b t w) (o : Obj) : IsBd B b t (w.alloc o) := h.elim (fun x => .inl (x.alloc o)) (fun x => .inr (x.alloc o))
theorem str_any (B b : Nat) (t : ByteArray) (w : World) (h : IsBd B b t w) (hBw : B ≤ w.heap.size) :
    Calls Tryz.prog 56 #[.pointer (some ⟨b, 0, none⟩)] w (WroteIs (.string t) B b t w) :=
  (Tryz.Builder_String_any_f B b t.data.toList w h hBw).mono fun _ _ hh => ⟨hh.1, hh.2.1, hh.2.2⟩
theorem len_any (B b : Nat) (t : ByteArray) (w : World) (h : IsBd B b t w) :
    Calls Tryz.prog 53 #[.pointer (some ⟨b, 0, none⟩)] w fun e w' => e = .returned (.int .i64 t.size) ∧ w' = w :=
  (Tryz.Builder_Len_f B b _ w h).mono fun e w' hh => by rw [cells_len] at hh; exact hh
end Go.Proofs.YtckglpkafhmehaaGreatDoor
namespace Go.Proofs.YtckglpkafhmehaaGreatDoor
open Go.RowKit Go.Sort Go.Lib
set_option linter.unusedVariables false
def Tab (w : World) : Prop := Lib.TabIs Tryz.prog w "internal/strconv.uint64pow10" .u64 Lib.pow10Tab
def FmtIs (u : Nat) (w : World) (e : Ending) (w' : World) : Prop := e = .returned (.string ⟨(Lib.decDigits u).toArray⟩) ∧ Below w.heap.size w w'
theorem holds_zero0 (w : World) (T : TypeId) (nd : Nat) (hs : nd ≤ 24) : Holds (fun (b : UInt8) => Value.int .u8 (b.toNat : Int)) (w.alloc (.cells zeros24 T)) w.heap.size 0 (Array.replicate nd (0 : UInt8)) := fun j hj => by
  have hj' : j < nd := by simpa using hj
  refine ⟨?_, World.frozen?_alloc_new _ _ _ _⟩
  rw [World.cell?_alloc_new, zeros24_at _ (by omega), getElem!_pos _ j hj]
  simp
theorem fin_pos0 (w : World) (o : Obj) (dk : Array UInt8) (k : Nat) : ∃ os, (putRow (fun (b : UInt8) => Value.int .u8 (b.toNat : Int)) (w.alloc o) w.heap.size 0 dk).drewN k = grow (w.drewN k) os := by
  rw [alloc_eq_grow]
  obtain ⟨os', _, e⟩ := putRow_grow_new (fun (b : UInt8) => Value.int .u8 (b.toNat : Int)) w #[o] w.heap.size 0 dk (Nat.le_refl _)
  exact ⟨os', by rw [e]; rfl⟩
set_option maxHeartbeats 6400000 in
set_option maxRecDepth 100000 in
theorem format_any (u : Nat) (hu64 : u < 18446744073709551616) (w : World) (htab : Tab w) :
    Calls Tryz.prog 75 #[.int .u64 (u : Int), .int .i64 10] w (FmtIs u w) := by
  by_cases hs : u < 100
  · have hF : Hid (FmtIs u w (.returned (.string ⟨(Lib.decDigits u).toArray⟩)) w) := Lib.hid ⟨rfl, Below.refl _ _⟩
    have hsm := Lib.hid (Tryz.internal_strconv_small u hs w)
    have hui : (u : Int) < 100 := by omega
    have hu0 : (0 : Int) ≤ (u : Int) := by omega
    clear htab
    go_enter Tryz.func75, Tryz.ntmps75
    go_wp2_with fail
    refine hsm.out.mono ?_
    rintro e w' ⟨rfl, rfl⟩
    go_wp2_with fail
    go_ret
    exact hF.out
  · have hu1 : 1 ≤ u := by omega
    have hui : ¬ (u : Int) < 100 := by omega
    have hnd20 : Lib.nDigits u ≤ 20 := Lib.nDigits_le20 u hu64
    have hal : Tryz.prog.arrayLen 123 = 24 := by kernel_rfl
    have hsl1 : ∀ W, (Instr.sliceAt 123 (.pointer (some ⟨w.heap.size, 0, none⟩)) none (some (.int .i64 (Lib.nDigits u : Int))) none).run Tryz.prog W = .ok (.slice (some ⟨w.heap.size, 0, none⟩) (Lib.nDigits u) 24) W := fun W => by
      rw [run_sliceAt_array_h W 123 ⟨w.heap.size, 0, none⟩ (by kernel_rfl) .i64 (Lib.nDigits u : Int) (by omega) (by rw [hal]; omega)]
      have hsz : (sizeOf (Tryz.prog.elem 123)).run Tryz.prog W = .ok 1 W := by kernel_rfl
      rw [hsz, hal]
      simp [Result.andThen, slicedAt, Addr.add]
    have hH0 := holds_zero0 w 123 (Lib.nDigits u) (by omega)
    have hfmt := Tryz.internal_strconv_formatBase10 w.heap.size 0 24 u (Array.replicate (Lib.nDigits u) 0) (w.alloc (.cells Lib.zeros24 123)) hH0 (by rw [Array.size_replicate]; exact Lib.lt_pow_nDigits u) hu64 (by rw [Array.size_replicate]; omega)
    rw [Array.size_replicate] at hfmt
    have Hfmt := Lib.hid hfmt
    have HH0 := Lib.hid hH0
    have Hnum := Lib.hid (Tryz.internal_strconv_numDigits u hu1 hu64 (w.alloc (.cells Lib.zeros24 123)) (Lib.tabIs_alloc htab _))
    clear hH0 hal hfmt htab
    go_enter Tryz.func75, Tryz.ntmps75
    go_wp2_with fail
    refine Hnum.out.mono ?_
    rintro e w' ⟨rfl, rfl⟩
    go_wp2_with fail
    refine Hfmt.out.mono ?_
    rintro e w' ⟨rfl, k, v', dk, rfl, hF⟩
    have hcv : (convert 76 9 (.slice (some ⟨w.heap.size, 0, none⟩) (Lib.nDigits u) 24)).run Tryz.prog ((putRow (fun (b : UInt8) => Value.int .u8 (b.toNat : Int)) (w.alloc (.cells Lib.zeros24 123)) w.heap.size 0 dk).drewN k) = .ok (.string ⟨(Lib.decDigits u).toArray⟩) ((putRow (fun (b : UInt8) => Value.int .u8 (b.toNat : Int)) (w.alloc (.cells Lib.zeros24 123)) w.heap.size 0 dk).drewN k) := by
      have h := run_convert_bytes_back (P := Tryz.prog) ((putRow (fun (b : UInt8) => Value.int .u8 (b.toNat : Int)) (w.alloc (.cells Lib.zeros24 123)) w.heap.size 0 dk).drewN k) 76 9 5 ⟨w.heap.size, 0, none⟩ 24 (Lib.decDigits u) Tryz.underlying76 Tryz.underlying5 Tryz.underlying9 (fun j hj => by
        rw [Lib.row_is_numeral hF j hj, Lib.add_plain, World.cell?_drewN]
        exact cell?_putRow (fun (b : UInt8) => Value.int .u8 (b.toNat : Int)) _ w.heap.size 0 _ dk HH0.out (by rw [hF.size, Array.size_replicate]) j (by rw [hF.size]; rw [Lib.decDigits_length] at hj; exact hj))
      rw [Lib.decDigits_length] at h
      exact h
    obtain ⟨os, eo⟩ := fin_pos0 w (.cells Lib.zeros24 123) dk k
    have hbel : Below w.heap.size w ((putRow (fun (b : UInt8) => Value.int .u8 (b.toNat : Int)) (w.alloc (.cells Lib.zeros24 123)) w.heap.size 0 dk).drewN k) := by
      rw [eo]; exact Lib.below_grow _ w (Nat.le_refl _) k os
    have Hbel := Lib.hid hbel
    clear hbel eo hF HH0
    go_wp2_with fail
    go_ret
    exact ⟨rfl, Hbel.out⟩
theorem fmt_any (u : Nat) (hu64 : u < 18446744073709551616) (w : World) (htab : Tab w) :
    Calls Tryz.prog 52 #[.int .u64 (u : Int), .int .i64 10] w (FmtIs u w) := by
  have HF := Lib.hid (format_any u hu64 w htab)
  clear htab
  go_enter Tryz.func52, Tryz.ntmps52
  go_wp2_with fail
  refine HF.out.mono ?_
  rintro e w1 ⟨rfl, hb⟩
  have Hb := Lib.hid hb
  clear hb
  go_wp2_with fail
  go_ret
  exact ⟨rfl, Hb.out⟩
end Go.Proofs.YtckglpkafhmehaaGreatDoor
namespace Go.Proofs.YtckglpkafhmehaaGreatDoor
open Go.RowKit
set_option linter.unusedVariables false
/-- The last k digits of b. -/
def pk : Nat → Nat → List UInt8
  | 0, _ => []
  | k + 1, b => pk k (b / 10) ++ [UInt8.ofNat (48 + b % 10)]
theorem dec_join (k : Nat) : ∀ a b : Nat, 0 < a → b < 10 ^ k → Lib.decDigits (a * 10 ^ k + b) = Lib.decDigits a ++ pk k b := by
  induction k with
  | zero => intro a b ha hb; have : b = 0 := by simpa using hb
            subst this; simp [pk]
  | succ k ih =>
    intro a b ha hb
    have hp : 1 ≤ 10 ^ k := Nat.pos_of_ne_zero (by have := Nat.pow_pos (n := k) (show 0 < 10 by decide); omega)
    have he : a * 10 ^ (k + 1) = 10 * (a * 10 ^ k) := by rw [Nat.pow_succ, ← Nat.mul_assoc, Nat.mul_comm]
    have hge : 1 * 1 ≤ a * 10 ^ k := Nat.mul_le_mul ha hp
    rw [Nat.pow_succ] at hb
    rw [he, Lib.decDigits, dif_neg (by omega), show (10 * (a * 10 ^ k) + b) / 10 = a * 10 ^ k + b / 10 from by omega, show (10 * (a * 10 ^ k) + b) % 10 = b % 10 from by omega, ih a (b / 10) ha (by omega)]
    simp [pk]
theorem pk_zero : ∀ k, pk k 0 = List.replicate k 48 := by
  intro k
  induction k with
  | zero => rfl
  | succ k ih => simp only [pk, Nat.zero_div, ih, List.replicate_succ']; rfl
theorem pk_pad (k : Nat) : ∀ b : Nat, b < 10 ^ (k + 1) → pk (k + 1) b = List.replicate (k + 1 - Lib.nDigits b) 48 ++ Lib.decDigits b := by
  induction k with
  | zero =>
    intro b hb
    have hb' : b < 10 := by simpa using hb
    rw [Lib.nDigits_small hb', Lib.decDigits_one hb']
    simp [pk, Nat.mod_eq_of_lt hb']
  | succ k ih =>
    intro b hb
    rw [Nat.pow_succ] at hb
    show pk (k + 1) (b / 10) ++ [UInt8.ofNat (48 + b % 10)] = _
    by_cases h10 : b < 10
    · rw [Nat.div_eq_of_lt h10, pk_zero, Lib.nDigits_small h10, Lib.decDigits_one h10, Nat.mod_eq_of_lt h10]
      rfl
    · rw [ih (b / 10) (by omega), Lib.nDigits_big h10]
      conv => rhs; rw [Lib.decDigits, dif_neg h10]
      rw [← List.append_assoc]
      congr 3
      omega
/-- The number of parts, the lowest first. -/
def pv : List Nat → Nat
  | [] => 0
  | x :: r => x + 10000000000000000000 * pv r
theorem pv_append (a b : List Nat) : pv (a ++ b) = pv a + 10000000000000000000 ^ a.length * pv b := by
  induction a with
  | nil => simp [pv]
  | cons x r ih => simp only [List.cons_append, pv, ih, List.length_cons, Nat.pow_succ]; rw [Nat.mul_add, ← Nat.mul_assoc, Nat.mul_comm (10000000000000000000 ^ r.length)]; omega
def Prt (ps : List Nat) : Prop := ∀ p ∈ ps, p < 10000000000000000000
theorem pv_pos : ∀ (ps : List Nat), (∃ r x, ps = r ++ [x] ∧ x ≠ 0) → 0 < pv ps := by
  rintro ps ⟨r, x, rfl, hx⟩
  rw [pv_append]
  have h1 : 0 < 10000000000000000000 ^ r.length := Nat.pow_pos (by decide)
  have h2 : 0 < pv [x] := by simp [pv]; omega
  have := Nat.mul_pos h1 h2
  omega
/-- One more part ahead: its digits, noughts ahead of them. -/
theorem dec_part (x R : Nat) (hR : 0 < R) (hx : x < 10000000000000000000) :
    Lib.decDigits (x + 10000000000000000000 * R) = Lib.decDigits R ++ (List.replicate (19 - Lib.nDigits x) 48 ++ Lib.decDigits x) := by
  have e19 : (10 : Nat) ^ 19 = 10000000000000000000 := by decide
  have h := dec_join 19 R x hR (by rw [e19]; exact hx)
  rw [e19, pk_pad 18 x (by rw [e19]; exact hx)] at h
  rw [← h, Nat.add_comm, Nat.mul_comm]
/-- What the inner loop keeps: the words from place j on are divided, qs is what they come to, r is left. -/
structure Dv (us : List Nat) (j : Nat) (qs : List Nat) (r : Nat) : Prop where
  len : qs.length + j = us.length
  wrd : Wrd qs
  eq : wv (us.drop j) = wv qs * 10000000000000000000 + r
  lt : r < 10000000000000000000
theorem dv_stepd {us qs : List Nat} {j r : Nat} (h : Dv us (j + 1) qs r) (hj : j < us.length) (hx : us.getD j 0 < 18446744073709551616) :
    Dv us j ((r * 18446744073709551616 + us.getD j 0) / 10000000000000000000 :: qs) ((r * 18446744073709551616 + us.getD j 0) % 10000000000000000000) := by
  have hdrop : us.drop j = us.getD j 0 :: us.drop (j + 1) := by
    rw [List.drop_eq_getElem_cons hj]
    congr 1
    rw [List.getD_eq_getElem?_getD, List.getElem?_eq_getElem hj]; rfl
  have he := h.eq
  have hlt := h.lt
  have hl := h.len
  generalize us.getD j 0 = x at *
  refine ⟨by rw [List.length_cons]; omega, ?_, ?_, by omega⟩
  · intro u hu
    rcases List.mem_cons.1 hu with rfl | hu
    · omega
    · exact h.wrd u hu
  · rw [hdrop]
    simp only [wv]
    rw [he]
    have hd := Nat.div_add_mod (r * 18446744073709551616 + x) 10000000000000000000
    generalize (r * 18446744073709551616 + x) / 10000000000000000000 = q at *
    generalize (r * 18446744073709551616 + x) % 10000000000000000000 = m at *
    rw [Nat.mul_add, Nat.add_mul]
    generalize wv qs = Q at *
    have : 18446744073709551616 * (Q * 10000000000000000000) = 18446744073709551616 * Q * 10000000000000000000 := by rw [Nat.mul_assoc]
    omega
/-- What the outer loop keeps: ps are the parts that are told, us is what is left. -/
structure Tx (N : Nat) (us ps : List Nat) : Prop where
  val : N = pv ps + 10000000000000000000 ^ ps.length * wv us
  wrd : Wrd us
  prt : Prt ps
  norm : us ≠ [] → us.getD (us.length - 1) 0 ≠ 0
  last : us = [] → ps = [] ∨ ∃ r x, ps = r ++ [x] ∧ x ≠ 0
theorem wv_pos {us : List Nat} (h : us ≠ []) (hn : us.getD (us.length - 1) 0 ≠ 0) : 0 < wv us := by
  rcases List.eq_nil_or_concat us with rfl | ⟨r, x, rfl⟩
  · exact absurd rfl h
  · rw [List.concat_eq_append] at *
    have hx : x ≠ 0 := by
      simpa [List.getD_eq_getElem?_getD] using hn
    rw [wv_append]
    have h1 : 0 < 18446744073709551616 ^ r.length := Nat.pow_pos (by decide)
    have h2 : 0 < wv [x] := by simp [wv]; omega
    have := Nat.mul_pos h1 h2
    omega
theorem tx_lt {N : Nat} {us ps : List Nat} (h : Tx N us ps) (hu : us ≠ []) : ps.length < N := by
  have h1 := wv_pos hu (h.norm hu)
  have h2 : ps.length < 10000000000000000000 ^ ps.length := Nat.lt_pow_self (by decide)
  have h3 : 10000000000000000000 ^ ps.length * 1 ≤ 10000000000000000000 ^ ps.length * wv us := Nat.mul_le_mul_left _ h1
  have := h.val
  omega
theorem tx_step {N : Nat} {us ps qs : List Nat} {r : Nat} (h : Tx N us ps) (hu : us ≠ []) (hd : Dv us 0 qs r) : Tx N (qs.take (tlen qs qs.length)) (ps ++ [r]) := by
  have hv := tlen_wv qs qs.length (Nat.le_refl _)
  rw [List.take_length] at hv
  have hle := tlen_le qs qs.length
  have hlast := tlen_last qs qs.length
  have he := hd.eq
  rw [List.drop_zero] at he
  have hpos := wv_pos hu (h.norm hu)
  generalize tlen qs qs.length = m at *
  have hlm : (qs.take m).length = m := by rw [List.length_take]; omega
  refine ⟨?_, fun u hx => hd.wrd u (List.mem_of_mem_take hx), ?_, ?_, ?_⟩
  · rw [h.val, he, pv_append, List.length_append, hv, List.length_singleton, Nat.pow_succ]
    simp only [pv, Nat.mul_zero, Nat.add_zero]
    rw [Nat.mul_add, Nat.mul_comm (wv qs), ← Nat.mul_assoc]
    omega
  · intro p hp
    rcases List.mem_append.1 hp with hp | hp
    · exact h.prt p hp
    · simp at hp; rw [hp]; exact hd.lt
  · intro hne
    have hm0 : 0 < m := by
      rcases Nat.eq_zero_or_pos m with h0 | h0
      · rw [h0] at hne; simp at hne
      · exact h0
    rw [hlm, List.getD_eq_getElem?_getD, List.getElem?_take, if_pos (by omega), ← List.getD_eq_getElem?_getD]
    exact hlast hm0
  · intro hnil
    refine .inr ⟨ps, r, rfl, ?_⟩
    have h0 : wv qs = 0 := by rw [← hv, hnil]; rfl
    rw [h0] at he
    omega
theorem wv_lt : ∀ (us : List Nat), Wrd us → wv us < 18446744073709551616 ^ us.length := by
  intro us
  induction us with
  | nil => intro _; decide
  | cons x r ih =>
    intro h
    have h1 := ih (fun u hu => h u (List.mem_cons_of_mem _ hu))
    have h2 := h x (List.mem_cons_self)
    simp only [wv, List.length_cons, Nat.pow_succ]
    rw [Nat.mul_comm (18446744073709551616 ^ r.length)]
    have h3 : 18446744073709551616 * (wv r + 1) ≤ 18446744073709551616 * 18446744073709551616 ^ r.length := Nat.mul_le_mul_left _ h1
    omega
theorem tx_len {N L : Nat} {us ps : List Nat} (h : Tx N us ps) (hu : us ≠ []) (hN : N < 18446744073709551616 ^ L) : ps.length < 2 * L := by
  have h1 := wv_pos hu (h.norm hu)
  have h3 : 10000000000000000000 ^ ps.length * 1 ≤ 10000000000000000000 ^ ps.length * wv us := Nat.mul_le_mul_left _ h1
  have hv := h.val
  have h4 : 18446744073709551616 ^ L ≤ (10000000000000000000 ^ 2) ^ L := Nat.pow_le_pow_left (by decide) L
  rw [← Nat.pow_mul] at h4
  have h5 : 10000000000000000000 ^ ps.length < 10000000000000000000 ^ (2 * L) := by omega
  exact (Nat.pow_lt_pow_iff_right (by decide)).1 h5
/-- Two rows of words of the call's own, in blocks of their own. -/
structure Tw (B : Nat) (w W : World) (v1 v2 : Value) (us ps : List Nat) : Prop where
  o1 : OU B W v1 us
  o2 : OU B W v2 ps
  ne : ∀ g, v1.ownBlock = some g → v2.ownBlock ≠ some g
  bel : Below B w W
  size : B ≤ W.heap.size
theorem grown_set (W : World) (g i : Nat) (u : Value) : W.grownBy (W.setCell ⟨g, i, none⟩ u) (some g) := ⟨rfl, rfl, rfl, by simp, fun k _ hk => Below.heap_setCell _ _ _ k (fun e => hk (by rw [e]))⟩
theorem row_far {W W' : World} {row : Option Nat} {b : Nat} {e : TypeId} {s : Nat} {v : Value} {n : Nat} {xs : List Value} (h : W.ownsRow b e s v n xs) (hg : W.grownBy W' row) (hne : ∀ g, row = some g → v.ownBlock ≠ some g) : W'.ownsRow b e s v n xs := by
  refine h.kept hg ?_
  cases hv : v.ownBlock with
  | none => exact .inl rfl
  | some g => exact .inr (fun e => hne g e.symm (by rw [hv]))
section
variable {B : Nat} {w W : World} {v1 v2 : Value} {us ps : List Nat}
theorem Tw.alloc (h : Tw B w W v1 v2 us ps) (o : Obj) : Tw B w (W.alloc o) v1 v2 us ps := ⟨World.ownsRow.alloc h.o1 o, World.ownsRow.alloc h.o2 o, h.ne, h.bel.alloc h.size o, by simp; have := h.size; omega⟩
theorem Tw.below {W' : World} (h : Tw B w W v1 v2 us ps) (hb : Below W.heap.size W W') : Tw B w W' v1 v2 us ps := by
  have hg : W.grownBy W' none := grown_below hb (Nat.le_refl _)
  exact ⟨row_far h.o1 hg (fun g e => by cases e), row_far h.o2 hg (fun g e => by cases e), h.ne, h.bel.trans (hb.mono h.size), Nat.le_trans h.size hb.size⟩
theorem Tw.set {g n c : Nat} (h : Tw B w W (.slice (some ⟨g, 0, none⟩) n c) v2 us ps) (hn : us.length = n) (i x : Nat) (hi : i < n) : Tw B w (W.setCell ⟨g, i, none⟩ (.int .u64 (x : Int))) (.slice (some ⟨g, 0, none⟩) n c) v2 (us.set i x) ps := by
  subst hn
  have hb := ou_block h.o1
  refine ⟨?_, row_far (row := some g) h.o2 (grown_set W g i _) (fun k e e' => by cases e; exact h.ne g rfl e'), h.ne, h.bel.setCell (p := ⟨g, i, none⟩) hb.1 _, by rw [World.size_setCell]; exact h.size⟩
  have := ou_set h.o1 i x hi
  unfold OU
  rw [List.length_set]
  exact this
theorem ou_trim {a : Option Addr} {c : Nat} (h : OU B W (.slice a us.length c) us) (m : Nat) (hm : m ≤ us.length) : OU B W (trimV a c m) (us.take m) := by
  unfold trimV
  by_cases h0 : m = 0
  · rw [if_pos h0, h0]
    exact World.ownsRow_nil _ _ _ _
  · rw [if_neg h0]
    unfold OU
    rw [List.length_take, Nat.min_eq_left hm]
    rcases h.2 with ⟨he, hl⟩ | ⟨g, cap, cur, he, hbg, hg, hnc, hmx, hsz, htk⟩
    · omega
    · cases he
      refine ⟨by simp; omega, .inr ⟨g, c, cur, rfl, hbg, hg, by omega, hmx, hsz, ?_⟩⟩
      rw [List.map_take, ← htk, List.take_take]
      congr 1
      omega
theorem Tw.trim {a : Option Addr} {c : Nat} (h : Tw B w W (.slice a us.length c) v2 us ps) (m : Nat) (hm : m ≤ us.length) : Tw B w W (trimV a c m) v2 (us.take m) ps := by
  refine ⟨ou_trim h.o1 m hm, h.o2, fun g hg => ?_, h.bel, h.size⟩
  unfold trimV at hg
  split at hg
  · cases hg
  · exact h.ne g (by
      cases a with
      | none => cases hg
      | some ad => exact hg)
end
theorem push_t {ops : Array Oper} {rest : List Oper} {o : Oper} {a : Act} {Q : Exit → Act → World → Prop} (hgd : o.guard = none) (s x : Operand)
    (ho : o.op = .call { callee := .builtin .append, args := #[s, x], argTypes := #[29, 29] }) (B : Nat) (w W : World) (v1 v2 : Value) (us ps : List Nat) (u : Nat)
    (hs : a.eval s = v2) (hd : Tw B w W v1 v2 us ps) (g : Nat) (hgW : W.heap.size = g) (hx : a.eval x = .slice (some ⟨g, 0, none⟩) 1 1) (hlen : ps.length ≤ 1000000)
    (h : ∀ v' W', Tw B w W' v1 v' us (ps ++ [u]) → wpList Tryz.prog ops Q rest (a.put o.dst v') W') :
    wpList Tryz.prog ops Q (o :: rest) a (W.alloc (.cells #[.int .u64 (u : Int)] 60)) := by
  obtain ⟨i0, hi, hz0, hz1, hz2⟩ := info_parts Tryz.infoU
  subst hgW
  have hd' := hd.alloc (.cells #[.int .u64 (u : Int)] 60)
  have hl1 := hd.o1.lt
  have hl2 := hd.o2.lt
  refine wpList_append_own_at _ hgd s x 29 ho B 60 i0 (.int .u64 0) 1 8 Tryz.underlying29 hi hz0 hz1 hz2 rfl (by decide) v2 ps.length _ hs hd'.o2 ⟨W.heap.size, 0, none⟩ 1 1 [.int .u64 (u : Int)] hx rfl (cell_one_new _ _ _) ?_ ?_ ?_ hd'.size ?_
  · intro y hy; simp at hy; subst hy; rfl
  · unfold maxLen; omega
  · omega
  · intro v' W' hown' hg _ hat
    have hb : Below B W W' := ((Below.refl B W).alloc hd.size _).grown hg hd'.size (fun k hk => (hl2 k hk).1)
    refine h v' W' ⟨row_far hd'.o1 hg (fun k e e' => hd.ne k e' e), ?_, ?_, hd.bel.trans hb, Nat.le_trans hd.size hb.size⟩
    · unfold OU
      rw [List.map_append, List.length_append]
      exact hown'
    · intro k hk1 hk2
      rcases hat with e | e
      · rw [e] at hk2; exact hd.ne k hk1 hk2
      · rw [e] at hk2; cases hk2; have := (hl1 _ hk1).2; simp at this; omega
end Go.Proofs.YtckglpkafhmehaaGreatDoor
namespace Go.Proofs.YtckglpkafhmehaaGreatDoor
open Go.RowKit
set_option linter.unusedVariables false
set_option maxRecDepth 100000 in
theorem field_words (a : Option Addr) (n c : Nat) (wx : World) : (Instr.field 31 (.agg #[.slice a n c]) 0).run Tryz.prog wx = .ok (.slice a n c) wx := by
  first
  | kernel_rfl
  | (simp [Instr.field, run_underlying Tryz.underlying31]; done)
  | (simp [Instr.field, run_underlying Tryz.underlying31]; rfl)
theorem Tab.below {w w' : World} {B : Nat} (h : Tab w) (hb : Below B w w') (hB : w.heap.size ≤ B) : Tab w' := by
  have hs : (Tryz.prog.globalNamed "internal/strconv.uint64pow10").isSome = true := by kernel_rfl
  obtain ⟨g, hg⟩ := Option.isSome_iff_exists.1 hs
  exact Go.Joins.tab_stays hg h hb hB
theorem bd_below {B b : Nat} {t : ByteArray} {w w' : World} (h : IsBd B b t w) (hb : Below w.heap.size w w') : IsBd B b t w' := by
  have hg := grown_below hb (Nat.le_refl _)
  have key : ∀ p, BdAt B b p t w → BdAt B b p t w' := fun p ⟨hB, v, hbk, hown, hne⟩ => by
    have hlt : b < w.heap.size := (Array.getElem?_eq_some_iff.1 hbk).1
    refine ⟨hB, v, (hb.block b hlt).trans hbk, hown.kept hg ?_, hne⟩
    cases v.ownBlock with
    | none => exact .inl rfl
    | some g => exact .inr (by simp)
  exact h.elim (fun x => .inl (key _ x)) (fun x => .inr (key _ x))
theorem pv_lt : ∀ (ps : List Nat), Prt ps → pv ps < 10000000000000000000 ^ ps.length := by
  intro ps
  induction ps with
  | nil => intro _; decide
  | cons x r ih =>
    intro h
    have h1 := ih (fun u hu => h u (List.mem_cons_of_mem _ hu))
    have h2 := h x (List.mem_cons_self)
    simp only [pv, List.length_cons, Nat.pow_succ]
    rw [Nat.mul_comm (10000000000000000000 ^ r.length)]
    have h3 : 10000000000000000000 * (pv r + 1) ≤ 10000000000000000000 * 10000000000000000000 ^ r.length := Nat.mul_le_mul_left _ h1
    omega
theorem nDigits_le : ∀ (m u : Nat), u < 10 ^ (m + 1) → Lib.nDigits u ≤ m + 1 := by
  intro m
  induction m with
  | zero => intro u h; rw [Lib.nDigits_small (by simpa using h)]; exact Nat.le_refl _
  | succ m ih =>
    intro u h
    by_cases h10 : u < 10
    · rw [Lib.nDigits_small h10]; omega
    · rw [Lib.nDigits_big h10]
      have := ih (u / 10) (by rw [Nat.pow_succ] at h; omega)
      omega
theorem dec_len (ps : List Nat) (h : Prt ps) : (Lib.decDigits (pv ps)).length ≤ 19 * ps.length + 1 := by
  rw [Lib.decDigits_length]
  have h1 := pv_lt ps h
  have e19 : (10000000000000000000 : Nat) = 10 ^ 19 := by decide
  rw [e19, ← Nat.pow_mul] at h1
  refine nDigits_le (19 * ps.length) _ (Nat.lt_of_lt_of_le h1 (Nat.pow_le_pow_right (by decide) (by omega)))
/-- What is written when the parts from place j on are written. -/
def tx2 (ps : List Nat) (j : Nat) : ByteArray := if ps.length ≤ j then ⟨#[]⟩ else ⟨(Lib.decDigits (pv (ps.drop j))).toArray⟩
theorem repeat_48 (p : Nat) : Lib.repeatL [48] p = List.replicate p 48 := by
  induction p with
  | zero => rfl
  | succ p ih => simp [Lib.repeatL, List.replicate_succ] at *; try exact ih
theorem drop_get (ps : List Nat) (i : Nat) (h : i < ps.length) : ps.drop i = ps.getD i 0 :: ps.drop (i + 1) := by
  rw [List.drop_eq_getElem_cons h]
  congr 1
  rw [List.getD_eq_getElem?_getD, List.getElem?_eq_getElem h]; rfl
theorem tx2_last (ps : List Nat) (i : Nat) (h : i + 1 = ps.length) : tx2 ps i = ⟨(Lib.decDigits (ps.getD i 0)).toArray⟩ := by
  unfold tx2
  rw [if_neg (by omega), drop_get ps i (by omega), List.drop_of_length_le (by omega)]
  simp [pv]
theorem tx2_step (ps : List Nat) (i : Nat) (h : i + 1 < ps.length) (hp : Prt ps) (hl : ∃ r x, ps = r ++ [x] ∧ x ≠ 0) :
    tx2 ps i = tx2 ps (i + 1) ++ ⟨(List.replicate (19 - Lib.nDigits (ps.getD i 0)) 48).toArray⟩ ++ ⟨(Lib.decDigits (ps.getD i 0)).toArray⟩ := by
  have hx : ps.getD i 0 < 10000000000000000000 := by rw [List.getD_eq_getElem?_getD, List.getElem?_eq_getElem (by omega)]; exact hp _ (List.getElem_mem _)
  have hpos : 0 < pv (ps.drop (i + 1)) := by
    refine pv_pos _ ?_
    obtain ⟨r, x, hr, hx0⟩ := hl
    rw [hr] at h ⊢
    simp at h
    exact ⟨r.drop (i + 1), x, by rw [List.drop_append_of_le_length (by omega)], hx0⟩
  unfold tx2
  rw [if_neg (by omega), if_neg (by omega), drop_get ps i (by omega)]
  simp only [pv]
  rw [dec_part _ _ hpos hx]
  refine bytes_ext ?_
  simp
def TextIs (N : Nat) (w : World) (e : Ending) (w' : World) : Prop := e = .returned (.string ⟨(Lib.decDigits N).toArray⟩) ∧ Below w.heap.size w w'
def lenOf : Value → Nat
  | .slice _ n _ => n
  | _ => 0
set_option maxRecDepth 100000 in
set_option maxHeartbeats 1000000 in
theorem text_zero (w : World) : Calls Tryz.prog 28 #[.agg #[.slice none 0 0]] w (TextIs 0 w) := by
  obtain ⟨i0, hi, hz0, hz1, hz2⟩ := info_parts Tryz.infoU
  have hd : Lib.decDigits 0 = [48] := by rw [Lib.decDigits_one (by decide)]; rfl
  obtain ⟨W1, hW1⟩ : ∃ W1, w.alloc (.cells #[.slice none 0 0] 31) = W1 := ⟨_, rfl⟩
  have hk : Blk W1 w.heap.size 31 #[.slice none 0 0] := by rw [← hW1]; exact Blk.new w _ _
  have HB : Hid (Below w.heap.size w W1) := Lib.hid (by rw [← hW1]; exact (Below.refl _ _).alloc (Nat.le_refl _) _)
  have hk0 := hk.cell 0
  simp only [List.getElem?_toArray, List.getElem?_cons_zero] at hk0
  have HR : Hid (TextIs 0 w (.returned (.string ⟨#[48]⟩)) W1) := Lib.hid ⟨by rw [hd], HB.out⟩
  clear hd
  go_enter Tryz.func28, Tryz.ntmps28
  go_wp2_with (at_builtin; refine wpList_append_own_none rfl (.const (.slice none 0 0)) (.tmp 11) 29 rfl w.heap.size 60 i0 1 Tryz.underlying29 hi (.slice none 0 0) 0 [] rfl (World.ownsRow_nil _ _ _ _) rfl ?_)
  clear hi hz0 hz1 hz2
  go_loop [3, 4] (fun l p => l = .slice none 0 0 ∧ p = .slice none 0 0) (fun _ _ => 0)
  case atStart => exact ⟨rfl, rfl⟩
  case round =>
    obtain ⟨rfl, rfl⟩ := hrel
    go_wp2_with fail
    go_ret
    exact HR.out
set_option maxRecDepth 100000 in
set_option maxHeartbeats 4000000 in
theorem text_pos (ad : Addr) (c : Nat) (us0 : List Nat) (w : World) (htab : Tab w) (hu : UR w (some ad) us0) (hw : Wrd us0) (hl : us0.length ≤ 10000) (hne : us0 ≠ []) (hlast : us0.getD (us0.length - 1) 0 ≠ 0) :
    Calls Tryz.prog 28 #[.agg #[.slice (some ad) us0.length c]] w (TextIs (wv us0) w) := by
  obtain ⟨i0, hi, hz0, hz1, hz2⟩ := info_parts Tryz.infoU
  obtain ⟨W1, hW1⟩ : ∃ W1, w.alloc (.cells #[.slice (some ad) us0.length c] 31) = W1 := ⟨_, rfl⟩
  have hk : Blk W1 w.heap.size 31 #[.slice (some ad) us0.length c] := by rw [← hW1]; exact Blk.new w _ _
  have hb1 : Below w.heap.size w W1 := by rw [← hW1]; exact (Below.refl _ _).alloc (Nat.le_refl _) _
  have HTab : Hid (∀ w', Below w.heap.size w w' → Tab w') := Lib.hid (fun w' hb => htab.below hb (Nat.le_refl _))
  have hk0 := hk.cell 0
  simp only [List.getElem?_toArray, List.getElem?_cons_zero] at hk0
  have hnews : ∀ (j : Nat) (x : Value), (us0.map uv)[j]? = some x → W1.cell? (ad.add j) = some x := by
    intro j x hj
    rw [List.getElem?_map, Option.map_eq_some_iff] at hj
    obtain ⟨u, hu', rfl⟩ := hj
    have hjl := (List.getElem?_eq_some_iff.1 hu').1
    obtain ⟨ad', hadx, hlt, hcl⟩ := hu j hjl
    cases hadx
    rw [(hb1.cell (by rw [add_block]; exact hlt)), hcl, List.getD_eq_getElem?_getD, hu']
    rfl
  have Hnews := Lib.hid hnews
  have HB1 := Lib.hid hb1
  have HTx0 : Hid (Tx (wv us0) us0 []) := Lib.hid ⟨by simp [pv], hw, fun p hp => by simp at hp, fun _ => hlast, fun h => absurd h hne⟩
  have HN : Hid (wv us0 < 18446744073709551616 ^ us0.length) := Lib.hid (wv_lt us0 hw)
  have HL := Lib.hid (Lib.hid hl)
  have HNpos : Hid (0 < wv us0) := Lib.hid (wv_pos hne hlast)
  obtain ⟨N, hN⟩ : ∃ N, wv us0 = N := ⟨_, rfl⟩
  rw [hN] at HTx0 HN HNpos ⊢
  have hle1 : w.heap.size ≤ W1.heap.size := hb1.size
  clear hu hw hlast hk hb1 hnews htab hN
  go_enter Tryz.func28, Tryz.ntmps28
  go_wp2_with (at_builtin; refine wpList_append_own_at _ rfl (.const (.slice none 0 0)) (.tmp 11) 29 rfl w.heap.size 60 i0 (.int .u64 0) 1 8 Tryz.underlying29 hi hz0 hz1 hz2 rfl (by decide) (.slice none 0 0) 0 [] rfl (World.ownsRow_nil _ _ _ _) ad us0.length c (us0.map uv) rfl (by simp) Hnews.out (uv_one us0) (by unfold maxLen; omega) (by omega) hle1 ?_)
  intro v1 W2 hown hg _ _
  have HT2 : Hid (Tw w.heap.size w W2 v1 (.slice none 0 0) us0 []) := Lib.hid ⟨by simpa [OU] using hown, World.ownsRow_nil _ _ _ _, fun g _ h => (by cases h), HB1.out.grown hg hle1 (fun k hk => by cases hk), Nat.le_trans hle1 hg.size⟩
  obtain ⟨a1, c1, hv1, _⟩ := ou_form HT2.out.o1
  subst hv1
  clear hown hg hi hz0 hz1 hz2 Hnews hk0 hW1 HB1 hle1
  go_wp2_with fail
  go_loopw [3, 4] (fun l p wr => ∃ (us ps : List Nat), us.length ≤ us0.length ∧ ps.length ≤ 20000 ∧ Hid (Tw w.heap.size w wr l p us ps) ∧ Hid (Tx N us ps)) (fun _ p _ => N - lenOf p)
  case atStart => exact ⟨us0, [], Nat.le_refl _, by simp, HT2, HTx0⟩
  case round =>
    obtain ⟨us, ps, hul, hpl, hT, hX⟩ := hrel
    clear HT2 HTx0
    obtain ⟨a1, c1, rfl, hc1, ha1⟩ := ou_form hT.out.o1
    obtain ⟨a2, c2, rfl, hc2, ha2⟩ := ou_form hT.out.o2
    obtain ⟨n, hn⟩ : ∃ n, us.length = n := ⟨_, rfl⟩
    have Hn := Lib.hid hn
    obtain ⟨k, hk⟩ : ∃ k, ps.length = k := ⟨_, rfl⟩
    have Hk := Lib.hid hk
    by_cases hn0 : 0 < n
    · have hune : us ≠ [] := fun h => by rw [h] at hn; simp at hn; omega
      obtain ⟨g, rfl⟩ : ∃ g, a1 = some ⟨g, 0, none⟩ := by
        rcases ha1 with h | h
        · exact absurd h hune
        · exact h
      have hpN : Hid (ps.length < N) := Lib.hid (tx_lt hX.out hune)
      have hp2L : k < 20000 := by have := tx_len hX.out hune HN.out; have := HL.out.out; omega
      have hni : (0 : Int) < (n : Int) := by omega
      have hn10 : n ≤ 10000 := by have := HL.out.out; omega
      have hT0 : Hid (Tw w.heap.size w wr (.slice (some ⟨g, 0, none⟩) n c1) (.slice a2 k c2) (us.take n ++ []) ps) := Lib.hid (by
        have := hT.out
        rw [List.take_of_length_le (by omega), List.append_nil, ← hn, ← hk]
        exact this)
      have hD0 : Hid (Dv us n [] 0) := Lib.hid ⟨by simp [hn], fun u hu => by simp at hu, by rw [List.drop_of_length_le (by omega)]; rfl, by decide⟩
      have Hune := Lib.hid hune
      rw [hn] at hul hc1 ⊢
      rw [hk] at hpl hc2 ⊢
      clear hune ha1 ha2 hn hk hT
      go_wp2_with fail
      go_loopw [5, 6] (fun rv iv wq => ∃ (j : Nat) (qs : List Nat) (r : Nat) (R : Int), j ≤ n ∧ iv = .int .i64 ((j : Int) - 1) ∧ rv = .int .u64 R ∧ Hid (R = (r : Int)) ∧ Hid (Dv us j qs r) ∧ Hid (Tw w.heap.size w wq (.slice (some ⟨g, 0, none⟩) n c1) (.slice a2 k c2) (us.take j ++ qs) ps)) (fun _ iv _ => (intOf iv + 1).toNat)
      case atStart => exact ⟨n, [], 0, 0, Nat.le_refl _, rfl, rfl, Lib.hid rfl, hD0, hT0⟩
      case round =>
        obtain ⟨j, qs, r, R, hj, rfl, rfl, hR, hD, hTq⟩ := hrel
        clear hD0 hT0
        cases j with
        | zero =>
          have hlq : qs.length = n := by have := hD.out.len; have := Hn.out; omega
          have HTz : Hid (Tw w.heap.size w wr (.slice (some ⟨g, 0, none⟩) n c1) (.slice a2 k c2) qs ps) := Lib.hid (by have := hTq.out; rw [List.take_zero, List.nil_append] at this; exact this)
          have HX' : Hid (Tx N (qs.take (tlen qs n)) (ps ++ [r])) := Lib.hid (by have := tx_step hX.out Hune.out hD.out; rw [hlq] at this; exact this)
          have htl : tlen qs n ≤ n := tlen_le qs n
          have hkps := Hk.out
          have hRe := hR.out
          subst hRe
          clear hTq hD hX hR
          go_wp2_with (at_builtin; refine push_t rfl (.tmp 35) (.tmp 37) rfl w.heap.size w _ _ _ qs ps r rfl HTz.out _ rfl rfl (by omega) ?_)
          intro p' W' hT'
          obtain ⟨a3, c3, hp3, _⟩ := ou_form hT'.o2
          rw [List.length_append, List.length_singleton, hkps] at hp3
          subst hp3
          have htr : Hid (Calls Tryz.prog 51 #[.slice (some ⟨g, 0, none⟩) n c1] W' (TrimIs (some ⟨g, 0, none⟩) c1 qs W')) := Lib.hid (by
            obtain ⟨a9, c9, h9, _, hur⟩ := ou_ur hT'.o1
            have ha9 : a9 = some ⟨g, 0, none⟩ := by injection h9 with e1 e2 e3; exact e1.symm
            rw [ha9] at hur
            have := trim_any (some ⟨g, 0, none⟩) c1 qs W' hur (by omega) (by omega)
            rw [hlq] at this
            exact this)
          have HT' := Lib.hid hT'
          clear hT' HTz
          go_wp2_with fail
          refine htr.out.mono ?_
          rintro e w6 ⟨rfl, hb6⟩
          rw [hlq]
          have HT6 : Hid (Tw w.heap.size w w6 (trimV (some ⟨g, 0, none⟩) c1 (tlen qs n)) (.slice a3 (k + 1) c3) (qs.take (tlen qs n)) (ps ++ [r])) := Lib.hid (by
            have h7 := HT'.out.below hb6
            rw [← hlq] at h7 ⊢
            exact h7.trim (tlen qs qs.length) (by rw [hlq]; exact htl))
          obtain ⟨tv, htv⟩ : ∃ tv, trimV (some ⟨g, 0, none⟩) c1 (tlen qs n) = tv := ⟨_, rfl⟩
          have htvs : ∃ x y z, tv = .slice x y z := by
            rw [← htv]; unfold trimV; split
            · exact ⟨_, _, _, rfl⟩
            · exact ⟨_, _, _, rfl⟩
          obtain ⟨tx, ty, tz, rfl⟩ := htvs
          rw [htv] at HT6 ⊢
          have hkN : k < N := by have := hpN.out; omega
          have hl1 : (qs.take (tlen qs n)).length ≤ us0.length := by rw [List.length_take]; omega
          have hl2 : (ps ++ [r]).length ≤ 20000 := by simp; omega
          have hfld := field_words tx ty tz
          clear hb6 htr HT' htv
          go_wp2_with fail
          go_roundw
          case rel => exact ⟨_, _, hl1, hl2, HT6, HX'⟩
          case measure => simp only [lenOf]; omega
        | succ i =>
          have hin : i < n := by omega
          have hil : i < us.length := by rw [Hn.out]; exact hin
          obtain ⟨x, hx⟩ : ∃ x, us.getD i 0 = x := ⟨_, rfl⟩
          have hxw : x < 18446744073709551616 := by rw [← hx, List.getD_eq_getElem?_getD, List.getElem?_eq_getElem hil]; exact hX.out.wrd _ (List.getElem_mem _)
          have hlen : (us.take (i + 1) ++ qs).length = n := by rw [List.length_append, List.length_take]; have := hD.out.len; have := Hn.out; omega
          have hrow : wr.ownsRow w.heap.size 60 1 (.slice (some ⟨g, 0, none⟩) n c1) n ((us.take (i + 1) ++ qs).map uv) := by
            have := hTq.out.o1
            unfold OU at this
            rw [hlen] at this
            exact this
          have htk : us.take (i + 1) = us.take i ++ [x] := by rw [take_succ_getD us i hil, hx]
          have hli : (us.take i).length = i := by rw [List.length_take]; omega
          have hgx : (us.take (i + 1) ++ qs).getD i 0 = x := by
            rw [htk, List.append_assoc, List.getD_eq_getElem?_getD, List.getElem?_append_right (by omega), hli, Nat.sub_self]; rfl
          have hset : ∀ q, (us.take (i + 1) ++ qs).set i q = us.take i ++ (q :: qs) := fun q => by
            rw [htk, List.append_assoc, List.set_append_right _ _ (by omega), hli, Nat.sub_self]; rfl
          have hcell := ou_cell hrow i (by omega)
          rw [hgx, add_zero_off] at hcell
          obtain ⟨hbg, hgl, hfr⟩ := ou_block hrow
          have hfri := hfr i hin
          have hrl := hD.out.lt
          have hstep := dv_stepd hD.out hil (by rw [hx]; exact hxw)
          rw [hx] at hstep
          have hdv := div64_any r x 10000000000000000000 hxw (by decide) hrl wr
          obtain ⟨q, hq⟩ : ∃ q, (r * 18446744073709551616 + x) / 10000000000000000000 = q := ⟨_, rfl⟩
          obtain ⟨m, hm⟩ : ∃ m, (r * 18446744073709551616 + x) % 10000000000000000000 = m := ⟨_, rfl⟩
          rw [hq, hm] at hstep
          obtain ⟨X, hX'⟩ : ∃ X : Int, (x : Int) = X := ⟨_, rfl⟩
          obtain ⟨Q, hQ⟩ : ∃ Q : Int, (q : Int) = Q := ⟨_, rfl⟩
          obtain ⟨M, hM⟩ : ∃ M : Int, (m : Int) = M := ⟨_, rfl⟩
          have HDv : Hid (Calls Tryz.prog 50 #[.int .u64 R, .int .u64 X, .int .u64 10000000000000000000] wr fun e w' => e = .returned (.tuple #[.int .u64 Q, .int .u64 M]) ∧ Below wr.heap.size wr w') := Lib.hid (by
            rw [hR.out, ← hX']
            refine hdv.mono ?_
            rintro e w' ⟨q', m', hq', hm', he, hb⟩
            rw [hq] at hq'
            rw [hm] at hm'
            subst hq' hm'
            exact ⟨by rw [he, hQ, hM], hb⟩)
          have HSt := Lib.hid hstep
          have HM := Lib.hid hM.symm
          have HTs : Hid (∀ w', Below wr.heap.size wr w' → Tw w.heap.size w (w'.setCell ⟨g, i, none⟩ (.int .u64 Q)) (.slice (some ⟨g, 0, none⟩) n c1) (.slice a2 k c2) (us.take i ++ (q :: qs)) ps) := Lib.hid (fun w' hb => by
            have := (hTq.out.below hb).set hlen i q hin
            rw [hset, hQ] at this
            exact this)
          have hi0 : (0 : Int) ≤ (i : Int) := by omega
          have hi1 : (i : Int) < (n : Int) := by omega
          have hj1 : ((i + 1 : Nat) : Int) - 1 = (i : Int) := by omega
          rw [hX'] at hcell
          rw [hj1]
          clear hdv hstep hQ hM hq hm hX' hgx hset hrow hfr htk hli hrl hD hTq hR hj1 hx hxw hlen
          go_wp2_with fail
          refine HDv.out.mono ?_
          rintro e w5 ⟨rfl, hb5⟩
          have hc5 : w5.cell? ⟨g, i, none⟩ = some (.int .u64 X) := (hb5.cell (p := ⟨g, i, none⟩) hgl).trans hcell
          have hf5 : w5.frozen? ⟨g, i, none⟩ = false := by
            have := hfri
            unfold World.frozen? at this ⊢
            rw [hb5.block g hgl]
            exact this
          have HT5 := Lib.hid (HTs.out w5 hb5)
          clear HDv HTs hb5 hcell hfri
          go_wp2_with fail
          go_roundw
          case rel => exact ⟨i, q :: qs, m, M, by omega, by go_num, rfl, HM, HSt, HT5⟩
          case measure => first | (simp [intOf]; done) | (simp [intOf]; omega)
    · have hun : us = [] := List.eq_nil_of_length_eq_zero (by omega)
      have hNp : Hid (N = pv ps) := Lib.hid (by have := hX.out.val; rw [hun] at this; simpa [wv] using this)
      have hlast : Hid (∃ r x, ps = r ++ [x] ∧ x ≠ 0) := Lib.hid (by
        rcases hX.out.last hun with h | h
        · have h1 := hNp.out; rw [h] at h1; have := HNpos.out; simp [pv] at h1; omega
        · exact h)
      have hprt := Lib.hid hX.out.prt
      have hkp : 0 < k := by
        obtain ⟨r, x, hr, _⟩ := hlast.out
        have := congrArg List.length hr
        rw [hk] at this; simp at this; omega
      have hki : ((k : Int) == 0) = false := by simp; omega
      obtain ⟨g2, rfl⟩ : ∃ g2, a2 = some ⟨g2, 0, none⟩ := by
        rcases ha2 with h | h
        · rw [h] at hk; simp at hk; omega
        · exact h
      have hrow2 := hT.out.o2
      have hcells : Hid (∀ i, i < k → wr.cell? ⟨g2, i, none⟩ = some (.int .u64 ((ps.getD i 0 : Nat) : Int)) ∧ g2 < wr.heap.size) := Lib.hid (fun i hi => by
        have h1 := ou_cell hrow2 i (by omega)
        rw [add_zero_off] at h1
        exact ⟨h1, World.block_lt_of_cell? wr _ h1⟩)
      have hbelT := Lib.hid hT.out.bel
      have hszT := hT.out.size
      have hn00 : n = 0 := by omega
      subst hn00
      have hbd0 : Hid (IsBd wr.heap.size wr.heap.size (tx2 ps k) (wr.alloc (.cells #[.pointer none, .slice none 0 0] 78))) := Lib.hid (by
        have : tx2 ps k = ⟨#[]⟩ := by unfold tx2; rw [if_pos (by omega)]
        rw [this]; exact bd_new wr _ (Nat.le_refl _))
      have hbl0 : Hid (Below wr.heap.size wr (wr.alloc (.cells #[.pointer none, .slice none 0 0] 78))) := Lib.hid ((Below.refl _ _).alloc (Nat.le_refl _) _)
      rw [hk] at hpl hc2 ⊢
      rw [hn] at hul hc1 ⊢
      clear hT hX hrow2 ha1 ha2 hk hn hun
      obtain ⟨W5, hW5⟩ : ∃ W5, wr.alloc (.cells #[.pointer none, .slice none 0 0] 78) = W5 := ⟨_, rfl⟩
      rw [hW5] at hbd0 hbl0
      obtain ⟨W4_, hW4⟩ : ∃ W, wr = W := ⟨_, rfl⟩
      rw [hW4] at hW5 hbd0 hbl0 hcells hszT hbelT ⊢
      clear hW4
      obtain ⟨b, hb⟩ : ∃ b, W4_.heap.size = b := ⟨_, rfl⟩
      rw [hb] at hbd0 hbl0 hcells hszT
      go_wp2_with fail
      clear hW5
      go_loopw [8] (fun iv wq => ∃ j : Nat, j ≤ k ∧ iv = .int .i64 ((j : Int) - 1) ∧ Hid (IsBd b b (tx2 ps j) wq) ∧ Hid (Below b W4_ wq)) (fun iv _ => (intOf iv + 1).toNat)
      case atStart => exact ⟨k, Nat.le_refl _, rfl, hbd0, hbl0⟩
      case round =>
        obtain ⟨j, hj, rfl, hbd, hbl⟩ := hrel
        clear hbd0 hbl0
        cases j with
        | zero =>
          have hstr := Lib.hid (str_any b b _ wr hbd.out (by have := hbl.out.size; omega))
          have htx : Hid (tx2 ps 0 = ⟨(Lib.decDigits N).toArray⟩) := Lib.hid (by unfold tx2; rw [if_neg (by have := Hk.out; omega), List.drop_zero, hNp.out])
          have HBw : Hid (Below w.heap.size w wr) := Lib.hid (hbelT.out.trans (hbl.out.mono hszT))
          have hszw : w.heap.size ≤ wr.heap.size := HBw.out.size
          clear hbd hbl
          go_wp2_with fail
          refine hstr.out.mono ?_
          rintro e w9 ⟨rfl, _, hb9⟩
          have HB9 := Lib.hid (HBw.out.trans (hb9.mono hszT))
          rw [htx.out]
          clear hb9 hstr
          go_wp2_with fail
          go_ret
          exact ⟨rfl, HB9.out⟩
        | succ i =>
          have hik : i < k := by omega
          obtain ⟨hc, hg2⟩ := hcells.out i hik
          have hcw : wr.cell? ⟨g2, i, none⟩ = some (.int .u64 ((ps.getD i 0 : Nat) : Int)) := (hbl.out.cell (p := ⟨g2, i, none⟩) hg2).trans hc
          obtain ⟨x, hx⟩ : ∃ x, ps.getD i 0 = x := ⟨_, rfl⟩
          rw [hx] at hcw
          have hxD : x < 10000000000000000000 := by
            rw [← hx, List.getD_eq_getElem?_getD, List.getElem?_eq_getElem (by have := Hk.out; omega)]; exact hprt.out _ (List.getElem_mem _)
          obtain ⟨X, hX⟩ : ∃ X : ByteArray, ⟨(Lib.decDigits x).toArray⟩ = X := ⟨_, rfl⟩
          have hXs : X.size = Lib.nDigits x := by rw [← hX]; show (Lib.decDigits x).toArray.size = _; rw [List.size_toArray, Lib.decDigits_length]
          have e19 : (10 : Nat) ^ (18 + 1) = 10000000000000000000 := by decide
          have hnd : Lib.nDigits x ≤ 19 := nDigits_le 18 x (by rw [e19]; exact hxD)
          clear e19
          obtain ⟨XI, hXI⟩ : ∃ XI : Int, (x : Int) = XI := ⟨_, rfl⟩
          have HFmt : Hid (Calls Tryz.prog 52 #[.int .u64 XI, .int .i64 10] wr fun e w' => e = .returned (.string X) ∧ Below wr.heap.size wr w') := Lib.hid (by
            have := fmt_any x (by omega) wr (HTab.out wr (hbelT.out.trans (hbl.out.mono hszT)))
            rw [hXI] at this
            refine this.mono ?_
            rintro e w' ⟨he, hb⟩
            exact ⟨by rw [he, hX], hb⟩)
          obtain ⟨T, hT⟩ : ∃ T, tx2 ps (i + 1) = T := ⟨_, rfl⟩
          have hTs : T.size ≤ 400000 := by
            rw [← hT]; unfold tx2
            split
            · show 0 ≤ 400000; omega
            · show (Lib.decDigits (pv (ps.drop (i + 1)))).toArray.size ≤ 400000
              rw [List.size_toArray]
              have h1 := dec_len (ps.drop (i + 1)) (fun p hp => hprt.out p (List.mem_of_mem_drop hp))
              rw [List.length_drop] at h1
              have := Hk.out
              omega
          rw [hT] at hbd
          rw [hXI] at hcw
          have hi0 : (0 : Int) ≤ (i : Int) := by omega
          have hi1 : (i : Int) < (k : Int) := by omega
          have hj1 : ((i + 1 : Nat) : Int) - 1 = (i : Int) := by omega
          rw [hj1]
          have hbw : b ≤ wr.heap.size := by have := hbl.out.size; omega
          by_cases hl : i + 1 = k
          · have hT0 : T = ⟨#[]⟩ := by rw [← hT]; unfold tx2; rw [if_pos (by have := Hk.out; omega)]
            subst hT0
            have hfin : Hid (tx2 ps i = ⟨#[]⟩ ++ X) := Lib.hid (by
              rw [tx2_last ps i (by have := Hk.out; omega), hx, hX]
              exact bytes_ext (by simp))
            clear hX hx hT hc
            go_wp2_with fail
            refine HFmt.out.mono ?_
            rintro e w6 ⟨rfl, hb6⟩
            have HBd6 := Lib.hid (bd_below hbd.out hb6)
            have HBl6 := Lib.hid (hbl.out.trans (hb6.mono hbw))
            have hbw6 : b ≤ w6.heap.size := by have := HBl6.out.size; omega
            clear hb6 hbd hbl HFmt hcw
            go_wp2_with fail
            refine (len_any b b ⟨#[]⟩ w6 HBd6.out).mono ?_
            rintro e w7 ⟨rfl, rfl⟩
            have e0 : (⟨#[]⟩ : ByteArray).size = 0 := rfl
            rw [e0]
            go_wp2_with fail
            refine (ws_any b b ⟨#[]⟩ X _ HBd6.out (by rw [e0]; omega) hbw6).mono ?_
            rintro e w8 ⟨rfl, hbd8, hb8⟩
            have HBd8 : Hid (IsBd b b (tx2 ps i) w8) := Lib.hid (by rw [hfin.out]; exact hbd8)
            have HBl8 := Lib.hid (HBl6.out.trans hb8)
            clear hbd8 hb8 HBd6 HBl6
            go_wp2_with fail
            go_roundw
            case rel => first | exact ⟨i, by omega, by go_num, HBd8, HBl8⟩ | ((repeat apply Exists.intro); exact ⟨⟨i, by omega, by go_num, HBd8, HBl8⟩, rfl⟩)
            case measure => first | (simp [intOf]; done) | (simp [intOf]; omega)
          · have hTp : 0 < T.size := by
              rw [← hT]; unfold tx2
              rw [if_neg (by have := Hk.out; omega)]
              show 0 < (Lib.decDigits (pv (ps.drop (i + 1)))).toArray.size
              rw [List.size_toArray, Lib.decDigits_length]
              exact Lib.nDigits_pos _
            obtain ⟨p, hp⟩ : ∃ p, 19 - Lib.nDigits x = p := ⟨_, rfl⟩
            obtain ⟨P, hP⟩ : ∃ P : ByteArray, ⟨(Lib.repeatL [48] p).toArray⟩ = P := ⟨_, rfl⟩
            have hPs : P.size = p := by rw [← hP]; show (Lib.repeatL [48] p).toArray.size = p; rw [repeat_48]; simp
            have hfin : Hid (tx2 ps i = T ++ P ++ X) := Lib.hid (by
              rw [tx2_step ps i (by have := Hk.out; omega) hprt.out hlast.out, hT, hx, hX, hp, ← hP, repeat_48])
            have eP : (19 : Int) - (X.size : Int) = (p : Int) := by omega
            have hTpi : (0 : Int) < (T.size : Int) := by omega
            have HRep : Hid (∀ wx, Calls Tryz.prog 55 #[.string ⟨#[48]⟩, .int .i64 (p : Int)] wx fun e w' => e = .returned (.string P) ∧ Below wx.heap.size wx w') := Lib.hid (fun wx => by
              have h1 : (⟨#[48]⟩ : ByteArray).size = 1 := rfl
              have := Tryz.strings_Repeat ⟨#[48]⟩ p wx (by omega) (by rw [h1]; omega)
              refine this.mono ?_
              rintro e w' ⟨he, hb⟩
              exact ⟨by rw [he, ← hP], hb⟩)
            have hXs20 : X.size ≤ 19 := by omega
            have hPs20 : P.size ≤ 19 := by omega
            clear hX hx hT hc hP hp hPs hXs
            go_wp2_with fail
            refine HFmt.out.mono ?_
            rintro e w6 ⟨rfl, hb6⟩
            have HBd6 := Lib.hid (bd_below hbd.out hb6)
            have HBl6 := Lib.hid (hbl.out.trans (hb6.mono hbw))
            have hbw6 : b ≤ w6.heap.size := by have := HBl6.out.size; omega
            clear hb6 hbd hbl HFmt hcw
            go_wp2_with fail
            refine (len_any b b T w6 HBd6.out).mono ?_
            rintro e w7 ⟨rfl, rfl⟩
            go_wp2_with fail
            refine (HRep.out _).mono ?_
            rintro e w8 ⟨rfl, hb8⟩
            have HBd8 := Lib.hid (bd_below HBd6.out hb8)
            have HBl8 := Lib.hid (HBl6.out.trans (hb8.mono hbw6))
            have hbw8 : b ≤ w8.heap.size := by have := HBl8.out.size; omega
            clear hb8 HBd6 HBl6 HRep
            go_wp2_with fail
            refine (ws_any b b T P w8 HBd8.out (by omega) hbw8).mono ?_
            rintro e w9 ⟨rfl, hbd9, hb9⟩
            have HBd9 := Lib.hid hbd9
            have HBl9 := Lib.hid (HBl8.out.trans hb9)
            have hbw9 : b ≤ w9.heap.size := by have := HBl9.out.size; omega
            have hTP : (T ++ P).size = T.size + P.size := by simp
            clear hbd9 hb9 HBd8 HBl8
            go_wp2_with fail
            refine (ws_any b b (T ++ P) X w9 HBd9.out (by rw [hTP]; omega) hbw9).mono ?_
            rintro e w10 ⟨rfl, hbd10, hb10⟩
            have HBd10 : Hid (IsBd b b (tx2 ps i) w10) := Lib.hid (by rw [hfin.out]; exact hbd10)
            have HBl10 := Lib.hid (HBl9.out.trans hb10)
            clear hbd10 hb10 HBd9 HBl9
            go_wp2_with fail
            go_roundw
            case rel => first | exact ⟨i, by omega, by go_num, HBd10, HBl10⟩ | ((repeat apply Exists.intro); exact ⟨⟨i, by omega, by go_num, HBd10, HBl10⟩, rfl⟩)
            case measure => first | (simp [intOf]; done) | (simp [intOf]; omega)
theorem text_any (N : Nat) (v : Value) (w : World) (h : IsN w v N) (htab : Tab w) : Calls Tryz.prog 28 #[v] w (TextIs N w) := by
  obtain ⟨a, c, us, rfl, hc, hu, hw, hN, hl, hlast, hnil⟩ := h
  by_cases hne : us = []
  · obtain ⟨rfl, rfl⟩ := hnil hne
    subst hne
    rw [← hN]
    exact text_zero w
  · obtain ⟨ad, rfl⟩ : ∃ ad, a = some ad := by
      obtain ⟨ad, ha, _⟩ := hu 0 (List.length_pos_iff.2 hne)
      exact ⟨ad, ha⟩
    rw [← hN]
    exact text_pos ad c us w htab hu hw hl hne (hlast hne)
end Go.Proofs.YtckglpkafhmehaaGreatDoor
namespace Go.Proofs.YtckglpkafhmehaaGreatDoor
open Go.RowKit
set_option linter.unusedVariables false
theorem isN_zero_iff {w : World} {a : Option Addr} {n c N : Nat} (h : IsN w (.agg #[.slice a n c]) N) : n = 0 ↔ N = 0 := by
  obtain ⟨a', c', us, he, _, _, _, hv, _, hl, _⟩ := h
  have hn : n = us.length := by
    have h1 := congrArg (fun v => match v with | Value.agg xs => xs[0]? | _ => none) he
    simp at h1
    exact h1.2.1
  constructor
  · intro h0
    have : us = [] := List.eq_nil_of_length_eq_zero (by omega)
    rw [← hv, this]; rfl
  · intro h0
    by_cases hne : us = []
    · rw [hn, hne]; rfl
    · have := wv_pos hne (hl hne); omega
theorem isN_form {w : World} {v : Value} {N : Nat} (h : IsN w v N) : ∃ a n c, v = .agg #[.slice a n c] := by
  obtain ⟨a, c, us, rfl, _⟩ := h
  exact ⟨_, _, _, rfl⟩
def ZeroIs (N : Nat) (w : World) (e : Ending) (w' : World) : Prop := (N = 0 ∧ e = .returned (.bool true) ∨ N ≠ 0 ∧ e = .returned (.bool false)) ∧ Below w.heap.size w w'
set_option maxRecDepth 100000 in
set_option maxHeartbeats 1000000 in
theorem zero_any (N : Nat) (v : Value) (w : World) (h : IsN w v N) : Calls Tryz.prog 18 #[v] w (ZeroIs N w) := by
  obtain ⟨a, n, c, rfl⟩ := isN_form h
  have hz := isN_zero_iff h
  clear h
  by_cases h0 : n = 0
  · subst h0
    obtain ⟨W1, hW1⟩ : ∃ W1, w.alloc (.cells #[.slice a 0 c] 31) = W1 := ⟨_, rfl⟩
    have hk : Blk W1 w.heap.size 31 #[.slice a 0 c] := by rw [← hW1]; exact Blk.new w _ _
    have HB : Hid (Below w.heap.size w W1) := Lib.hid (by rw [← hW1]; exact (Below.refl _ _).alloc (Nat.le_refl _) _)
    have hk0 := hk.cell 0
    simp only [List.getElem?_toArray, List.getElem?_cons_zero] at hk0
    have HR : Hid (ZeroIs N w (.returned (.bool true)) W1) := Lib.hid ⟨.inl ⟨hz.1 rfl, rfl⟩, HB.out⟩
    clear hz hk
    go_enter Tryz.func18, Tryz.ntmps18
    go_wp2_with fail
    go_ret
    exact HR.out
  · have hi : ((n : Int) == 0) = false := by simp; omega
    obtain ⟨W1, hW1⟩ : ∃ W1, w.alloc (.cells #[.slice a n c] 31) = W1 := ⟨_, rfl⟩
    have hk : Blk W1 w.heap.size 31 #[.slice a n c] := by rw [← hW1]; exact Blk.new w _ _
    have HB : Hid (Below w.heap.size w W1) := Lib.hid (by rw [← hW1]; exact (Below.refl _ _).alloc (Nat.le_refl _) _)
    have hk0 := hk.cell 0
    simp only [List.getElem?_toArray, List.getElem?_cons_zero] at hk0
    have HR : Hid (ZeroIs N w (.returned (.bool false)) W1) := Lib.hid ⟨.inr ⟨fun h => h0 (hz.2 h), rfl⟩, HB.out⟩
    clear hz hk h0
    go_enter Tryz.func18, Tryz.ntmps18
    go_wp2_with fail
    go_ret
    exact HR.out
def GaveN (N : Nat) (w : World) (e : Ending) (w' : World) : Prop := ∃ v, e = .returned v ∧ IsN w' v N ∧ Below w.heap.size w w'
set_option maxRecDepth 100000 in
set_option maxHeartbeats 1000000 in
theorem of_any (u : Nat) (hu : u < 18446744073709551616) (w : World) : Calls Tryz.prog 35 #[.int .u64 (u : Int)] w (GaveN u w) := by
  obtain ⟨W1, hW1⟩ : ∃ W1, w.alloc (.cells #[.slice none 0 0] 31) = W1 := ⟨_, rfl⟩
  have hk : Blk W1 w.heap.size 31 #[.slice none 0 0] := by rw [← hW1]; exact Blk.new w _ _
  have hb : Below w.heap.size w W1 := by rw [← hW1]; exact (Below.refl _ _).alloc (Nat.le_refl _) _
  obtain ⟨U, hU⟩ : ∃ U : Int, (u : Int) = U := ⟨_, rfl⟩
  obtain ⟨W2, hW2⟩ : ∃ W2, W1.alloc (.cells #[.int .u64 U] 60) = W2 := ⟨_, rfl⟩
  have hb2 : Below W1.heap.size W1 W2 := by rw [← hW2]; exact (Below.refl _ _).alloc (Nat.le_refl _) _
  have hc2 : W2.cell? ⟨W1.heap.size, 0, none⟩ = some (.int .u64 (u : Int)) := by rw [← hW2, hU]; exact (Blk.new W1 _ _).cell 0
  have hsz1 : W1.heap.size = w.heap.size + 1 := by rw [← hW1]; simp
  obtain ⟨us, hus⟩ : ∃ us, [u] = us := ⟨_, rfl⟩
  have hul : us.length = 1 := by rw [← hus]; rfl
  have hur : UR W2 (some ⟨W1.heap.size, 0, none⟩) us := fun i hi => by
    have hi0 : i = 0 := by omega
    subst hi0
    refine ⟨_, rfl, by rw [← hW2]; simp, ?_⟩
    rw [← hus]
    exact hc2
  have hwrd : Wrd us := fun x hx => by rw [← hus] at hx; simp at hx; omega
  have hval : wv us = u := by rw [← hus]; simp [wv]
  have HTr := Lib.hid (trim_any (some ⟨W1.heap.size, 0, none⟩) 1 us W2 hur (by omega) (by omega))
  obtain ⟨m, hm⟩ : ∃ m, tlen us us.length = m := ⟨_, rfl⟩
  rw [hul] at HTr
  have hk2 : Blk W2 w.heap.size 31 #[.slice none 0 0] := hk.below hb2 (by omega)
  have HN : Hid (∀ w' x, Below W2.heap.size W2 w' → IsN (w'.setCell ⟨w.heap.size, 0, none⟩ x) (.agg #[trimV (some ⟨W1.heap.size, 0, none⟩) 1 m]) u) := Lib.hid (fun w' x hb => by
    have h1 := isN_trim ((hur.below hb (Nat.le_refl _)).far (B := w.heap.size + 1) (b := w.heap.size) (i := 0) (by omega) (.inr ⟨_, rfl, by omega⟩) x) hwrd (c := 1) (by omega) (by omega)
    rw [hval, hm] at h1
    exact h1)
  rw [hsz1] at HTr HN
  have HB2 := Lib.hid (hb.trans (hb2.mono (by omega)))
  have HK2 := Lib.hid hk2
  have hsz2 : w.heap.size < W2.heap.size := hk2.lt
  rw [hU]
  clear hk hb hb2 hc2 hur hwrd hk2 hU hu hus hval
  go_enter Tryz.func35, Tryz.ntmps35
  go_wp2_with fail
  refine HTr.out.mono ?_
  rintro e w5 ⟨rfl, hb5⟩
  have hk5 : Blk w5 w.heap.size 31 #[.slice none 0 0] := HK2.out.below hb5 hsz2
  have hk50 := hk5.cell 0; have hk5f := hk5.frozen 0
  simp only [List.getElem?_toArray, List.getElem?_cons_zero] at hk50
  rw [hm]
  clear hm
  obtain ⟨tv, htv⟩ : ∃ tv, trimV (some ⟨w.heap.size + 1, 0, none⟩) 1 m = tv := ⟨_, rfl⟩
  have htvs : ∃ x y z, tv = .slice x y z := by
    rw [← htv]; unfold trimV; split
    · exact ⟨_, _, _, rfl⟩
    · exact ⟨_, _, _, rfl⟩
  obtain ⟨tx, ty, tz, rfl⟩ := htvs
  have HN5 := Lib.hid (fun x => HN.out w5 x hb5)
  rw [htv] at HN5 ⊢
  have HB5 := Lib.hid (HB2.out.trans (hb5.mono (by omega)))
  have HK5 := Lib.hid hk5
  clear hb5 hk5 htv HN HTr
  go_wp2_with fail
  refine bodyPost_ret (res_nat rfl _ _ w.heap.size (.slice tx ty tz) rfl (HK5.out.set_ 0 _)) rfl ?_
  exact ⟨_, rfl, HN5.out _, HB5.out.setCell (p := ⟨w.heap.size, 0, none⟩) (Nat.le_refl _) _⟩
end Go.Proofs.YtckglpkafhmehaaGreatDoor
