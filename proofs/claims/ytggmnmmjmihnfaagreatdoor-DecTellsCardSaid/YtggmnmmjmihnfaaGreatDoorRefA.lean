/-
  Law 1: the document's own numbers: digits of base 10,000, the lowest first; rows that hold them, and rows of the call's own.
  Law 1: the math of the document's own sums, differences, products, quotients of digits.
  Law 1: the math of the document's own comparison and division.
  Law 1: the document's own trim.
  Law 1: the document's own sum.
  Law 1: the document's own difference.
  Law 1: which of two of the document's own numbers is greater.
  Law 1: the document's own product.
  Law 1: the document's own sums, differences and products, of numbers; a digit as a row; a digit ahead of a row.
  Law 1: the document's own division.
-/
import Derived.Test.YtggmnmmjmihnfaaGreatDoorNParse
import Derived.Test.YtggmnmmjmihnfaaGreatDoorNCmp
import Derived.StillTailTactics
import Derived.Deep.QuietTactic
import Derived.BigQuiet
import Derived.Test.YtggmnmmjmihnfaaGreatDoorNBits
import Derived.Laws.OwnMore
namespace Go.Proofs.YtggmnmmjmihnfaaGreatDoor
open Go.RowKit
set_option linter.unusedVariables false
/-- The number that digits are, the lowest first. -/
def dvl : List Nat → Nat
  | [] => 0
  | x :: r => x + 10000 * dvl r
def Dg (ds : List Nat) : Prop := ∀ d ∈ ds, d < 10000
theorem dvl_append (a b : List Nat) : dvl (a ++ b) = dvl a + 10000 ^ a.length * dvl b := by
  induction a with
  | nil => simp [dvl]
  | cons x r ih => simp only [List.cons_append, dvl, ih, List.length_cons, Nat.pow_succ]; rw [Nat.mul_add, ← Nat.mul_assoc, Nat.mul_comm (10000 ^ r.length)]; omega
theorem dvl_lt : ∀ {ds : List Nat}, Dg ds → dvl ds < 10000 ^ ds.length := by
  intro ds; induction ds with
  | nil => intro _; simp [dvl]
  | cons x r ih =>
    intro h
    have h1 := ih (fun d hd => h d (by simp [hd]))
    have h2 := h x (by simp)
    simp only [dvl, List.length_cons, Nat.pow_succ]
    generalize 10000 ^ r.length = p at *
    omega
theorem Dg.take {ds : List Nat} (h : Dg ds) (n : Nat) : Dg (ds.take n) := fun d hd => h d (List.mem_of_mem_take hd)
theorem Dg.drop {ds : List Nat} (h : Dg ds) (n : Nat) : Dg (ds.drop n) := fun d hd => h d (List.mem_of_mem_drop hd)
theorem Dg.snoc {ds : List Nat} (h : Dg ds) {d : Nat} (hd : d < 10000) : Dg (ds ++ [d]) := fun x hx => by
  rcases List.mem_append.1 hx with hx | hx
  · exact h x hx
  · simp at hx; omega
theorem Dg.getD {ds : List Nat} (h : Dg ds) (i : Nat) : ds.getD i 0 < 10000 := by
  rw [List.getD_eq_getElem?_getD]
  by_cases hi : i < ds.length
  · rw [List.getElem?_eq_getElem hi]; exact h _ (List.getElem_mem _)
  · rw [List.getElem?_eq_none (by omega)]; show 0 < 10000; omega
/-- Digits with no noughts behind them. -/
def Trm (ds : List Nat) : Prop := ds ≠ [] → ds.getD (ds.length - 1) 0 ≠ 0
theorem trm_nil : Trm [] := fun h => absurd rfl h
theorem trm_take (ds : List Nat) {n : Nat} (hn : n ≤ ds.length) : Trm (ds.take (tlen ds n)) := by
  intro h
  have hle := tlen_le ds n
  have hl : (ds.take (tlen ds n)).length = tlen ds n := by rw [List.length_take]; omega
  have h0 : 0 < tlen ds n := by
    rcases Nat.eq_zero_or_pos (tlen ds n) with h1 | h1
    · rw [h1] at h; simp at h
    · exact h1
  rw [hl, List.getD_eq_getElem?_getD, List.getElem?_take, if_pos (by omega), ← List.getD_eq_getElem?_getD]
  exact tlen_last ds n h0
theorem tlen_dvl (ds : List Nat) : ∀ n, n ≤ ds.length → dvl (ds.take (tlen ds n)) = dvl (ds.take n) := by
  intro n; induction n with
  | zero => intro _; rfl
  | succ n ih =>
    intro h
    unfold tlen
    split
    · rename_i h0
      rw [ih (by omega), take_succ_getD ds n (by omega), dvl_append, h0]
      simp [dvl]
    · rfl
theorem trm_ge {ds : List Nat} (h : Trm ds) (hne : ds ≠ []) : 10000 ^ (ds.length - 1) ≤ dvl ds := by
  have h0 : 0 < ds.length := List.length_pos_iff.2 hne
  have e : ds = ds.take (ds.length - 1) ++ [ds.getD (ds.length - 1) 0] := by
    have := take_succ_getD ds (ds.length - 1) (by omega)
    rwa [show ds.length - 1 + 1 = ds.length from by omega, List.take_length] at this
  have hl : (ds.take (ds.length - 1)).length = ds.length - 1 := by rw [List.length_take]; omega
  have hd := h hne
  have h1 : dvl ds = dvl (ds.take (ds.length - 1)) + 10000 ^ (ds.length - 1) * ds.getD (ds.length - 1) 0 := by
    have := congrArg dvl e
    rw [dvl_append, hl] at this
    simpa [dvl] using this
  rw [h1]
  have : 10000 ^ (ds.length - 1) * 1 ≤ 10000 ^ (ds.length - 1) * ds.getD (ds.length - 1) 0 := Nat.mul_le_mul_left _ (by omega)
  omega
/-- A number of at most k digits is as long as that, if no noughts stand behind it. -/
theorem trm_len {ds : List Nat} (h : Trm ds) {k : Nat} (hk : dvl ds < 10000 ^ k) : ds.length ≤ k := by
  by_cases hne : ds = []
  · subst hne; simp
  · have h1 := trm_ge h hne
    have h2 : 10000 ^ (ds.length - 1) < 10000 ^ k := Nat.lt_of_le_of_lt h1 hk
    have := (Nat.pow_lt_pow_iff_right (a := 10000) (by omega)).1 h2
    omega
theorem dvl_eq : ∀ {ds es : List Nat}, Dg ds → Dg es → ds.length = es.length → dvl ds = dvl es → ds = es := by
  intro ds; induction ds with
  | nil => intro es _ _ hl _; exact (List.eq_nil_of_length_eq_zero hl.symm).symm
  | cons x r ih =>
    intro es h1 h2 hl he
    cases es with
    | nil => simp at hl
    | cons y s =>
      simp only [dvl] at he
      have hx := h1 x (by simp); have hy := h2 y (by simp)
      have e1 : x = y := by omega
      have e2 : dvl r = dvl s := by omega
      rw [e1, ih (fun d hd => h1 d (by simp [hd])) (fun d hd => h2 d (by simp [hd])) (by simpa using hl) e2]
theorem trm_eq {ds es : List Nat} (h1 : Dg ds) (h2 : Dg es) (t1 : Trm ds) (t2 : Trm es) (he : dvl ds = dvl es) : ds = es := by
  have hl1 := trm_len t1 (k := es.length) (by rw [he]; exact dvl_lt h2)
  have hl2 := trm_len t2 (k := ds.length) (by rw [← he]; exact dvl_lt h1)
  exact dvl_eq h1 h2 (by omega) he
/-- The row at a holds the digits ds. -/
def DR (w : World) (a : Option Addr) (ds : List Nat) : Prop := ∀ i, i < ds.length → ∃ ad, a = some ad ∧ ad.block < w.heap.size ∧ w.cell? (ad.add i) = some (.int .i64 ((ds.getD i 0 : Nat) : Int))
theorem DR.below {w w' : World} {a : Option Addr} {ds : List Nat} {B : Nat} (h : DR w a ds) (hb : Below B w w') (hB : w.heap.size ≤ B) : DR w' a ds := by
  intro i hi
  obtain ⟨ad, rfl, hlt, hc⟩ := h i hi
  exact ⟨ad, rfl, Nat.lt_of_lt_of_le hlt hb.size, (hb.cell (by rw [add_block]; omega)).trans hc⟩
theorem DR.take {w : World} {a : Option Addr} {ds : List Nat} (h : DR w a ds) (m : Nat) : DR w a (ds.take m) := by
  intro i hi
  rw [List.length_take] at hi
  obtain ⟨ad, ha, hlt, hc⟩ := h i (by omega)
  refine ⟨ad, ha, hlt, ?_⟩
  rw [hc, List.getD_eq_getElem?_getD, List.getD_eq_getElem?_getD, List.getElem?_take, if_pos (by omega)]
/-- The value v is a row of the digits ds. -/
def RD (w : World) (v : Value) (ds : List Nat) : Prop := ∃ a c, v = .slice a ds.length c ∧ ds.length ≤ c ∧ DR w a ds ∧ (a = none → c = 0)
theorem RD.below {w w' : World} {v : Value} {ds : List Nat} {B : Nat} (h : RD w v ds) (hb : Below B w w') (hB : w.heap.size ≤ B) : RD w' v ds := by
  obtain ⟨a, c, h1, h2, h3, h4⟩ := h
  exact ⟨a, c, h1, h2, h3.below hb hB, h4⟩
theorem RD.drew {w : World} {v : Value} {ds : List Nat} (h : RD w v ds) : RD w.drew v ds := h
theorem rd_nil (w : World) : RD w (.slice none 0 0) [] := ⟨none, 0, rfl, Nat.le_refl _, fun i hi => by simp at hi, fun _ => rfl⟩
/-- The value v is the number N, as the document writes it. -/
def RN (w : World) (v : Value) (N : Nat) : Prop := ∃ ds, RD w v ds ∧ Dg ds ∧ Trm ds ∧ dvl ds = N
theorem RN.below {w w' : World} {v : Value} {N B : Nat} (h : RN w v N) (hb : Below B w w') (hB : w.heap.size ≤ B) : RN w' v N := by
  obtain ⟨ds, h1, h2⟩ := h
  exact ⟨ds, h1.below hb hB, h2⟩
theorem RN.drew {w : World} {v : Value} {N : Nat} (h : RN w v N) : RN w.drew v N := h
def dgi (d : Nat) : Value := .int .i64 (d : Int)
theorem Tryz.infoI : (Tryz.prog.info? 3).map (fun i => (i.zero, i.size, i.bytes)) = some (some (.int .i64 0), 1, 8) := by kernel_rfl
theorem dgi_one (ds : List Nat) : ∀ v ∈ ds.map dgi, v.oneCell' = true := by
  intro v hv
  obtain ⟨u, _, rfl⟩ := List.mem_map.1 hv
  rfl
/-- A row of the call's own: digits. -/
def OD (B : Nat) (w : World) (v : Value) (ds : List Nat) : Prop := w.ownsRow B 3 1 v ds.length (ds.map dgi)
theorem od_form {B : Nat} {w : World} {v : Value} {ds : List Nat} (h : OD B w v ds) : ∃ a c, v = .slice a ds.length c ∧ ds.length ≤ c ∧ (ds = [] ∧ a = none ∧ c = 0 ∨ ∃ g, a = some ⟨g, 0, none⟩) := by
  rcases h.2 with ⟨rfl, h0⟩ | ⟨g, cap, cur, rfl, _, _, hnc, _⟩
  · exact ⟨none, 0, by rw [h0], by omega, .inl ⟨List.eq_nil_of_length_eq_zero h0, rfl, rfl⟩⟩
  · exact ⟨_, _, rfl, hnc, .inr ⟨g, rfl⟩⟩
theorem od_cell {B : Nat} {w : World} {g n c : Nat} {ds : List Nat} (h : w.ownsRow B 3 1 (.slice (some ⟨g, 0, none⟩) n c) n (ds.map dgi)) (i : Nat) (hi : i < ds.length) :
    w.cell? ⟨g, i, none⟩ = some (.int .i64 ((ds.getD i 0 : Nat) : Int)) := by
  rcases h.2 with ⟨hv, _⟩ | ⟨g', cap', cur, hv, hbg, hg, hnc, _, hsz, htk⟩
  · cases hv
  · cases hv
    have hl : ds.length = n := by have := h.1; rw [List.length_map] at this; omega
    have hu : (ds.map dgi)[i]? = some (.int .i64 ((ds.getD i 0 : Nat) : Int)) := by rw [List.getElem?_map, List.getElem?_eq_getElem hi, List.getD_eq_getElem?_getD, List.getElem?_eq_getElem hi]; rfl
    rw [← htk, List.getElem?_take, if_pos (by omega)] at hu
    rw [cell_of_row w g i cur 3 (0, 0) hg, ← Array.getElem?_toList]
    exact hu
theorem add_zero_i (g k : Nat) : (⟨g, 0, none⟩ : Addr).add k = ⟨g, k, none⟩ := by cases k with
  | zero => rfl
  | succ k => simp [Addr.add]
theorem od_rd {B : Nat} {w : World} {v : Value} {ds : List Nat} (h : OD B w v ds) : RD w v ds := by
  obtain ⟨a, c, rfl, hc, ha⟩ := od_form h
  refine ⟨a, c, rfl, hc, fun i hi => ?_, fun hn => ?_⟩
  rotate_left
  · rcases ha with ⟨_, _, h⟩ | ⟨g, rfl⟩
    · exact h
    · cases hn
  rcases ha with ⟨rfl, _⟩ | ⟨g, rfl⟩
  · simp at hi
  · have := od_cell h i hi
    exact ⟨_, rfl, show g < w.heap.size from World.block_lt_of_cell? w ⟨g, i, none⟩ this, by rw [add_zero_i]; exact this⟩
/-- A digit of a row is written. -/
theorem od_set {B : Nat} {w : World} {g n c : Nat} {ds : List Nat} (h : w.ownsRow B 3 1 (.slice (some ⟨g, 0, none⟩) n c) n (ds.map dgi)) (i x : Nat) (hi : i < n) :
    (w.setCell ⟨g, i, none⟩ (.int .i64 (x : Int))).ownsRow B 3 1 (.slice (some ⟨g, 0, none⟩) n c) n ((ds.set i x).map dgi) := by
  rcases h.2 with ⟨hv, _⟩ | ⟨g', cap', cur, hv, hbg, hg, hnc, hm, hsz, htk⟩
  · cases hv
  · cases hv
    refine ⟨by rw [List.length_map, List.length_set]; have := h.1; rwa [List.length_map] at this, .inr ⟨g, c, cur.setIfInBounds i (.int .i64 (x : Int)), rfl, hbg, ?_, hnc, hm, by rw [Array.size_setIfInBounds]; exact hsz, ?_⟩⟩
    · simp [World.setCell, Array.getElem?_modify, hg]
    · rw [Array.toList_setIfInBounds, List.take_set, htk, List.map_set]
      rfl
theorem od_block {B : Nat} {w : World} {g n c : Nat} {ds : List Nat} (h : w.ownsRow B 3 1 (.slice (some ⟨g, 0, none⟩) n c) n (ds.map dgi)) : B ≤ g ∧ g < w.heap.size ∧ ∀ i, i < n → w.frozen? ⟨g, i, none⟩ = false := by
  rcases h.2 with ⟨hv, _⟩ | ⟨g', cap', cur, hv, hbg, hg, _⟩
  · cases hv
  · cases hv
    exact ⟨hbg, (Array.getElem?_eq_some_iff.1 hg).1, fun i _ => Blk.frozen (cs := cur) hg i⟩
theorem od_nil (B : Nat) (w : World) : OD B w (.slice none 0 0) [] := ⟨rfl, .inl ⟨rfl, rfl⟩⟩
/-- A digit more. -/
theorem push_d {ops : Array Oper} {rest : List Oper} {o : Oper} {a : Act} {Q : Exit → Act → World → Prop} (hgd : o.guard = none) (s x : Operand) (st : TypeId) (hst : Tryz.prog.underlying st = some (.slice 3)) 
    (ho : o.op = .call { callee := .builtin .append, args := #[s, x], argTypes := #[st, st] }) (B : Nat) (W : World) (v : Value) (ds : List Nat) (u : Nat)
    (hs : a.eval s = v) (hown : OD B W v ds) (hB : B ≤ W.heap.size) (g : Nat) (hgW : W.heap.size = g) (hx : a.eval x = .slice (some ⟨g, 0, none⟩) 1 1) (hlen : ds.length ≤ 1000000)
    (h : ∀ v' W', OD B W' v' (ds ++ [u]) → (W.alloc (.cells #[.int .i64 (u : Int)] 3)).grownBy W' v.ownBlock → Below B W W' → wpList Tryz.prog ops Q rest (a.put o.dst v') W') :
    wpList Tryz.prog ops Q (o :: rest) a (W.alloc (.cells #[.int .i64 (u : Int)] 3)) := by
  obtain ⟨i0, hi, hz0, hz1, hz2⟩ := info_parts Tryz.infoI
  subst hgW
  have hl := hown.lt
  have hB' : B ≤ (W.alloc (.cells #[.int .i64 (u : Int)] 3)).heap.size := by simp; omega
  refine wpList_append_own _ hgd s x st ho B 3 i0 (.int .i64 0) 1 8 hst hi hz0 hz1 hz2 rfl (by decide) v ds.length _ hs (hown.alloc _) ⟨W.heap.size, 0, none⟩ 1 1 [.int .i64 (u : Int)] hx rfl ?_ ?_ ?_ ?_ hB' ?_
  · intro j y hj
    have hj0 : j = 0 := by have := (List.getElem?_eq_some_iff.1 hj).1; simp at this; omega
    subst hj0
    have e : (⟨W.heap.size, 0, none⟩ : Addr).add 0 = ⟨W.heap.size, 0, none⟩ := rfl
    rw [e, (Blk.new W 3 #[.int .i64 (u : Int)]).cell 0]
    simpa using hj
  · intro y hy; simp at hy; subst hy; rfl
  · unfold maxLen; omega
  · omega
  · intro v' W' hown' hg _
    refine h v' W' ?_ hg (((Below.refl B W).alloc hB _).grown hg hB' (fun k hk => (hl k hk).1))
    unfold OD
    rw [List.length_append, List.map_append]
    exact hown'
end Go.Proofs.YtggmnmmjmihnfaaGreatDoor
namespace Go.Proofs.YtggmnmmjmihnfaaGreatDoor
open Go.RowKit
set_option linter.unusedVariables false
theorem getD_big {ds : List Nat} {i : Nat} (h : ds.length ≤ i) : ds.getD i 0 = 0 := by
  rw [List.getD_eq_getElem?_getD, List.getElem?_eq_none h]; rfl
theorem dvl_take_succ (ds : List Nat) (i : Nat) : dvl (ds.take (i + 1)) = dvl (ds.take i) + 10000 ^ i * ds.getD i 0 := by
  by_cases hi : i < ds.length
  · rw [take_succ_getD ds i hi, dvl_append, List.length_take, Nat.min_eq_left (by omega)]
    simp [dvl]
  · rw [List.take_of_length_le (by omega), List.take_of_length_le (by omega), getD_big (by omega), Nat.mul_zero, Nat.add_zero]
theorem dvl_snoc {os : List Nat} {i : Nat} (h : os.length = i) (x : Nat) : dvl (os ++ [x]) = dvl os + 10000 ^ i * x := by
  rw [dvl_append, h]; simp [dvl]
/-- What the loop of a sum keeps. -/
structure Sm (ds es : List Nat) (i : Nat) (os : List Nat) (c : Nat) : Prop where
  len : os.length = i
  dg : Dg os
  c1 : c ≤ 1
  eq : dvl os + 10000 ^ i * c = dvl (ds.take i) + dvl (es.take i)
theorem sm_zero (ds es : List Nat) : Sm ds es 0 [] 0 := ⟨rfl, fun d h => by simp at h, by omega, by simp [dvl]⟩
theorem sm_step {ds es : List Nat} {i : Nat} {os : List Nat} {c : Nat} (h : Sm ds es i os c) (hd : Dg ds) (he : Dg es) :
    Sm ds es (i + 1) (os ++ [(c + ds.getD i 0 + es.getD i 0) % 10000]) ((c + ds.getD i 0 + es.getD i 0) / 10000) := by
  have h1 := hd.getD i; have h2 := he.getD i; have h3 := h.c1
  refine ⟨by rw [List.length_append, h.len]; rfl, h.dg.snoc (Nat.mod_lt _ (by omega)), by omega, ?_⟩
  rw [dvl_snoc h.len, dvl_take_succ, dvl_take_succ]
  have h4 := h.eq
  have hdm := Nat.div_add_mod (c + ds.getD i 0 + es.getD i 0) 10000
  generalize (c + ds.getD i 0 + es.getD i 0) % 10000 = lo at *
  generalize (c + ds.getD i 0 + es.getD i 0) / 10000 = hi at *
  rw [Nat.pow_succ]
  generalize 10000 ^ i = p at *
  have e1 : p * 10000 * hi = p * (10000 * hi) := Nat.mul_assoc _ _ _
  have e2 : p * (10000 * hi) + p * lo = p * c + p * ds.getD i 0 + p * es.getD i 0 := by rw [← Nat.mul_add, hdm, Nat.mul_add, Nat.mul_add]
  omega
theorem sm_done {ds es : List Nat} {i : Nat} {os : List Nat} (h : Sm ds es i os 0) (h1 : ds.length ≤ i) (h2 : es.length ≤ i) : dvl os = dvl ds + dvl es := by
  have := h.eq
  rw [List.take_of_length_le h1, List.take_of_length_le h2] at this
  omega
/-- What the loop of a difference keeps. -/
structure Sb1 (ds es : List Nat) (i : Nat) (os : List Nat) (t : Nat) : Prop where
  len : os.length = i
  dg : Dg os
  t1 : t ≤ 1
  eq : dvl os + dvl (es.take i) = dvl (ds.take i) + 10000 ^ i * t
theorem sb1_zero (ds es : List Nat) : Sb1 ds es 0 [] 0 := ⟨rfl, fun d h => by simp at h, by omega, by simp [dvl]⟩
theorem sb1_step {ds es : List Nat} {i : Nat} {os : List Nat} {t x t' : Nat} (h : Sb1 ds es i os t) (hx : x < 10000) (ht : t' ≤ 1) (he : x + t + es.getD i 0 = ds.getD i 0 + 10000 * t') : Sb1 ds es (i + 1) (os ++ [x]) t' := by
  refine ⟨by rw [List.length_append, h.len]; rfl, h.dg.snoc hx, ht, ?_⟩
  rw [dvl_snoc h.len, dvl_take_succ, dvl_take_succ]
  have h4 := h.eq
  rw [Nat.pow_succ]
  generalize 10000 ^ i = p at *
  have e1 : p * 10000 * t' = p * (10000 * t') := Nat.mul_assoc _ _ _
  have e2 : p * x + p * t + p * es.getD i 0 = p * ds.getD i 0 + p * (10000 * t') := by rw [← Nat.mul_add, ← Nat.mul_add, he, Nat.mul_add]
  omega
theorem sb1_done {ds es : List Nat} {os : List Nat} {t : Nat} (h : Sb1 ds es ds.length os t) (hl : es.length ≤ ds.length) (hle : dvl es ≤ dvl ds) : dvl os = dvl ds - dvl es := by
  have h1 := h.eq
  rw [List.take_length, List.take_of_length_le hl] at h1
  have h2 := dvl_lt h.dg
  rw [h.len] at h2
  have h3 := h.t1
  generalize 10000 ^ ds.length = p at *
  have : t = 0 ∨ t = 1 := by omega
  rcases this with rfl | rfl <;> omega
theorem dvl_set {O : List Nat} : ∀ {j : Nat} (x : Nat), j < O.length → dvl (O.set j x) + 10000 ^ j * O.getD j 0 = dvl O + 10000 ^ j * x := by
  induction O with
  | nil => intro j x h; simp at h
  | cons y r ih =>
    intro j x h
    cases j with
    | zero => simp [dvl]; omega
    | succ j =>
      have h1 := ih (j := j) x (by simpa using h)
      have e : (y :: r).getD (j + 1) 0 = r.getD j 0 := by simp [List.getD_eq_getElem?_getD]
      rw [e]
      simp only [List.set_cons_succ, dvl, Nat.pow_succ]
      generalize 10000 ^ j = p at *
      have e1 : ∀ z, p * 10000 * z = 10000 * (p * z) := fun z => by rw [Nat.mul_comm p, Nat.mul_assoc]
      rw [e1, e1]
      omega
theorem dg_set {O : List Nat} (h : Dg O) (j : Nat) {x : Nat} (hx : x < 10000) : Dg (O.set j x) := fun d hd => by
  rcases List.mem_or_eq_of_mem_set hd with h1 | h1
  · exact h d h1
  · omega
theorem getD_set {O : List Nat} (j k x : Nat) (h : j ≠ k) : (O.set j x).getD k 0 = O.getD k 0 := by
  rw [List.getD_eq_getElem?_getD, List.getD_eq_getElem?_getD, List.getElem?_set_ne h]
/-- What the inner loop of a product keeps: the row O of before, the digit x, k digits of es done. -/
structure Pm (O es : List Nat) (x i k : Nat) (Ok : List Nat) (c : Nat) : Prop where
  len : Ok.length = O.length
  dg : Dg Ok
  c1 : c < 10000
  fin : es.length < k → c = 0
  kle : k ≤ es.length + 1
  keep : ∀ j, i + k ≤ j → Ok.getD j 0 = O.getD j 0
  eq : dvl Ok + 10000 ^ (i + k) * c = dvl O + 10000 ^ i * (x * dvl (es.take k))
theorem pm_zero {O es : List Nat} (x i : Nat) (h : Dg O) : Pm O es x i 0 O 0 := ⟨rfl, h, by omega, fun h => by omega, by omega, fun j _ => rfl, by simp [dvl]⟩
theorem pm_step {O es : List Nat} {x i k : Nat} {Ok : List Nat} {c : Nat} (h : Pm O es x i k Ok c) (hes : Dg es) (hx : x < 10000) (hO : Dg O) (hz : ∀ j, i + es.length ≤ j → O.getD j 0 = 0) (hk : k < es.length ∨ 0 < c) (hl : i + es.length < O.length) :
    i + k < Ok.length ∧ Pm O es x i (k + 1) (Ok.set (i + k) ((Ok.getD (i + k) 0 + c + x * es.getD k 0) % 10000)) ((Ok.getD (i + k) 0 + c + x * es.getD k 0) / 10000) := by
  have hkl : k ≤ es.length := by
    rcases hk with h1 | h1
    · omega
    · rcases Nat.lt_or_ge es.length k with h2 | h2
      · have := h.fin h2; omega
      · exact h2
  have hlt : i + k < Ok.length := by rw [h.len]; omega
  have hE := hes.getD k
  have h0 := h.keep (i + k) (Nat.le_refl _)
  have hOk := h.dg.getD (i + k)
  have h1 := h.c1
  have hmul : x * es.getD k 0 ≤ 9999 * 9999 := Nat.mul_le_mul (by omega) (by omega)
  refine ⟨hlt, by rw [List.length_set, h.len], dg_set h.dg _ (Nat.mod_lt _ (by omega)), by omega, fun hk2 => ?_, by omega, fun j hj => ?_, ?_⟩
  · have hke : k = es.length := by omega
    have hE0 : es.getD k 0 = 0 := getD_big (by omega)
    have hOk0 : Ok.getD (i + k) 0 = 0 := by rw [h0]; exact hz _ (by omega)
    rw [hE0, hOk0]
    omega
  · rw [getD_set _ _ _ (by omega)]
    exact h.keep j (by omega)
  · have hs := dvl_set (O := Ok) (j := i + k) ((Ok.getD (i + k) 0 + c + x * es.getD k 0) % 10000) hlt
    have hdm := Nat.div_add_mod (Ok.getD (i + k) 0 + c + x * es.getD k 0) 10000
    have he := h.eq
    rw [dvl_take_succ, show i + (k + 1) = i + k + 1 from rfl, Nat.pow_succ]
    generalize (Ok.getD (i + k) 0 + c + x * es.getD k 0) % 10000 = lo at *
    generalize (Ok.getD (i + k) 0 + c + x * es.getD k 0) / 10000 = hi at *
    have e0 : 10000 ^ i * (x * (dvl (es.take k) + 10000 ^ k * es.getD k 0)) = 10000 ^ i * (x * dvl (es.take k)) + 10000 ^ (i + k) * (x * es.getD k 0) := by
      rw [Nat.pow_add, Nat.mul_add, Nat.mul_add, Nat.mul_assoc (10000 ^ i), Nat.mul_left_comm x (10000 ^ k)]
    rw [e0]
    generalize 10000 ^ (i + k) = p at *
    have e1 : p * 10000 * hi = p * (10000 * hi) := Nat.mul_assoc _ _ _
    have e2 : p * (10000 * hi) + p * lo = p * Ok.getD (i + k) 0 + p * c + p * (x * es.getD k 0) := by rw [← Nat.mul_add, hdm, Nat.mul_add, Nat.mul_add]
    omega
/-- What the outer loop of a product keeps. -/
structure Mo (ds es : List Nat) (i : Nat) (O : List Nat) : Prop where
  len : O.length = ds.length + es.length + 1
  dg : Dg O
  eq : dvl O = dvl (ds.take i) * dvl es
theorem dvl_zero : ∀ n, dvl (List.replicate n 0) = 0 := by
  intro n; induction n with
  | zero => rfl
  | succ n ih => rw [List.replicate_succ]; simp [dvl, ih]
theorem mo_zero (ds es : List Nat) : Mo ds es 0 (List.replicate (ds.length + es.length + 1) 0) := ⟨by simp, fun d h => by have := List.eq_of_mem_replicate h; omega, by rw [dvl_zero]; simp [dvl]⟩
theorem getD_zero_of_lt : ∀ {O : List Nat} {n : Nat}, dvl O < 10000 ^ n → ∀ j, n ≤ j → O.getD j 0 = 0 := by
  intro O; induction O with
  | nil => intro n _ j _; exact getD_big (by simp)
  | cons y r ih =>
    intro n h j hj
    cases n with
    | zero =>
      simp only [dvl, Nat.pow_zero] at h
      have hy : y = 0 := by omega
      have hr : dvl r < 10000 ^ 0 := by simp; omega
      cases j with
      | zero => simpa using hy
      | succ j => have := ih hr j (by omega); simpa [List.getD_eq_getElem?_getD] using this
    | succ n =>
      obtain ⟨j, rfl⟩ : ∃ k, j = k + 1 := ⟨j - 1, by omega⟩
      have hr : dvl r < 10000 ^ n := by
        simp only [dvl, Nat.pow_succ] at h
        generalize 10000 ^ n = p at *
        omega
      have := ih hr j (by omega)
      simpa [List.getD_eq_getElem?_getD] using this
theorem mo_high {ds es : List Nat} {i : Nat} {O : List Nat} (h : Mo ds es i O) (hd : Dg ds) (he : Dg es) (hi : i ≤ ds.length) : ∀ j, i + es.length ≤ j → O.getD j 0 = 0 := by
  refine getD_zero_of_lt ?_
  rw [h.eq, Nat.pow_add]
  have h1 := dvl_lt (hd.take i)
  rw [List.length_take, Nat.min_eq_left hi] at h1
  exact Nat.mul_lt_mul'' h1 (dvl_lt he)
theorem mo_step {ds es : List Nat} {i k : Nat} {O Ok : List Nat} (h : Mo ds es i O) (hm : Pm O es (ds.getD i 0) i k Ok 0) (hk : es.length ≤ k) : Mo ds es (i + 1) Ok := by
  refine ⟨by rw [hm.len, h.len], hm.dg, ?_⟩
  have := hm.eq
  rw [List.take_of_length_le hk, Nat.mul_zero, Nat.add_zero] at this
  rw [this, h.eq, dvl_take_succ, Nat.add_mul, Nat.mul_assoc]
end Go.Proofs.YtggmnmmjmihnfaaGreatDoor
namespace Go.Proofs.YtggmnmmjmihnfaaGreatDoor
open Go.RowKit
set_option linter.unusedVariables false
theorem dvl_len_lt {us vs : List Nat} (hu : Dg us) (h : us.length < vs.length) (hl : Trm vs) : dvl us < dvl vs := by
  have hne : vs ≠ [] := fun e => by rw [e] at h; simp at h
  have h1 := dvl_lt hu
  have h2 := trm_ge hl hne
  have h3 : 10000 ^ us.length ≤ 10000 ^ (vs.length - 1) := Nat.pow_le_pow_right (by decide) (by omega)
  omega
theorem dvl_top {us vs : List Nat} (hu : Dg us) {k : Nat} (hk : k < us.length) (hk2 : k < vs.length) (he : us.drop (k + 1) = vs.drop (k + 1)) (hlt : us.getD k 0 < vs.getD k 0) : dvl us < dvl vs := by
  have e1 : ∀ l : List Nat, k < l.length → dvl l = dvl (l.take k) + 10000 ^ k * (l.getD k 0 + 10000 * dvl (l.drop (k + 1))) := fun l hl => by
    conv => lhs; rw [← List.take_append_drop k l]
    rw [dvl_append, List.length_take, Nat.min_eq_left (by omega), drop_get l k hl]
    rfl
  rw [e1 us hk, e1 vs hk2, he]
  have h1 : dvl (us.take k) < 10000 ^ k := by
    have h3 := dvl_lt (hu.take k)
    rwa [List.length_take, Nat.min_eq_left (by omega)] at h3
  generalize 10000 * dvl (vs.drop (k + 1)) = t at *
  generalize us.getD k 0 = x at *
  generalize vs.getD k 0 = y at *
  generalize 10000 ^ k = P at *
  have h2 : P * (x + t + 1) ≤ P * (y + t) := Nat.mul_le_mul_left _ (by omega)
  rw [Nat.mul_add, Nat.mul_one] at h2
  omega
/-- What the loop of a division keeps, i digits of ds still to come: the quotient's digits and what is left. -/
structure Qv (ds : List Nat) (B i : Nat) (qs : List Nat) (R : Nat) : Prop where
  len : qs.length = ds.length - i
  dg : Dg qs
  eq : dvl (ds.drop i) = dvl qs * B + R
  lt : R < B
theorem qv_zero {ds : List Nat} {B : Nat} (hB : 0 < B) : Qv ds B ds.length [] 0 := ⟨by simp, fun d h => by simp at h, by simp [dvl], hB⟩
theorem qv_next {ds : List Nat} {B i : Nat} {qs : List Nat} {R : Nat} (h : Qv ds B (i + 1) qs R) (hd : Dg ds) (hB : 0 < B) : (ds.getD i 0 + 10000 * R) / B < 10000 := by
  have h1 := hd.getD i; have h2 := h.lt
  rw [Nat.div_lt_iff_lt_mul hB]
  omega
theorem qv_step {ds : List Nat} {B i : Nat} {qs : List Nat} {R : Nat} (h : Qv ds B (i + 1) qs R) (hd : Dg ds) (hB : 0 < B) (hi : i < ds.length) :
    Qv ds B i ((ds.getD i 0 + 10000 * R) / B :: qs) (ds.getD i 0 + 10000 * R - B * ((ds.getD i 0 + 10000 * R) / B)) := by
  have h3 := qv_next h hd hB
  have h4 := Nat.div_add_mod (ds.getD i 0 + 10000 * R) B
  have h5 := Nat.mod_lt (ds.getD i 0 + 10000 * R) hB
  refine ⟨by rw [List.length_cons, h.len]; omega, fun d hx => ?_, ?_, by omega⟩
  · rcases List.mem_cons.1 hx with rfl | hx
    · exact h3
    · exact h.dg d hx
  · rw [drop_get ds i hi]
    simp only [dvl]
    rw [h.eq]
    generalize (ds.getD i 0 + 10000 * R) / B = q at *
    have e : (q + 10000 * dvl qs) * B = B * q + 10000 * (dvl qs * B) := by rw [Nat.add_mul, Nat.mul_assoc, Nat.mul_comm q B]
    omega
theorem qv_done {ds : List Nat} {B : Nat} {qs : List Nat} {R : Nat} (h : Qv ds B 0 qs R) (hB : 0 < B) : dvl qs = dvl ds / B ∧ R = dvl ds % B := by
  have he := h.eq
  rw [List.drop_zero] at he
  have hlt := h.lt
  rw [he]
  constructor
  · rw [Nat.mul_comm, Nat.mul_add_div hB, Nat.div_eq_of_lt hlt, Nat.add_zero]
  · rw [Nat.mul_comm, Nat.mul_add_mod, Nat.mod_eq_of_lt hlt]
end Go.Proofs.YtggmnmmjmihnfaaGreatDoor
namespace Go.Proofs.YtggmnmmjmihnfaaGreatDoor
open Go.RowKit
set_option linter.unusedVariables false
set_option maxRecDepth 100000 in
theorem cut_r (a : Option Addr) (n m cap : Nat) (h1 : m ≤ n) (h2 : n ≤ cap) (wx : World) : (Instr.slice 32 (.slice a n cap) none (some (.int .i64 (m : Int))) none).run Tryz.prog wx = .ok (.slice a m cap) wx := by
  refine (run_slice_h (P := Tryz.prog) (w := wx) 32 a n cap (by kernel_rfl) .i64 (m : Int) (by omega) (by omega)).trans ?_
  have hs : (sizeOf (Tryz.prog.elem 32)).run Tryz.prog wx = .ok 1 wx := by kernel_rfl
  rw [hs]
  simp only [Result.andThen, sliced, Nat.zero_mul, Nat.sub_zero, Int.toNat_natCast]
  congr 1
  split
  · rfl
  · cases a <;> rfl
set_option maxRecDepth 100000 in
set_option maxHeartbeats 1000000 in
theorem rtrim_slot (a : Option Addr) (c : Nat) (ds : List Nat) (w : World) (hu : DR w a ds) (hl : ds.length ≤ 1000000) (hc : ds.length ≤ c) :
    Calls Tryz.prog 62 #[.slice a ds.length c] w fun e w' => e = .returned (.slice a (tlen ds ds.length) c) ∧ w = w' := by
  have HU := Lib.hid hu
  obtain ⟨n, hn⟩ : ∃ n, ds.length = n := ⟨_, rfl⟩
  have Hn := Lib.hid hn
  rw [hn] at hl hc ⊢
  clear hu hn
  go_enter Tryz.func62, Tryz.ntmps62
  go_wp2_with fail
  go_loop [0] (fun v => ∃ k : Nat, k ≤ n ∧ v = .slice a k c ∧ Hid (tlen ds k = tlen ds n)) (fun v => match v with | .slice _ k _ => k | _ => 0)
  case atStart => exact ⟨n, by omega, rfl, Lib.hid rfl⟩
  case round =>
    obtain ⟨k, hkn, rfl, ht⟩ := hrel
    cases k with
    | zero =>
      have ht0 : Hid (tlen ds n = 0) := Lib.hid (by rw [← ht.out]; rfl)
      go_wp2_with fail
      go_ret
      exact ⟨by rw [ht0.out]; rfl, rfl⟩
    | succ k =>
      obtain ⟨ad, rfl, hadl, hcl⟩ := HU.out k (by rw [Hn.out]; omega)
      obtain ⟨x, hx⟩ : ∃ x : Int, ((ds.getD k 0 : Nat) : Int) = x := ⟨_, rfl⟩
      rw [hx] at hcl
      have hk0i : (0 : Int) < ((k + 1 : Nat) : Int) := by omega
      have hki : ((k + 1 : Nat) : Int) - 1 = (k : Int) := by omega
      have hk1 : (0 : Int) ≤ (k : Int) := by omega
      by_cases hx0 : ds.getD k 0 = 0
      · have hx1 : x = 0 := by omega
        subst hx1
        have ht1 : Hid (tlen ds k = tlen ds n) := Lib.hid (by rw [← ht.out]; simp only [tlen]; rw [if_pos hx0])
        have hsl : ∀ wx, (Instr.slice 32 (.slice (some ad) (k + 1) c) none (some (.int .i64 (k : Int))) none).run Tryz.prog wx = .ok (.slice (some ad) k c) wx := fun wx => cut_r (some ad) (k + 1) k c (by omega) (by omega) wx
        clear hx
        go_wp2_with fail
        go_round
        case rel => exact ⟨k, by omega, rfl, ht1⟩
        case measure => simp
      · have hx1 : (x == 0) = false := by simp; omega
        have ht1 : Hid (tlen ds n = k + 1) := Lib.hid (by rw [← ht.out]; simp only [tlen]; rw [if_neg hx0])
        clear hx
        go_wp2_with fail
        go_ret
        exact ⟨by rw [ht1.out]; rfl, rfl⟩
theorem rtrim_any (v : Value) (ds : List Nat) (w : World) (h : RD w v ds) (hl : ds.length ≤ 1000000) :
    Calls Tryz.prog 62 #[v] w fun e w' => (∃ v', e = .returned v' ∧ RD w v' (ds.take (tlen ds ds.length))) ∧ w = w' := by
  obtain ⟨a, c, rfl, hc, hr, hz⟩ := h
  refine (rtrim_slot a c ds w hr hl hc).mono fun e w' ⟨h1, h2⟩ => ⟨⟨_, h1, a, c, ?_, ?_, hr.take _, hz⟩, h2⟩
  · have := tlen_le ds ds.length
    rw [List.length_take, Nat.min_eq_left this]
  · rw [List.length_take]; omega
theorem trm_self {ds : List Nat} (h : Trm ds) : tlen ds ds.length = ds.length := by
  cases hl : ds.length with
  | zero => rfl
  | succ k =>
    have h0 := h (fun e => by rw [e] at hl; simp at hl)
    rw [hl, Nat.add_sub_cancel] at h0
    simp only [tlen]
    rw [if_neg h0]
/-- Of digits with no noughts behind them nothing is taken. -/
theorem rtrim_self (a : Option Addr) (c : Nat) (ds : List Nat) (w : World) (hu : DR w a ds) (hl : ds.length ≤ 1000000) (hc : ds.length ≤ c) (ht : Trm ds) :
    Calls Tryz.prog 62 #[.slice a ds.length c] w fun e w' => e = .returned (.slice a ds.length c) ∧ w = w' :=
  (rtrim_slot a c ds w hu hl hc).mono fun e w' ⟨h1, h2⟩ => ⟨by rw [h1, trm_self ht], h2⟩
end Go.Proofs.YtggmnmmjmihnfaaGreatDoor
namespace Go.Proofs.YtggmnmmjmihnfaaGreatDoor
open Go.RowKit
set_option linter.unusedVariables false
/-- A call gives a number, as the document writes it. -/
def GotR (S : Nat) (w : World) (e : Ending) (w' : World) : Prop := ∃ v, e = .returned v ∧ RN w' v S ∧ Below w.heap.size w w'
theorem Tryz.underR : Tryz.prog.underlying 32 = some (.slice 3) := by kernel_rfl
/-- What is left of a row of the call's own behind trim. -/
theorem rtrim_own (B S : Nat) (v : Value) (ds : List Nat) (w : World) (h : OD B w v ds) (hd : Dg ds) (hl : ds.length ≤ 1000000) (hS : dvl ds = S) :
    Calls Tryz.prog 62 #[v] w fun e w' => (∃ v', e = .returned v' ∧ RN w' v' S) ∧ w = w' :=
  (rtrim_any v ds w (od_rd h) hl).mono fun e w' ⟨⟨v', h1, h2⟩, h3⟩ => by
    subst h3
    exact ⟨⟨v', h1, _, h2, hd.take _, trm_take ds (Nat.le_refl _), by rw [tlen_dvl ds _ (Nat.le_refl _), List.take_length, hS]⟩, rfl⟩
end Go.Proofs.YtggmnmmjmihnfaaGreatDoor
namespace Go.Proofs.YtggmnmmjmihnfaaGreatDoor
open Go.RowKit
set_option linter.unusedVariables false
set_option maxRecDepth 100000 in
set_option maxHeartbeats 4000000 in
theorem rsub_any (va vb : Value) (ds es : List Nat) (w : World) (ha : RD w va ds) (hb : RD w vb es) (hda : Dg ds) (hdb : Dg es) (hla : ds.length ≤ 10000) (hlb : es.length ≤ ds.length) (hle : dvl es ≤ dvl ds) :
    Calls Tryz.prog 76 #[va, vb] w (GotR (dvl ds - dvl es) w) := by
  obtain ⟨a1, c1, rfl, hc1, hra, _⟩ := ha
  obtain ⟨a2, c2, rfl, hc2, hrb, _⟩ := hb
  have Hle := Lib.hid hle
  have Hlb := Lib.hid hlb
  obtain ⟨n, hn⟩ : ∃ n, ds.length = n := ⟨_, rfl⟩
  obtain ⟨m, hm⟩ : ∃ m, es.length = m := ⟨_, rfl⟩
  have Hn := Lib.hid hn; have Hm := Lib.hid hm
  have HA := Lib.hid hra; have HBr := Lib.hid hrb; have HdA := Lib.hid hda; have HdB := Lib.hid hdb
  have H0 := Lib.hid (sb1_zero ds es)
  have HO0 := Lib.hid (od_nil w.heap.size w)
  have HB0 := Lib.hid (Below.refl w.heap.size w)
  rw [hn] at hla ⊢
  rw [hm] at ⊢
  clear hra hrb hda hdb hn hm hc1 hc2 hle hlb
  go_enter Tryz.func76, Tryz.ntmps76
  go_wp2_with fail
  go_loopw [5, 6, 7] (fun ov cv iv wr => ∃ (k t : Nat) (os : List Nat) (T : Int), k ≤ n ∧ cv = .int .i64 T ∧ iv = .int .i64 (k : Int) ∧ Hid (T = (t : Int)) ∧ Hid (Sb1 ds es k os t) ∧ Hid (OD w.heap.size wr ov os) ∧ Hid (Below w.heap.size w wr)) (fun _ _ iv _ => n - (intOf iv).toNat)
  case atStart => exact ⟨0, 0, [], 0, by omega, rfl, rfl, Lib.hid rfl, H0, HO0, HB0⟩
  case round =>
    obtain ⟨k, t, os, T, hk, rfl, rfl, hT, hsm, ho, hbel⟩ := hrel
    clear H0 HO0 HB0
    have hTe := hT.out
    clear hT
    by_cases ha : k < n
    · obtain ⟨ad1, rfl, hadl1, hca⟩ := HA.out k (by rw [Hn.out]; exact ha)
      have hst := fun x t' => sb1_step (x := x) (t' := t') hsm.out
      have hga := HdA.out.getD k
      have hgb := HdB.out.getD k
      have ht1 := hsm.out.t1
      have hlen := hsm.out.len
      have hwr : w.heap.size ≤ wr.heap.size := hbel.out.size
      obtain ⟨a0, c0, hv0, _, _⟩ := od_form ho.out
      rw [hlen] at hv0
      subst hv0
      have hTz : 0 ≤ T := by omega
      have hTo : T ≤ 1 := by omega
      by_cases hb : k < m
      · obtain ⟨ad2, rfl, hadl2, hcb⟩ := HBr.out k (by rw [Hm.out]; exact hb)
        generalize ds.getD k 0 = x at *
        generalize es.getD k 0 = y at *
        obtain ⟨X, hX⟩ : ∃ X : Int, (x : Int) = X := ⟨_, rfl⟩
        rw [hX] at hca
        have hca1 : wr.cell? (ad1.add k) = some (.int .i64 X) := (hbel.out.cell (by rw [add_block]; exact hadl1)).trans hca
        obtain ⟨Y, hY⟩ : ∃ Y : Int, (y : Int) = Y := ⟨_, rfl⟩
        rw [hY] at hcb
        have hcb1 : wr.cell? (ad2.add k) = some (.int .i64 Y) := (hbel.out.cell (by rw [add_block]; exact hadl2)).trans hcb
        have hY0 : 0 ≤ Y := by omega
        have hY1 : Y < 10000 := by omega
        have hX0 : 0 ≤ X := by omega
        have hX1 : X < 10000 := by omega
        have ck0 : (0 : Int) ≤ (k : Int) := by omega
        have ckn : (k : Int) < (n : Int) := by omega
        have ckm : (k : Int) < (m : Int) := by omega
        by_cases hneg : X - T - Y < 0
        · obtain ⟨d, hd⟩ : ∃ d : Nat, X - T - Y + 10000 = (d : Int) := ⟨(X - T - Y + 10000).toNat, by omega⟩
          have hs1 := Lib.hid (hst d 1 (by omega) (by omega) (by omega))
          have hTn : Hid ((1 : Int) = ((1 : Nat) : Int)) := Lib.hid rfl
          clear hst hX hca hadl1 hga hgb ht1 hsm hTe hY hcb hadl2
          go_wp2_with (at_builtin; refine push_d rfl (.tmp 35) (.tmp 37) 32 Tryz.underR rfl w.heap.size _ _ os d rfl ho.out hwr _ rfl rfl (by omega) ?_)
          intro v' W' ho' _ hb'
          have hO := Lib.hid ho'
          have hbel2 := Lib.hid (hbel.out.trans (hb'.mono (Nat.le_refl _)))
          clear ho' hb' ho hbel
          go_wp2_with fail
          go_roundw
          case rel => exact ⟨k + 1, 1, os ++ [d], 1, by omega, rfl, by go_num, hTn, hs1, hO, hbel2⟩
          case measure => simp [intOf]; omega
        · obtain ⟨d, hd⟩ : ∃ d : Nat, X - T - Y = (d : Int) := ⟨(X - T - Y).toNat, by omega⟩
          have hs1 := Lib.hid (hst d 0 (by omega) (by omega) (by omega))
          have hTn : Hid ((0 : Int) = ((0 : Nat) : Int)) := Lib.hid rfl
          have hdn : ¬ (d : Int) < 0 := by omega
          clear hneg
          clear hst hX hca hadl1 hga hgb ht1 hsm hTe hY hcb hadl2
          go_wp2_with (at_builtin; refine push_d rfl (.tmp 35) (.tmp 37) 32 Tryz.underR rfl w.heap.size _ _ os d rfl ho.out hwr _ rfl rfl (by omega) ?_)
          intro v' W' ho' _ hb'
          have hO := Lib.hid ho'
          have hbel2 := Lib.hid (hbel.out.trans (hb'.mono (Nat.le_refl _)))
          clear ho' hb' ho hbel
          go_wp2_with fail
          go_roundw
          case rel => exact ⟨k + 1, 0, os ++ [d], 0, by omega, rfl, by go_num, hTn, hs1, hO, hbel2⟩
          case measure => simp [intOf]; omega
      · have hb0 : es.getD k 0 = 0 := getD_big (by rw [Hm.out]; omega)
        generalize ds.getD k 0 = x at *
        generalize es.getD k 0 = y at *
        subst hb0
        obtain ⟨X, hX⟩ : ∃ X : Int, (x : Int) = X := ⟨_, rfl⟩
        rw [hX] at hca
        have hca1 : wr.cell? (ad1.add k) = some (.int .i64 X) := (hbel.out.cell (by rw [add_block]; exact hadl1)).trans hca
        have hX0 : 0 ≤ X := by omega
        have hX1 : X < 10000 := by omega
        have ck0 : (0 : Int) ≤ (k : Int) := by omega
        have ckn : (k : Int) < (n : Int) := by omega
        have ckm : ¬ (k : Int) < (m : Int) := by omega
        by_cases hneg : X - T < 0
        · obtain ⟨d, hd⟩ : ∃ d : Nat, X - T + 10000 = (d : Int) := ⟨(X - T + 10000).toNat, by omega⟩
          have hs1 := Lib.hid (hst d 1 (by omega) (by omega) (by omega))
          have hTn : Hid ((1 : Int) = ((1 : Nat) : Int)) := Lib.hid rfl
          clear hst hX hca hadl1 hga hgb ht1 hsm hTe
          go_wp2_with (at_builtin; refine push_d rfl (.tmp 35) (.tmp 37) 32 Tryz.underR rfl w.heap.size _ _ os d rfl ho.out hwr _ rfl rfl (by omega) ?_)
          intro v' W' ho' _ hb'
          have hO := Lib.hid ho'
          have hbel2 := Lib.hid (hbel.out.trans (hb'.mono (Nat.le_refl _)))
          clear ho' hb' ho hbel
          go_wp2_with fail
          go_roundw
          case rel => exact ⟨k + 1, 1, os ++ [d], 1, by omega, rfl, by go_num, hTn, hs1, hO, hbel2⟩
          case measure => simp [intOf]; omega
        · obtain ⟨d, hd⟩ : ∃ d : Nat, X - T = (d : Int) := ⟨(X - T).toNat, by omega⟩
          have hs1 := Lib.hid (hst d 0 (by omega) (by omega) (by omega))
          have hTn : Hid ((0 : Int) = ((0 : Nat) : Int)) := Lib.hid rfl
          have hdn : ¬ (d : Int) < 0 := by omega
          clear hneg
          clear hst hX hca hadl1 hga hgb ht1 hsm hTe
          go_wp2_with (at_builtin; refine push_d rfl (.tmp 35) (.tmp 37) 32 Tryz.underR rfl w.heap.size _ _ os d rfl ho.out hwr _ rfl rfl (by omega) ?_)
          intro v' W' ho' _ hb'
          have hO := Lib.hid ho'
          have hbel2 := Lib.hid (hbel.out.trans (hb'.mono (Nat.le_refl _)))
          clear ho' hb' ho hbel
          go_wp2_with fail
          go_roundw
          case rel => exact ⟨k + 1, 0, os ++ [d], 0, by omega, rfl, by go_num, hTn, hs1, hO, hbel2⟩
          case measure => simp [intOf]; omega
    · obtain rfl : k = n := by omega
      have hlen := hsm.out.len
      have hdg := hsm.out.dg
      have hfin : dvl os = dvl ds - dvl es := by
        have h := hsm.out
        rw [← Hn.out] at h
        exact sb1_done h Hlb.out Hle.out
      have HT := Lib.hid (rtrim_own w.heap.size _ _ os wr ho.out hdg (by omega) hfin)
      obtain ⟨a0, c0, hv0, _, _⟩ := od_form ho.out
      subst hv0
      rw [hlen] at HT
      have ckn : ¬ (k : Int) < (k : Int) := by omega
      clear hfin hdg hsm ho hTe
      go_wp2_with fail
      refine HT.out.mono ?_
      rintro e w2 ⟨⟨v', rfl, hR⟩, rfl⟩
      have HR := Lib.hid hR
      clear hR HT
      go_wp2_with fail
      go_ret
      exact ⟨v', rfl, HR.out, hbel.out⟩
end Go.Proofs.YtggmnmmjmihnfaaGreatDoor
namespace Go.Proofs.YtggmnmmjmihnfaaGreatDoor
open Go.RowKit
set_option linter.unusedVariables false
theorem below_drewN (B : Nat) (w : World) (q : Nat) : Below B w (w.drewN q) := ⟨rfl, rfl, rfl, Nat.le_refl _, fun _ _ => rfl⟩
set_option maxRecDepth 100000 in
set_option maxHeartbeats 4000000 in
theorem rcmp_any (M N : Nat) (va vb : Value) (w : World) (ha : RN w va M) (hb : RN w vb N) (hM : M < 10000 ^ 9000) (hN : N < 10000 ^ 9000) :
    Calls Tryz.prog 30 #[va, vb] w (CmpIs M N w) := by
  obtain ⟨ds, ⟨a1, c1, rfl, hc1, hra, _⟩, hda, hta, rfl⟩ := ha
  obtain ⟨es, ⟨a2, c2, rfl, hc2, hrb, _⟩, hdb, htb, rfl⟩ := hb
  have hla := trm_len hta hM
  have hlb := trm_len htb hN
  have HTA := Lib.hid (rtrim_self a1 c1 ds w hra (by omega) hc1 hta)
  have HTB := Lib.hid (rtrim_self a2 c2 es w hrb (by omega) hc2 htb)
  obtain ⟨n, hn⟩ : ∃ n, ds.length = n := ⟨_, rfl⟩
  obtain ⟨m, hm⟩ : ∃ m, es.length = m := ⟨_, rfl⟩
  have Hn := Lib.hid hn; have Hm := Lib.hid hm
  have HA := Lib.hid hra; have HBr := Lib.hid hrb; have HdA := Lib.hid hda; have HdB := Lib.hid hdb
  have HtA := Lib.hid hta; have HtB := Lib.hid htb
  rw [hn] at hla HTA ⊢
  rw [hm] at hlb HTB ⊢
  rcases Nat.lt_trichotomy n m with hlt | heq | hgt
  · have HR : Hid (cmpI (dvl ds) (dvl es) = -1) := Lib.hid (cmpI_lt (dvl_len_lt hda (by omega) htb))
    have h1 : ((n : Int) == (m : Int)) = false := by simp; omega
    have h1' : ((n : Int) != (m : Int)) = true := by simp; omega
    have h2 : (n : Int) < (m : Int) := by omega
    clear hra hrb hda hdb hta htb hn hm hc1 hc2 hM hN
    go_enter Tryz.func30, Tryz.ntmps30
    go_wp2_with fail
    refine HTA.out.mono ?_
    rintro e w1 ⟨rfl, rfl⟩
    go_wp2_with fail
    refine HTB.out.mono ?_
    rintro e w1 ⟨rfl, rfl⟩
    go_wp2_with fail
    go_ret
    exact ⟨by rw [HR.out]; rfl, Below.refl _ _⟩
  · subst heq
    have h1 : ((n : Int) == (n : Int)) = true := by simp
    have hdr0 : Hid (ds.drop n = es.drop n) := Lib.hid (by rw [List.drop_of_length_le (by omega), List.drop_of_length_le (by omega)])
    have hwn : IntKind.i64.wrap ((n : Int) - 1) = (n : Int) - 1 := IntWalk.i64_in _ ⟨by omega, by omega⟩
    clear hra hrb hda hdb hta htb hn hm hc1 hc2 hM hN
    go_enter Tryz.func30, Tryz.ntmps30
    go_wp2_with fail
    refine HTA.out.mono ?_
    rintro e w1 ⟨rfl, rfl⟩
    go_wp2_with fail
    refine HTB.out.mono ?_
    rintro e w1 ⟨rfl, rfl⟩
    go_wp2_with fail
    go_loopw [5] (fun iv wr => ∃ (k q : Nat) (z : Int), k ≤ n ∧ z = (k : Int) - 1 ∧ iv = .int .i64 z ∧ Hid (ds.drop k = es.drop k) ∧ wr = w.drewN q) (fun iv _ => (intOf iv + 1).toNat)
    case atStart => exact ⟨n, 0, _, Nat.le_refl _, rfl, rfl, hdr0, rfl⟩
    case round =>
      clear hdr0
      obtain ⟨k, q, z, hk, hz, rfl, hdr, rfl⟩ := hrel
      cases k with
      | zero =>
        have hzn : ¬ (0 : Int) ≤ z := by omega
        clear hz
        have HR : Hid (cmpI (dvl ds) (dvl es) = 0) := Lib.hid (by rw [show ds = es from hdr.out, cmpI_eq])
        have HB : Hid (Below w.heap.size w (w.drewN q)) := Lib.hid (below_drewN _ _ _)
        go_wp2_with fail
        go_ret
        exact ⟨by rw [HR.out]; rfl, HB.out⟩
      | succ k =>
        obtain rfl : z = (k : Int) := by omega
        clear hz
        obtain ⟨ad1, rfl, hadl1, hca⟩ := HA.out k (by rw [Hn.out]; omega)
        obtain ⟨ad2, rfl, hadl2, hcb⟩ := HBr.out k (by rw [Hm.out]; omega)
        have eu := drop_get ds k (by rw [Hn.out]; omega)
        have ev := drop_get es k (by rw [Hm.out]; omega)
        have htop1 := dvl_top HdA.out (k := k) (by rw [Hn.out]; omega) (by rw [Hm.out]; omega) hdr.out
        have htop2 := dvl_top HdB.out (k := k) (by rw [Hm.out]; omega) (by rw [Hn.out]; omega) hdr.out.symm
        generalize ds.getD k 0 = x at *
        generalize es.getD k 0 = y at *
        have hi1 : (0 : Int) ≤ (k : Int) := by omega
        have hi2 : (k : Int) < (n : Int) := by omega
        rcases Nat.lt_trichotomy x y with hxy | hxy | hxy
        · have HR : Hid (cmpI (dvl ds) (dvl es) = -1) := Lib.hid (cmpI_lt (htop1 hxy))
          have h3 : ((x : Int) != (y : Int)) = true := by simp; omega
          have h4 : (x : Int) < (y : Int) := by omega
          clear htop1 htop2 eu ev hdr
          go_wp2_with fail
          go_quiet (fail)
          go_wp2_with fail
          go_quiet (fail)
          go_wp2_with fail
          go_ret
          exact ⟨by rw [HR.out]; rfl, by rw [World.drewN_drewN, World.drewN_drewN]; exact below_drewN _ _ _⟩
        · subst hxy
          have h3 : ((x : Int) != (x : Int)) = false := by simp
          have hdr2 : Hid (ds.drop k = es.drop k) := Lib.hid (by rw [eu, ev, hdr.out])
          clear htop1 htop2 eu ev hdr
          go_wp2_with fail
          go_quiet (fail)
          go_wp2_with fail
          go_roundw
          case rel => exact ⟨k, _, _, by omega, rfl, by go_num, hdr2, rfl⟩
          case measure => simp [intOf] <;> omega
        · have HR : Hid (cmpI (dvl ds) (dvl es) = 1) := Lib.hid (cmpI_gt (htop2 hxy))
          have h3 : ((x : Int) != (y : Int)) = true := by simp; omega
          have h4 : ¬ (x : Int) < (y : Int) := by omega
          have h5 : decide (x < y) = false := by simp; omega
          clear htop1 htop2 eu ev hdr
          go_wp2_with fail
          go_quiet (fail)
          go_wp2_with fail
          go_quiet (fail)
          go_wp2_with fail
          go_ret
          exact ⟨by rw [HR.out]; rfl, by rw [World.drewN_drewN, World.drewN_drewN]; exact below_drewN _ _ _⟩
  · have HR : Hid (cmpI (dvl ds) (dvl es) = 1) := Lib.hid (cmpI_gt (dvl_len_lt hdb (by omega) hta))
    have h1 : ((n : Int) == (m : Int)) = false := by simp; omega
    have h1' : ((n : Int) != (m : Int)) = true := by simp; omega
    have h2 : ¬ (n : Int) < (m : Int) := by omega
    clear hra hrb hda hdb hta htb hn hm hc1 hc2 hM hN
    go_enter Tryz.func30, Tryz.ntmps30
    go_wp2_with fail
    refine HTA.out.mono ?_
    rintro e w1 ⟨rfl, rfl⟩
    go_wp2_with fail
    refine HTB.out.mono ?_
    rintro e w1 ⟨rfl, rfl⟩
    go_wp2_with fail
    go_ret
    exact ⟨by rw [HR.out]; rfl, Below.refl _ _⟩
end Go.Proofs.YtggmnmmjmihnfaaGreatDoor
namespace Go.Proofs.YtggmnmmjmihnfaaGreatDoor
open Go.RowKit
set_option linter.unusedVariables false
theorem make_d {ops : Array Oper} {rest : List Oper} {o : Oper} {a : Act} {Q : Exit → Act → World → Prop} (hgd : o.guard = none) (l : Operand)
    (ho : o.op = .makeSlice 32 l l) (B : Nat) (W : World) (L : Int) (n : Nat) (hl : a.eval l = .int .i64 L) (hL : L = (n : Int)) (hn : n ≤ 1000000) (hB : B ≤ W.heap.size) (g : Nat) (hg : W.heap.size = g)
    (h : ∀ W', W'.ownsRow B 3 1 (.slice (some ⟨g, 0, none⟩) n n) n ((List.replicate n 0).map dgi) → Below B W W' → W.grownBy W' none → wpList Tryz.prog ops Q rest (a.put o.dst (.slice (some ⟨g, 0, none⟩) n n)) W') :
    wpList Tryz.prog ops Q (o :: rest) a W := by
  obtain ⟨i0, hi, hz0, hz1, hz2⟩ := info_parts Tryz.infoI
  subst hg
  refine wpList_make_full W hgd l l 32 ho B 3 i0 (.int .i64 0) 1 Tryz.underR hi hz0 hz1 .i64 .i64 L L n hl hl hL hL (by rw [hz2]; omega) (by unfold maxLen; omega) hB ?_
  intro W' h1 h2
  refine h W' ?_ ((Below.refl B W).grown h2 hB (fun k hk => by cases hk)) h2
  have e : (madeCells (Value.int .i64 0).cells (n * 1)).toList = (List.replicate n 0).map dgi := by
    rw [Nat.mul_one, List.map_replicate]
    exact toList_madeCells_one _ _
  rw [← e]
  exact h1
set_option maxRecDepth 100000 in
set_option maxHeartbeats 4000000 in
theorem rmul_dig (va vb : Value) (ds es : List Nat) (w : World) (ha : RD w va ds) (hb : RD w vb es) (hda : Dg ds) (hdb : Dg es) (hla : ds.length ≤ 10000) (hlb : es.length ≤ 10000) :
    Calls Tryz.prog 25 #[va, vb] w (GotR (dvl ds * dvl es) w) := by
  obtain ⟨a1, c1, rfl, hc1, hra, _⟩ := ha
  obtain ⟨a2, c2, rfl, hc2, hrb, _⟩ := hb
  have HM0 := Lib.hid (mo_zero ds es)
  obtain ⟨n, hn⟩ : ∃ n, ds.length = n := ⟨_, rfl⟩
  obtain ⟨m, hm⟩ : ∃ m, es.length = m := ⟨_, rfl⟩
  have Hn := Lib.hid hn; have Hm := Lib.hid hm
  have HA := Lib.hid hra; have HBr := Lib.hid hrb; have HdA := Lib.hid hda; have HdB := Lib.hid hdb
  rw [hn] at hla ⊢
  rw [hm] at hlb ⊢
  rw [hn, hm] at HM0
  clear hra hrb hda hdb hn hm hc1 hc2
  go_enter Tryz.func25, Tryz.ntmps25
  go_wp2_with (at_make; refine make_d rfl (.tmp 15) rfl w.heap.size _ _ (n + m + 1) rfl (by omega) (by omega) (Nat.le_refl _) _ rfl ?_)
  intro W0 hr0 hb0 _
  rw [← List.map_replicate] at hr0
  have Hr0 := Lib.hid hr0
  have HB0 := Lib.hid hb0
  clear hr0 hb0
  obtain ⟨O0, hO0⟩ : ∃ O, List.replicate (n + m + 1) 0 = O := ⟨_, rfl⟩
  rw [hO0] at HM0 Hr0
  obtain ⟨L, hL⟩ : ∃ L, n + m + 1 = L := ⟨_, rfl⟩
  rw [hL] at Hr0 ⊢
  clear hO0
  go_wp2_with fail
  go_loopw [6] (fun iv wr => ∃ (k : Nat) (O : List Nat), k ≤ n ∧ iv = .int .i64 (k : Int) ∧ Hid (Mo ds es k O) ∧ Hid (wr.ownsRow w.heap.size 3 1 (.slice (some ⟨w.heap.size, 0, none⟩) L L) L (O.map dgi)) ∧ Hid (Below w.heap.size w wr)) (fun iv _ => n - (intOf iv).toNat)
  case atStart => exact ⟨0, O0, by omega, rfl, HM0, Hr0, HB0⟩
  case round =>
    clear HM0 Hr0 HB0
    obtain ⟨k, O, hk, rfl, hM, hrow, hbel⟩ := hrel
    by_cases hlt : k < n
    · obtain ⟨ad1, rfl, hadl1, hca⟩ := HA.out k (by rw [Hn.out]; exact hlt)
      have hhigh := Lib.hid (mo_high hM.out HdA.out HdB.out (by rw [Hn.out]; exact hk))
      have hOl : Hid (k + es.length < O.length) := Lib.hid (by rw [hM.out.len, Hn.out, Hm.out]; omega)
      obtain ⟨x, hx⟩ : ∃ x, ds.getD k 0 = x := ⟨_, rfl⟩
      have hxl : x < 10000 := by rw [← hx]; exact HdA.out.getD k
      have Hxl := Lib.hid hxl
      rw [hx] at hca
      have Hx := Lib.hid hx
      obtain ⟨X, hX⟩ : ∃ X : Int, (x : Int) = X := ⟨_, rfl⟩
      rw [hX] at hca
      have HX := Lib.hid hX
      have Hca : Hid (∀ wz, Below w.heap.size w wz → wz.cell? (ad1.add k) = some (.int .i64 X)) := Lib.hid (fun wz h => (h.cell (by rw [add_block]; exact hadl1)).trans hca)
      have hP0 := Lib.hid (pm_zero (es := es) x k hM.out.dg)
      have ckn : (k : Int) < (n : Int) := by omega
      have ck0 : (0 : Int) ≤ (k : Int) := by omega
      clear hca hadl1 hx hxl hX
      go_wp2_with fail
      go_loopw [7, 8] (fun cv qv wr2 => ∃ (q c : Nat) (Ok : List Nat) (C : Int), q ≤ m + 1 ∧ cv = .int .i64 C ∧ qv = .int .i64 (q : Int) ∧ Hid (C = (c : Int)) ∧ Hid (Pm O es x k q Ok c) ∧ Hid (wr2.ownsRow w.heap.size 3 1 (.slice (some ⟨w.heap.size, 0, none⟩) L L) L (Ok.map dgi)) ∧ Hid (Below w.heap.size w wr2)) (fun _ qv _ => (m + 1) - (intOf qv).toNat)
      case atStart => exact ⟨0, 0, O, 0, by omega, rfl, rfl, Lib.hid rfl, hP0, hrow, hbel⟩
      case round =>
        clear hP0 hrow hbel
        obtain ⟨q, c, Ok, C, hq, rfl, rfl, hC, hP, hrow, hbel⟩ := hrel
        have hCe := hC.out
        clear hC
        have hc1 := hP.out.c1
        by_cases hqm : q < m
        · obtain ⟨ad2, rfl, hadl2, hcb⟩ := HBr.out q (by rw [Hm.out]; exact hqm)
          obtain ⟨hjl, hst⟩ := pm_step hP.out HdB.out Hxl.out hM.out.dg hhigh.out (by rw [Hm.out]; omega) hOl.out
          have hgO := hP.out.dg.getD (k + q)
          have hOkl : Ok.length = L := by have := hrow.out.1; rw [List.length_map] at this; omega
          have hcj := od_cell hrow.out (k + q) (by omega)
          have hfr := (od_block hrow.out).2.2 (k + q) (by omega)
          have hbg := (od_block hrow.out).1
          have hset := fun d => od_set hrow.out (k + q) d (by omega)
          obtain ⟨j, hj⟩ : ∃ j, k + q = j := ⟨_, rfl⟩
          rw [hj] at hjl hst hgO hcj hfr hset
          have hgb := HdB.out.getD q
          generalize es.getD q 0 = y at *
          generalize Ok.getD j 0 = v at *
          obtain ⟨V, hV⟩ : ∃ V : Int, (v : Int) = V := ⟨_, rfl⟩
          rw [hV] at hcj
          obtain ⟨Y, hY⟩ : ∃ Y : Int, (y : Int) = Y := ⟨_, rfl⟩
          rw [hY] at hcb
          have hcb1 : wr.cell? (ad2.add q) = some (.int .i64 Y) := (hbel.out.cell (by rw [add_block]; exact hadl2)).trans hcb
          have hca1 := Hca.out wr hbel.out
          have hmul : x * y ≤ 9999 * 9999 := Nat.mul_le_mul (by have := Hxl.out; omega) (by omega)
          obtain ⟨p, hp⟩ : ∃ p, x * y = p := ⟨_, rfl⟩
          rw [hp] at hst hmul
          obtain ⟨P, hPP⟩ : ∃ P : Int, (p : Int) = P := ⟨_, rfl⟩
          have hXY : X * Y = P := by rw [← HX.out, ← hY, ← hPP, ← hp, Int.natCast_mul]
          have hXYw : IntKind.i64.wrap (X * Y) = P := by rw [hXY]; exact IntWalk.i64_in _ ⟨by omega, by omega⟩
          have hPb0 : 0 ≤ P := by omega
          have hPb1 : P ≤ 99980001 := by omega
          obtain ⟨d, hd⟩ : ∃ d, (v + c + p) % 10000 = d := ⟨_, rfl⟩
          obtain ⟨r, hr⟩ : ∃ r, (v + c + p) / 10000 = r := ⟨_, rfl⟩
          rw [hd, hr] at hst
          obtain ⟨R, hR⟩ : ∃ R : Int, (r : Int) = R := ⟨_, rfl⟩
          have er : (V + C + P) % 10000 = (d : Int) := by omega
          have eq_ : (V + C + P).tdiv 10000 = R := by rw [Int.tdiv_eq_ediv_of_nonneg (by omega)]; omega
          have eq2_ : (V + C + P) / 10000 = R := by omega
          have hV0 : 0 ≤ V := by omega
          have hV1 : V < 10000 := by omega
          have hC0 : 0 ≤ C := by omega
          have hC1 : C < 10000 := by omega
          have hjs : (k : Int) + (q : Int) = (j : Int) := by omega
          have hj0 : (0 : Int) ≤ (j : Int) := by omega
          have hjL : (j : Int) < (L : Int) := by omega
          have hq0 : (0 : Int) ≤ (q : Int) := by omega
          have cqm : (q : Int) < (m : Int) := by omega
          have hRs := Lib.hid hR.symm
          have hst1 := Lib.hid hst
          have hrow2 := Lib.hid (hset d)
          have hbel2 : Hid (Below w.heap.size w (wr.setCell ⟨w.heap.size, j, none⟩ (.int .i64 (d : Int)))) := Lib.hid (hbel.out.setCell (p := ⟨w.heap.size, j, none⟩) hbg _)
          have hbel3 : Hid (∀ z, Below w.heap.size w ((wr.drewN z).setCell ⟨w.heap.size, j, none⟩ (.int .i64 (d : Int)))) := Lib.hid (fun z => (hbel.out.trans (below_drewN _ _ z)).setCell (p := ⟨w.heap.size, j, none⟩) hbg _)
          have hq1 : q + 1 ≤ m + 1 := by omega
          have hms : (m + 1) - (q + 1) < (m + 1) - q := by omega
          have had := add_zero_i w.heap.size j
          clear hset hst hbg hjl hgO hOkl hd hr hR hV hj hCe hc1 hP hrow hbel hY hp hPP hcb hadl2 hgb hmul hXY
          go_wp2_with fail
          go_quiet (fail)
          go_wp2_with fail
          go_roundw
          case rel => first | exact ⟨q + 1, r, _, R, hq1, rfl, by go_num, hRs, hst1, hrow2, hbel2⟩ | exact ⟨q + 1, r, _, R, hq1, rfl, by go_num, hRs, hst1, hrow2, Lib.hid (hbel3.out _)⟩
          case measure => simp [intOf]; omega
        · by_cases hc : 0 < c
          · obtain ⟨hjl, hst⟩ := pm_step hP.out HdB.out Hxl.out hM.out.dg hhigh.out (by rw [Hm.out]; omega) hOl.out
            have hgO := hP.out.dg.getD (k + q)
            have hOkl : Ok.length = L := by have := hrow.out.1; rw [List.length_map] at this; omega
            have hcj := od_cell hrow.out (k + q) (by omega)
            have hfr := (od_block hrow.out).2.2 (k + q) (by omega)
            have hbg := (od_block hrow.out).1
            have hset := fun d => od_set hrow.out (k + q) d (by omega)
            obtain ⟨j, hj⟩ : ∃ j, k + q = j := ⟨_, rfl⟩
            rw [hj] at hjl hst hgO hcj hfr hset
            have hb0 : es.getD q 0 = 0 := getD_big (by rw [Hm.out]; omega)
            simp only [hb0, Nat.mul_zero, Nat.add_zero] at hst
            generalize Ok.getD j 0 = v at *
            obtain ⟨V, hV⟩ : ∃ V : Int, (v : Int) = V := ⟨_, rfl⟩
            rw [hV] at hcj
            obtain ⟨d, hd⟩ : ∃ d, (v + c) % 10000 = d := ⟨_, rfl⟩
            obtain ⟨r, hr⟩ : ∃ r, (v + c) / 10000 = r := ⟨_, rfl⟩
            rw [hd, hr] at hst
            obtain ⟨R, hR⟩ : ∃ R : Int, (r : Int) = R := ⟨_, rfl⟩
            have er : (V + C) % 10000 = (d : Int) := by omega
            have eq_ : (V + C).tdiv 10000 = R := by rw [Int.tdiv_eq_ediv_of_nonneg (by omega)]; omega
            have eq2_ : (V + C) / 10000 = R := by omega
            have hV0 : 0 ≤ V := by omega
            have hV1 : V < 10000 := by omega
            have hC0 : 0 ≤ C := by omega
            have hC1 : C < 10000 := by omega
            have hjs : (k : Int) + (q : Int) = (j : Int) := by omega
            have hj0 : (0 : Int) ≤ (j : Int) := by omega
            have hjL : (j : Int) < (L : Int) := by omega
            have hq0 : (0 : Int) ≤ (q : Int) := by omega
            have cqm : ¬ (q : Int) < (m : Int) := by omega
            have hCp : 0 < C := by omega
            have hqm2 : q ≤ m := by
              rcases Nat.lt_or_ge m q with h | h
              · have := hP.out.fin (by rw [Hm.out]; exact h); omega
              · exact h
            have hRs := Lib.hid hR.symm
            have hst1 := Lib.hid hst
            have hrow2 := Lib.hid (hset d)
            have hbel2 : Hid (Below w.heap.size w (wr.setCell ⟨w.heap.size, j, none⟩ (.int .i64 (d : Int)))) := Lib.hid (hbel.out.setCell (p := ⟨w.heap.size, j, none⟩) hbg _)
            have hbel3 : Hid (∀ z, Below w.heap.size w ((wr.drewN z).setCell ⟨w.heap.size, j, none⟩ (.int .i64 (d : Int)))) := Lib.hid (fun z => (hbel.out.trans (below_drewN _ _ z)).setCell (p := ⟨w.heap.size, j, none⟩) hbg _)
            have hq1 : q + 1 ≤ m + 1 := by omega
            have hms : (m + 1) - (q + 1) < (m + 1) - q := by omega
            have had := add_zero_i w.heap.size j
            clear hset hst hbg hjl hgO hOkl hd hr hR hV hj hCe hc1 hP hrow hbel hb0
            go_wp2_with fail
            go_roundw
            case rel => first | exact ⟨q + 1, r, _, R, hq1, rfl, by go_num, hRs, hst1, hrow2, hbel2⟩ | exact ⟨q + 1, r, _, R, hq1, rfl, by go_num, hRs, hst1, hrow2, Lib.hid (hbel3.out _)⟩
            case measure => simp [intOf]; omega
          · have hc0 : c = 0 := by omega
            subst hc0
            have hC0 : C = 0 := by omega
            clear hCe
            subst hC0
            have cqm : ¬ (q : Int) < (m : Int) := by omega
            have hM2 : Hid (Mo ds es (k + 1) Ok) := Lib.hid (mo_step hM.out (by rw [Hx.out]; exact hP.out) (by rw [Hm.out]; omega))
            clear hP hc hM
            go_wp2_with fail
            go_roundw
            case rel => exact ⟨k + 1, Ok, by omega, by go_num, hM2, hrow, hbel⟩
            case measure => simp [intOf]; omega
    · obtain rfl : k = n := by omega
      have hval : dvl O = dvl ds * dvl es := by
        have h1 := hM.out.eq
        rwa [List.take_of_length_le (by rw [Hn.out]; exact Nat.le_refl _)] at h1
      have hxl : O.length = L := by have := hrow.out.1; rw [List.length_map] at this; omega
      have hou : OD w.heap.size wr (.slice (some ⟨w.heap.size, 0, none⟩) L L) O := by unfold OD; rw [hxl]; exact hrow.out
      have HT := Lib.hid (rtrim_own w.heap.size _ _ O wr hou hM.out.dg (by omega) hval)
      have ckn : ¬ (k : Int) < (k : Int) := by omega
      clear hval hou hrow hM hxl
      go_wp2_with fail
      refine HT.out.mono ?_
      rintro e w2 ⟨⟨v', rfl, hR⟩, rfl⟩
      have HR := Lib.hid hR
      clear hR HT
      go_wp2_with fail
      go_ret
      exact ⟨v', rfl, HR.out, hbel.out⟩
end Go.Proofs.YtggmnmmjmihnfaaGreatDoor
namespace Go.Proofs.YtggmnmmjmihnfaaGreatDoor
open Go.RowKit
set_option linter.unusedVariables false
theorem own_below {W W' : World} {b : Nat} {e : TypeId} {z : Nat} {v : Value} {n : Nat} {xs : List Value} (h : W.ownsRow b e z v n xs) (hb : Below W.heap.size W W') : W'.ownsRow b e z v n xs :=
  h.kept (grown_below hb (Nat.le_refl _)) (by
    cases hv : v.ownBlock with
    | none => exact .inl rfl
    | some g => exact .inr (by simp))
theorem rsub_num (M N : Nat) (va vb : Value) (w : World) (ha : RN w va M) (hb : RN w vb N) (hM : M < 10000 ^ 9000) (hle : N ≤ M) :
    Calls Tryz.prog 76 #[va, vb] w (GotR (M - N) w) := by
  obtain ⟨ds, h1, h2, h3, rfl⟩ := ha
  obtain ⟨es, k1, k2, k3, rfl⟩ := hb
  exact rsub_any va vb ds es w h1 k1 h2 k2 (by have := trm_len h3 hM; omega) (trm_len k3 (Nat.lt_of_le_of_lt hle (dvl_lt h2))) hle
theorem rmul_num (M N : Nat) (va vb : Value) (w : World) (ha : RN w va M) (hb : RN w vb N) (hM : M < 10000 ^ 9000) (hN : N < 10000 ^ 9000) :
    Calls Tryz.prog 25 #[va, vb] w (GotR (M * N) w) := by
  obtain ⟨ds, h1, h2, h3, rfl⟩ := ha
  obtain ⟨es, k1, k2, k3, rfl⟩ := hb
  exact rmul_dig va vb ds es w h1 k1 h2 k2 (by have := trm_len h3 hM; omega) (by have := trm_len k3 hN; omega)
/-- A digit, as a row of the call's own. -/
theorem od_lit (B : Nat) (W : World) (d : Nat) (hB : B ≤ W.heap.size) : OD B (W.alloc (.cells #[.int .i64 (d : Int)] 3)) (.slice (some ⟨W.heap.size, 0, none⟩) 1 1) [d] :=
  ⟨rfl, .inr ⟨W.heap.size, 1, #[.int .i64 (d : Int)], rfl, hB, Blk.new W _ _, Nat.le_refl _, by unfold maxLen; omega, rfl, rfl⟩⟩
theorem below_litR (W : World) (o : Obj) : Below W.heap.size W (W.alloc o) := (Below.refl _ _).alloc (Nat.le_refl _) _
/-- A number times a digit that is written as a row. -/
theorem mul_lit (M d : Nat) (va : Value) (W : World) (ha : RN W va M) (hM : M < 10000 ^ 9000) (hd : d < 10000) :
    Calls Tryz.prog 25 #[va, .slice (some ⟨W.heap.size, 0, none⟩) 1 1] (W.alloc (.cells #[.int .i64 (d : Int)] 3)) fun e w' => ∃ v, e = .returned v ∧ RN w' v (M * d) ∧ Below W.heap.size W w' := by
  obtain ⟨ds, h1, h2, h3, rfl⟩ := ha
  have hl := below_litR W (.cells #[.int .i64 (d : Int)] 3)
  refine (rmul_dig va _ ds [d] _ (h1.below hl (Nat.le_refl _)) (od_rd (od_lit W.heap.size W d (Nat.le_refl _))) h2 (fun x hx => by simp at hx; omega) (by have := trm_len h3 hM; omega) (by simp)).mono fun e w' h => ?_
  obtain ⟨v, h4, h5, h6⟩ := h
  refine ⟨v, h4, ?_, hl.trans (h6.mono hl.size)⟩
  have e : dvl [d] = d := by simp [dvl]
  rwa [e] at h5
/-- The same, behind trim. -/
theorem trim_lit (d : Nat) (W : World) (hd : d < 10000) :
    Calls Tryz.prog 62 #[.slice (some ⟨W.heap.size, 0, none⟩) 1 1] (W.alloc (.cells #[.int .i64 (d : Int)] 3)) fun e w' => ∃ v, e = .returned v ∧ RN w' v d ∧ Below W.heap.size W w' := by
  refine (rtrim_own W.heap.size d _ [d] _ (od_lit W.heap.size W d (Nat.le_refl _)) (fun x hx => by simp at hx; omega) (by simp) (by simp [dvl])).mono fun e w' h => ?_
  obtain ⟨⟨v, h1, h2⟩, rfl⟩ := h
  exact ⟨v, h1, h2, below_litR W _⟩
/-- A digit ahead of a row. -/
theorem prepend_d {ops : Array Oper} {rest : List Oper} {o : Oper} {a : Act} {Q : Exit → Act → World → Prop} (hgd : o.guard = none) (s x : Operand)
    (ho : o.op = .call { callee := .builtin .append, args := #[s, x], argTypes := #[32, 32] }) (W : World) (d : Nat) (rv : Value) (R : Nat) (g : Nat) (hg : W.heap.size = g)
    (hs : a.eval s = .slice (some ⟨g, 0, none⟩) 1 1) (hx : a.eval x = rv) (hr : RN W rv R) (hR : R < 10000 ^ 9000) (hd : d < 10000)
    (h : ∀ v' W' xs, OD W.heap.size W' v' xs → Dg xs → xs.length ≤ 10000 → dvl xs = d + 10000 * R → Below W.heap.size W W' → wpList Tryz.prog ops Q rest (a.put o.dst v') W') :
    wpList Tryz.prog ops Q (o :: rest) a (W.alloc (.cells #[.int .i64 (d : Int)] 3)) := by
  subst hg
  obtain ⟨rs, ⟨ra, rc, rfl, hrc, hrr, hrz⟩, hrd, hrt, rfl⟩ := hr
  obtain ⟨i0, hi, hz0, hz1, hz2⟩ := info_parts Tryz.infoI
  have hlen := trm_len hrt hR
  have hown := od_lit W.heap.size W d (Nat.le_refl _)
  have hl := below_litR W (.cells #[.int .i64 (d : Int)] 3)
  have hdg : Dg (d :: rs) := fun y hy => by
    rcases List.mem_cons.1 hy with rfl | hy
    · exact hd
    · exact hrd y hy
  cases ra with
  | none =>
    have h0 : rs = [] := by
      cases rs with
      | nil => rfl
      | cons y t => obtain ⟨ad, he, _⟩ := hrr 0 (by simp); cases he
    subst h0
    obtain rfl := hrz rfl
    have hr := run_append_owned_none (P := Tryz.prog) (w := W.alloc (.cells #[.int .i64 (d : Int)] 3)) W.heap.size 32 o.type 3 i0 1 Tryz.underR hi _ _ _ hown
    refine wpList_plain hgd fun _ hK => ?_
    unfold Oper.wp execOp
    simp only [List.length_nil] at hx
    simp only [ho, resolve, invoke, builtin, Sem.run_bind, Sem.run_pure, Result.andThen_ok, List.map_toArray, List.map_cons, List.map_nil, hs, hx, hr]
    exact hK _ _ (h _ _ [d] hown hdg (by simp) (by simp [dvl]) hl)
  | some ad =>
    refine wpList_append_own _ hgd s x 32 ho W.heap.size 3 i0 (.int .i64 0) 1 8 Tryz.underR hi hz0 hz1 hz2 rfl (by decide) _ 1 _ hs hown ad rs.length rc (rs.map dgi) hx (by simp) ?_ (dgi_one rs) (by unfold maxLen; omega) (by omega) hl.size ?_
    · intro j y hj
      rw [List.getElem?_map] at hj
      have hjl : j < rs.length := by
        rcases Nat.lt_or_ge j rs.length with h1 | h1
        · exact h1
        · rw [List.getElem?_eq_none h1] at hj; cases hj
      obtain ⟨ad', he, hlt, hc⟩ := hrr j hjl
      cases he
      rw [List.getElem?_eq_getElem hjl] at hj
      cases hj
      rw [hl.cell (by rw [add_block]; exact hlt), hc, List.getD_eq_getElem?_getD, List.getElem?_eq_getElem hjl]
      rfl
    · intro v' W' h1 h2 _
      refine h v' W' (d :: rs) ?_ hdg (by simp; omega) rfl (hl.grown h2 hl.size (fun k hk => ?_))
      · unfold OD
        rw [List.length_cons, Nat.add_comm]
        exact h1
      · simp only [Value.ownBlock, Option.some.injEq] at hk
        omega
/-- A slice that lies at B or behind. -/
def Aft (B : Nat) (v : Value) : Prop := ∀ ad n c, v = .slice (some ad) n c → B ≤ ad.block
theorem rtrim_aft (B S : Nat) (v : Value) (ds : List Nat) (w : World) (h : OD B w v ds) (hd : Dg ds) (hl : ds.length ≤ 1000000) (hS : dvl ds = S) :
    Calls Tryz.prog 62 #[v] w fun e w' => (∃ v', e = .returned v' ∧ RN w' v' S ∧ Aft B v') ∧ w = w' := by
  have hrd := od_rd h
  obtain ⟨a, c, rfl, hc, hr, hz⟩ := hrd
  have hA : ∀ ad, a = some ad → B ≤ ad.block := fun ad he => by
    subst he
    rcases h.2 with ⟨hv, _⟩ | ⟨g, cap, cur, hv, hbg, _⟩
    · cases hv
    · cases hv; exact hbg
  refine (rtrim_slot a c ds w hr hl hc).mono fun e w' ⟨h1, h2⟩ => ?_
  subst h2
  refine ⟨⟨_, h1, ⟨ds.take (tlen ds ds.length), ⟨a, c, ?_, ?_, hr.take _, hz⟩, hd.take _, trm_take ds (Nat.le_refl _), by rw [tlen_dvl ds _ (Nat.le_refl _), List.take_length, hS]⟩, fun ad n c' he => ?_⟩, rfl⟩
  · have := tlen_le ds ds.length
    rw [List.length_take, Nat.min_eq_left this]
  · rw [List.length_take]; omega
  · cases he; exact hA _ rfl
theorem rn_set {W : World} {v : Value} {N B g i : Nat} {u : Value} (h : RN W v N) (hf : Aft B v) (hg : g < B) : RN (W.setCell ⟨g, i, none⟩ u) v N := by
  obtain ⟨ds, ⟨a, c, rfl, hc, hr, hz⟩, h2⟩ := h
  refine ⟨ds, ⟨a, c, rfl, hc, fun j hj => ?_, hz⟩, h2⟩
  obtain ⟨ad, rfl, hlt, hcl⟩ := hr j hj
  refine ⟨ad, rfl, by simpa using hlt, ?_⟩
  rw [World.cell?_setCell_other _ _ _ _ (fun e => ?_)]
  · exact hcl
  · have := congrArg Addr.block e
    rw [add_block] at this
    have h3 := hf ad _ _ rfl
    simp at this
    omega
theorem pow_up {x : Nat} (j k : Nat) (h : x < 10000 ^ j) (hk : j ≤ k) : x < 10000 ^ k := Nat.lt_of_lt_of_le h (Nat.pow_le_pow_right (by decide) hk)
theorem pow_step {x R B : Nat} (j : Nat) (hx : x < 10000) (hR : R < B) (hB : B < 10000 ^ j) : x + 10000 * R < 10000 ^ (j + 1) := by
  rw [Nat.pow_succ]
  generalize 10000 ^ j = p at *
  omega
theorem pow_mul {m B : Nat} (j : Nat) (hm : m < 10000) (hB : B < 10000 ^ j) : B * m < 10000 ^ (j + 1) := by
  rw [Nat.pow_succ]
  exact Nat.mul_lt_mul'' hB hm
end Go.Proofs.YtggmnmmjmihnfaaGreatDoor
namespace Go.Proofs.YtggmnmmjmihnfaaGreatDoor
open Go.RowKit
set_option linter.unusedVariables false
def RDivIs (M B : Nat) (w : World) (e : Ending) (w' : World) : Prop := ∃ v1 v2, e = .returned (.tuple #[v1, v2]) ∧ RN w' v1 (M / B) ∧ RN w' v2 (M % B) ∧ Below w.heap.size w w'
theorem set_head (k : Nat) (qs : List Nat) (d : Nat) : (List.replicate (k + 1) 0 ++ qs).set k d = List.replicate k 0 ++ (d :: qs) := by
  induction k with
  | zero => rfl
  | succ k ih =>
    rw [List.replicate_succ, List.cons_append, List.set_cons_succ, ih]
    rfl
/-- What the inner search keeps: the digit lies between. -/
structure Bs (R B l h : Nat) : Prop where
  lo : l ≤ R / B
  hi : R / B ≤ h
  top : h < 10000
theorem bs_up {R B l h m : Nat} (hb : Bs R B l h) (hB : 0 < B) (hm : B * m ≤ R) : Bs R B m h := ⟨by rw [Nat.le_div_iff_mul_le hB, Nat.mul_comm]; exact hm, hb.hi, hb.top⟩
theorem bs_down {R B l h m : Nat} (hb : Bs R B l h) (hB : 0 < B) (hm : R < B * m) (hmh : m ≤ h) : Bs R B l (m - 1) := by
  have h1 : R / B < m := by rw [Nat.div_lt_iff_lt_mul hB, Nat.mul_comm]; exact hm
  have h2 := hb.top
  exact ⟨hb.lo, by omega, by omega⟩
theorem bs_zero {R B : Nat} (h : R / B < 10000) : Bs R B 0 9999 := ⟨Nat.zero_le _, by omega, by omega⟩
theorem bs_done {R B l h : Nat} (hb : Bs R B l h) (hlh : h ≤ l) : l = R / B := by have := hb.lo; have := hb.hi; omega
set_option maxRecDepth 100000 in
set_option maxHeartbeats 4000000 in
theorem rdiv_any (B : Nat) (va vb : Value) (ds : List Nat) (w : World) (ha : RD w va ds) (hda : Dg ds) (hla : ds.length ≤ 10000) (hb : RN w vb B) (hB0 : 0 < B) (hB : B < 10000 ^ 2000) :
    Calls Tryz.prog 38 #[va, vb] w (RDivIs (dvl ds) B w) := by
  obtain ⟨a1, c1, rfl, hc1, hra, _⟩ := ha
  have HQ0 := Lib.hid (qv_zero (ds := ds) hB0)
  obtain ⟨n, hn⟩ : ∃ n, ds.length = n := ⟨_, rfl⟩
  have Hn := Lib.hid hn
  have HA := Lib.hid hra; have HdA := Lib.hid hda; have HVB := Lib.hid hb
  have HB0 := Lib.hid hB0; have HBB := Lib.hid hB
  rw [hn] at hla HQ0 ⊢
  clear hra hda hn hc1 hb hB0 hB
  go_enter Tryz.func38, Tryz.ntmps38
  go_wp2_with (at_make; refine make_d rfl (.tmp 13) rfl w.heap.size _ _ n rfl (by omega) (by omega) (Nat.le_refl _) _ rfl ?_)
  intro W0 hr0 hb0 _
  rw [← List.map_replicate] at hr0
  have Hr0 : Hid (W0.ownsRow w.heap.size 3 1 (.slice (some ⟨w.heap.size, 0, none⟩) n n) n ((List.replicate n 0 ++ []).map dgi)) := Lib.hid (by rw [List.append_nil]; exact hr0)
  have HbW := Lib.hid hb0
  have HR0 : Hid (RN W0 (.slice none 0 0) 0) := Lib.hid ⟨[], rd_nil W0, fun d h => by simp at h, trm_nil, rfl⟩
  have hwn : IntKind.i64.wrap ((n : Int) - 1) = (n : Int) - 1 := IntWalk.i64_in _ ⟨by omega, by omega⟩
  clear hr0 hb0
  go_wp2_with fail
  go_loopw [7, 8] (fun rv iv wr => ∃ (k : Nat) (z : Int) (R : Nat) (qs : List Nat), k ≤ n ∧ z = (k : Int) - 1 ∧ iv = .int .i64 z ∧ Hid (Qv ds B k qs R) ∧ Hid (RN wr rv R) ∧ Hid (wr.ownsRow w.heap.size 3 1 (.slice (some ⟨w.heap.size, 0, none⟩) n n) n ((List.replicate k 0 ++ qs).map dgi)) ∧ Hid (Below w.heap.size w wr)) (fun _ iv _ => (intOf iv + 1).toNat)
  case atStart => exact ⟨n, _, 0, [], Nat.le_refl _, rfl, rfl, HQ0, HR0, Hr0, HbW⟩
  case round =>
    clear HQ0 HR0 Hr0 HbW
    obtain ⟨k, z, R, qs, hk, hz, rfl, hQ, hR, hrow, hbel⟩ := hrel
    cases k with
    | zero =>
      have hzn : ¬ (0 : Int) ≤ z := by omega
      clear hz
      have hfin := qv_done hQ.out HB0.out
      have hql : qs.length = n := by have := hQ.out.len; rw [Hn.out] at this; omega
      have hou : OD w.heap.size wr (.slice (some ⟨w.heap.size, 0, none⟩) n n) qs := by
        unfold OD
        rw [hql]
        have := hrow.out
        simpa using this
      have HT := Lib.hid (rtrim_own w.heap.size _ _ qs wr hou hQ.out.dg (by omega) hfin.1)
      have HR2 := Lib.hid (show RN wr _ (dvl ds % B) from hfin.2 ▸ hR.out)
      clear hfin hql hou hrow hQ hR
      go_wp2_with fail
      refine HT.out.mono ?_
      rintro e w2 ⟨⟨v', rfl, hRq⟩, rfl⟩
      have HRq := Lib.hid hRq
      clear hRq HT
      go_wp2_with fail
      go_ret2
      exact ⟨v', _, rfl, HRq.out, HR2.out, hbel.out⟩
    | succ k =>
      obtain rfl : z = (k : Int) := by omega
      clear hz
      obtain ⟨ad1, rfl, hadl1, hca⟩ := HA.out k (by rw [Hn.out]; omega)
      have hca1 := (hbel.out.cell (p := ad1.add k) (by rw [add_block]; exact hadl1)).trans hca
      have hst := qv_step hQ.out HdA.out HB0.out (by rw [Hn.out]; omega)
      have hnx := qv_next hQ.out HdA.out HB0.out
      have hxl := HdA.out.getD k
      have hRlt := hQ.out.lt
      generalize ds.getD k 0 = x at *
      have Hxl := Lib.hid hxl
      have HR9 : Hid (R < 10000 ^ 9000) := Lib.hid (pow_up 2000 9000 (Nat.lt_trans hRlt HBB.out) (by decide))
      have HR19 := Lib.hid (pow_up (2000 + 1) 9000 (pow_step 2000 hxl hRlt HBB.out) (by decide))
      have hi0 : (0 : Int) ≤ (k : Int) := by omega
      have hi1 : (k : Int) < (n : Int) := by omega
      have HS0 := Lib.hid (bs_zero hnx)
      have Hst := Lib.hid hst
      clear hca hadl1 hst hnx hxl hRlt hQ
      go_wp2_with (at_builtin; refine prepend_d rfl (.tmp 26) (.tmp 27) rfl _ x _ R _ rfl rfl rfl hR.out HR9.out Hxl.out ?_)
      intro v1 W1 xs ho1 hdg1 hl1 he1 hb1
      have HT := Lib.hid (rtrim_aft _ (x + 10000 * R) v1 xs W1 ho1 hdg1 (by omega) he1)
      have hqb := (od_block hrow.out).2.1
      have HB1 := Lib.hid (hbel.out.trans (hb1.mono hbel.out.size))
      have HQ1 := Lib.hid (own_below hrow.out hb1)
      obtain ⟨a0, c0, hv0, _, _⟩ := od_form ho1
      subst hv0
      clear ho1 hdg1 hl1 he1 hb1 hrow hbel hR hca1
      go_wp2_with fail
      refine HT.out.mono ?_
      rintro e W2 ⟨⟨v2, rfl, hR1, hA1⟩, rfl⟩
      have HR1 := Lib.hid hR1
      have HA1 := Lib.hid hA1
      have Hqb := Lib.hid hqb
      clear hR1 HT hA1 hqb
      obtain ⟨R1, hR1⟩ : ∃ R1, x + 10000 * R = R1 := ⟨_, rfl⟩
      rw [hR1] at HR1 HR19 HS0 Hst
      clear hR1
      go_wp2_with fail
      go_loopw [9, 10] (fun lv hv wr => ∃ (l h : Nat), lv = .int .i64 (l : Int) ∧ hv = .int .i64 (h : Int) ∧ l ≤ h ∧ h ≤ 9999 ∧ Hid (Bs R1 B l h) ∧ Hid (Below W1.heap.size W1 wr)) (fun lv hv _ => (intOf hv).toNat - (intOf lv).toNat)
      case atStart => exact ⟨0, 9999, rfl, rfl, by omega, by omega, HS0, Lib.hid (Below.refl _ _)⟩
      case round =>
        clear HS0
        obtain ⟨l, h, rfl, rfl, hlh, hh9, hbs, hbel⟩ := hrel
        by_cases hlt : l < h
        · obtain ⟨m, hm⟩ : ∃ m, (l + h + 1) / 2 = m := ⟨_, rfl⟩
          have hm1 : l < m := by omega
          have hm2 : m ≤ h := by omega
          have et : ((l : Int) + (h : Int) + 1).tdiv 2 = (m : Int) := by rw [Int.tdiv_eq_ediv_of_nonneg (by omega)]; omega
          have et2 : ((l : Int) + (h : Int) + 1) / 2 = (m : Int) := by omega
          have hlti : (l : Int) < (h : Int) := by omega
          have HMul := Lib.hid (mul_lit B m _ wr (HVB.out.below (HB1.out.trans (hbel.out.mono HB1.out.size)) (Nat.le_refl _)) (pow_up 2000 9000 HBB.out (by decide)) (by omega))
          have HCmp : Hid (∀ v W, RN W v (B * m) → Below wr.heap.size wr W → Calls Tryz.prog 30 #[v, v2] W (CmpIs (B * m) R1 W)) := Lib.hid (fun v W h1 h2 => rcmp_any (B * m) R1 v v2 W h1 (HR1.out.below (hbel.out.trans (h2.mono hbel.out.size)) (Nat.le_refl _)) (pow_up (2000 + 1) 9000 (pow_mul 2000 (by omega) HBB.out) (by decide)) HR19.out)
          clear hm
          go_wp2_with fail
          refine HMul.out.mono ?_
          rintro e w3 ⟨v3, rfl, hN3, hb3⟩
          have HC3 := Lib.hid (HCmp.out v3 w3 hN3 hb3)
          have Hb3 := Lib.hid hb3
          clear hN3 hb3 HMul HCmp
          by_cases hle : B * m ≤ R1
          · have hci : cmpI (B * m) R1 ≤ 0 := by
              unfold cmpI
              split
              · omega
              · rw [if_neg (by omega)]; omega
            obtain ⟨ci, hci2⟩ : ∃ ci, cmpI (B * m) R1 = ci := ⟨_, rfl⟩
            have Hbs := Lib.hid (bs_up hbs.out HB0.out hle)
            have Hci := Lib.hid hci2
            rw [hci2] at hci
            clear hci2 hle
            go_wp2_with fail
            refine HC3.out.mono ?_
            rintro e w4 ⟨rfl, hb4⟩
            have Hb4 := Lib.hid (hbel.out.trans ((Hb3.out.trans (hb4.mono Hb3.out.size)).mono hbel.out.size))
            rw [Hci.out]
            clear hb4
            go_wp2_with fail
            go_roundw
            case rel => exact ⟨m, h, rfl, rfl, hm2, hh9, Hbs, Hb4⟩
            case measure => simp [intOf]; omega
          · have hci : ¬ cmpI (B * m) R1 ≤ 0 := by rw [cmpI_gt (by omega)]; omega
            obtain ⟨ci, hci2⟩ : ∃ ci, cmpI (B * m) R1 = ci := ⟨_, rfl⟩
            have Hbs := Lib.hid (bs_down hbs.out HB0.out (m := m) (by omega) hm2)
            have Hci := Lib.hid hci2
            rw [hci2] at hci
            have hmn : ((m - 1 : Nat) : Int) = (m : Int) - 1 := by omega
            have hmw : IntKind.i64.wrap ((m : Int) - 1) = (m : Int) - 1 := IntWalk.i64_in _ ⟨by omega, by omega⟩
            have Hmn := Lib.hid hmn
            clear hci2 hle hmn
            go_wp2_with fail
            refine HC3.out.mono ?_
            rintro e w4 ⟨rfl, hb4⟩
            have Hb4 := Lib.hid (hbel.out.trans ((Hb3.out.trans (hb4.mono Hb3.out.size)).mono hbel.out.size))
            rw [Hci.out]
            clear hb4
            go_wp2_with fail
            go_roundw
            case rel => exact ⟨l, m - 1, rfl, by rw [Hmn.out], by omega, by omega, Hbs, Hb4⟩
            case measure => simp [intOf]; omega
        · obtain rfl : l = h := by omega
          have hlq := bs_done hbs.out (Nat.le_refl _)
          have Hst2 := Hst.out
          rw [← hlq] at Hst2
          have hl9 : l < 10000 := by omega
          have hBl : B * l ≤ R1 := by rw [hlq]; exact Nat.mul_div_le R1 B
          have Hst3 := Lib.hid Hst2
          have hrow2 := own_below HQ1.out hbel.out
          have hset := od_set hrow2 k l (by omega)
          rw [set_head] at hset
          have hcj := od_cell hrow2 k (by have := hrow2.1; rw [List.length_map] at this; omega)
          have hfr := (od_block hrow2).2.2 k (by omega)
          obtain ⟨W3, hW3⟩ : ∃ W3, wr.setCell ⟨w.heap.size, k, none⟩ (.int .i64 (l : Int)) = W3 := ⟨_, rfl⟩
          have hR3 := rn_set (i := k) (u := .int .i64 (l : Int)) (HR1.out.below hbel.out (Nat.le_refl _)) HA1.out Hqb.out
          have hb3 : Below w.heap.size w (wr.setCell ⟨w.heap.size, k, none⟩ (.int .i64 (l : Int))) := (HB1.out.trans (hbel.out.mono HB1.out.size)).setCell (p := ⟨w.heap.size, k, none⟩) (Nat.le_refl _) _
          rw [hW3] at hset hR3 hb3
          have HW3 := Lib.hid hW3
          have HR3 := Lib.hid hR3; have Hb3 := Lib.hid hb3; have Hset := Lib.hid hset
          have hlti : ¬ (l : Int) < (l : Int) := by omega
          have had := add_zero_i w.heap.size k
          have HTl := Lib.hid (trim_lit l W3 hl9)
          have HBl := Lib.hid hBl
          have HBl9 : Hid (B * l < 10000 ^ 9000) := Lib.hid (Nat.lt_of_le_of_lt hBl HR19.out)
          have Hl9 : Hid (l < 10000 ^ 9000) := Lib.hid (pow_up 1 9000 (by omega) (by decide))
          clear hbs hrow2 hlq hR3 hb3 hset hBl hbel
          go_wp2_with fail
          refine HTl.out.mono ?_
          rintro e w5 ⟨v5, rfl, hN5, hb5⟩
          have HM5 := Lib.hid (rmul_num B l _ v5 w5 ((HVB.out.below Hb3.out (Nat.le_refl _)).below hb5 (Nat.le_refl _)) hN5 (pow_up 2000 9000 HBB.out (by decide)) Hl9.out)
          have Hb5 := Lib.hid hb5
          clear hN5 hb5 HTl hW3
          go_wp2_with fail
          refine HM5.out.mono ?_
          rintro e w6 ⟨v6, rfl, hN6, hb6⟩
          have HS6 := Lib.hid (rsub_num R1 (B * l) v2 v6 w6 ((HR3.out.below Hb5.out (Nat.le_refl _)).below hb6 (Nat.le_refl _)) hN6 HR19.out HBl.out)
          have Hb6 := Lib.hid (Hb5.out.trans (hb6.mono Hb5.out.size))
          clear hN6 hb6 HM5
          go_wp2_with fail
          refine HS6.out.mono ?_
          rintro e w7 ⟨v7, rfl, hN7, hb7⟩
          have hb37 := Hb6.out.trans (hb7.mono Hb6.out.size)
          have HR7 := Lib.hid hN7
          have Hb7 := Lib.hid (Hb3.out.trans (hb37.mono Hb3.out.size))
          have Hq7 := Lib.hid (own_below Hset.out hb37)
          clear hN7 hb7 hb37 HS6 hcj hfr
          go_wp2_with fail
          go_roundw
          case rel => exact ⟨k, _, _, _, by omega, rfl, by go_num, Hst3, HR7, Hq7, Hb7⟩
          case measure => simp [intOf] <;> omega
end Go.Proofs.YtggmnmmjmihnfaaGreatDoor
