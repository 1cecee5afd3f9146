/-
  Law 1: words times a word and a carry, in place.
-/
import Derived.Test.YtllmacokhjmdgaaGreatDoorNWords
import Derived.Laws.Externs
namespace Go.Proofs.YtllmacokhjmdgaaGreatDoor
open Go.RowKit
set_option linter.unusedVariables false
theorem run_add64c (x y c : Nat) (hc : c ≤ 1) (w : World) :
    (callFunc 104 #[.int .u64 (x : Int), .int .u64 (y : Int), .int .u64 (c : Int)]).run Tryz.prog w =
      .ok (.value (.tuple #[.int .u64 (((x + y + c) % 18446744073709551616 : Nat) : Int), .int .u64 (((x + y + c) / 18446744073709551616 : Nat) : Int)])) w := by
  rw [run_callFunc_extern Tryz.func104 (by kernel_rfl) (by kernel_rfl) (by kernel_rfl) (e := add64Entry) (by kernel_rfl), run_add64 x y c (by omega) (by omega) (by omega) (by omega)]
  simp only [Result.andThen]
  congr 5 <;> omega
def uv (u : Nat) : Value := .int .u64 (u : Int)
theorem Tryz.infoU : (Tryz.prog.info? 22).map (fun i => (i.zero, i.size, i.bytes)) = some (some (.int .u64 0), 1, 8) := by kernel_rfl
theorem uv_one (us : List Nat) : ∀ v ∈ us.map uv, v.oneCell' = true := by
  intro v hv
  obtain ⟨u, _, rfl⟩ := List.mem_map.1 hv
  rfl
/-- A row of the call's own: words. -/
def OU (B : Nat) (w : World) (v : Value) (us : List Nat) : Prop := w.ownsRow B 22 1 v us.length (us.map uv)
theorem ou_form {B : Nat} {w : World} {v : Value} {us : List Nat} (h : OU B w v us) : ∃ a c, v = .slice a us.length c ∧ us.length ≤ c ∧ (us = [] ∨ ∃ g, a = some ⟨g, 0, none⟩) := by
  rcases h.2 with ⟨rfl, h0⟩ | ⟨g, cap, cur, rfl, _, _, hnc, _⟩
  · exact ⟨none, 0, by rw [h0], by omega, .inl (List.eq_nil_of_length_eq_zero h0)⟩
  · exact ⟨_, _, rfl, hnc, .inr ⟨g, rfl⟩⟩
theorem add_zero_off (g k : Nat) : (⟨g, 0, none⟩ : Addr).add k = ⟨g, k, none⟩ := by cases k with
  | zero => rfl
  | succ k => simp [Addr.add]
theorem ou_cell {B : Nat} {w : World} {g n c : Nat} {us : List Nat} (h : w.ownsRow B 22 1 (.slice (some ⟨g, 0, none⟩) n c) n (us.map uv)) (i : Nat) (hi : i < us.length) :
    w.cell? ((⟨g, 0, none⟩ : Addr).add i) = some (.int .u64 ((us.getD i 0 : Nat) : Int)) := by
  rcases h.2 with ⟨hv, _⟩ | ⟨g', cap', cur, hv, hbg, hg, hnc, _, hsz, htk⟩
  · cases hv
  · cases hv
    have hl : us.length = n := by have := h.1; rw [List.length_map] at this; omega
    have e2 : (⟨g, 0, none⟩ : Addr).add i = ⟨g, i, none⟩ := by unfold Addr.add; split <;> simp_all
    have hu : (us.map uv)[i]? = some (.int .u64 ((us.getD i 0 : Nat) : Int)) := by rw [List.getElem?_map, List.getElem?_eq_getElem hi, List.getD_eq_getElem?_getD, List.getElem?_eq_getElem hi]; rfl
    rw [← htk, List.getElem?_take, if_pos (by omega)] at hu
    rw [e2, cell_of_row w g i cur 22 (0, 0) hg, ← Array.getElem?_toList]
    exact hu
theorem ou_ur {B : Nat} {w : World} {v : Value} {us : List Nat} (h : OU B w v us) : ∃ a c, v = .slice a us.length c ∧ us.length ≤ c ∧ UR w a us := by
  obtain ⟨a, c, rfl, hc, ha⟩ := ou_form h
  refine ⟨a, c, rfl, hc, fun i hi => ?_⟩
  rcases ha with rfl | ⟨g, rfl⟩
  · simp at hi
  · have := ou_cell h i hi
    exact ⟨_, rfl, by rw [← add_block ⟨g, 0, none⟩ i]; exact World.block_lt_of_cell? w _ this, this⟩
/-- A word of a row is written. -/
theorem ou_set {B : Nat} {w : World} {g n c : Nat} {us : List Nat} (h : w.ownsRow B 22 1 (.slice (some ⟨g, 0, none⟩) n c) n (us.map uv)) (i x : Nat) (hi : i < n) :
    (w.setCell ⟨g, i, none⟩ (.int .u64 (x : Int))).ownsRow B 22 1 (.slice (some ⟨g, 0, none⟩) n c) n ((us.set i x).map uv) := by
  rcases h.2 with ⟨hv, _⟩ | ⟨g', cap', cur, hv, hbg, hg, hnc, hm, hsz, htk⟩
  · cases hv
  · cases hv
    refine ⟨by rw [List.length_map, List.length_set]; have := h.1; rwa [List.length_map] at this, .inr ⟨g, c, cur.setIfInBounds i (.int .u64 (x : Int)), rfl, hbg, ?_, hnc, hm, by rw [Array.size_setIfInBounds]; exact hsz, ?_⟩⟩
    · simp [World.setCell, Array.getElem?_modify, hg]
    · rw [Array.toList_setIfInBounds, List.take_set, htk, List.map_set]
      rfl
theorem ou_block {B : Nat} {w : World} {g n c : Nat} {us : List Nat} (h : w.ownsRow B 22 1 (.slice (some ⟨g, 0, none⟩) n c) n (us.map uv)) : B ≤ g ∧ g < w.heap.size ∧ ∀ i, i < n → w.frozen? ⟨g, i, none⟩ = false := by
  rcases h.2 with ⟨hv, _⟩ | ⟨g', cap', cur, hv, hbg, hg, _⟩
  · cases hv
  · cases hv
    exact ⟨hbg, (Array.getElem?_eq_some_iff.1 hg).1, fun i _ => Blk.frozen (cs := cur) hg i⟩
theorem push_u {ops : Array Oper} {rest : List Oper} {o : Oper} {a : Act} {Q : Exit → Act → World → Prop} (hgd : o.guard = none) (s x : Operand)
    (ho : o.op = .call { callee := .builtin .append, args := #[s, x], argTypes := #[24, 24] }) (B : Nat) (W : World) (v : Value) (us : List Nat) (u : Nat)
    (hs : a.eval s = v) (hown : OU B W v us) (hB : B ≤ W.heap.size) (g : Nat) (hgW : W.heap.size = g) (hx : a.eval x = .slice (some ⟨g, 0, none⟩) 1 1) (hlen : us.length ≤ 1000000)
    (h : ∀ v' W', OU B W' v' (us ++ [u]) → (W.alloc (.cells #[.int .u64 (u : Int)] 22)).grownBy W' v.ownBlock → Below B W W' → wpList Tryz.prog ops Q rest (a.put o.dst v') W') :
    wpList Tryz.prog ops Q (o :: rest) a (W.alloc (.cells #[.int .u64 (u : Int)] 22)) := by
  obtain ⟨i0, hi, hz0, hz1, hz2⟩ := info_parts Tryz.infoU
  subst hgW
  have hl := hown.lt
  have hB' : B ≤ (W.alloc (.cells #[.int .u64 (u : Int)] 22)).heap.size := by simp; omega
  refine wpList_append_own _ hgd s x 24 ho B 22 i0 (.int .u64 0) 1 8 Tryz.underlying24 hi hz0 hz1 hz2 rfl (by decide) v us.length _ hs (hown.alloc _) ⟨W.heap.size, 0, none⟩ 1 1 [.int .u64 (u : Int)] hx rfl ?_ ?_ ?_ ?_ hB' ?_
  · intro j y hj
    have hj0 : j = 0 := by have := (List.getElem?_eq_some_iff.1 hj).1; simp at this; omega
    subst hj0
    have e : (⟨W.heap.size, 0, none⟩ : Addr).add 0 = ⟨W.heap.size, 0, none⟩ := rfl
    rw [e, (Blk.new W 22 #[.int .u64 (u : Int)]).cell 0]
    simpa using hj
  · intro y hy; simp at hy; subst hy; rfl
  · unfold maxLen; omega
  · omega
  · intro v' W' hown' hg _
    refine h v' W' ?_ hg (((Below.refl B W).alloc hB _).grown hg hB' (fun k hk => (hl k hk).1))
    unfold OU
    rw [List.length_append, List.map_append]
    exact hown'
/-- What the loop keeps: ps are the words that are done, c the carry. -/
structure Sc (us : List Nat) (b c0 k : Nat) (ps : List Nat) (c : Nat) : Prop where
  len : ps.length = k
  wrd : Wrd ps
  clt : c < 18446744073709551616
  eq : wv ps + 18446744073709551616 ^ k * c = wv (us.take k) * b + c0
theorem sc_step {us : List Nat} {b c0 k : Nat} {ps : List Nat} {c : Nat} (h : Sc us b c0 k ps c) (hk : k < us.length) (hb : b < 18446744073709551616) (hx : us.getD k 0 < 18446744073709551616) :
    Sc us b c0 (k + 1) (ps ++ [(us.getD k 0 * b + c) % 18446744073709551616]) ((us.getD k 0 * b + c) / 18446744073709551616) := by
  have hc := h.clt
  generalize hxx : us.getD k 0 = x at *
  have hxb : x * b ≤ 18446744073709551615 * 18446744073709551615 := Nat.mul_le_mul (by omega) (by omega)
  refine ⟨by rw [List.length_append, h.len]; rfl, ?_, by omega, ?_⟩
  · intro u hu
    rcases List.mem_append.1 hu with hu | hu
    · exact h.wrd u hu
    · simp at hu; omega
  · rw [wv_append, h.len, take_succ_getD us k hk, wv_append, hxx]
    have hl : (us.take k).length = k := by rw [List.length_take]; omega
    rw [hl]
    have he := h.eq
    have hd := Nat.div_add_mod (x * b + c) 18446744073709551616
    simp only [wv, Nat.mul_zero, Nat.add_zero]
    generalize (x * b + c) % 18446744073709551616 = lo at *
    generalize (x * b + c) / 18446744073709551616 = hi at *
    generalize hp : 18446744073709551616 ^ k = p at *
    have e1 : 18446744073709551616 ^ (k + 1) * hi = p * (18446744073709551616 * hi) := by rw [Nat.pow_succ, hp, Nat.mul_assoc]
    have e2 : p * (18446744073709551616 * hi) + p * lo = p * (x * b) + p * c := by rw [← Nat.mul_add, hd, Nat.mul_add]
    have e3 : (wv (us.take k) + p * x) * b = wv (us.take k) * b + p * (x * b) := by rw [Nat.add_mul, Nat.mul_assoc]
    rw [e1, e3]
    omega
def ScaleIs (us : List Nat) (b c0 B : Nat) (w : World) (e : Ending) (w' : World) : Prop :=
  ∃ v us', e = .returned v ∧ OU B w' v us' ∧ Wrd us' ∧ wv us' = wv us * b + c0 ∧ us'.length ≤ us.length + 1 ∧ Below B w w'
set_option maxRecDepth 100000 in
set_option maxHeartbeats 2000000 in
theorem scale_any (B : Nat) (v : Value) (us : List Nat) (b c0 : Nat) (w : World) (ho : OU B w v us) (hB : B ≤ w.heap.size) (hw : Wrd us) (hb : b < 18446744073709551616) (hc0 : c0 < 18446744073709551616) (hl : us.length ≤ 10000) :
    Calls Tryz.prog 115 #[v, .int .u64 (b : Int), .int .u64 (c0 : Int)] w (ScaleIs us b c0 B w) := by
  obtain ⟨a, cap, rfl, hcap, ha⟩ := ou_form ho
  have HF : Hid (∀ v' us' w', OU B w' v' us' → Wrd us' → wv us' = wv us * b + c0 → us'.length ≤ us.length + 1 → Below B w w' → ScaleIs us b c0 B w (.returned v') w') := Lib.hid (fun v' us' w' h1 h2 h3 h4 h5 => ⟨v', us', rfl, h1, h2, h3, h4, h5⟩)
  obtain ⟨n, hn⟩ : ∃ n, us.length = n := ⟨_, rfl⟩
  have Hn := Lib.hid hn
  have HW := Lib.hid hw
  have Ho : Hid (w.ownsRow B 22 1 (.slice a n cap) n (([] ++ us.drop 0).map uv)) := Lib.hid (by rw [← hn]; exact ho)
  have H0 : Hid (Sc us b c0 0 [] c0) := Lib.hid ⟨rfl, fun u hu => by simp at hu, hc0, by simp [wv]⟩
  have Ha : Hid (us = [] ∨ ∃ g, a = some ⟨g, 0, none⟩) := Lib.hid ha
  have HB0 : Hid (Below B w w) := Lib.hid (Below.refl _ _)
  rw [hn] at hl hcap ⊢
  obtain ⟨BY, hBY⟩ : ∃ BY : Int, (b : Int) = BY := ⟨_, rfl⟩
  have HBY := Lib.hid hBY
  have Hb := Lib.hid hb
  obtain ⟨C0, hC0⟩ : ∃ C0 : Int, (c0 : Int) = C0 := ⟨_, rfl⟩
  have HC0 := Lib.hid hC0.symm
  rw [hBY, hC0]
  clear ho hw hb hc0 hn ha hBY hC0
  go_enter Tryz.func115, Tryz.ntmps115
  go_wp2_with fail
  go_loopw [2, 15] (fun cv i wr => ∃ (k c : Nat) (ps : List Nat) (C : Int), k ≤ n ∧ i = .int .i64 (k : Int) ∧ cv = .int .u64 C ∧ Hid (C = (c : Int)) ∧ Hid (Sc us b c0 k ps c) ∧ Hid (wr.ownsRow B 22 1 (.slice a n cap) n ((ps ++ us.drop k).map uv)) ∧ Hid (Below B w wr)) (fun _ i _ => n - (intOf i).toNat)
  case atStart => exact ⟨0, c0, [], C0, by omega, rfl, rfl, HC0, H0, Ho, HB0⟩
  case round =>
    obtain ⟨k, c, ps, C, hk, rfl, rfl, hC, hsc, hrow, hbel⟩ := hrel
    clear HC0 H0 Ho HB0
    by_cases hlt : k < n
    · obtain ⟨g, rfl⟩ : ∃ g, a = some ⟨g, 0, none⟩ := by
        rcases Ha.out with h | h
        · have := Hn.out; rw [h] at this; simp at this; omega
        · exact h
      obtain ⟨x, hx⟩ : ∃ x, us.getD k 0 = x := ⟨_, rfl⟩
      have hlk : k < us.length := by rw [Hn.out]; exact hlt
      have hxw : x < 18446744073709551616 := by rw [← hx, List.getD_eq_getElem?_getD, List.getElem?_eq_getElem hlk]; exact HW.out _ (List.getElem_mem _)
      have hdrop : us.drop k = x :: us.drop (k + 1) := by
        rw [List.drop_eq_getElem_cons hlk]
        congr 1
        rw [← hx, List.getD_eq_getElem?_getD, List.getElem?_eq_getElem hlk]; rfl
      have hcell := ou_cell hrow.out k (by rw [List.length_append, List.length_drop, hsc.out.len]; omega)
      have hgx : (ps ++ us.drop k).getD k 0 = x := by
        rw [List.getD_eq_getElem?_getD, List.getElem?_append_right (by rw [hsc.out.len]; omega), hsc.out.len, hdrop]; simp
      rw [hgx] at hcell
      obtain ⟨hbg, hgl, hfr⟩ := ou_block hrow.out
      have hfrk := hfr k hlt
      have hstep : Hid (Sc us b c0 (k + 1) (ps ++ [(x * b + c) % 18446744073709551616]) ((x * b + c) / 18446744073709551616)) := Lib.hid (by have := sc_step hsc.out hlk Hb.out (by rw [hx]; exact hxw); rw [hx] at this; exact this)
      have hdiv := Nat.div_add_mod (x * b) 18446744073709551616
      have hmul : x * b ≤ 18446744073709551615 * 18446744073709551615 := Nat.mul_le_mul (by omega) (by have := Hb.out; omega)
      have hclt := hsc.out.clt
      obtain ⟨X, hX⟩ : ∃ X : Int, (x : Int) = X := ⟨_, rfl⟩
      obtain ⟨HI, hHI⟩ : ∃ HI : Int, ((x * b / 18446744073709551616 : Nat) : Int) = HI := ⟨_, rfl⟩
      obtain ⟨LO, hLO⟩ : ∃ LO : Int, ((x * b % 18446744073709551616 : Nat) : Int) = LO := ⟨_, rfl⟩
      obtain ⟨SM, hSM⟩ : ∃ SM : Int, (((x * b + c) % 18446744073709551616 : Nat) : Int) = SM := ⟨_, rfl⟩
      obtain ⟨OV, hOV⟩ : ∃ OV : Int, (((x * b % 18446744073709551616 + c) / 18446744073709551616 : Nat) : Int) = OV := ⟨_, rfl⟩
      obtain ⟨C1, hC1⟩ : ∃ C1 : Int, (((x * b + c) / 18446744073709551616 : Nat) : Int) = C1 := ⟨_, rfl⟩
      have hMul : Hid (Calls Tryz.prog 126 #[.int .u64 X, .int .u64 BY] wr fun e w' => e = .returned (.tuple #[.int .u64 HI, .int .u64 LO]) ∧ w' = wr) := Lib.hid (by
        have := Tryz.bits_Mul64 x b hxw Hb.out wr
        rw [hHI, hLO, hX, HBY.out] at this
        exact this)
      have hadd : ∀ wx, (callFunc 104 #[.int .u64 LO, .int .u64 C, .int .u64 0]).run Tryz.prog wx = .ok (.value (.tuple #[.int .u64 SM, .int .u64 OV])) wx := fun wx => by
        have := run_add64c (x * b % 18446744073709551616) c 0 (by omega) wx
        rw [Nat.add_zero, hOV, hLO, ← hC.out] at this
        have e : (x * b % 18446744073709551616 + c) % 18446744073709551616 = (x * b + c) % 18446744073709551616 := by rw [Nat.mod_add_mod]
        rw [e, hSM] at this
        exact this
      have eC1 : IntKind.u64.wrap (HI + OV) = C1 := by
        have e : x * b / 18446744073709551616 + (x * b % 18446744073709551616 + c) / 18446744073709551616 = (x * b + c) / 18446744073709551616 := by omega
        rw [← hHI, ← hOV, ← hC1, ← Int.natCast_add, e, wrapu64 _ (by omega)]
      have hrow2 : Hid ((wr.setCell ⟨g, k, none⟩ (.int .u64 SM)).ownsRow B 22 1 (.slice (some ⟨g, 0, none⟩) n cap) n (((ps ++ [(x * b + c) % 18446744073709551616]) ++ us.drop (k + 1)).map uv)) := Lib.hid (by
        have := ou_set hrow.out k ((x * b + c) % 18446744073709551616) hlt
        rw [hSM] at this
        have e : (ps ++ us.drop k).set k ((x * b + c) % 18446744073709551616) = (ps ++ [(x * b + c) % 18446744073709551616]) ++ us.drop (k + 1) := by
          rw [List.set_append_right _ _ (by rw [hsc.out.len]; omega), hsc.out.len, hdrop, Nat.sub_self]; simp
        rw [e] at this
        exact this)
      have hbel2 : Hid (Below B w (wr.setCell ⟨g, k, none⟩ (.int .u64 SM))) := Lib.hid (hbel.out.setCell (p := ⟨g, k, none⟩) hbg _)
      have hC1' := Lib.hid hC1.symm
      have hi0 : (0 : Int) ≤ (k : Int) := by omega
      have hi1 : (k : Int) < (n : Int) := by omega
      have e2 := add_zero_off g k
      rw [e2, hX] at hcell
      clear hdiv hmul hclt hHI hLO hSM hOV hC1 hX hdrop hgx hx hxw hrow hbel hfr hsc hgl hC hlk
      go_wp2_with fail
      refine hMul.out.mono ?_
      rintro e w1 ⟨rfl, rfl⟩
      clear hMul
      go_wp2_with fail
      go_roundw
      case rel => exact ⟨k + 1, _, _, C1, by omega, by go_num, rfl, hC1', hstep, hrow2, hbel2⟩
      case measure => simp [intOf]; omega
    · obtain rfl : k = n := by omega
      have hfin : Hid (Wrd ps ∧ ps.length = k ∧ wv ps + 18446744073709551616 ^ k * c = wv us * b + c0) := Lib.hid (by
        have h := hsc.out.eq
        rw [List.take_of_length_le (by rw [Hn.out]; exact Nat.le_refl _)] at h
        exact ⟨hsc.out.wrd, hsc.out.len, h⟩)
      have hclt := hsc.out.clt
      have hrow' : Hid (OU B wr (.slice a k cap) ps) := Lib.hid (by
        have h := hrow.out
        rw [List.drop_of_length_le (by rw [Hn.out]; exact Nat.le_refl _), List.append_nil] at h
        unfold OU
        rw [hfin.out.2.1]
        exact h)
      by_cases hc0 : c = 0
      · have hCz : C = 0 := by rw [hC.out]; omega
        subst hCz
        have HR := Lib.hid (HF.out _ ps wr hrow'.out hfin.out.1 (by have := hfin.out.2.2; rw [hc0, Nat.mul_zero, Nat.add_zero] at this; exact this) (by rw [hfin.out.2.1, Hn.out]; omega) hbel.out)
        clear hfin hrow' hrow hsc hbel HF hclt hC hc0
        go_wp2_with fail
        go_ret
        exact HR.out
      · have hCz : 0 < C := by rw [hC.out]; omega
        have hwr : B ≤ wr.heap.size := Nat.le_trans hB hbel.out.size
        have hps : ps.length ≤ 10000 := by rw [hfin.out.2.1]; omega
        have HR : Hid (∀ v' W', OU B W' v' (ps ++ [c]) → Below B wr W' → ScaleIs us b c0 B w (.returned v') W') := Lib.hid (fun v' W' h1 h2 => by
          refine HF.out v' (ps ++ [c]) W' h1 ?_ ?_ ?_ (hbel.out.trans h2)
          · intro u hu
            rcases List.mem_append.1 hu with hu | hu
            · exact hfin.out.1 u hu
            · simp at hu; omega
          · rw [wv_append, hfin.out.2.1, ← hfin.out.2.2]; simp [wv]
          · rw [List.length_append, hfin.out.2.1, Hn.out]; simp)
        have HCn : Hid (Value.int .u64 C = .int .u64 (c : Int)) := Lib.hid (by rw [hC.out])
        have hCe := hC.out
        subst hCe
        clear hfin hrow hsc hbel HF hclt hC HCn
        go_wp2_with (at_builtin; refine push_u rfl (.tmp 42) (.tmp 44) rfl B _ _ ps c rfl hrow'.out hwr _ rfl rfl (by omega) ?_)
        intro v' W' ho' _ hb'
        have HR2 := Lib.hid (HR.out v' W' ho' hb')
        obtain ⟨a2, c2, hv2, _⟩ := ou_form ho'
        subst hv2
        clear ho' hb' HR hrow'
        go_wp2_with fail
        go_ret
        exact HR2.out
end Go.Proofs.YtllmacokhjmdgaaGreatDoor
