/-
  Law 1: the product of two numbers.
  Law 1: the product of any two numbers.
  Law 1: is it a small number; how many binary digits.
-/
import Derived.Test.YtckglpkafhmehaaGreatDoorNAddP
import Derived.Test.YtckglpkafhmehaaGreatDoorNSmall
import Derived.Laws.OwnMore
import Derived.OwnWalk
import Derived.Test.YtckglpkafhmehaaGreatDoorShelf
namespace Go.Proofs.YtckglpkafhmehaaGreatDoor
open Go.RowKit
set_option linter.unusedVariables false
theorem isN_open {w : World} {v : Value} {N : Nat} (K : Nat) (h : IsN w v N) (hK : N < 18446744073709551616 ^ K) : ∃ a c us, v = .agg #[.slice a us.length c] ∧ us.length ≤ c ∧ UR w a us ∧ Wrd us ∧ wv us = N ∧ us.length ≤ K ∧ us.length ≤ 10000 ∧ (us ≠ [] → us.getD (us.length - 1) 0 ≠ 0) ∧ (us = [] → a = none ∧ c = 0) := by
  obtain ⟨a, c, us, rfl, h1, h2, h3, h4, h5, h6, h7⟩ := h
  refine ⟨a, c, us, rfl, h1, h2, h3, h4, ?_, h5, h6, h7⟩
  by_cases hne : us = []
  · rw [hne]; exact Nat.zero_le _
  · have hl : 0 < us.length := List.length_pos_iff.2 hne
    have h := wv_take us (us.length - 1)
    rw [show us.length - 1 + 1 = us.length by omega, List.take_length, h4] at h
    have hx := h6 hne
    generalize us.getD (us.length - 1) 0 = x at *
    rcases Nat.lt_or_ge K us.length with hlt | hge
    · exfalso
      have h8 : 18446744073709551616 ^ K ≤ 18446744073709551616 ^ (us.length - 1) := Nat.pow_le_pow_right (by omega) (by omega)
      have h9 : 18446744073709551616 ^ (us.length - 1) * 1 ≤ 18446744073709551616 ^ (us.length - 1) * x := Nat.mul_le_mul_left _ (by omega)
      omega
    · exact hge
theorem wv_zeros (n : Nat) : wv (List.replicate n 0) = 0 := by
  induction n with
  | zero => rfl
  | succ n ih => rw [List.replicate_succ]; simp [wv, ih]
theorem wrd_zeros (n : Nat) : Wrd (List.replicate n 0) := fun u hu => by
  have := (List.mem_replicate.1 hu).2; omega
theorem make_u {ops : Array Oper} {rest : List Oper} {o : Oper} {a : Act} {Q : Exit → Act → World → Prop} (hgd : o.guard = none) (l : Operand)
    (ho : o.op = .makeSlice 29 l l) (B : Nat) (W : World) (L : Int) (n : Nat) (hl : a.eval l = .int .i64 L) (hL : L = (n : Int)) (hn : n ≤ 1000000) (hB : B ≤ W.heap.size) (g : Nat) (hg : W.heap.size = g)
    (h : ∀ W', W'.ownsRow B 60 1 (.slice (some ⟨g, 0, none⟩) n n) n ((List.replicate n 0).map uv) → Below B W W' → W.grownBy W' none → wpList Tryz.prog ops Q rest (a.put o.dst (.slice (some ⟨g, 0, none⟩) n n)) W') :
    wpList Tryz.prog ops Q (o :: rest) a W := by
  obtain ⟨i0, hi, hz0, hz1, hz2⟩ := info_parts Tryz.infoU
  subst hg
  refine wpList_make_full W hgd l l 29 ho B 60 i0 (.int .u64 0) 1 Tryz.underlying29 hi hz0 hz1 .i64 .i64 L L n hl hl hL hL (by rw [hz2]; omega) (by unfold maxLen; omega) hB ?_
  intro W' h1 h2
  refine h W' ?_ ((Below.refl B W).grown h2 hB (fun k hk => by cases hk)) h2
  have e : (madeCells (Value.int .u64 0).cells (n * 1)).toList = (List.replicate n 0).map uv := by
    rw [Nat.mul_one, List.map_replicate]
    exact toList_madeCells_one _ _
  rw [← e]
  exact h1
/-- What the loop keeps. -/
structure Ml (us : List Nat) (V m k : Nat) (xs : List Nat) : Prop where
  wrd : Wrd xs
  eq : wv (xs.take (k + m)) = wv (us.take k) * V
theorem ml_step {us vs xs ys : List Nat} {k c : Nat} (h : Ml us (wv vs) vs.length k xs) (hk : k + vs.length < xs.length) (hy : Ap (xs.drop k) vs (us.getD k 0) vs.length ys c) : Ml us (wv vs) vs.length (k + 1) ((xs.take k ++ ys ++ xs.drop (k + vs.length)).set (k + vs.length) c) := by
  have hA : (xs.take k).length = k := by rw [List.length_take]; omega
  rw [mid_set hA hy.len hk]
  have he := h.eq
  have hyv := hy.eq
  have hclt := hy.clt
  have e1 := wv_take us k
  generalize us.getD k 0 = u at *
  constructor
  · intro x hx
    rcases List.mem_append.1 hx with hx | hx
    · rcases List.mem_append.1 hx with hx | hx
      · exact h.wrd x (List.mem_of_mem_take hx)
      · rcases List.mem_append.1 hx with hx | hx
        · exact hy.wrd x hx
        · simp at hx; omega
    · exact h.wrd x (List.mem_of_mem_drop hx)
  · have hl : (xs.take k ++ (ys ++ [c])).length = k + 1 + vs.length := by rw [List.length_append, List.length_append, hA, hy.len, List.length_singleton]; omega
    rw [List.take_append_of_le_length (by omega), List.take_of_length_le (by omega), wv_append, hA, wv_append, hy.len, e1, Nat.add_mul]
    have e2 : wv (xs.take (k + vs.length)) = wv (xs.take k) + 18446744073709551616 ^ k * wv ((xs.drop k).take vs.length) := by
      rw [List.take_add, wv_append, hA]
    rw [e2] at he
    rw [List.take_length] at hyv
    have e3 : wv [c] = c := by simp [wv]
    rw [e3, hyv, Nat.mul_add, ← Nat.add_assoc, he, Nat.mul_assoc, Nat.mul_comm (wv vs) u]
set_option maxRecDepth 100000 in
theorem cut_wh (g i m n cap : Nat) (h1 : i + m ≤ n) (h2 : n ≤ cap) (I J : Int) (hI : I = (i : Int)) (hJ : J = ((i + m : Nat) : Int)) (hi : i < cap) (wx : World) : (Instr.slice 29 (.slice (some ⟨g, 0, none⟩) n cap) (some (.int .i64 I)) (some (.int .i64 J)) none).run Tryz.prog wx = .ok (.slice (some ⟨g, i, none⟩) m (cap - i)) wx := by
  subst hI hJ
  refine (run_slice_lh (P := Tryz.prog) (w := wx) 29 (some ⟨g, 0, none⟩) n cap (by kernel_rfl) .i64 .i64 (i : Int) ((i + m : Nat) : Int) (by omega) (by omega) (by omega)).trans ?_
  have hs : (sizeOf (Tryz.prog.elem 29)).run Tryz.prog wx = .ok 1 wx := by kernel_rfl
  rw [hs]
  simp only [Result.andThen, sliced, Int.toNat_natCast, Nat.mul_one, Option.map_some]
  rw [if_neg (by omega), add_off, Nat.zero_add, Nat.add_sub_cancel_left]
theorem UR.at {w : World} {a : Option Addr} {us : List Nat} (h : UR w a us) {k : Nat} (hk : k < us.length) {B : Nat} (hB : w.heap.size ≤ B) : ∃ ad, a = some ad ∧ ad.block < B ∧ w.cell? (ad.add k) = some (.int .u64 ((us.getD k 0 : Nat) : Int)) := by
  obtain ⟨ad, h1, h2, h3⟩ := h k hk
  exact ⟨ad, h1, by omega, h3⟩
theorem getW {us : List Nat} (h : Wrd us) (k : Nat) : us.getD k 0 < 18446744073709551616 := by
  by_cases hk : k < us.length
  · rw [List.getD_eq_getElem?_getD, List.getElem?_eq_getElem hk]; exact h _ (List.getElem_mem _)
  · rw [List.getD_eq_getElem?_getD, List.getElem?_eq_none (by omega)]; decide
theorem row_at {B : Nat} {w : World} {g n c : Nat} {us : List Nat} (h : w.ownsRow B 60 1 (.slice (some ⟨g, 0, none⟩) n c) n (us.map uv)) (q : Nat) (hq : q < n) : ∃ x : Value, w.cell? ⟨g, q, none⟩ = some x ∧ w.frozen? ⟨g, q, none⟩ = false := by
  have hl : us.length = n := by have := h.1; rw [List.length_map] at this; omega
  have h1 := ou_cell h q (by omega)
  rw [add_zero_off] at h1
  exact ⟨_, h1, (ou_block h).2.2 q hq⟩
set_option maxRecDepth 100000 in
set_option maxHeartbeats 4000000 in
theorem mul_core (a1 a2 : Option Addr) (c1 c2 : Nat) (us vs : List Nat) (w : World) (hu : UR w a1 us) (hv : UR w a2 vs) (hwu : Wrd us) (hwv : Wrd vs) (hl1 : us.length ≤ 5000) (hl2 : vs.length ≤ 5000) (hn1 : us ≠ []) (hn2 : vs ≠ [])
    (hz1 : ∀ W, Below w.heap.size w W → Calls Tryz.prog 18 #[.agg #[.slice a1 us.length c1]] W fun e w' => e = .returned (.bool false) ∧ Below W.heap.size W w')
    (hz2 : ∀ W, Below w.heap.size w W → Calls Tryz.prog 18 #[.agg #[.slice a2 vs.length c2]] W fun e w' => e = .returned (.bool false) ∧ Below W.heap.size W w') :
    Calls Tryz.prog 37 #[.agg #[.slice a1 us.length c1], .agg #[.slice a2 vs.length c2]] w (GaveN (wv us * wv vs) w) := by
  obtain ⟨n, hn⟩ : ∃ n, us.length = n := ⟨_, rfl⟩
  obtain ⟨m, hm⟩ : ∃ m, vs.length = m := ⟨_, rfl⟩
  have Hn := Lib.hid hn; have Hm := Lib.hid hm
  have hn0 : 0 < n := by rw [← hn]; exact List.length_pos_iff.2 hn1
  have hm0 : 0 < m := by rw [← hm]; exact List.length_pos_iff.2 hn2
  obtain ⟨W3, hW3⟩ : ∃ W3, ((w.alloc (.cells #[.slice a1 us.length c1] 31)).alloc (.cells #[.slice a2 vs.length c2] 31)).alloc (.cells #[.slice none 0 0] 31) = W3 := ⟨_, rfl⟩
  have hbx : Bx w W3 (.slice a1 us.length c1) (.slice a2 vs.length c2) (.slice none 0 0) := by
    rw [← hW3]
    have k1 := ((Blk.new w 31 #[.slice a1 us.length c1]).alloc (.cells #[.slice a2 vs.length c2] 31)).alloc (.cells #[.slice none 0 0] 31)
    have k2 := (Blk.new (w.alloc (.cells #[.slice a1 us.length c1] 31)) 31 #[.slice a2 vs.length c2]).alloc (.cells #[.slice none 0 0] 31)
    have k3 := Blk.new ((w.alloc (.cells #[.slice a1 us.length c1] 31)).alloc (.cells #[.slice a2 vs.length c2] 31)) 31 #[.slice none 0 0]
    simp only [World.size_alloc] at k2 k3
    exact ⟨k1, k2, k3, (((Below.refl _ w).alloc (Nat.le_refl _) _).alloc (by simp) _).alloc (by simp; omega) _⟩
  have hsz3 : W3.heap.size = w.heap.size + 3 := by rw [← hW3]; simp
  rw [hn, hm] at hbx hW3 ⊢
  rw [hn] at hz1 hl1
  rw [hm] at hz2 hl2
  have HWu := Lib.hid hwu
  have HWv := Lib.hid hwv
  have Hbx := Lib.hid hbx
  have Hu := Lib.hid hu
  have Hv := Lib.hid hv
  have HZ1 := Lib.hid (hz1 W3 hbx.bel)
  have HZ2 := Lib.hid hz2
  have q1 : W3.cell? ⟨w.heap.size, 0, none⟩ = some (.slice a1 n c1) := hbx.b1.cell 0
  have q2 : W3.cell? ⟨w.heap.size + 1, 0, none⟩ = some (.slice a2 m c2) := hbx.b2.cell 0
  have hB3 : Hid (Below (w.heap.size + 3) W3 W3) := Lib.hid (Below.refl _ _)
  have hsum : IntKind.i64.wrap ((n : Int) + (m : Int)) = (n : Int) + (m : Int) := IntWalk.i64_in _ ⟨by omega, by omega⟩
  clear hbx hu hv hwu hwv hn1 hn2 hz1 hz2 hn hm
  go_enter Tryz.func37, Tryz.ntmps37
  go_wp2_with fail
  refine HZ1.out.mono ?_
  rintro e W4 ⟨rfl, hb4⟩
  have HB4 : Hid (Below (w.heap.size + 3) W3 W4) := Lib.hid (hb4.mono (by omega))
  have hbx4 := Hbx.out.below HB4.out (Nat.le_refl _)
  have q3 : W4.cell? ⟨w.heap.size + 1, 0, none⟩ = some (.slice a2 m c2) := hbx4.b2.cell 0
  have HZ3 := Lib.hid (HZ2.out W4 hbx4.bel)
  have hsz4 : w.heap.size + 3 ≤ W4.heap.size := by have := hb4.size; omega
  clear hb4 hbx4 HZ1 HZ2 q1 q2
  go_wp2_with fail
  refine HZ3.out.mono ?_
  rintro e W5 ⟨rfl, hb5⟩
  have HB5 : Hid (Below (w.heap.size + 3) W3 W5) := Lib.hid (HB4.out.trans (hb5.mono hsz4))
  have hbx5 := Hbx.out.below HB5.out (Nat.le_refl _)
  have q4 : W5.cell? ⟨w.heap.size, 0, none⟩ = some (.slice a1 n c1) := hbx5.b1.cell 0
  have q5 : W5.cell? ⟨w.heap.size + 1, 0, none⟩ = some (.slice a2 m c2) := hbx5.b2.cell 0
  have hsz5 : w.heap.size + 3 ≤ W5.heap.size := by have := hb5.size; omega
  clear hb5 hbx5 HZ3 q3 HB4
  go_wp2_with (at_make; refine make_u rfl (.tmp 21) rfl (w.heap.size + 3) _ _ (n + m) rfl (by omega) (by omega) hsz5 _ rfl ?_)
  intro W6 hr6 hb6 _
  obtain ⟨g, hg⟩ : ∃ g, W5.heap.size = g := ⟨_, rfl⟩
  rw [hg] at hr6
  try rw [hg]
  rw [← List.map_replicate] at hr6
  have HB6 : Hid (Below (w.heap.size + 3) W3 W6) := Lib.hid (HB5.out.trans hb6)
  have q6 : W6.cell? ⟨w.heap.size, 0, none⟩ = some (.slice a1 n c1) := (Hbx.out.below HB6.out (Nat.le_refl _)).b1.cell 0
  obtain ⟨xs, hxs⟩ : ∃ xs, List.replicate (n + m) 0 = xs := ⟨_, rfl⟩
  have hM0 : Hid (Ml us (wv vs) m 0 xs) := Lib.hid (by
    rw [← hxs]
    exact ⟨wrd_zeros _, by rw [List.take_replicate, wv_zeros]; simp [wv]⟩)
  rw [hxs] at hr6
  have Hr6 := Lib.hid hr6
  clear hr6 hb6 q4 q5 hxs HB5 hg hsz4 hsz5
  obtain ⟨L, hL⟩ : ∃ L, n + m = L := ⟨_, rfl⟩
  rw [hL] at Hr6 ⊢
  go_wp2_with fail
  go_loopw [26] (fun iv wr => ∃ (k : Nat) (xs : List Nat), k ≤ n ∧ iv = .int .i64 (k : Int) ∧ Hid (Ml us (wv vs) m k xs) ∧ Hid (wr.ownsRow (w.heap.size + 3) 60 1 (.slice (some ⟨g, 0, none⟩) L L) L (xs.map uv)) ∧ Hid (Below (w.heap.size + 3) W3 wr)) (fun iv _ => n - (intOf iv).toNat)
  case atStart => exact ⟨0, xs, by omega, rfl, hM0, Hr6, HB6⟩
  case round =>
    clear hM0 Hr6 HB6 q6
    obtain ⟨k, xs, hk, rfl, hM, hrow, hbel⟩ := hrel
    have hbxr := Hbx.out.below hbel.out (Nat.le_refl _)
    have q7 : wr.cell? ⟨w.heap.size + 1, 0, none⟩ = some (.slice a2 m c2) := hbxr.b2.cell 0
    have hxl : xs.length = L := by have := hrow.out.1; rw [List.length_map] at this; omega
    by_cases hlt : k < n
    · have hku : k < us.length := by rw [Hn.out]; exact hlt
      obtain ⟨ad1, rfl, hadl, hcu⟩ := Hu.out.at hku (B := w.heap.size + 3) (by omega)
      have hcu' : wr.cell? (ad1.add k) = some (.int .u64 ((us.getD k 0 : Nat) : Int)) := (hbel.out.cell (by rw [add_block]; exact hadl)).trans ((Hbx.out.bel.cell (by rw [add_block]; obtain ⟨a9, h9, h8, _⟩ := Hu.out k hku; cases h9; exact h8)).trans hcu)
      obtain ⟨U, hU⟩ : ∃ U : Int, ((us.getD k 0 : Nat) : Int) = U := ⟨_, rfl⟩
      have hap := addp_any (w.heap.size + 3) g L L (L - k) xs vs a2 c2 k (us.getD k 0) wr.drew (World.ownsRow.drew hrow.out) hM.out.wrd HWv.out (getW HWu.out k) (fun j hj => by
        obtain ⟨ad', h1, h2, h3⟩ := Hv.out.at hj (B := w.heap.size + 3) (by omega)
        have h4 : ad'.block < w.heap.size := by obtain ⟨a9, h9, h8, _⟩ := Hv.out j hj; rw [h1] at h9; cases h9; exact h8
        exact ⟨ad', h1, h2, (hbel.out.cell (by rw [add_block]; exact h2)).trans ((Hbx.out.bel.cell (by rw [add_block]; exact h4)).trans h3)⟩) (by rw [Hm.out]; omega) (by rw [Hm.out]; omega)
      rw [Hm.out, hU] at hap
      have HAP := Lib.hid hap
      obtain ⟨q, hq⟩ : ∃ q, k + m = q := ⟨_, rfl⟩
      have hwr : IntKind.i64.wrap ((k : Int) + (m : Int)) = (q : Int) := by rw [← hq, Int.natCast_add]; exact IntWalk.i64_in _ ⟨by omega, by omega⟩
      have hcut := cut_wh g k m L L (by omega) (Nat.le_refl _) (k : Int) (q : Int) rfl (by rw [hq]) (by omega)
      rw [hU] at hcu'
      have HK : Hid (∀ w6, Below (w.heap.size + 3) wr.drew w6 → w6.cell? ⟨w.heap.size + 1, 0, none⟩ = some (.slice a2 m c2)) := Lib.hid (fun w6 h => (Hbx.out.below (hbel.out.drew.trans h) (Nat.le_refl _)).b2.cell 0)
      obtain ⟨hbg, _, _⟩ := ou_block hrow.out
      have HK2 : Hid (∀ w6 x, Below (w.heap.size + 3) wr.drew w6 → (w6.setCell ⟨g, q, none⟩ x).cell? ⟨w.heap.size + 1, 0, none⟩ = some (.slice a2 m c2)) := Lib.hid (fun w6 x h => by
        rw [World.cell?_setCell_other _ _ _ _ (fun e => by have := congrArg Addr.block e; simp at this; omega)]
        exact HK.out w6 h)
      have hq0 : (0 : Int) ≤ (q : Int) := by omega
      have hq1 : (q : Int) < (L : Int) := by omega
      have hqL : q < L := by omega
      have hk0 : (0 : Int) ≤ (k : Int) := by omega
      have hkq : (k : Int) ≤ (q : Int) := by omega
      have Hqk := Lib.hid hq
      have Hxl := Lib.hid hxl
      clear hap hbxr hcu hadl hq hxl
      go_wp2_with fail
      go_region_held3 (fun w' => w'.cell? ⟨w.heap.size + 1, 0, none⟩ = some (.slice a2 m c2))
        (first | exact q7 | exact HK.out _ ‹_› | exact HK2.out _ _ ‹_› | go_keep)
        (first
          | (go_at_call 67; refine HAP.out.mono ?_; rintro e w6 ⟨c, ys, rfl, hap6, hrow6, hb6⟩; obtain ⟨cx6, hc6, hf6⟩ := row_at hrow6 q hqL))
      have hrow7 : Hid ((w6.setCell ⟨g, q, none⟩ (.int .u64 (c : Int))).ownsRow (w.heap.size + 3) 60 1 (.slice (some ⟨g, 0, none⟩) L L) L (((xs.take k ++ ys ++ xs.drop (k + vs.length)).set q c).map uv)) := Lib.hid (ou_set hrow6 q c hqL)
      have hM7 : Hid (Ml us (wv vs) m (k + 1) ((xs.take k ++ ys ++ xs.drop (k + vs.length)).set q c)) := Lib.hid (by
        have h1 := ml_step (c := c) (by rw [Hm.out]; exact hM.out) (by rw [Hm.out, Hxl.out, Hqk.out]; exact hqL) hap6
        rw [Hm.out] at h1 ⊢
        rw [Hqk.out] at h1 ⊢
        exact h1)
      have hb7 : Hid (Below (w.heap.size + 3) W3 (w6.setCell ⟨g, q, none⟩ (.int .u64 (c : Int)))) := Lib.hid ((hbel.out.drew.trans hb6).setCell (p := ⟨g, q, none⟩) hbg _)
      clear hap6 hrow6 hb6 hrow hM hbel HAP HK HK2 hcut hc6 hf6 hcu' q7
      go_wp2_with fail
      go_roundw
      case rel => exact ⟨k + 1, _, by omega, by go_num, hM7, hrow7, hb7⟩
      case measure => simp [intOf]; omega
    · obtain rfl : k = n := by omega
      have hval : wv xs = wv us * wv vs := by
        have h1 := hM.out.eq
        rw [List.take_of_length_le (by omega), List.take_of_length_le (by rw [Hn.out]; exact Nat.le_refl _)] at h1
        exact h1
      have hou : OU (w.heap.size + 3) wr (.slice (some ⟨g, 0, none⟩) L L) xs := by unfold OU; rw [hxl]; exact hrow.out
      have HT := Lib.hid (trim_res (w.heap.size + 3) (w.heap.size + 1 + 1) w wr _ _ _ hou hbxr.bel (by omega) (by omega) hbxr.b3 hM.out.wrd hval (by omega))
      clear hval hou hbxr hbel hrow hM hxl
      go_wp2_with fail
      refine HT.out.mono ?_
      rintro e w5 ⟨x, y, z, rfl, hk5, hN5, hB5, _⟩
      have hk50 := hk5.out.cell 0; have hk5f := hk5.out.frozen 0
      simp only [List.getElem?_toArray, List.getElem?_cons_zero] at hk50
      clear HT
      go_wp2_with fail
      refine bodyPost_ret (res_nat rfl _ _ (w.heap.size + 1 + 1) (.slice x y z) rfl (hk5.out.set_ 0 _)) rfl ?_
      exact ⟨_, rfl, hN5.out, hB5.out⟩
end Go.Proofs.YtckglpkafhmehaaGreatDoor
namespace Go.Proofs.YtckglpkafhmehaaGreatDoor
open Go.RowKit
set_option linter.unusedVariables false
theorem zero_yes {v : Value} {w : World} (h : IsN w v 0) : Calls Tryz.prog 18 #[v] w fun e w' => e = .returned (.bool true) ∧ Below w.heap.size w w' :=
  (zero_any 0 v w h).mono fun e w' h => ⟨by rcases h.1 with h | h; exact h.2; exact absurd rfl h.1, h.2⟩
theorem zero_no {v : Value} {w : World} {N : Nat} (h : IsN w v N) (hN : N ≠ 0) : Calls Tryz.prog 18 #[v] w fun e w' => e = .returned (.bool false) ∧ Below w.heap.size w w' :=
  (zero_any N v w h).mono fun e w' h => ⟨by rcases h.1 with h | h; exact absurd h.1 hN; exact h.2, h.2⟩
set_option maxRecDepth 100000 in
set_option maxHeartbeats 2000000 in
theorem mul_any (M N : Nat) (va vb : Value) (w : World) (ha : IsN w va M) (hb : IsN w vb N) (hM : M < 18446744073709551616 ^ 5000) (hN : N < 18446744073709551616 ^ 5000) :
    Calls Tryz.prog 37 #[va, vb] w (GaveN (M * N) w) := by
  obtain ⟨a1, c1, us, rfl, hc1, hu, hwu, rfl, hl1, _, _, hz1⟩ := isN_open 5000 ha hM
  obtain ⟨a2, c2, vs, rfl, hc2, hv, hwv, rfl, hl2, _, _, hz2⟩ := isN_open 5000 hb hN
  by_cases h1 : wv us = 0
  · have e0 : wv us * wv vs = 0 := by rw [h1, Nat.zero_mul]
    rw [e0]
    rw [h1] at ha
    obtain ⟨W3, hW3⟩ : ∃ W3, ((w.alloc (.cells #[.slice a1 us.length c1] 31)).alloc (.cells #[.slice a2 vs.length c2] 31)).alloc (.cells #[.slice none 0 0] 31) = W3 := ⟨_, rfl⟩
    have hb3 : Below w.heap.size w W3 := by rw [← hW3]; exact (((Below.refl _ w).alloc (Nat.le_refl _) _).alloc (by simp) _).alloc (by simp; omega) _
    have hk3 : Blk W3 (w.heap.size + 1 + 1) 31 #[.slice none 0 0] := by
      rw [← hW3]
      have k3 := Blk.new ((w.alloc (.cells #[.slice a1 us.length c1] 31)).alloc (.cells #[.slice a2 vs.length c2] 31)) 31 #[.slice none 0 0]
      simp only [World.size_alloc] at k3
      exact k3
    have q1 : W3.cell? ⟨w.heap.size, 0, none⟩ = some (.slice a1 us.length c1) := by
      rw [← hW3]
      exact (((Blk.new w 31 #[.slice a1 us.length c1]).alloc _).alloc _).cell 0
    have HZ := Lib.hid (zero_yes (ha.below hb3 (Nat.le_refl _)))
    have HR : Hid (∀ w5, Below W3.heap.size W3 w5 → Blk w5 (w.heap.size + 1 + 1) 31 #[.slice none 0 0] ∧ Below w.heap.size w w5) := Lib.hid (fun w5 h => ⟨hk3.below h hk3.lt, hb3.trans (h.mono hb3.size)⟩)
    obtain ⟨n, hn⟩ : ∃ n, us.length = n := ⟨_, rfl⟩
    obtain ⟨m, hm⟩ : ∃ m, vs.length = m := ⟨_, rfl⟩
    rw [hn] at HZ q1 hW3 ⊢
    rw [hm] at hW3 ⊢
    clear ha hb hM hN hu hwu hl1 hz1 hv hwv hl2 hz2 h1 e0 hb3 hk3 hc1 hc2 hn hm
    go_enter Tryz.func37, Tryz.ntmps37
    go_wp2_with fail
    refine HZ.out.mono ?_
    rintro e w5 ⟨rfl, hb5⟩
    obtain ⟨hk5, hB5⟩ := HR.out w5 hb5
    have hk50 := hk5.cell 0; have hk5f := hk5.frozen 0
    simp only [List.getElem?_toArray, List.getElem?_cons_zero] at hk50
    have HK5 := Lib.hid hk5
    have HB5 := Lib.hid hB5
    clear hb5 hk5 hB5 HZ HR q1
    go_wp2_with fail
    refine bodyPost_ret (res_nat rfl _ _ (w.heap.size + 1 + 1) (.slice none 0 0) rfl (HK5.out.set_ 0 _)) rfl ?_
    exact ⟨_, rfl, isN_zero _, HB5.out.setCell (p := ⟨w.heap.size + 1 + 1, 0, none⟩) (by show w.heap.size ≤ w.heap.size + 1 + 1; omega) _⟩
  · by_cases h2 : wv vs = 0
    · have e0 : wv us * wv vs = 0 := by rw [h2, Nat.mul_zero]
      rw [e0]
      rw [h2] at hb
      obtain ⟨W3, hW3⟩ : ∃ W3, ((w.alloc (.cells #[.slice a1 us.length c1] 31)).alloc (.cells #[.slice a2 vs.length c2] 31)).alloc (.cells #[.slice none 0 0] 31) = W3 := ⟨_, rfl⟩
      have hb3 : Below w.heap.size w W3 := by rw [← hW3]; exact (((Below.refl _ w).alloc (Nat.le_refl _) _).alloc (by simp) _).alloc (by simp; omega) _
      have hk3 : Blk W3 (w.heap.size + 1 + 1) 31 #[.slice none 0 0] := by
        rw [← hW3]
        have k3 := Blk.new ((w.alloc (.cells #[.slice a1 us.length c1] 31)).alloc (.cells #[.slice a2 vs.length c2] 31)) 31 #[.slice none 0 0]
        simp only [World.size_alloc] at k3
        exact k3
      have q1 : W3.cell? ⟨w.heap.size, 0, none⟩ = some (.slice a1 us.length c1) := by
        rw [← hW3]
        exact (((Blk.new w 31 #[.slice a1 us.length c1]).alloc _).alloc _).cell 0
      have k2 : Blk W3 (w.heap.size + 1) 31 #[.slice a2 vs.length c2] := by
        rw [← hW3]
        have k3 := (Blk.new (w.alloc (.cells #[.slice a1 us.length c1] 31)) 31 #[.slice a2 vs.length c2]).alloc (.cells #[.slice none 0 0] 31)
        simp only [World.size_alloc] at k3
        exact k3
      have HZ := Lib.hid (zero_no (ha.below hb3 (Nat.le_refl _)) h1)
      have HR : Hid (∀ w5, Below W3.heap.size W3 w5 → Blk w5 (w.heap.size + 1 + 1) 31 #[.slice none 0 0] ∧ Below w.heap.size w w5) := Lib.hid (fun w5 h => ⟨hk3.below h hk3.lt, hb3.trans (h.mono hb3.size)⟩)
      have HZ2 : Hid (∀ w5, Below W3.heap.size W3 w5 → w5.cell? ⟨w.heap.size + 1, 0, none⟩ = some (.slice a2 vs.length c2) ∧ Calls Tryz.prog 18 #[.agg #[.slice a2 vs.length c2]] w5 fun e w' => e = .returned (.bool true) ∧ Below W3.heap.size W3 w') := Lib.hid (fun w5 h =>
        ⟨(k2.below h k2.lt).cell 0, (zero_yes ((hb.below hb3 (Nat.le_refl _)).below h (Nat.le_refl _))).mono fun e w' h2 => ⟨h2.1, h.trans (h2.2.mono h.size)⟩⟩)
      obtain ⟨n, hn⟩ : ∃ n, us.length = n := ⟨_, rfl⟩
      obtain ⟨m, hm⟩ : ∃ m, vs.length = m := ⟨_, rfl⟩
      rw [hn] at HZ q1 hW3 ⊢
      rw [hm] at hW3 HZ2 ⊢
      clear ha hb hM hN hu hwu hl1 hz1 hv hwv hl2 hz2 h1 h2 e0 hb3 hk3 k2 hc1 hc2 hn hm
      go_enter Tryz.func37, Tryz.ntmps37
      go_wp2_with fail
      refine HZ.out.mono ?_
      rintro e w4 ⟨rfl, hb4⟩
      obtain ⟨q2, hz⟩ := HZ2.out w4 hb4
      have HZ3 := Lib.hid hz
      clear hz HZ2 HZ q1 hb4
      go_wp2_with fail
      refine HZ3.out.mono ?_
      rintro e w5 ⟨rfl, hb5⟩
      obtain ⟨hk5, hB5⟩ := HR.out w5 hb5
      have hk50 := hk5.cell 0; have hk5f := hk5.frozen 0
      simp only [List.getElem?_toArray, List.getElem?_cons_zero] at hk50
      have HK5 := Lib.hid hk5
      have HB5 := Lib.hid hB5
      clear hb5 hk5 hB5 HZ3 HR q2
      go_wp2_with fail
      refine bodyPost_ret (res_nat rfl _ _ (w.heap.size + 1 + 1) (.slice none 0 0) rfl (HK5.out.set_ 0 _)) rfl ?_
      exact ⟨_, rfl, isN_zero _, HB5.out.setCell (p := ⟨w.heap.size + 1 + 1, 0, none⟩) (by show w.heap.size ≤ w.heap.size + 1 + 1; omega) _⟩
    · exact mul_core a1 a2 c1 c2 us vs w hu hv hwu hwv hl1 hl2 (fun h => h1 (by rw [h]; rfl)) (fun h => h2 (by rw [h]; rfl)) (fun W hW => zero_no (ha.below hW (Nat.le_refl _)) h1) (fun W hW => zero_no (hb.below hW (Nat.le_refl _)) h2)
end Go.Proofs.YtckglpkafhmehaaGreatDoor
namespace Go.Proofs.YtckglpkafhmehaaGreatDoor
open Go.RowKit
set_option linter.unusedVariables false
/-- A number of L binary digits. -/
structure IsLen (N L : Nat) : Prop where
  lt : N < 2 ^ L
  le : 0 < L → 2 ^ (L - 1) ≤ N
theorem IsLen.inj {N L M : Nat} (h : IsLen N L) (h' : IsLen N M) : L = M := by
  rcases Nat.lt_trichotomy L M with hlt | he | hgt
  · have h1 := h'.le (by omega)
    have h2 : 2 ^ L ≤ 2 ^ (M - 1) := Nat.pow_le_pow_right (by omega) (by omega)
    have := h.lt
    omega
  · exact he
  · have h1 := h.le (by omega)
    have h2 : 2 ^ M ≤ 2 ^ (L - 1) := Nat.pow_le_pow_right (by omega) (by omega)
    have := h'.lt
    omega
theorem isLen_half {x L : Nat} (h0 : x ≠ 0) (h : IsLen (x / 2) L) : IsLen x (1 + L) := by
  have h1 := h.lt
  refine ⟨?_, fun _ => ?_⟩
  · rw [Nat.add_comm, Nat.pow_succ]; omega
  · rw [Nat.add_sub_cancel_left]
    by_cases hL : L = 0
    · subst hL; simp; omega
    · have h2 := h.le (by omega)
      have h3 : 2 ^ L = 2 ^ (L - 1) * 2 := by rw [← Nat.pow_succ]; congr 1; omega
      omega
theorem isLen_bitLen : ∀ n x, x ≤ n → x < 2 ^ 64 → IsLen x (Lib.bitLen x) := by
  intro n
  induction n with
  | zero =>
    intro x hx _
    obtain rfl : x = 0 := by omega
    exact ⟨by decide, by decide⟩
  | succ n ih =>
    intro x hx hx64
    by_cases h0 : x = 0
    · exact ih x (by omega) hx64
    · rw [Lib.bitLen_half x h0 hx64]
      exact isLen_half h0 (ih (x / 2) (by omega) (by omega))
theorem wv_last {us : List Nat} (hne : us ≠ []) : wv us = wv (us.take (us.length - 1)) + 18446744073709551616 ^ (us.length - 1) * us.getD (us.length - 1) 0 := by
  have hl : 0 < us.length := List.length_pos_iff.2 hne
  have h := wv_take us (us.length - 1)
  rwa [show us.length - 1 + 1 = us.length by omega, List.take_length] at h
theorem isLen_words {us : List Nat} {L : Nat} (hw : Wrd us) (hne : us ≠ []) (hL : IsLen (us.getD (us.length - 1) 0) L) (h0 : us.getD (us.length - 1) 0 ≠ 0) : IsLen (wv us) ((us.length - 1) * 64 + L) := by
  have hl : 0 < us.length := List.length_pos_iff.2 hne
  have h1 := wv_last hne
  have h2 : wv (us.take (us.length - 1)) < 18446744073709551616 ^ (us.length - 1) := by
    have h3 := wv_lt (us := us.take (us.length - 1)) (fun u hu => hw u (List.mem_of_mem_take hu))
    rwa [List.length_take, Nat.min_eq_left (by omega)] at h3
  have e : 18446744073709551616 ^ (us.length - 1) = 2 ^ ((us.length - 1) * 64) := by
    rw [Nat.mul_comm, Nat.pow_mul]
  rw [e] at h1 h2
  generalize us.getD (us.length - 1) 0 = x at *
  generalize (us.length - 1) * 64 = q at *
  have hLp : 0 < L := by
    rcases Nat.eq_zero_or_pos L with h | h
    · subst h; have := hL.lt; simp at this; omega
    · exact h
  have hlt := hL.lt
  have hle := hL.le hLp
  refine ⟨?_, fun _ => ?_⟩
  · rw [h1, Nat.pow_add]
    have h3 : 2 ^ q * (x + 1) ≤ 2 ^ q * 2 ^ L := Nat.mul_le_mul_left _ (by omega)
    rw [Nat.mul_add] at h3
    omega
  · rw [h1, show q + L - 1 = q + (L - 1) by omega, Nat.pow_add]
    have h3 : 2 ^ q * 2 ^ (L - 1) ≤ 2 ^ q * x := Nat.mul_le_mul_left _ hle
    omega
def BitsIs (N : Nat) (w : World) (e : Ending) (w' : World) : Prop := ∃ L : Nat, e = .returned (.int .i64 (L : Int)) ∧ IsLen N L ∧ L ≤ 1000000 ∧ Below w.heap.size w w'
set_option maxRecDepth 100000 in
set_option maxHeartbeats 2000000 in
theorem bits_any (N : Nat) (v : Value) (w : World) (h : IsN w v N) : Calls Tryz.prog 64 #[v] w (BitsIs N w) := by
  obtain ⟨a, c, us, rfl, hc, hu, hw, rfl, hl, hlast, hnil⟩ := h
  obtain ⟨W1, hW1⟩ : ∃ W1, w.alloc (.cells #[.slice a us.length c] 31) = W1 := ⟨_, rfl⟩
  have hk : Blk W1 w.heap.size 31 #[.slice a us.length c] := by rw [← hW1]; exact Blk.new w _ _
  have hb : Below w.heap.size w W1 := by rw [← hW1]; exact (Below.refl _ _).alloc (Nat.le_refl _) _
  have hk0 := hk.cell 0
  simp only [List.getElem?_toArray, List.getElem?_cons_zero] at hk0
  by_cases hne : us = []
  · subst hne
    obtain ⟨rfl, rfl⟩ := hnil rfl
    have HR : Hid (BitsIs (wv []) w (.returned (.int .i64 0)) W1) := Lib.hid ⟨0, rfl, ⟨by simp [wv], fun h => absurd h (by decide)⟩, by omega, hb⟩
    have hw0 : IntKind.i64.wrap ((0 : Int) - 1) = -1 := by decide
    simp only [List.length_nil] at hk0 hW1 ⊢
    clear hk hb hu hw hl hlast hnil hc
    go_enter Tryz.func64, Tryz.ntmps64
    go_wp2_with fail
    go_ret
    exact HR.out
  · have hl0 : 0 < us.length := List.length_pos_iff.2 hne
    obtain ⟨ad, rfl, hadl, hcu⟩ := hu (us.length - 1) (by omega)
    have hcu1 := (hb.cell (by rw [add_block]; exact hadl)).trans hcu
    obtain ⟨x, hx⟩ : ∃ x, us.getD (us.length - 1) 0 = x := ⟨_, rfl⟩
    have hxw : x < 18446744073709551616 := by rw [← hx]; exact getW hw _
    have hx0 := hlast hne
    have hL := isLen_bitLen x x (Nat.le_refl _) hxw
    rw [← hx] at hL
    have hlen := isLen_words hw hne hL hx0
    rw [hx] at hlen hcu1
    have hbl : Lib.bitLen x ≤ 64 := by
      rcases Nat.lt_or_ge 64 (Lib.bitLen x) with hgt | hle
      · exfalso
        rw [hx] at hL
        have h1 := hL.le (by omega)
        have h2 : 2 ^ 64 ≤ 2 ^ (Lib.bitLen x - 1) := Nat.pow_le_pow_right (by omega) (by omega)
        omega
      · exact hle
    obtain ⟨X, hX⟩ : ∃ X : Int, (x : Int) = X := ⟨_, rfl⟩
    obtain ⟨b, hbb⟩ : ∃ b, Lib.bitLen x = b := ⟨_, rfl⟩
    obtain ⟨n, hn⟩ : ∃ n, us.length = n := ⟨_, rfl⟩
    obtain ⟨r, hr⟩ : ∃ r, n - 1 = r := ⟨_, rfl⟩
    have HL : Hid (Calls Tryz.prog 86 #[.int .u64 X] W1 fun e w' => e = .returned (.int .i64 (b : Int)) ∧ w' = W1) := Lib.hid (by
      have := Tryz.bits_Len64 X W1 (by omega) (by omega)
      rw [← hX, Int.toNat_natCast, hbb, hX] at this
      exact this)
    rw [hn, hr, hbb] at hlen
    rw [hn, hr, hX] at hcu1
    rw [hn] at hk0 hW1 hl hl0 ⊢
    rw [hbb] at hbl
    have hs1 : ((n : Int) - 1) = (r : Int) := by omega
    have hs2 : (r : Int) * 64 + (b : Int) = ((r * 64 + b : Nat) : Int) := by omega
    have hr0 : ¬ (r : Int) < 0 := by omega
    have hr1 : (0 : Int) ≤ (r : Int) := by omega
    have hr2 : (r : Int) < (n : Int) := by omega
    have hr3 : (r : Int) ≤ 10000 := by omega
    have hb64 : (b : Int) ≤ 64 := by omega
    have hb0 : (0 : Int) ≤ (b : Int) := by omega
    have HR : Hid (BitsIs (wv us) w (.returned (.int .i64 ((r * 64 + b : Nat) : Int))) W1) := Lib.hid ⟨_, rfl, hlen, by omega, hb⟩
    rw [← hs2] at HR
    have e1 : IntKind.i64.wrap ((n : Int) - 1) = (r : Int) := by rw [hs1]; exact IntWalk.i64_in _ ⟨by omega, by omega⟩
    clear hk hb hu hw hl hlast hnil hc hne hlen hL hx hx0 hxw hX hbb hn hr hcu hadl hbl hl0 hs2
    go_enter Tryz.func64, Tryz.ntmps64
    go_wp2_with fail
    refine HL.out.mono ?_
    rintro e w2 ⟨rfl, rfl⟩
    clear HL
    go_wp2_with fail
    go_ret
    exact HR.out
/-- A small number, or none. -/
def SmallIs (N : Nat) (w : World) (e : Ending) (w' : World) : Prop := (N < 18446744073709551616 ∧ e = .returned (.tuple #[.int .u64 (N : Int), .bool true]) ∨ 18446744073709551616 ≤ N ∧ e = .returned (.tuple #[.int .u64 0, .bool false])) ∧ Below w.heap.size w w'
set_option maxRecDepth 100000 in
set_option maxHeartbeats 2000000 in
theorem small_any (N : Nat) (v : Value) (w : World) (h : IsN w v N) : Calls Tryz.prog 39 #[v] w (SmallIs N w) := by
  obtain ⟨a, c, us, rfl, hc, hu, hw, rfl, hl, hlast, hnil⟩ := h
  obtain ⟨W1, hW1⟩ : ∃ W1, w.alloc (.cells #[.slice a us.length c] 31) = W1 := ⟨_, rfl⟩
  have hk : Blk W1 w.heap.size 31 #[.slice a us.length c] := by rw [← hW1]; exact Blk.new w _ _
  have hb : Below w.heap.size w W1 := by rw [← hW1]; exact (Below.refl _ _).alloc (Nat.le_refl _) _
  have hk0 := hk.cell 0
  simp only [List.getElem?_toArray, List.getElem?_cons_zero] at hk0
  rcases us with _ | ⟨x, us⟩
  · obtain ⟨rfl, rfl⟩ := hnil rfl
    have HR : Hid (SmallIs (wv []) w (.returned (.tuple #[.int .u64 0, .bool true])) W1) := Lib.hid ⟨.inl ⟨by simp [wv], rfl⟩, hb⟩
    simp only [List.length_nil] at hk0 hW1 ⊢
    clear hk hb hu hw hl hlast hnil hc
    go_enter Tryz.func39, Tryz.ntmps39
    go_wp2_with fail
    go_ret2
    exact HR.out
  · rcases us with _ | ⟨y, us⟩
    · obtain ⟨ad, rfl, hadl, hcu⟩ := hu 0 (by simp)
      have hcu1 := (hb.cell (by rw [add_block]; exact hadl)).trans hcu
      have hx := hw x (List.mem_cons_self)
      have HR : Hid (SmallIs (wv [x]) w (.returned (.tuple #[.int .u64 (x : Int), .bool true])) W1) := Lib.hid ⟨.inl ⟨by simp [wv]; exact hx, by simp [wv]⟩, hb⟩
      have ead : ad.add 0 = ad := rfl
      rw [ead] at hcu1
      simp only [List.getD_cons_zero] at hcu1
      obtain ⟨X, hX⟩ : ∃ X : Int, (x : Int) = X := ⟨_, rfl⟩
      rw [hX] at hcu1 HR
      simp only [List.length_cons, List.length_nil, Nat.zero_add] at hk0 hW1 ⊢
      clear hk hb hu hw hl hlast hnil hc hcu hadl hx hX
      go_enter Tryz.func39, Tryz.ntmps39
      go_wp2_with fail
      go_ret2
      exact HR.out
    · obtain ⟨n, hn⟩ : ∃ n, (x :: y :: us).length = n := ⟨_, rfl⟩
      have hn2 : 2 ≤ n := by rw [← hn]; simp
      have hbig : 18446744073709551616 ≤ wv (x :: y :: us) := by
        have hne : (x :: y :: us) ≠ [] := by simp
        have h1 := wv_last hne
        have h0 := hlast hne
        have hp : 18446744073709551616 ^ 1 ≤ 18446744073709551616 ^ ((x :: y :: us).length - 1) := Nat.pow_le_pow_right (by omega) (by rw [hn]; omega)
        generalize (x :: y :: us).getD ((x :: y :: us).length - 1) 0 = z at *
        generalize 18446744073709551616 ^ ((x :: y :: us).length - 1) = p at *
        have : p * 1 ≤ p * z := Nat.mul_le_mul_left _ (by omega)
        omega
      have HR : Hid (SmallIs (wv (x :: y :: us)) w (.returned (.tuple #[.int .u64 0, .bool false])) W1) := Lib.hid ⟨.inr ⟨hbig, rfl⟩, hb⟩
      have hi0 : ((n : Int) == 0) = false := by simp; omega
      have hi1 : ((n : Int) == 1) = false := by simp; omega
      rw [hn] at hk0 hW1 ⊢
      clear hk hb hu hw hl hlast hnil hc hbig hn
      go_enter Tryz.func39, Tryz.ntmps39
      go_wp2_with fail
      go_ret2
      exact HR.out
end Go.Proofs.YtckglpkafhmehaaGreatDoor
