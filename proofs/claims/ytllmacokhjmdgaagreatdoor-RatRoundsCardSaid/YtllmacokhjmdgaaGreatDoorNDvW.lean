/-
  Law 1: a number divided by a word.
-/
import Derived.Test.YtllmacokhjmdgaaGreatDoorNShU
namespace Go.Proofs.YtllmacokhjmdgaaGreatDoor
open Go.RowKit
set_option linter.unusedVariables false
/-- What the loop keeps: qs are the quotient's words from j on, r the rest. -/
structure Dw (us : List Nat) (b j : Nat) (qs : List Nat) (r : Nat) : Prop where
  len : qs.length + j = us.length
  wrd : Wrd qs
  val : wv (us.drop j) = wv qs * b + r
  lt : r < b
theorem dw_step {us qs : List Nat} {b i r : Nat} (h : Dw us b (i + 1) qs r) (hi : i < us.length) (hx : us.getD i 0 < 18446744073709551616) :
    Dw us b i (((r * 18446744073709551616 + us.getD i 0) / b) :: qs) ((r * 18446744073709551616 + us.getD i 0) % b) := by
  have h1 := h.val
  have h2 := h.lt
  have hb : 0 < b := by omega
  have e := drop_get us i hi
  generalize us.getD i 0 = x at *
  have hd := Nat.div_add_mod (r * 18446744073709551616 + x) b
  have hm := Nat.mod_lt (r * 18446744073709551616 + x) hb
  have hq : (r * 18446744073709551616 + x) / b < 18446744073709551616 := by
    rw [Nat.div_lt_iff_lt_mul hb]
    have : (r + 1) * 18446744073709551616 ≤ b * 18446744073709551616 := Nat.mul_le_mul_right _ h2
    rw [Nat.mul_comm 18446744073709551616]
    omega
  refine ⟨by have := h.len; simp; omega, fun u hu => ?_, ?_, hm⟩
  · rcases List.mem_cons.1 hu with rfl | hu
    · exact hq
    · exact h.wrd u hu
  · rw [e]
    simp only [wv]
    rw [h1, Nat.add_mul, Nat.mul_add, Nat.mul_assoc]
    generalize (r * 18446744073709551616 + x) / b = q at *
    generalize (r * 18446744073709551616 + x) % b = m at *
    have e2 : q * b = b * q := Nat.mul_comm _ _
    omega
def DvWIs (N b : Nat) (w : World) (e : Ending) (w' : World) : Prop := ∃ x y z, e = .returned (.tuple #[.agg #[.slice x y z], .int .u64 ((N % b : Nat) : Int)]) ∧ IsN w' (.agg #[.slice x y z]) (N / b) ∧ Below w.heap.size w w'
set_option maxRecDepth 100000 in
set_option maxHeartbeats 4000000 in
theorem dvw_any (N b : Nat) (v : Value) (w : World) (h : IsN w v N) (hb0 : 0 < b) (hbw : b < 18446744073709551616) :
    Calls Tryz.prog 105 #[v, .int .u64 (b : Int)] w (DvWIs N b w) := by
  obtain ⟨a, c, us, rfl, hc, hu, hw, rfl, hl, _, _⟩ := h
  obtain ⟨n, hn⟩ : ∃ n, us.length = n := ⟨_, rfl⟩
  obtain ⟨W2, hW2⟩ : ∃ W2, ((w.alloc (.cells #[.slice a us.length c] 26)).alloc (.cells #[.slice none 0 0] 26)) = W2 := ⟨_, rfl⟩
  have hb2 := B2.new w (.slice a us.length c) (.slice none 0 0)
  have hsz2 : W2.heap.size = w.heap.size + 2 := by rw [← hW2]; simp
  rw [hW2] at hb2
  have Hn := Lib.hid hn
  have Hw := Lib.hid hw
  have Hu := Lib.hid hu
  have Hb2 := Lib.hid hb2
  have Hb0 := Lib.hid hb0
  have Hbw := Lib.hid hbw
  have q1 : W2.cell? ⟨w.heap.size, 0, none⟩ = some (.slice a us.length c) := hb2.b1.cell 0
  rw [hn] at q1 Hb2 hW2 hl ⊢
  obtain ⟨BY, hBY⟩ : ∃ BY : Int, (b : Int) = BY := ⟨_, rfl⟩
  have HBY := Lib.hid hBY
  have hwn : IntKind.i64.wrap ((n : Int) - 1) = (n : Int) - 1 := IntWalk.i64_in _ ⟨by omega, by omega⟩
  rw [hBY]
  clear hb2 hu hw hn hc hb0 hbw hBY
  go_enter Tryz.func105, Tryz.ntmps105
  go_wp2_with (at_make; refine make_u rfl (.tmp 11) rfl (w.heap.size + 2) _ _ n rfl rfl (by omega) (by omega) _ rfl ?_)
  intro W6 hr6 hb6 _
  obtain ⟨g, hg⟩ : ∃ g, w.heap.size + 2 = g := ⟨_, rfl⟩
  try rw [hsz2] at hr6
  have hr6' : W6.ownsRow (w.heap.size + 2) 22 1 (.slice (some ⟨g, 0, none⟩) n n) n (List.map uv (List.replicate n 0)) := by rw [← hg, List.map_replicate]; exact hr6
  replace hr6 := hr6'
  clear hr6'
  try rw [hsz2]
  rw [hg]
  have HB6 : Hid (Below (w.heap.size + 2) W2 W6) := Lib.hid hb6
  have hM0 : Hid (Dw us b n [] 0) := Lib.hid ⟨by rw [Hn.out]; simp, fun u hu => by simp at hu, by rw [List.drop_of_length_le (by rw [Hn.out]; exact Nat.le_refl _)]; simp [wv], Hb0.out⟩
  have Hr6 : Hid (W6.ownsRow (w.heap.size + 2) 22 1 (.slice (some ⟨g, 0, none⟩) n n) n ((List.replicate n 0 ++ []).map uv)) := Lib.hid (by rw [List.append_nil]; exact hr6)
  clear hr6 hb6 q1 hg
  go_wp2_with fail
  go_loopw [7, 8] (fun rv iv wr => ∃ (k : Nat) (z : Int) (qs : List Nat) (r : Nat) (R : Int), k ≤ n ∧ z = (k : Int) - 1 ∧ iv = .int .i64 z ∧ rv = .int .u64 R ∧ Hid (R = (r : Int)) ∧ Hid (Dw us b k qs r) ∧ Hid (wr.ownsRow (w.heap.size + 2) 22 1 (.slice (some ⟨g, 0, none⟩) n n) n ((List.replicate k 0 ++ qs).map uv)) ∧ Hid (Below (w.heap.size + 2) W2 wr)) (fun _ iv _ => (intOf iv + 1).toNat)
  case atStart => exact ⟨n, _, [], 0, 0, Nat.le_refl _, rfl, rfl, rfl, Lib.hid rfl, hM0, Hr6, HB6⟩
  case round =>
    clear hM0 Hr6 HB6
    obtain ⟨k, z, qs, r, R, hk, hz, rfl, rfl, hR, hD, hrow, hbel⟩ := hrel
    have hbxr := Hb2.out.below hbel.out (Nat.le_refl _)
    have q7 : wr.cell? ⟨w.heap.size, 0, none⟩ = some (.slice a n c) := hbxr.b1.cell 0
    cases k with
    | zero =>
      have hzn : ¬ (0 : Int) ≤ z := by omega
      have hval := hD.out.val
      rw [List.drop_zero] at hval
      have hql := hD.out.len
      rw [Hn.out] at hql
      have hou : OU (w.heap.size + 2) wr (.slice (some ⟨g, 0, none⟩) n n) qs := by
        unfold OU
        have h1 := hrow.out
        rw [List.replicate_zero, List.nil_append] at h1
        rw [show qs.length = n by omega]
        exact h1
      have HQ : Hid (wv us / b = wv qs ∧ wv us % b = r) := Lib.hid (div_of_eq hval hD.out.lt)
      have HT := Lib.hid (trim_res (w.heap.size + 2) (w.heap.size + 1) w wr _ _ _ hou hbxr.bel (by omega) (by omega) hbxr.b2 hD.out.wrd rfl (by omega))
      clear hval hou hbxr hbel hrow hD hz hql q7
      go_wp2_with fail
      refine HT.out.mono ?_
      rintro e w5 ⟨x, y, z, rfl, hk5, hN5, hB5, _⟩
      have hk50 := hk5.out.cell 0; have hk5f := hk5.out.frozen 0
      simp only [List.getElem?_toArray, List.getElem?_cons_zero] at hk50
      clear HT
      go_wp2_with fail
      refine bodyPost_ret (res_nat2 rfl _ _ (w.heap.size + 1) (.slice x y z) (.int .u64 R) rfl rfl (hk5.out.set_ 0 _)) rfl ?_
      refine ⟨x, y, z, by rw [HQ.out.2, ← hR.out], ?_, hB5.out⟩
      rw [HQ.out.1]
      exact hN5.out
    | succ i =>
      obtain rfl : z = (i : Int) := by omega
      clear hz
      have hiu : i < us.length := by rw [Hn.out]; omega
      obtain ⟨ad, rfl, hadl, hcu⟩ := Hu.out.at hiu (B := w.heap.size) (Nat.le_refl _)
      obtain ⟨x, hx⟩ : ∃ x, us.getD i 0 = x := ⟨_, rfl⟩
      have hxw : x < 18446744073709551616 := by rw [← hx]; exact getW Hw.out i
      have hstep := dw_step hD.out hiu (by rw [hx]; exact hxw)
      rw [hx] at hstep hcu
      have hdv := div64_any r x b hxw Hbw.out hD.out.lt wr
      obtain ⟨q, hq⟩ : ∃ q, (r * 18446744073709551616 + x) / b = q := ⟨_, rfl⟩
      obtain ⟨m, hm⟩ : ∃ m, (r * 18446744073709551616 + x) % b = m := ⟨_, rfl⟩
      rw [hq, hm] at hstep
      obtain ⟨X, hX⟩ : ∃ X : Int, (x : Int) = X := ⟨_, rfl⟩
      obtain ⟨Q, hQ⟩ : ∃ Q : Int, (q : Int) = Q := ⟨_, rfl⟩
      obtain ⟨M, hM⟩ : ∃ M : Int, (m : Int) = M := ⟨_, rfl⟩
      have HDv : Hid (Calls Tryz.prog 59 #[.int .u64 R, .int .u64 X, .int .u64 BY] wr fun e w' => e = .returned (.tuple #[.int .u64 Q, .int .u64 M]) ∧ Below wr.heap.size wr w') := Lib.hid (by
        rw [hR.out, ← hX, ← HBY.out]
        refine hdv.mono ?_
        rintro e w' ⟨q', m', hq', hm', he, hb⟩
        rw [hq] at hq'
        rw [hm] at hm'
        subst hq' hm'
        exact ⟨by rw [he, hQ, hM], hb⟩)
      have HSt := Lib.hid hstep
      have HM := Lib.hid hM.symm
      obtain ⟨cv, hcv, hf⟩ := row_at hrow.out i (by omega)
      obtain ⟨hbg, hgl, _⟩ := ou_block hrow.out
      have hset : (List.replicate (i + 1) 0 ++ qs).set i q = List.replicate i 0 ++ (q :: qs) := by
        rw [List.replicate_succ', List.append_assoc, List.set_append_right _ _ (by rw [List.length_replicate]; exact Nat.le_refl _), List.length_replicate, Nat.sub_self]; rfl
      have HTs : Hid (∀ w', Below wr.heap.size wr w' → w'.cell? ⟨g, i, none⟩ = some cv ∧ w'.frozen? ⟨g, i, none⟩ = false ∧ (w'.setCell ⟨g, i, none⟩ (.int .u64 Q)).ownsRow (w.heap.size + 2) 22 1 (.slice (some ⟨g, 0, none⟩) n n) n ((List.replicate i 0 ++ (q :: qs)).map uv) ∧ Below (w.heap.size + 2) W2 (w'.setCell ⟨g, i, none⟩ (.int .u64 Q))) := Lib.hid (fun w' hb => by
        have h1 : w'.ownsRow (w.heap.size + 2) 22 1 (.slice (some ⟨g, 0, none⟩) n n) n ((List.replicate (i + 1) 0 ++ qs).map uv) := hrow.out.kept (grown_below hb (Nat.le_refl _)) (.inr (by simp [Value.ownBlock]))
        have h2 := ou_set h1 i q (by omega)
        rw [hset, hQ] at h2
        refine ⟨(hb.cell (p := ⟨g, i, none⟩) hgl).trans hcv, ?_, h2, (hbel.out.trans (hb.mono (by have := hbel.out.size; omega))).setCell (p := ⟨g, i, none⟩) hbg _⟩
        have := hf
        unfold World.frozen? at this ⊢
        rw [hb.block g hgl]
        exact this)
      have hi0 : (0 : Int) ≤ (i : Int) := by omega
      have hi1 : (i : Int) < (n : Int) := by omega
      have hcx : wr.cell? (ad.add i) = some (.int .u64 X) := by
        rw [← hX]
        exact (hbel.out.cell (by rw [add_block]; omega)).trans ((Hb2.out.bel.cell (by rw [add_block]; exact hadl)).trans hcu)
      clear hdv hstep hQ hM hq hm hX hset hrow hbel hbxr hD hR hx hxw hcu hadl hcv hf hbg hgl hiu
      go_wp2_with fail
      refine HDv.out.mono ?_
      rintro e w5 ⟨rfl, hb5⟩
      obtain ⟨hc5, hf5, hr5, hbl5⟩ := HTs.out w5 hb5
      have Hr5 := Lib.hid hr5
      have Hbl5 := Lib.hid hbl5
      clear HDv HTs hb5 hr5 hbl5 hcx q7
      go_wp2_with fail
      go_roundw
      case rel => exact ⟨i, _, q :: qs, m, M, by omega, rfl, by go_num, rfl, HM, HSt, Hr5, Hbl5⟩
      case measure => simp [intOf] <;> omega
end Go.Proofs.YtllmacokhjmdgaaGreatDoor
