/-
  Law 1: a sum, whichever number is longer.
  Law 1: a sum of nothing and nothing; and of any two.
  Law 1: the math of a difference, word by word.
  Law 1: a difference.
  Law 1: nothing taken from nothing; and a difference of any two, the second no greater.
  Law 1: a difference of two, the second greater: none.
-/
import Derived.Test.YtggmnmmjmihnfaaGreatDoorNAddP
import Derived.Test.YtggmnmmjmihnfaaGreatDoorNNines
import Derived.Laws.OwnMore
import Derived.Test.YtggmnmmjmihnfaaGreatDoorNCmp
import Derived.StillTailTactics
import Derived.Test.YtggmnmmjmihnfaaGreatDoorNDvM
namespace Go.Proofs.YtggmnmmjmihnfaaGreatDoor
open Go.RowKit
set_option linter.unusedVariables false
theorem add_some (M N : Nat) (va vb : Value) (w : World) (ha : IsN w va M) (hb : IsN w vb N) (hM : M < 18446744073709551616 ^ 9000) (hN : N < 18446744073709551616 ^ 9000) (h0 : M ≠ 0 ∨ N ≠ 0) :
    Calls Tryz.prog 70 #[va, vb] w (GaveV (M + N) w) := by
  obtain ⟨a1, c1, us, rfl, hc1, hu, hwu, rfl, hl1, _, _, hz1⟩ := isN_open 9000 ha hM
  obtain ⟨a2, c2, vs, rfl, hc2, hv, hwv, rfl, hl2, _, _, hz2⟩ := isN_open 9000 hb hN
  rcases Nat.lt_or_ge us.length vs.length with hlt | hge
  · have hne : vs ≠ [] := fun e => by rw [e] at hlt; simp at hlt
    obtain ⟨ad, rfl, _, _⟩ := hv 0 (List.length_pos_iff.2 hne)
    have := add_swap ad a1 c2 c1 vs us w hv hu hwv hwu (by omega) hne hlt
    rw [Nat.add_comm (wv us)]
    exact this.mono fun _ _ h => gaveV h
  · have hne : us ≠ [] := fun e => by
      rw [e] at hge
      have : vs = [] := List.eq_nil_of_length_eq_zero (by simpa using hge)
      rw [e, this] at h0
      rcases h0 with h | h <;> exact h rfl
    obtain ⟨ad, rfl, _, _⟩ := hu 0 (List.length_pos_iff.2 hne)
    exact (add_long ad a2 c1 c2 us vs w hu hv hwu hwv (by omega) hne hge).mono fun _ _ h => gaveV h
end Go.Proofs.YtggmnmmjmihnfaaGreatDoor
namespace Go.Proofs.YtggmnmmjmihnfaaGreatDoor
open Go.RowKit
set_option linter.unusedVariables false
theorem step_app0 {ops : Array Oper} {o : Oper} {a : Act} {K : Act → World → Prop} {Q : Exit → Act → World → Prop} {E : Prop} (hgd : o.guard = none) (s x : Operand)
    (ho : o.op = .call { callee := .builtin .append, args := #[s, x], argTypes := #[23, 23] }) (B : Nat) (W : World) (v : Value)
    (hs : a.eval s = v) (hown : OU B W v []) (hx : a.eval x = .slice none 0 0)
    (h : K (a.put o.dst v) W) :
    if Region.wanted o (yielded ops a.tmps) = true then Oper.wp Tryz.prog o a W K Q else E := by
  have hw : Region.wanted o (yielded ops a.tmps) = true := by simp [Region.wanted, hgd]
  rw [if_pos hw]
  obtain ⟨i0, hi, hz0, hz1, hz2⟩ := info_parts Tryz.infoU
  have ho' : W.ownsRow B 49 1 v 0 [] := by unfold OU at hown; simpa using hown
  have hr := run_append_owned_none (P := Tryz.prog) (w := W) B 23 o.type 49 i0 1 Tryz.underlying23 hi v 0 [] ho'
  unfold Oper.wp execOp
  simp only [ho, resolve, invoke, builtin, Sem.run_bind, Sem.run_pure, Result.andThen_ok, List.map_toArray, List.map_cons, List.map_nil, hs, hx, hr]
  exact h
/-- Nothing has no words. -/
theorem isN_zero_form {w : World} {v : Value} (h : IsN w v 0) : v = .agg #[.slice none 0 0] := by
  obtain ⟨a, c, us, rfl, _, _, _, hv, _, hlast, hnil⟩ := h
  have hne : us = [] := by
    apply Classical.byContradiction
    intro hne
    have h2 := wv_ge hne (hlast hne)
    rw [hv] at h2
    have h3 : 0 < 18446744073709551616 ^ (us.length - 1) := Nat.pow_pos (by decide)
    omega
  obtain ⟨rfl, rfl⟩ := hnil hne
  rw [hne]
  rfl
set_option maxRecDepth 100000 in
set_option maxHeartbeats 4000000 in
theorem add_zero (w : World) : Calls Tryz.prog 70 #[.agg #[.slice none 0 0], .agg #[.slice none 0 0]] w (AddIs 0 w) := by
  obtain ⟨i0, hi, hz0, hz1, hz2⟩ := info_parts Tryz.infoU
  obtain ⟨W3, hW3⟩ : ∃ W3, ((w.alloc (.cells #[.slice none 0 0] 25)).alloc (.cells #[.slice none 0 0] 25)).alloc (.cells #[.slice none 0 0] 25) = W3 := ⟨_, rfl⟩
  have hbx : Bx w W3 (.slice none 0 0) (.slice none 0 0) (.slice none 0 0) := by
    rw [← hW3]
    have k1 := ((Blk.new w 25 #[.slice none 0 0]).alloc (.cells #[.slice none 0 0] 25)).alloc (.cells #[.slice none 0 0] 25)
    have k2 := (Blk.new (w.alloc (.cells #[.slice none 0 0] 25)) 25 #[.slice none 0 0]).alloc (.cells #[.slice none 0 0] 25)
    have k3 := Blk.new ((w.alloc (.cells #[.slice none 0 0] 25)).alloc (.cells #[.slice none 0 0] 25)) 25 #[.slice none 0 0]
    simp only [World.size_alloc] at k2 k3
    exact ⟨k1, k2, k3, (((Below.refl _ w).alloc (Nat.le_refl _) _).alloc (by simp) _).alloc (by simp; omega) _⟩
  have hsz3 : W3.heap.size = w.heap.size + 3 := by rw [← hW3]; simp
  have q1 : W3.drew.cell? ⟨w.heap.size, 0, none⟩ = some (.slice none 0 0) := hbx.b1.cell 0
  have r1 : W3.cell? ⟨w.heap.size, 0, none⟩ = some (.slice none 0 0) := hbx.b1.cell 0
  have r2 : W3.cell? ⟨w.heap.size + 1, 0, none⟩ = some (.slice none 0 0) := hbx.b2.cell 0
  obtain ⟨W4, hmk, hom, hgm⟩ := run_make_own (P := Tryz.prog) W3.drew (w.heap.size + 3) 23 49 i0 (.int .u64 0) 1 Tryz.underlying23 hi hz0 hz1 .i64 .i64 1 (by rw [hz2]; omega) (by unfold maxLen; omega) (by show w.heap.size + 3 ≤ W3.heap.size; omega)
  have edr : W3.drew.heap.size = w.heap.size + 3 := hsz3
  have e1 : ((1 : Nat) : Int) = IntKind.i64.wrap 1 := by decide
  rw [e1, edr] at hmk
  rw [edr] at hom
  clear e1
  have hmk1 := hmk
  rw [show IntKind.i64.wrap 1 = 1 by decide] at hmk1
  have hb4 : Below (w.heap.size + 3) W3 W4 := ((Below.refl _ W3).drew).grown hgm (by show w.heap.size + 3 ≤ W3.heap.size; omega) (fun k hk => by cases hk)
  have hbx4 := hbx.below hb4 (Nat.le_refl _)
  have q2 : W4.cell? ⟨w.heap.size, 0, none⟩ = some (.slice none 0 0) := hbx4.b1.cell 0
  have q3 : W4.cell? ⟨w.heap.size + 1, 0, none⟩ = some (.slice none 0 0) := hbx4.b2.cell 0
  have HO4 : Hid (OU (w.heap.size + 3) W4 (.slice (some ⟨w.heap.size + 3, 0, none⟩) 0 1) []) := Lib.hid hom
  have HX4 := Lib.hid hbx4
  have hsz4 : w.heap.size + 3 ≤ W4.heap.size := by have := hb4.size; omega
  have HT := Lib.hid (trim_res (w.heap.size + 3) (w.heap.size + 1 + 1) w W4 _ [] 0 HO4.out hbx4.bel (by omega) (by omega) hbx4.b3 (fun u hu => by cases hu) rfl (by simp))
  clear hbx hi hz0 hz1 hz2 hgm hom hb4 hbx4
  go_enter Tryz.func70, Tryz.ntmps70
  go_wp2_with fail
  go_step3
  go_wp2_with fail
  go_region_held3 (fun w' => w'.cell? ⟨w.heap.size, 0, none⟩ = some (.slice none 0 0))
    (first | exact q1 | exact q2 | go_keep)
    (first
      | (refine step_app0 (by rfl) (.tmp 23) (.tmp 25) (by rfl) (w.heap.size + 3) W4 _ (by rfl) HO4.out (by rfl) ?_))
  go_wp2_with fail
  go_loopw [6, 30] (fun cv iv wr => cv = .int .u64 0 ∧ iv = .int .i64 0 ∧ wr = W4) (fun _ _ _ => 0)
  case atStart => exact ⟨rfl, rfl, rfl⟩
  case round =>
    obtain ⟨rfl, rfl, rfl⟩ := hrel
    go_wp2_with fail
    refine wp_label ?_
    go_wp2_with fail
    go_loopw [5, 6, 9] (fun ov cv iv wq => ov = .slice (some ⟨w.heap.size + 3, 0, none⟩) 0 1 ∧ cv = .int .u64 0 ∧ iv = .int .i64 0 ∧ wq = wr) (fun _ _ _ _ => 0)
    case atStart => exact ⟨rfl, rfl, rfl, rfl⟩
    case round =>
      obtain ⟨rfl, rfl, rfl, rfl⟩ := hrel
      go_wp2_with fail
      refine HT.out.mono ?_
      rintro e w5 ⟨x, y, z, rfl, hk5, hN5, hB5, _⟩
      have hk50 := hk5.out.cell 0; have hk5f := hk5.out.frozen 0
      simp only [List.getElem?_toArray, List.getElem?_cons_zero] at hk50
      clear HT
      go_wp2_with fail
      refine Exit.noGoto_ret .. |>.symm ▸ ?_
      refine bodyPost_ret (res_nat rfl _ _ (w.heap.size + 1 + 1) (.slice x y z) rfl (hk5.out.set_ 0 _)) rfl ?_
      exact ⟨_, rfl, hN5.out, hB5.out⟩
/-- A sum of any two. -/
theorem add_any (M N : Nat) (va vb : Value) (w : World) (ha : IsN w va M) (hb : IsN w vb N) (hM : M < 18446744073709551616 ^ 9000) (hN : N < 18446744073709551616 ^ 9000) :
    Calls Tryz.prog 70 #[va, vb] w (GaveV (M + N) w) := by
  by_cases h : M ≠ 0 ∨ N ≠ 0
  · exact add_some M N va vb w ha hb hM hN h
  · obtain ⟨h1, h2⟩ : M = 0 ∧ N = 0 := by omega
    subst h1 h2
    obtain rfl := isN_zero_form ha
    obtain rfl := isN_zero_form hb
    exact (add_zero w).mono fun _ _ h => gaveV h
end Go.Proofs.YtggmnmmjmihnfaaGreatDoor
namespace Go.Proofs.YtggmnmmjmihnfaaGreatDoor
/-- What the loops keep: ps are the words that are done, bb the borrow. -/
structure Sb (us vs : List Nat) (k : Nat) (ps : List Nat) (bb : Nat) : Prop where
  len : ps.length = k
  wrd : Wrd ps
  ble : bb ≤ 1
  eq : wv ps + wv (vs.take k) = wv (us.take k) + 18446744073709551616 ^ k * bb
theorem sb_zero (us vs : List Nat) : Sb us vs 0 [] 0 := ⟨rfl, fun u hu => (by cases hu), by omega, by simp [wv]⟩
theorem sb_fin {B P df y bb x b' A V Z wps wvs wzs Q : Nat} (h1 : wps = A + P * df) (h2 : wvs = V + P * y) (h3 : wzs = Z + P * x) (h4 : Q = P * B) (he : A + V = Z + P * bb)
    (e3 : df + (y + bb) = x + B * b') : wps + wvs = wzs + Q * b' := by
  subst h1 h2 h3 h4
  have e4 : P * df + P * y + P * bb = P * x + P * (B * b') := by
    rw [← Nat.mul_add, ← Nat.mul_add, ← Nat.mul_add]
    congr 1
    omega
  rw [Nat.mul_assoc P B]
  generalize P * (B * b') = R at *
  generalize P * y = S at *
  generalize P * bb = T at *
  generalize P * df = M at *
  generalize P * x = N at *
  omega
theorem sb_step {us vs ps : List Nat} {k bb : Nat} (h : Sb us vs k ps bb) (hx : us.getD k 0 < 18446744073709551616) (hy : vs.getD k 0 < 18446744073709551616) :
    Sb us vs (k + 1) (ps ++ [(us.getD k 0 + 18446744073709551616 - vs.getD k 0 - bb) % 18446744073709551616]) (if us.getD k 0 < vs.getD k 0 + bb then 1 else 0) := by
  refine ⟨by rw [List.length_append, h.len]; rfl, fun u hu => ?_, by split <;> omega, ?_⟩
  · rcases List.mem_append.1 hu with hu | hu
    · exact h.wrd u hu
    · rw [List.mem_singleton] at hu
      rw [hu]; exact Nat.mod_lt _ (by decide)
  · exact sb_fin (wv_snoc ps _ k h.len) (wv_take vs k) (wv_take us k) (Nat.pow_succ _ k) h.eq (sub_word hx hy h.ble)
/-- No borrow is left, and the shorter number is done: the rest is as it was. -/
theorem sb_done {us vs ps : List Nat} {k : Nat} (h : Sb us vs k ps 0) (hk : k ≤ us.length) (hm : vs.length ≤ k) : wv (ps ++ us.drop k) + wv vs = wv us := by
  have he := h.eq
  rw [List.take_of_length_le hm, Nat.mul_zero, Nat.add_zero] at he
  have h1 : wv us = wv (us.take k) + 18446744073709551616 ^ k * wv (us.drop k) := by
    conv => lhs; rw [← List.take_append_drop k us]
    rw [wv_append, List.length_take, Nat.min_eq_left hk]
  rw [wv_append, h.len, h1, ← he]
  omega
/-- All words are done: there is no borrow. -/
theorem sb_all {us vs ps : List Nat} {k bb : Nat} (h : Sb us vs k ps bb) (hk : us.length ≤ k) (hm : vs.length ≤ k) (hle : wv vs ≤ wv us) : bb = 0 := by
  have he := h.eq
  rw [List.take_of_length_le hm, List.take_of_length_le hk] at he
  have h1 := wv_lt ps h.wrd
  rw [h.len] at h1
  rcases Nat.eq_zero_or_pos bb with h0 | h0
  · exact h0
  · exfalso
    have : bb = 1 := by have := h.ble; omega
    subst this
    rw [Nat.mul_one] at he
    omega
end Go.Proofs.YtggmnmmjmihnfaaGreatDoor
namespace Go.Proofs.YtggmnmmjmihnfaaGreatDoor
open Go.RowKit
set_option linter.unusedVariables false
theorem push_nil {ops : Array Oper} {rest : List Oper} {o : Oper} {a : Act} {Q : Exit → Act → World → Prop} (hgd : o.guard = none) (s x : Operand)
    (ho : o.op = .call { callee := .builtin .append, args := #[s, x], argTypes := #[23, 23] }) (W : World) (us : List Nat) (ad : Addr) (c : Nat)
    (hs : a.eval s = .slice none 0 0) (hx : a.eval x = .slice (some ad) us.length c) (hnews : ∀ j u, (us.map uv)[j]? = some u → W.cell? (ad.add j) = some u) (hlen : us.length ≤ 10000)
    (h : ∀ v' W', OU W.heap.size W' v' us → Below W.heap.size W W' → wpList Tryz.prog ops Q rest (a.put o.dst v') W') :
    wpList Tryz.prog ops Q (o :: rest) a W := by
  obtain ⟨i0, hi, hz0, hz1, hz2⟩ := info_parts Tryz.infoU
  refine wpList_append_own _ hgd s x 23 ho W.heap.size 49 i0 (.int .u64 0) 1 8 Tryz.underlying23 hi hz0 hz1 hz2 rfl (by decide) (.slice none 0 0) 0 [] hs ⟨by simp, .inl ⟨rfl, rfl⟩⟩ ad us.length c (us.map uv) hx (by simp) hnews (uv_one us) (by unfold maxLen; omega) (by omega) (Nat.le_refl _) ?_
  intro v' W' h1 h2 _
  exact h v' W' (by unfold OU; simpa using h1) ((Below.refl _ W).grown h2 (Nat.le_refl _) (fun k hk => by cases hk))
def SubIs (D : Nat) (w : World) (e : Ending) (w' : World) : Prop := ∃ x y z, e = .returned (.tuple #[.agg #[.slice x y z], .bool true]) ∧ IsN w' (.agg #[.slice x y z]) D ∧ Below w.heap.size w w'
end Go.Proofs.YtggmnmmjmihnfaaGreatDoor
namespace Go.Proofs.YtggmnmmjmihnfaaGreatDoor
open Go.RowKit
set_option linter.unusedVariables false
theorem push_none {ops : Array Oper} {rest : List Oper} {o : Oper} {a : Act} {Q : Exit → Act → World → Prop} (hgd : o.guard = none) (s x : Operand)
    (ho : o.op = .call { callee := .builtin .append, args := #[s, x], argTypes := #[23, 23] }) (W : World)
    (hs : a.eval s = .slice none 0 0) (hx : a.eval x = .slice none 0 0) (h : wpList Tryz.prog ops Q rest (a.put o.dst (.slice none 0 0)) W) :
    wpList Tryz.prog ops Q (o :: rest) a W := by
  obtain ⟨i0, hi, hz0, hz1, hz2⟩ := info_parts Tryz.infoU
  have ho' : W.ownsRow W.heap.size 49 1 (.slice none 0 0) 0 [] := ⟨by simp, .inl ⟨rfl, rfl⟩⟩
  have hr := run_append_owned_none (P := Tryz.prog) (w := W) W.heap.size 23 o.type 49 i0 1 Tryz.underlying23 hi (.slice none 0 0) 0 [] ho'
  refine wpList_plain hgd fun _ hK => ?_
  unfold Oper.wp execOp
  simp only [ho, resolve, invoke, builtin, Sem.run_bind, Sem.run_pure, Result.andThen_ok, List.map_toArray, List.map_cons, List.map_nil, hs, hx, hr]
  exact hK _ _ h
end Go.Proofs.YtggmnmmjmihnfaaGreatDoor
namespace Go.Proofs.YtggmnmmjmihnfaaGreatDoor
open Go.RowKit
set_option linter.unusedVariables false
theorem bx_new (w : World) (v1 v2 : Value) : Bx w (((w.alloc (.cells #[v1] 25)).alloc (.cells #[v2] 25)).alloc (.cells #[.slice none 0 0] 25)) v1 v2 (.slice none 0 0) := by
  have k1 := ((Blk.new w 25 #[v1]).alloc (.cells #[v2] 25)).alloc (.cells #[.slice none 0 0] 25)
  have k2 := (Blk.new (w.alloc (.cells #[v1] 25)) 25 #[v2]).alloc (.cells #[.slice none 0 0] 25)
  have k3 := Blk.new ((w.alloc (.cells #[v1] 25)).alloc (.cells #[v2] 25)) 25 #[.slice none 0 0]
  simp only [World.size_alloc] at k2 k3
  exact ⟨k1, k2, k3, (((Below.refl _ w).alloc (Nat.le_refl _) _).alloc (by simp) _).alloc (by simp; omega) _⟩
end Go.Proofs.YtggmnmmjmihnfaaGreatDoor
