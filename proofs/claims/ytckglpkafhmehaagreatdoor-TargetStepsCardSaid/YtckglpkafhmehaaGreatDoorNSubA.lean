/-
  Law 1: a sum, whichever number is longer.
  Law 1: a sum of nothing and nothing; and of any two.
  Law 1: the math of a difference, word by word.
  Law 1: a difference.
  Law 1: nothing taken from nothing; and a difference of any two, the second no greater.
  Law 1: a difference of two, the second greater: none.
-/
import Derived.Test.YtckglpkafhmehaaGreatDoorNAddP
import Derived.Test.YtckglpkafhmehaaGreatDoorNNines
import Derived.Laws.OwnMore
import Derived.Test.YtckglpkafhmehaaGreatDoorNCmp
import Derived.StillTailTactics
import Derived.Test.YtckglpkafhmehaaGreatDoorNDvM
namespace Go.Proofs.YtckglpkafhmehaaGreatDoor
open Go.RowKit
set_option linter.unusedVariables false
theorem add_some (M N : Nat) (va vb : Value) (w : World) (ha : IsN w va M) (hb : IsN w vb N) (hM : M < 18446744073709551616 ^ 9000) (hN : N < 18446744073709551616 ^ 9000) (h0 : M ≠ 0 ∨ N ≠ 0) :
    Calls Tryz.prog 36 #[va, vb] w (GaveV (M + N) w) := by
  obtain ⟨a1, c1, us, rfl, hc1, hu, hwu, rfl, hl1, _, _, hz1⟩ := isN_open 9000 ha hM
  obtain ⟨a2, c2, vs, rfl, hc2, hv, hwv, rfl, hl2, _, _, hz2⟩ := isN_open 9000 hb hN
  rcases Nat.lt_or_ge us.length vs.length with hlt | hge
  · have hne : vs ≠ [] := fun e => by rw [e] at hlt; simp at hlt
    obtain ⟨ad, rfl, _, _⟩ := hv 0 (List.length_pos_iff.2 hne)
    have := add_swap ad a1 c2 c1 vs us w hv hu hwv hwu (by omega) hne hlt
    rw [Nat.add_comm (wv us)]
    exact this.mono fun _ _ h => gaveV h
  · have hne : us ≠ [] := fun e => by
      rw [e] at hge
      have : vs = [] := List.eq_nil_of_length_eq_zero (by simpa using hge)
      rw [e, this] at h0
      rcases h0 with h | h <;> exact h rfl
    obtain ⟨ad, rfl, _, _⟩ := hu 0 (List.length_pos_iff.2 hne)
    exact (add_long ad a2 c1 c2 us vs w hu hv hwu hwv (by omega) hne hge).mono fun _ _ h => gaveV h
end Go.Proofs.YtckglpkafhmehaaGreatDoor
namespace Go.Proofs.YtckglpkafhmehaaGreatDoor
open Go.RowKit
set_option linter.unusedVariables false
theorem step_app0 {ops : Array Oper} {o : Oper} {a : Act} {K : Act → World → Prop} {Q : Exit → Act → World → Prop} {E : Prop} (hgd : o.guard = none) (s x : Operand)
    (ho : o.op = .call { callee := .builtin .append, args := #[s, x], argTypes := #[29, 29] }) (B : Nat) (W : World) (v : Value)
    (hs : a.eval s = v) (hown : OU B W v []) (hx : a.eval x = .slice none 0 0)
    (h : K (a.put o.dst v) W) :
    if Region.wanted o (yielded ops a.tmps) = true then Oper.wp Tryz.prog o a W K Q else E := by
  have hw : Region.wanted o (yielded ops a.tmps) = true := by simp [Region.wanted, hgd]
  rw [if_pos hw]
  obtain ⟨i0, hi, hz0, hz1, hz2⟩ := info_parts Tryz.infoU
  have ho' : W.ownsRow B 60 1 v 0 [] := by unfold OU at hown; simpa using hown
  have hr := run_append_owned_none (P := Tryz.prog) (w := W) B 29 o.type 60 i0 1 Tryz.underlying29 hi v 0 [] ho'
  unfold Oper.wp execOp
  simp only [ho, resolve, invoke, builtin, Sem.run_bind, Sem.run_pure, Result.andThen_ok, List.map_toArray, List.map_cons, List.map_nil, hs, hx, hr]
  exact h
/-- Nothing has no words. -/
theorem isN_zero_form {w : World} {v : Value} (h : IsN w v 0) : v = .agg #[.slice none 0 0] := by
  obtain ⟨a, c, us, rfl, _, _, _, hv, _, hlast, hnil⟩ := h
  have hne : us = [] := by
    apply Classical.byContradiction
    intro hne
    have h2 := wv_ge hne (hlast hne)
    rw [hv] at h2
    have h3 : 0 < 18446744073709551616 ^ (us.length - 1) := Nat.pow_pos (by decide)
    omega
  obtain ⟨rfl, rfl⟩ := hnil hne
  rw [hne]
  rfl
set_option maxRecDepth 100000 in
set_option maxHeartbeats 4000000 in
theorem add_zero (w : World) : Calls Tryz.prog 36 #[.agg #[.slice none 0 0], .agg #[.slice none 0 0]] w (AddIs 0 w) := by
  obtain ⟨i0, hi, hz0, hz1, hz2⟩ := info_parts Tryz.infoU
  obtain ⟨W3, hW3⟩ : ∃ W3, ((w.alloc (.cells #[.slice none 0 0] 31)).alloc (.cells #[.slice none 0 0] 31)).alloc (.cells #[.slice none 0 0] 31) = W3 := ⟨_, rfl⟩
  have hbx : Bx w W3 (.slice none 0 0) (.slice none 0 0) (.slice none 0 0) := by
    rw [← hW3]
    have k1 := ((Blk.new w 31 #[.slice none 0 0]).alloc (.cells #[.slice none 0 0] 31)).alloc (.cells #[.slice none 0 0] 31)
    have k2 := (Blk.new (w.alloc (.cells #[.slice none 0 0] 31)) 31 #[.slice none 0 0]).alloc (.cells #[.slice none 0 0] 31)
    have k3 := Blk.new ((w.alloc (.cells #[.slice none 0 0] 31)).alloc (.cells #[.slice none 0 0] 31)) 31 #[.slice none 0 0]
    simp only [World.size_alloc] at k2 k3
    exact ⟨k1, k2, k3, (((Below.refl _ w).alloc (Nat.le_refl _) _).alloc (by simp) _).alloc (by simp; omega) _⟩
  have hsz3 : W3.heap.size = w.heap.size + 3 := by rw [← hW3]; simp
  have q1 : W3.drew.cell? ⟨w.heap.size, 0, none⟩ = some (.slice none 0 0) := hbx.b1.cell 0
  have r1 : W3.cell? ⟨w.heap.size, 0, none⟩ = some (.slice none 0 0) := hbx.b1.cell 0
  have r2 : W3.cell? ⟨w.heap.size + 1, 0, none⟩ = some (.slice none 0 0) := hbx.b2.cell 0
  obtain ⟨W4, hmk, hom, hgm⟩ := run_make_own (P := Tryz.prog) W3.drew (w.heap.size + 3) 29 60 i0 (.int .u64 0) 1 Tryz.underlying29 hi hz0 hz1 .i64 .i64 1 (by rw [hz2]; omega) (by unfold maxLen; omega) (by show w.heap.size + 3 ≤ W3.heap.size; omega)
  have edr : W3.drew.heap.size = w.heap.size + 3 := hsz3
  have e1 : ((1 : Nat) : Int) = IntKind.i64.wrap 1 := by decide
  rw [e1, edr] at hmk
  rw [edr] at hom
  clear e1
  have hmk1 := hmk
  rw [show IntKind.i64.wrap 1 = 1 by decide] at hmk1
  have hb4 : Below (w.heap.size + 3) W3 W4 := ((Below.refl _ W3).drew).grown hgm (by show w.heap.size + 3 ≤ W3.heap.size; omega) (fun k hk => by cases hk)
  have hbx4 := hbx.below hb4 (Nat.le_refl _)
  have q2 : W4.cell? ⟨w.heap.size, 0, none⟩ = some (.slice none 0 0) := hbx4.b1.cell 0
  have q3 : W4.cell? ⟨w.heap.size + 1, 0, none⟩ = some (.slice none 0 0) := hbx4.b2.cell 0
  have HO4 : Hid (OU (w.heap.size + 3) W4 (.slice (some ⟨w.heap.size + 3, 0, none⟩) 0 1) []) := Lib.hid hom
  have HX4 := Lib.hid hbx4
  have hsz4 : w.heap.size + 3 ≤ W4.heap.size := by have := hb4.size; omega
  have HT := Lib.hid (trim_res (w.heap.size + 3) (w.heap.size + 1 + 1) w W4 _ [] 0 HO4.out hbx4.bel (by omega) (by omega) hbx4.b3 (fun u hu => by cases hu) rfl (by simp))
  clear hbx hi hz0 hz1 hz2 hgm hom hb4 hbx4
  go_enter Tryz.func36, Tryz.ntmps36
  go_wp2_with fail
  go_step3
  go_wp2_with fail
  go_region_held3 (fun w' => w'.cell? ⟨w.heap.size, 0, none⟩ = some (.slice none 0 0))
    (first | exact q1 | exact q2 | go_keep)
    (first
      | (refine step_app0 (by rfl) (.tmp 23) (.tmp 25) (by rfl) (w.heap.size + 3) W4 _ (by rfl) HO4.out (by rfl) ?_))
  go_wp2_with fail
  go_loopw [6, 30] (fun cv iv wr => cv = .int .u64 0 ∧ iv = .int .i64 0 ∧ wr = W4) (fun _ _ _ => 0)
  case atStart => exact ⟨rfl, rfl, rfl⟩
  case round =>
    obtain ⟨rfl, rfl, rfl⟩ := hrel
    go_wp2_with fail
    refine wp_label ?_
    go_wp2_with fail
    go_loopw [5, 6, 9] (fun ov cv iv wq => ov = .slice (some ⟨w.heap.size + 3, 0, none⟩) 0 1 ∧ cv = .int .u64 0 ∧ iv = .int .i64 0 ∧ wq = wr) (fun _ _ _ _ => 0)
    case atStart => exact ⟨rfl, rfl, rfl, rfl⟩
    case round =>
      obtain ⟨rfl, rfl, rfl, rfl⟩ := hrel
      go_wp2_with fail
      refine HT.out.mono ?_
      rintro e w5 ⟨x, y, z, rfl, hk5, hN5, hB5, _⟩
      have hk50 := hk5.out.cell 0; have hk5f := hk5.out.frozen 0
      simp only [List.getElem?_toArray, List.getElem?_cons_zero] at hk50
      clear HT
      go_wp2_with fail
      refine Exit.noGoto_ret .. |>.symm ▸ ?_
      refine bodyPost_ret (res_nat rfl _ _ (w.heap.size + 1 + 1) (.slice x y z) rfl (hk5.out.set_ 0 _)) rfl ?_
      exact ⟨_, rfl, hN5.out, hB5.out⟩
/-- A sum of any two. -/
theorem add_any (M N : Nat) (va vb : Value) (w : World) (ha : IsN w va M) (hb : IsN w vb N) (hM : M < 18446744073709551616 ^ 9000) (hN : N < 18446744073709551616 ^ 9000) :
    Calls Tryz.prog 36 #[va, vb] w (GaveV (M + N) w) := by
  by_cases h : M ≠ 0 ∨ N ≠ 0
  · exact add_some M N va vb w ha hb hM hN h
  · obtain ⟨h1, h2⟩ : M = 0 ∧ N = 0 := by omega
    subst h1 h2
    obtain rfl := isN_zero_form ha
    obtain rfl := isN_zero_form hb
    exact (add_zero w).mono fun _ _ h => gaveV h
end Go.Proofs.YtckglpkafhmehaaGreatDoor
namespace Go.Proofs.YtckglpkafhmehaaGreatDoor
/-- What the loops keep: ps are the words that are done, bb the borrow. -/
structure Sb (us vs : List Nat) (k : Nat) (ps : List Nat) (bb : Nat) : Prop where
  len : ps.length = k
  wrd : Wrd ps
  ble : bb ≤ 1
  eq : wv ps + wv (vs.take k) = wv (us.take k) + 18446744073709551616 ^ k * bb
theorem sb_zero (us vs : List Nat) : Sb us vs 0 [] 0 := ⟨rfl, fun u hu => (by cases hu), by omega, by simp [wv]⟩
theorem sb_fin {B P df y bb x b' A V Z wps wvs wzs Q : Nat} (h1 : wps = A + P * df) (h2 : wvs = V + P * y) (h3 : wzs = Z + P * x) (h4 : Q = P * B) (he : A + V = Z + P * bb)
    (e3 : df + (y + bb) = x + B * b') : wps + wvs = wzs + Q * b' := by
  subst h1 h2 h3 h4
  have e4 : P * df + P * y + P * bb = P * x + P * (B * b') := by
    rw [← Nat.mul_add, ← Nat.mul_add, ← Nat.mul_add]
    congr 1
    omega
  rw [Nat.mul_assoc P B]
  generalize P * (B * b') = R at *
  generalize P * y = S at *
  generalize P * bb = T at *
  generalize P * df = M at *
  generalize P * x = N at *
  omega
theorem sb_step {us vs ps : List Nat} {k bb : Nat} (h : Sb us vs k ps bb) (hx : us.getD k 0 < 18446744073709551616) (hy : vs.getD k 0 < 18446744073709551616) :
    Sb us vs (k + 1) (ps ++ [(us.getD k 0 + 18446744073709551616 - vs.getD k 0 - bb) % 18446744073709551616]) (if us.getD k 0 < vs.getD k 0 + bb then 1 else 0) := by
  refine ⟨by rw [List.length_append, h.len]; rfl, fun u hu => ?_, by split <;> omega, ?_⟩
  · rcases List.mem_append.1 hu with hu | hu
    · exact h.wrd u hu
    · rw [List.mem_singleton] at hu
      rw [hu]; exact Nat.mod_lt _ (by decide)
  · exact sb_fin (wv_snoc ps _ k h.len) (wv_take vs k) (wv_take us k) (Nat.pow_succ _ k) h.eq (sub_word hx hy h.ble)
/-- No borrow is left, and the shorter number is done: the rest is as it was. -/
theorem sb_done {us vs ps : List Nat} {k : Nat} (h : Sb us vs k ps 0) (hk : k ≤ us.length) (hm : vs.length ≤ k) : wv (ps ++ us.drop k) + wv vs = wv us := by
  have he := h.eq
  rw [List.take_of_length_le hm, Nat.mul_zero, Nat.add_zero] at he
  have h1 : wv us = wv (us.take k) + 18446744073709551616 ^ k * wv (us.drop k) := by
    conv => lhs; rw [← List.take_append_drop k us]
    rw [wv_append, List.length_take, Nat.min_eq_left hk]
  rw [wv_append, h.len, h1, ← he]
  omega
/-- All words are done: there is no borrow. -/
theorem sb_all {us vs ps : List Nat} {k bb : Nat} (h : Sb us vs k ps bb) (hk : us.length ≤ k) (hm : vs.length ≤ k) (hle : wv vs ≤ wv us) : bb = 0 := by
  have he := h.eq
  rw [List.take_of_length_le hm, List.take_of_length_le hk] at he
  have h1 := wv_lt ps h.wrd
  rw [h.len] at h1
  rcases Nat.eq_zero_or_pos bb with h0 | h0
  · exact h0
  · exfalso
    have : bb = 1 := by have := h.ble; omega
    subst this
    rw [Nat.mul_one] at he
    omega
end Go.Proofs.YtckglpkafhmehaaGreatDoor
namespace Go.Proofs.YtckglpkafhmehaaGreatDoor
open Go.RowKit
set_option linter.unusedVariables false
theorem push_nil {ops : Array Oper} {rest : List Oper} {o : Oper} {a : Act} {Q : Exit → Act → World → Prop} (hgd : o.guard = none) (s x : Operand)
    (ho : o.op = .call { callee := .builtin .append, args := #[s, x], argTypes := #[29, 29] }) (W : World) (us : List Nat) (ad : Addr) (c : Nat)
    (hs : a.eval s = .slice none 0 0) (hx : a.eval x = .slice (some ad) us.length c) (hnews : ∀ j u, (us.map uv)[j]? = some u → W.cell? (ad.add j) = some u) (hlen : us.length ≤ 10000)
    (h : ∀ v' W', OU W.heap.size W' v' us → Below W.heap.size W W' → wpList Tryz.prog ops Q rest (a.put o.dst v') W') :
    wpList Tryz.prog ops Q (o :: rest) a W := by
  obtain ⟨i0, hi, hz0, hz1, hz2⟩ := info_parts Tryz.infoU
  refine wpList_append_own _ hgd s x 29 ho W.heap.size 60 i0 (.int .u64 0) 1 8 Tryz.underlying29 hi hz0 hz1 hz2 rfl (by decide) (.slice none 0 0) 0 [] hs ⟨by simp, .inl ⟨rfl, rfl⟩⟩ ad us.length c (us.map uv) hx (by simp) hnews (uv_one us) (by unfold maxLen; omega) (by omega) (Nat.le_refl _) ?_
  intro v' W' h1 h2 _
  exact h v' W' (by unfold OU; simpa using h1) ((Below.refl _ W).grown h2 (Nat.le_refl _) (fun k hk => by cases hk))
def SubIs (D : Nat) (w : World) (e : Ending) (w' : World) : Prop := ∃ x y z, e = .returned (.tuple #[.agg #[.slice x y z], .bool true]) ∧ IsN w' (.agg #[.slice x y z]) D ∧ Below w.heap.size w w'
set_option maxRecDepth 100000 in
set_option maxHeartbeats 4000000 in
theorem sub_some (M N : Nat) (va vb : Value) (w : World) (ha : IsN w va M) (hb : IsN w vb N) (hM : M < 18446744073709551616 ^ 9000) (hM0 : M ≠ 0) (hle : N ≤ M) :
    Calls Tryz.prog 71 #[va, vb] w (SubIs (M - N) w) := by
  have hA := ha; have hB := hb
  obtain ⟨a1, c1, us, rfl, hc1, hu, hwu, rfl, hl1, _, _, hz1⟩ := isN_open 9000 ha hM
  obtain ⟨a2, c2, vs, rfl, hc2, hv, hwv, rfl, hl2, hlastv, hnilv⟩ := hb
  have hne : us ≠ [] := fun e => hM0 (by rw [e]; rfl)
  obtain ⟨ad1, rfl, _, _⟩ := hu 0 (List.length_pos_iff.2 hne)
  have hlen : vs.length ≤ us.length := by
    rcases Nat.lt_or_ge us.length vs.length with h | h
    · exfalso
      have := wv_len_lt hwu h (hlastv (fun e => by rw [e] at h; simp at h))
      omega
    · exact h
  obtain ⟨n, hn⟩ : ∃ n, us.length = n := ⟨_, rfl⟩
  obtain ⟨m, hm⟩ : ∃ m, vs.length = m := ⟨_, rfl⟩
  have Hn := Lib.hid hn; have Hm := Lib.hid hm
  have hn0 : 0 < n := by rw [← hn]; exact List.length_pos_iff.2 hne
  have HLe := Lib.hid hle
  obtain ⟨W3, hW3⟩ : ∃ W3, ((w.alloc (.cells #[.slice (some ad1) us.length c1] 31)).alloc (.cells #[.slice a2 vs.length c2] 31)).alloc (.cells #[.slice none 0 0] 31) = W3 := ⟨_, rfl⟩
  have hbx : Bx w W3 (.slice (some ad1) us.length c1) (.slice a2 vs.length c2) (.slice none 0 0) := by
    rw [← hW3]
    have k1 := ((Blk.new w 31 #[.slice (some ad1) us.length c1]).alloc (.cells #[.slice a2 vs.length c2] 31)).alloc (.cells #[.slice none 0 0] 31)
    have k2 := (Blk.new (w.alloc (.cells #[.slice (some ad1) us.length c1] 31)) 31 #[.slice a2 vs.length c2]).alloc (.cells #[.slice none 0 0] 31)
    have k3 := Blk.new ((w.alloc (.cells #[.slice (some ad1) us.length c1] 31)).alloc (.cells #[.slice a2 vs.length c2] 31)) 31 #[.slice none 0 0]
    simp only [World.size_alloc] at k2 k3
    exact ⟨k1, k2, k3, (((Below.refl _ w).alloc (Nat.le_refl _) _).alloc (by simp) _).alloc (by simp; omega) _⟩
  obtain ⟨cz, hcz⟩ : ∃ cz, cmpI (wv us) (wv vs) = cz := ⟨_, rfl⟩
  have hcz0 : ¬ cz < 0 := by
    rw [← hcz]
    rcases Nat.lt_or_ge (wv vs) (wv us) with h | h
    · rw [cmpI_gt h]; decide
    · rw [show wv us = wv vs by omega, cmpI_eq]; decide
  have d1 : decide (cz < 0) = false := by simp; omega
  have HCm := Lib.hid (cmp_any _ _ _ _ W3 (hA.below hbx.bel (Nat.le_refl _)) (hB.below hbx.bel (Nat.le_refl _)))
  have HCz := Lib.hid hcz
  have Hbx := Lib.hid hbx
  have HU3 := Lib.hid (hu.below hbx.bel (Nat.le_refl _)); have HV3 := Lib.hid (hv.below hbx.bel (Nat.le_refl _))
  have HWu := Lib.hid hwu; have HWv := Lib.hid hwv
  have hsz3 : w.heap.size + 3 ≤ W3.heap.size := by have := hbx.b3.lt; omega
  have hnm : m ≤ n := by omega
  have hn9 : n ≤ 9000 := by omega
  have r1 : W3.cell? ⟨w.heap.size, 0, none⟩ = some (.slice (some ad1) n c1) := by rw [← hn]; exact hbx.b1.cell 0
  have r2 : W3.cell? ⟨w.heap.size + 1, 0, none⟩ = some (.slice a2 m c2) := by rw [← hm]; exact hbx.b2.cell 0
  rw [hn, hm] at hW3 HCm Hbx
  rw [hn, hm]
  clear hA hB ha hu hv hwu hwv hle hcz hbx hne hlen hlastv hnilv hz1 hM hM0 hn hm
  go_enter Tryz.func71, Tryz.ntmps71
  go_wp2_with fail
  go_step3
  go_wp2_with fail
  refine HCm.out.mono ?_
  rintro e w4 ⟨rfl, hb4⟩
  rw [HCz.out]
  have hbx4 := Hbx.out.below hb4 hsz3
  have HU4 := Lib.hid (HU3.out.below hb4 (by omega))
  have HV4 := Lib.hid (HV3.out.below hb4 (by omega))
  have Hbx4 := Lib.hid hbx4
  have hs4 := hb4.size
  have q1 : w4.cell? ⟨w.heap.size, 0, none⟩ = some (.slice (some ad1) n c1) := hbx4.b1.cell 0
  obtain ⟨Bd, hBd⟩ : ∃ Bd, w4.heap.size = Bd := ⟨_, rfl⟩
  have HBd := Lib.hid hBd
  have hBd3 : w.heap.size + 3 ≤ Bd := by omega
  have Hnews : Hid (∀ (j : Nat) (x : Value), (us.map uv)[j]? = some x → w4.cell? (ad1.add j) = some x) := Lib.hid (fun j x hj => by
    rw [List.getElem?_map, Option.map_eq_some_iff] at hj
    obtain ⟨u, hu', rfl⟩ := hj
    obtain ⟨ad', hadx, hlt', hcl⟩ := HU4.out j (List.getElem?_eq_some_iff.1 hu').1
    cases hadx
    rw [hcl, List.getD_eq_getElem?_getD, hu']
    rfl)
  clear hb4 hbx4 HCm r1 r2 HCz hBd
  go_wp2_with (at_builtin; refine push_nil rfl (.const (.slice none 0 0)) (.tmp 17) rfl w4 us ad1 c1 rfl (by rw [Hn.out]; rfl) Hnews.out (by rw [Hn.out]; omega) ?_)
  intro v5 W5 ho5 hb5
  obtain ⟨g, hg, cap, hcap, hv5⟩ : ∃ g, v5.ownBlock = some g ∧ ∃ cap, n ≤ cap ∧ v5 = .slice (some ⟨g, 0, none⟩) n cap := by
    obtain ⟨a9, c9, h9, h10, h11⟩ := ou_form ho5
    rcases h11 with h | ⟨g, hg⟩
    · have := hn0; rw [h] at Hn; have := Hn.out; simp at this; omega
    · subst hg
      exact ⟨g, by rw [h9]; rfl, c9, by rw [← Hn.out]; exact h10, by rw [h9, Hn.out]⟩
  subst hv5
  rw [HBd.out] at ho5 hb5
  have hrow0 : Hid (W5.ownsRow Bd 60 1 (.slice (some ⟨g, 0, none⟩) n cap) n (([] ++ us.drop 0).map uv)) := Lib.hid (by
    have := ho5
    unfold OU at this
    rw [Hn.out] at this
    simpa using this)
  have HSb0 : Hid (Sb us vs 0 [] 0) := Lib.hid (sb_zero us vs)
  have HB5 : Hid (Below Bd w4 W5) := Lib.hid hb5
  have r25 : W5.cell? ⟨w.heap.size + 1, 0, none⟩ = some (.slice a2 m c2) := (Hbx4.out.below hb5 hBd3).b2.cell 0
  clear ho5 hg hb5 Hnews q1
  go_wp2_with fail
  go_loopw [7, 22] (fun cv i wr => ∃ (k c : Nat) (ps : List Nat) (C : Int), k ≤ m ∧ i = .int .i64 (k : Int) ∧ cv = .int .u64 C ∧ Hid (C = (c : Int)) ∧ Hid (Sb us vs k ps c) ∧ Hid (wr.ownsRow Bd 60 1 (.slice (some ⟨g, 0, none⟩) n cap) n ((ps ++ us.drop k).map uv)) ∧ Hid (Below Bd w4 wr)) (fun _ i _ => m - (intOf i).toNat)
  case atStart => exact ⟨0, 0, [], 0, by omega, rfl, rfl, Lib.hid rfl, HSb0, hrow0, HB5⟩
  case round =>
    obtain ⟨k, c, ps, C, hk, rfl, rfl, hC, hA, hrow, hbel⟩ := hrel
    clear HSb0 hrow0 HB5
    by_cases hlt1 : k < m
    · have hkn : k < n := by omega
      have hku : k < us.length := by rw [Hn.out]; exact hkn
      have hkv : k < vs.length := by rw [Hm.out]; exact hlt1
      obtain ⟨ad2, rfl, hadl, hcv⟩ := HV4.out k hkv
      have hcv' : wr.cell? (ad2.add k) = some (.int .u64 ((vs.getD k 0 : Nat) : Int)) := (hbel.out.cell (by rw [add_block]; have := HBd.out; omega)).trans hcv
      obtain ⟨x, hx⟩ : ∃ x, us.getD k 0 = x := ⟨_, rfl⟩
      obtain ⟨y, hy⟩ : ∃ y, vs.getD k 0 = y := ⟨_, rfl⟩
      have hxw : x < 18446744073709551616 := by rw [← hx]; exact getW HWu.out k
      have hyw : y < 18446744073709551616 := by rw [← hy]; exact getW HWv.out k
      have hstep := sb_step hA.out (by rw [hx]; exact hxw) (by rw [hy]; exact hyw)
      rw [hx, hy] at hstep
      have hdrop := drop_get us k hku
      rw [hx] at hdrop
      have hlen : (ps ++ us.drop k).length = n := by rw [List.length_append, List.length_drop, hA.out.len, Hn.out]; omega
      have hcell := ou_cell hrow.out k (by omega)
      have hgx : (ps ++ us.drop k).getD k 0 = x := by
        rw [List.getD_eq_getElem?_getD, List.getElem?_append_right (by rw [hA.out.len]; omega), hA.out.len, hdrop]; simp
      rw [hgx, add_zero_off] at hcell
      obtain ⟨hbg, hgl, hfr⟩ := ou_block hrow.out
      have hfrk := hfr k hkn
      have hble := hA.out.ble
      obtain ⟨X, hX⟩ : ∃ X : Int, (x : Int) = X := ⟨_, rfl⟩
      obtain ⟨Y, hY⟩ : ∃ Y : Int, (y : Int) = Y := ⟨_, rfl⟩
      obtain ⟨dn, hdn⟩ : ∃ dn, (x + 18446744073709551616 - y - c) % 18446744073709551616 = dn := ⟨_, rfl⟩
      obtain ⟨bn, hbn⟩ : ∃ bn, (if x < y + c then 1 else 0 : Nat) = bn := ⟨_, rfl⟩
      obtain ⟨SM, hSM⟩ : ∃ SM : Int, (dn : Int) = SM := ⟨_, rfl⟩
      obtain ⟨C1, hC1⟩ : ∃ C1 : Int, (bn : Int) = C1 := ⟨_, rfl⟩
      have hsub : ∀ wx, (callFunc 92 #[.int .u64 X, .int .u64 Y, .int .u64 C]).run Tryz.prog wx = .ok (.value (.tuple #[.int .u64 SM, .int .u64 C1])) wx := fun wx => by
        have := run_sub64c x y c hble wx
        rw [hdn, hbn, hX, hY, hSM, hC1, ← hC.out] at this
        exact this
      rw [hdn, hbn] at hstep
      have hrow2 : Hid ((wr.setCell ⟨g, k, none⟩ (.int .u64 SM)).ownsRow Bd 60 1 (.slice (some ⟨g, 0, none⟩) n cap) n (((ps ++ [dn]) ++ us.drop (k + 1)).map uv)) := Lib.hid (by
        have := ou_set hrow.out k dn hkn
        rw [hSM] at this
        have e : (ps ++ us.drop k).set k dn = (ps ++ [dn]) ++ us.drop (k + 1) := by
          rw [List.set_append_right _ _ (by rw [hA.out.len]; omega), hA.out.len, hdrop, Nat.sub_self]; simp
        rw [e] at this
        exact this)
      have hbel2 : Hid (Below Bd w4 (wr.setCell ⟨g, k, none⟩ (.int .u64 SM))) := Lib.hid (hbel.out.setCell (p := ⟨g, k, none⟩) hbg _)
      have HSt := Lib.hid hstep
      have HC1 := Lib.hid hC1.symm
      have hi0 : (0 : Int) ≤ (k : Int) := by omega
      have hi1 : (k : Int) < (m : Int) := by omega
      have hi2 : (k : Int) < (n : Int) := by omega
      rw [hX] at hcell
      rw [hy, hY] at hcv'
      clear hstep hdrop hlen hgx hfr hX hY hSM hC1 hx hy hxw hyw hrow hbel hA hC hcv hdn hbn
      go_wp2_with fail
      go_roundw
      case rel => exact ⟨k + 1, _, _, C1, by omega, by go_num, rfl, HC1, HSt, hrow2, hbel2⟩
      case measure => simp [intOf]; omega
    · obtain rfl : k = m := by omega
      have r26 : wr.cell? ⟨w.heap.size + 1, 0, none⟩ = some (.slice a2 k c2) := (Hbx4.out.below hbel.out hBd3).b2.cell 0
      clear r25 hlt1
      go_wp2_with fail
      refine wp_label ?_
      go_wp2_with fail
      clear r26
      go_loopw [7, 10] (fun cv iv wq => ∃ (q c2' : Nat) (ps2 : List Nat) (C2 : Int), k ≤ q ∧ q ≤ n ∧ iv = .int .i64 (q : Int) ∧ cv = .int .u64 C2 ∧ Hid (C2 = (c2' : Int)) ∧ Hid (Sb us vs q ps2 c2') ∧ Hid (wq.ownsRow Bd 60 1 (.slice (some ⟨g, 0, none⟩) n cap) n ((ps2 ++ us.drop q).map uv)) ∧ Hid (Below Bd w4 wq)) (fun _ iv _ => n - (intOf iv).toNat)
      case atStart => exact ⟨k, c, ps, C, Nat.le_refl _, hnm, rfl, rfl, hC, hA, hrow, hbel⟩
      case round =>
        clear hC hA hrow hbel
        obtain ⟨q, c, ps, C, hkq, hqn, rfl, rfl, hC, hA, hrow, hbel⟩ := hrel
        have hbx5 : Bx w wr (.slice (some ad1) n c1) (.slice a2 k c2) (.slice none 0 0) := Hbx4.out.below hbel.out hBd3
        have hlen : (ps ++ us.drop q).length = n := by rw [List.length_append, List.length_drop, hA.out.len, Hn.out]; omega
        have hou : OU Bd wr (.slice (some ⟨g, 0, none⟩) n cap) (ps ++ us.drop q) := by unfold OU; rw [hlen]; exact hrow.out
        by_cases hq : q < n
        · have hi2 : (q : Int) < (n : Int) := by omega
          by_cases hc0 : c = 0
          · have hCz : C = 0 := by rw [hC.out]; omega
            subst hCz
            have hval : wv (ps ++ us.drop q) = wv us - wv vs := by
              have h1 := hA.out
              rw [hc0] at h1
              have := sb_done h1 (by rw [Hn.out]; exact hqn) (by rw [Hm.out]; exact hkq)
              omega
            have hwr2 : Wrd (ps ++ us.drop q) := fun u hu => by
              rcases List.mem_append.1 hu with hu | hu
              · exact hA.out.wrd u hu
              · exact HWu.out u (List.mem_of_mem_drop hu)
            have HT := Lib.hid (trim_res Bd (w.heap.size + 1 + 1) w wr _ _ _ hou hbx5.bel (by omega) (by omega) hbx5.b3 hwr2 hval (by omega))
            clear hval hwr2 hou hlen hbx5 hbel hrow hA hC hc0
            go_wp2_with fail
            refine HT.out.mono ?_
            rintro e w5 ⟨x, y, z, rfl, hk5, hN5, hB5, _⟩
            have hk50 := hk5.out.cell 0; have hk5f := hk5.out.frozen 0
            simp only [List.getElem?_toArray, List.getElem?_cons_zero] at hk50
            clear HT
            go_wp2_with fail
            refine Exit.noGoto_ret .. |>.symm ▸ ?_
            refine bodyPost_ret (res_nat2 rfl _ _ (w.heap.size + 1 + 1) (.slice x y z) (.bool true) rfl rfl (hk5.out.set_ 0 _)) rfl ?_
            exact ⟨x, y, z, rfl, hN5.out, hB5.out⟩
          · have hCz : (C == 0) = false := by simp; have := hC.out; omega
            have hble := hA.out.ble
            have hqu : q < us.length := by rw [Hn.out]; exact hq
            obtain ⟨x, hx⟩ : ∃ x, us.getD q 0 = x := ⟨_, rfl⟩
            have hy : vs.getD q 0 = 0 := by rw [List.getD_eq_getElem?_getD, List.getElem?_eq_none (by rw [Hm.out]; exact hkq)]; rfl
            have hxw : x < 18446744073709551616 := by rw [← hx]; exact getW HWu.out q
            have hstep := sb_step hA.out (by rw [hx]; exact hxw) (by rw [hy]; omega)
            rw [hx, hy] at hstep
            have hdrop := drop_get us q hqu
            rw [hx] at hdrop
            have hcell := ou_cell hrow.out q (by omega)
            have hgx : (ps ++ us.drop q).getD q 0 = x := by
              rw [List.getD_eq_getElem?_getD, List.getElem?_append_right (by rw [hA.out.len]; omega), hA.out.len, hdrop]; simp
            rw [hgx, add_zero_off] at hcell
            obtain ⟨hbg, hgl, hfr⟩ := ou_block hrow.out
            have hfrk := hfr q hq
            obtain ⟨X, hX⟩ : ∃ X : Int, (x : Int) = X := ⟨_, rfl⟩
            obtain ⟨dn, hdn⟩ : ∃ dn, (x + 18446744073709551616 - 0 - c) % 18446744073709551616 = dn := ⟨_, rfl⟩
            obtain ⟨bn, hbn⟩ : ∃ bn, (if x < 0 + c then 1 else 0 : Nat) = bn := ⟨_, rfl⟩
            obtain ⟨SM, hSM⟩ : ∃ SM : Int, (dn : Int) = SM := ⟨_, rfl⟩
            obtain ⟨C1, hC1⟩ : ∃ C1 : Int, (bn : Int) = C1 := ⟨_, rfl⟩
            have hsub : ∀ wx, (callFunc 92 #[.int .u64 X, .int .u64 0, .int .u64 C]).run Tryz.prog wx = .ok (.value (.tuple #[.int .u64 SM, .int .u64 C1])) wx := fun wx => by
              have := run_sub64c x 0 c hble wx
              rw [hdn, hbn, hX, hSM, hC1, ← hC.out] at this
              exact this
            rw [hdn, hbn] at hstep
            have hrow2 : Hid ((wr.setCell ⟨g, q, none⟩ (.int .u64 SM)).ownsRow Bd 60 1 (.slice (some ⟨g, 0, none⟩) n cap) n (((ps ++ [dn]) ++ us.drop (q + 1)).map uv)) := Lib.hid (by
              have := ou_set hrow.out q dn hq
              rw [hSM] at this
              have e : (ps ++ us.drop q).set q dn = (ps ++ [dn]) ++ us.drop (q + 1) := by
                rw [List.set_append_right _ _ (by rw [hA.out.len]; omega), hA.out.len, hdrop, Nat.sub_self]; simp
              rw [e] at this
              exact this)
            have hbel2 : Hid (Below Bd w4 (wr.setCell ⟨g, q, none⟩ (.int .u64 SM))) := Lib.hid (hbel.out.setCell (p := ⟨g, q, none⟩) hbg _)
            have HSt := Lib.hid hstep
            have HC1 := Lib.hid hC1.symm
            have hi0 : (0 : Int) ≤ (q : Int) := by omega
            rw [hX] at hcell
            clear hstep hdrop hlen hgx hfr hX hSM hC1 hx hy hxw hrow hbel hA hC hbx5 hou hc0 hdn hbn
            go_wp2_with fail
            go_roundw
            case rel => exact ⟨q + 1, _, _, C1, by omega, by omega, by go_num, rfl, HC1, HSt, hrow2, hbel2⟩
            case measure => simp [intOf]; omega
        · have hi2 : ¬ (q : Int) < (n : Int) := by omega
          have hc0 : c = 0 := sb_all hA.out (by rw [Hn.out]; omega) (by rw [Hm.out]; exact hkq) HLe.out
          have hval : wv (ps ++ us.drop q) = wv us - wv vs := by
            have h1 := hA.out
            rw [hc0] at h1
            have := sb_done h1 (by rw [Hn.out]; exact hqn) (by rw [Hm.out]; exact hkq)
            omega
          have hwr2 : Wrd (ps ++ us.drop q) := fun u hu => by
            rcases List.mem_append.1 hu with hu | hu
            · exact hA.out.wrd u hu
            · exact HWu.out u (List.mem_of_mem_drop hu)
          have HT := Lib.hid (trim_res Bd (w.heap.size + 1 + 1) w wr _ _ _ hou hbx5.bel (by omega) (by omega) hbx5.b3 hwr2 hval (by omega))
          clear hval hwr2 hou hlen hbx5 hbel hrow hA hC hc0
          go_wp2_with fail
          refine HT.out.mono ?_
          rintro e w5 ⟨x, y, z, rfl, hk5, hN5, hB5, _⟩
          have hk50 := hk5.out.cell 0; have hk5f := hk5.out.frozen 0
          simp only [List.getElem?_toArray, List.getElem?_cons_zero] at hk50
          clear HT
          go_wp2_with fail
          refine Exit.noGoto_ret .. |>.symm ▸ ?_
          refine bodyPost_ret (res_nat2 rfl _ _ (w.heap.size + 1 + 1) (.slice x y z) (.bool true) rfl rfl (hk5.out.set_ 0 _)) rfl ?_
          exact ⟨x, y, z, rfl, hN5.out, hB5.out⟩
end Go.Proofs.YtckglpkafhmehaaGreatDoor
namespace Go.Proofs.YtckglpkafhmehaaGreatDoor
open Go.RowKit
set_option linter.unusedVariables false
theorem push_none {ops : Array Oper} {rest : List Oper} {o : Oper} {a : Act} {Q : Exit → Act → World → Prop} (hgd : o.guard = none) (s x : Operand)
    (ho : o.op = .call { callee := .builtin .append, args := #[s, x], argTypes := #[29, 29] }) (W : World)
    (hs : a.eval s = .slice none 0 0) (hx : a.eval x = .slice none 0 0) (h : wpList Tryz.prog ops Q rest (a.put o.dst (.slice none 0 0)) W) :
    wpList Tryz.prog ops Q (o :: rest) a W := by
  obtain ⟨i0, hi, hz0, hz1, hz2⟩ := info_parts Tryz.infoU
  have ho' : W.ownsRow W.heap.size 60 1 (.slice none 0 0) 0 [] := ⟨by simp, .inl ⟨rfl, rfl⟩⟩
  have hr := run_append_owned_none (P := Tryz.prog) (w := W) W.heap.size 29 o.type 60 i0 1 Tryz.underlying29 hi (.slice none 0 0) 0 [] ho'
  refine wpList_plain hgd fun _ hK => ?_
  unfold Oper.wp execOp
  simp only [ho, resolve, invoke, builtin, Sem.run_bind, Sem.run_pure, Result.andThen_ok, List.map_toArray, List.map_cons, List.map_nil, hs, hx, hr]
  exact hK _ _ h
set_option maxRecDepth 100000 in
set_option maxHeartbeats 4000000 in
theorem sub_zero (w : World) : Calls Tryz.prog 71 #[.agg #[.slice none 0 0], .agg #[.slice none 0 0]] w (SubIs 0 w) := by
  obtain ⟨W3, hW3⟩ : ∃ W3, ((w.alloc (.cells #[.slice none 0 0] 31)).alloc (.cells #[.slice none 0 0] 31)).alloc (.cells #[.slice none 0 0] 31) = W3 := ⟨_, rfl⟩
  have hbx : Bx w W3 (.slice none 0 0) (.slice none 0 0) (.slice none 0 0) := by
    rw [← hW3]
    have k1 := ((Blk.new w 31 #[.slice none 0 0]).alloc (.cells #[.slice none 0 0] 31)).alloc (.cells #[.slice none 0 0] 31)
    have k2 := (Blk.new (w.alloc (.cells #[.slice none 0 0] 31)) 31 #[.slice none 0 0]).alloc (.cells #[.slice none 0 0] 31)
    have k3 := Blk.new ((w.alloc (.cells #[.slice none 0 0] 31)).alloc (.cells #[.slice none 0 0] 31)) 31 #[.slice none 0 0]
    simp only [World.size_alloc] at k2 k3
    exact ⟨k1, k2, k3, (((Below.refl _ w).alloc (Nat.le_refl _) _).alloc (by simp) _).alloc (by simp; omega) _⟩
  have HCm := Lib.hid (cmp_any 0 0 _ _ W3 (isN_zero W3) (isN_zero W3))
  have hsz3 : w.heap.size + 3 ≤ W3.heap.size := by have := hbx.b3.lt; omega
  have Hbx := Lib.hid hbx
  have r1 : W3.cell? ⟨w.heap.size, 0, none⟩ = some (.slice none 0 0) := hbx.b1.cell 0
  have r2 : W3.cell? ⟨w.heap.size + 1, 0, none⟩ = some (.slice none 0 0) := hbx.b2.cell 0
  clear hbx
  go_enter Tryz.func71, Tryz.ntmps71
  go_wp2_with fail
  go_step3
  go_wp2_with fail
  refine HCm.out.mono ?_
  rintro e w4 ⟨rfl, hb4⟩
  rw [cmpI_eq]
  have hbx4 := Hbx.out.below hb4 hsz3
  have q1 : w4.cell? ⟨w.heap.size, 0, none⟩ = some (.slice none 0 0) := hbx4.b1.cell 0
  have q2 : w4.cell? ⟨w.heap.size + 1, 0, none⟩ = some (.slice none 0 0) := hbx4.b2.cell 0
  have HT := Lib.hid (trim_res (w.heap.size + 3) (w.heap.size + 1 + 1) w w4 (.slice none 0 0) [] 0 ⟨by simp, .inl ⟨rfl, rfl⟩⟩ hbx4.bel (by omega) (by omega) hbx4.b3 (fun u hu => by cases hu) rfl (by simp))
  clear hb4 hbx4 HCm r1 r2
  go_wp2_with (at_builtin; refine push_none rfl (.const (.slice none 0 0)) (.tmp 17) rfl w4 rfl rfl ?_)
  go_wp2_with fail
  go_loopw [7, 22] (fun cv iv wr => cv = .int .u64 0 ∧ iv = .int .i64 0 ∧ wr = w4) (fun _ _ _ => 0)
  case atStart => exact ⟨rfl, rfl, rfl⟩
  case round =>
    obtain ⟨rfl, rfl, rfl⟩ := hrel
    go_wp2_with fail
    refine wp_label ?_
    go_wp2_with fail
    go_loopw [7, 10] (fun cv iv wq => cv = .int .u64 0 ∧ iv = .int .i64 0 ∧ wq = wr) (fun _ _ _ => 0)
    case atStart => exact ⟨rfl, rfl, rfl⟩
    case round =>
      obtain ⟨rfl, rfl, rfl⟩ := hrel
      go_wp2_with fail
      refine HT.out.mono ?_
      rintro e w5 ⟨x, y, z, rfl, hk5, hN5, hB5, _⟩
      have hk50 := hk5.out.cell 0; have hk5f := hk5.out.frozen 0
      simp only [List.getElem?_toArray, List.getElem?_cons_zero] at hk50
      clear HT
      go_wp2_with fail
      refine Exit.noGoto_ret .. |>.symm ▸ ?_
      refine bodyPost_ret (res_nat2 rfl _ _ (w.heap.size + 1 + 1) (.slice x y z) (.bool true) rfl rfl (hk5.out.set_ 0 _)) rfl ?_
      exact ⟨x, y, z, rfl, hN5.out, hB5.out⟩
theorem sub_any (M N : Nat) (va vb : Value) (w : World) (ha : IsN w va M) (hb : IsN w vb N) (hM : M < 18446744073709551616 ^ 9000) (hle : N ≤ M) :
    Calls Tryz.prog 71 #[va, vb] w (SubIs (M - N) w) := by
  by_cases h : M ≠ 0
  · exact sub_some M N va vb w ha hb hM h hle
  · obtain ⟨h1, h2⟩ : M = 0 ∧ N = 0 := by omega
    subst h1 h2
    obtain rfl := isN_zero_form ha
    obtain rfl := isN_zero_form hb
    exact sub_zero w
end Go.Proofs.YtckglpkafhmehaaGreatDoor
namespace Go.Proofs.YtckglpkafhmehaaGreatDoor
open Go.RowKit
set_option linter.unusedVariables false
theorem bx_new (w : World) (v1 v2 : Value) : Bx w (((w.alloc (.cells #[v1] 31)).alloc (.cells #[v2] 31)).alloc (.cells #[.slice none 0 0] 31)) v1 v2 (.slice none 0 0) := by
  have k1 := ((Blk.new w 31 #[v1]).alloc (.cells #[v2] 31)).alloc (.cells #[.slice none 0 0] 31)
  have k2 := (Blk.new (w.alloc (.cells #[v1] 31)) 31 #[v2]).alloc (.cells #[.slice none 0 0] 31)
  have k3 := Blk.new ((w.alloc (.cells #[v1] 31)).alloc (.cells #[v2] 31)) 31 #[.slice none 0 0]
  simp only [World.size_alloc] at k2 k3
  exact ⟨k1, k2, k3, (((Below.refl _ w).alloc (Nat.le_refl _) _).alloc (by simp) _).alloc (by simp; omega) _⟩
set_option maxRecDepth 100000 in
set_option maxHeartbeats 4000000 in
theorem sub_less (M N : Nat) (va vb : Value) (w : World) (ha : IsN w va M) (hb : IsN w vb N) (hlt : M < N) :
    Calls Tryz.prog 71 #[va, vb] w fun e w' => e = .returned (.tuple #[.agg #[.slice none 0 0], .bool false]) ∧ Below w.heap.size w w' := by
  obtain ⟨a1, n1, c1, rfl⟩ := isN_form ha
  obtain ⟨a2, n2, c2, rfl⟩ := isN_form hb
  have hbx := bx_new w (.slice a1 n1 c1) (.slice a2 n2 c2)
  obtain ⟨W3, hW3⟩ : ∃ W3, ((w.alloc (.cells #[.slice a1 n1 c1] 31)).alloc (.cells #[.slice a2 n2 c2] 31)).alloc (.cells #[.slice none 0 0] 31) = W3 := ⟨_, rfl⟩
  rw [hW3] at hbx
  have HCm := Lib.hid (cmp_any M N _ _ W3 (ha.below hbx.bel (Nat.le_refl _)) (hb.below hbx.bel (Nat.le_refl _)))
  have hsz3 : w.heap.size + 3 ≤ W3.heap.size := by have := hbx.b3.lt; omega
  have Hbx := Lib.hid hbx
  have r1 : W3.cell? ⟨w.heap.size, 0, none⟩ = some (.slice a1 n1 c1) := hbx.b1.cell 0
  have r2 : W3.cell? ⟨w.heap.size + 1, 0, none⟩ = some (.slice a2 n2 c2) := hbx.b2.cell 0
  have Hc := Lib.hid (cmpI_lt hlt)
  clear hbx ha hb hlt
  go_enter Tryz.func71, Tryz.ntmps71
  go_wp2_with fail
  go_step3
  go_wp2_with fail
  refine HCm.out.mono ?_
  rintro e w4 ⟨rfl, hb4⟩
  rw [Hc.out]
  have hbx4 := Hbx.out.below hb4 hsz3
  have q3 : w4.cell? ⟨w.heap.size + 1 + 1, 0, none⟩ = some (.slice none 0 0) := hbx4.b3.cell 0
  have q4 : w4.frozen? ⟨w.heap.size + 1 + 1, 0, none⟩ = false := hbx4.b3.frozen 0
  have HJ := Lib.hid (hbx4.b3.set_ 0 (.slice none 0 0))
  have HB := Lib.hid (hbx4.bel.setCell (p := ⟨w.heap.size + 1 + 1, 0, none⟩) (by show w.heap.size ≤ w.heap.size + 1 + 1; omega) (.slice none 0 0))
  clear hb4 hbx4 HCm r1 r2
  go_wp2_with fail
  refine Exit.noGoto_ret .. |>.symm ▸ ?_
  refine bodyPost_ret (res_nat2 rfl _ _ (w.heap.size + 1 + 1) (.slice none 0 0) (.bool false) rfl rfl HJ.out) rfl ?_
  exact ⟨rfl, HB.out⟩
end Go.Proofs.YtckglpkafhmehaaGreatDoor
