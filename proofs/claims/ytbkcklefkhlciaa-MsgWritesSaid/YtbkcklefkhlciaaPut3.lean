/-
  pbuf.Put: a field of bytes.
-/
import Derived.Test.YtbkcklefkhlciaaPut2
import Derived.Deep.RegionHeld3
import Derived.Deep.RegionLaw
namespace Go.Proofs.Ytbkcklefkhlciaa
open Go.RowKit
theorem str_dn (d : ByteArray) : Lib.strCells d = (dn d).map bv := by
  unfold Lib.strCells dn bv
  rw [List.map_map]
  rfl
/-- A text behind the bytes xs, at a step of a region that draws its order. -/
theorem step_app_text {ops : Array Oper} {o : Oper} {a : Act} {K : Act → World → Prop} {Q : Exit → Act → World → Prop} {E : Prop} (hgd : o.guard = none) (s x : Operand)
    (ho : o.op = .call { callee := .builtin .append, args := #[s, x], argTypes := #[79, 9] }) (B : Nat) (v : Value) (xs : List Nat) (w : World) (d : ByteArray)
    (hs : a.eval s = v) (hown : OwnB B w v xs) (hx : a.eval x = .string d) (hB : B ≤ w.heap.size) (hlen : xs.length + d.size ≤ 1000000)
    (h : ∀ v' w', OwnB B w' v' (xs ++ dn d) → Below B w w' → K (a.put o.dst v') w') :
    if Region.wanted o (yielded ops a.tmps) = true then Oper.wp Try.prog o a w K Q else E := by
  have hw : Region.wanted o (yielded ops a.tmps) = true := by simp [Region.wanted, hgd]
  rw [if_pos hw]
  obtain ⟨i0, hi, hz0, hz1, hz2⟩ := info_parts Try.infoU8
  have hlt := hown.lt
  obtain ⟨v', w', hr, h2, h3, _⟩ := Lib.run_append_own_string (P := Try.prog) w B 79 9 o.type 5 i0 Try.underlying79 Try.underlying9 hi hz0 hz1 hz2 v xs.length (xs.map bv) hown d (by unfold maxLen; omega) (by omega) hB
  unfold Oper.wp execOp
  simp only [ho, resolve, invoke, builtin, Sem.run_bind, Sem.run_pure, Result.andThen_ok, List.map_toArray, List.map_cons, List.map_nil, hs, hx, hr]
  refine h v' w' ?_ ?_
  · unfold OwnB
    rw [List.map_append, ← str_dn, List.length_append, dn_length]
    exact h2
  · exact (Below.refl B w).grown h3 hB (fun k hk => (hlt k hk).1)
set_option maxRecDepth 100000 in
set_option maxHeartbeats 1000000 in
theorem put_bytes (num at_ : Int) (d : ByteArray) (w : World) (h : May num 2 (0 : Nat) d) :
    Calls Try.prog 44 #[fV num 2 at_ 0 d] w (GavePut (txt (pput num.toNat 2 0 d)) 0 w) := by
  have h1 : 1 ≤ num := h.1
  have h2 : num ≤ 536870911 := h.2.1
  have hd : d.size ≤ 60000 := by have := h.2.2; omega
  have HM := Lib.hid (fun w => mayput_any num 2 at_ 0 d w (by decide) (by unfold maxLen; omega))
  have hb := mayB_yes h
  rw [hb] at HM
  obtain ⟨T, hT⟩ : ∃ T : Nat, num.toNat * 8 + 2 = T := ⟨_, rfl⟩
  have ht := tag_num num 2 h1 h2 (by omega)
  rw [hT] at ht
  have hT1 : T < 18446744073709551616 := by omega
  have hTl := pv_ten T hT1
  have HT := Lib.hid ht
  obtain ⟨n, hn⟩ : ∃ n, d.size = n := ⟨_, rfl⟩
  have hn64 : n < 18446744073709551616 := by omega
  have hnl := pv_ten n (by omega)
  have HP : Hid (pput num.toNat 2 0 d = pv T ++ pv n ++ dn d) := Lib.hid (by unfold pput pbd; rw [hT, ← hn, List.append_assoc]; rfl)
  unfold fV at HM ⊢
  clear hb h ht hT
  have Hn := Lib.hid hn
  go_enter Try.func44, Try.ntmps44
  go_wp2_with fail
  refine (HM.out _).mono ?_
  rintro e w1 ⟨rfl, b1⟩
  obtain ⟨k1, b1, z1⟩ := fbox b1
  obtain ⟨c0, c1, c2, c3, c4⟩ := fcells k1
  go_wp2_with fail
  have ht : bits .or .u64 (num * 8) 2 = (T : Int) := HT.out
  rw [ht]
  clear ht
  refine (appv_any w1.heap.size _ [] T _ (Nat.le_refl _) (own_nil _ _) hT1 (by simp)).mono ?_
  rintro e w2 ⟨v2, rfl, o2, b2⟩
  have k2 := k1.below b2 z1
  have z2 : w1.heap.size ≤ w2.heap.size := b2.size
  clear c0 c1 c2 c3 c4
  obtain ⟨c0, c1, c2, c3, c4⟩ := fcells k2
  have Ho := Lib.hid o2
  have HA : Hid (Calls Try.prog 54 #[v2, .int .u64 (IntKind.u64.wrap (n : Int))] w2.drew (GaveOwn w1.heap.size (pv T ++ pv n) w2.drew)) := Lib.hid (by rw [wrapu64 n hn64]; exact appv_any w1.heap.size _ ([] ++ pv T) n w2.drew z2 Ho.out.drew hn64 (by simp; omega))
  have HN : Hid (∀ w3 v3, OwnB w1.heap.size w3 v3 (pv T ++ pv n) → Below w1.heap.size w2.drew w3 → Hid (OwnB w1.heap.size w3 v3 (pv T ++ pv n)) ∧ w3.cell? ⟨w.heap.size, 4, none⟩ = some (.string d) ∧ w1.heap.size ≤ w3.heap.size ∧ Hid (Below w1.heap.size w2 w3)) := Lib.hid (fun w3 v3 o b => by
    have b' : Below w1.heap.size w2 w3 := (Below.drew (Below.refl _ _)).trans b
    exact ⟨Lib.hid o, (k2.below b' (by omega)).cell 4, Nat.le_trans z2 b'.size, Lib.hid b'⟩)
  have B1 := Lib.hid b1
  have B2 := Lib.hid b2
  have hlen : (pv T ++ pv n).length + d.size ≤ 1000000 := by rw [List.length_append]; omega
  clear Ho k2 k1 b1 b2 HM HT h1 h2
  have Hlen := Lib.hid hlen
  have Hn0 : (0 : Int) ≤ (n : Int) := Int.natCast_nonneg _
  have Hn1 : (n : Int) ≤ 60000 := by omega
  clear o2 c0 c2 c3 hT1 hTl hnl hn64 hlen
  go_wp2_with fail
  clear c1
  go_region_held3 (fun w' => w'.cell? ⟨w.heap.size, 4, none⟩ = some (.string d))
    (first | exact c5 | exact c4' | go_keep)
    (first
      | (go_at_call 54; refine (HA.out).mono ?_; rintro e w3 ⟨v3, rfl, o3, b3⟩; obtain ⟨ho3, c4', hz3, hb3⟩ := HN.out w3 v3 o3 b3; clear o3 b3)
      | (refine step_app_text (by rfl) _ _ (by rfl) w1.heap.size _ _ _ d (by rfl) ho3.out (by rfl) hz3 Hlen.out ?_; intro v4 w4 o4 b4; have c5 := (b4.cell (p := ⟨w.heap.size, 4, none⟩) z1).trans c4'))
  have hc := conv_own o4
  rw [← HP.out] at hc
  have B3 : Below w1.heap.size w2 w4 := hb3.out.trans b4
  go_wp2
  go_ret2
  exact ⟨rfl, B1.out.trans ((B2.out.trans B3).mono B1.out.size)⟩
end Go.Proofs.Ytbkcklefkhlciaa
