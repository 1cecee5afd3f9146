/-
  The iterator over a text's characters: its contract.
-/
import Derived.Test.YtkebjllehegjlaaGreatDoorUtIter
import Derived.WalkMore
import Derived.Scope
import Derived.ControlIn
namespace Go.Proofs.YtkebjllehegjlaaGreatDoor
open Go.RowKit Go.Shelf
attribute [local go_sem] Oper.semAt_some

theorem wpIn_scope {n : Nat} {P : Program} {c : Code} {Q : Exit → Act → World → Prop} {a : Act} {w : World} (h : c.wpIn Fence.wide n P (Exit.noGoto Q) a w) : (Code.scope c).wpIn Fence.wide n P Q a w :=
  wpIn_wide.2 (wp_scope_straight (wpIn_wide.1 h))
/-- A place and a character, as the iterator tells them. -/
abbrev Ru := { p : Nat × Nat // p.1 ≤ 1000000 ∧ p.2 ≤ 1114111 }
abbrev Ru.args (x : Ru) : Array Value := #[.int .i64 (x.1.1 : Int), .int .i64 (x.1.2 : Int)]

/-- What a round must keep: the variable that holds the text. -/
def KeepCell (Bs : Nat) (W W' : World) : Prop := ∀ v, W.cell? ⟨Bs, 0, none⟩ = some v → W'.cell? ⟨Bs, 0, none⟩ = some v
theorem KeepCell.refl (Bs : Nat) (W : World) : KeepCell Bs W W := fun _ h => h
theorem KeepCell.trans {Bs : Nat} {A B C : World} (h : KeepCell Bs A B) (k : KeepCell Bs B C) : KeepCell Bs A C := fun v hv => k v (h v hv)
theorem KeepCell.below {Bs n₀ : Nat} {A B : World} (h : Below n₀ A B) (hB : Bs < n₀) : KeepCell Bs A B := fun _ hv => (h.cell (p := ⟨Bs, 0, none⟩) hB).trans hv
theorem KeepCell.b {Bs n : Nat} (W : World) (l : Nat) (o o' : Obj) (_ : n ≤ l) (h : W.heap[l]? = some o) (hc : o.isCells = false) (_ : o.isWalk = false) : KeepCell Bs W (W.putObj l o') := fun v hv =>
  cell_kept hv (grownBy_putObj' W l o') (fun r e => by cases e; exact ⟨_, h, hc⟩)
theorem KeepCell.set {Bs b : Nat} (W : World) (v : Value) (h : b ≠ Bs) : KeepCell Bs W (W.setCell ⟨b, 0, none⟩ v) := fun u hu =>
  (World.cell?_setCell_other _ _ _ _ (fun e => h (by cases e; rfl))).trans hu
theorem KeepCell.alloc {Bs : Nat} (W : World) (o : Obj) : KeepCell Bs W (W.alloc o) := fun u hu => cell_kept hu (World.grownBy_alloc W o none) (fun r e => by cases e)
theorem cont_yes : ∀ c : Nat, 128 ≤ c → c < 192 → (bits .andNot .u8 (c : Int) 63 != 128) = false := by
  intro c h h'
  have hh : ∀ x : Fin 64, (128 + x.val) &&& 192 = 128 := by decide +kernel
  have := hh ⟨c - 128, by omega⟩
  simp only at this
  rw [show 128 + (c - 128) = c from by omega] at this
  have e := u8_andNot_nat c 63 (by omega) (by omega)
  rw [show 255 - 63 = 192 from rfl, this] at e
  have e' : bits .andNot .u8 (c : Int) 63 = 128 := e
  rw [e']; rfl
theorem cont_no : ∀ c : Nat, c < 256 → ¬ (128 ≤ c ∧ c < 192) → (bits .andNot .u8 (c : Int) 63 != 128) = true := by
  intro c h h'
  have hh : ∀ x : Fin 256, ¬ (128 ≤ x.val ∧ x.val < 192) → x.val &&& 192 ≠ 128 := by decide +kernel
  have := hh ⟨c, h⟩ h'
  simp only at this
  have e := u8_andNot_nat c 63 (by omega) (by omega)
  rw [show 255 - 63 = 192 from rfl] at e
  have e' : bits .andNot .u8 (c : Int) 63 = ((c &&& 192 : Nat) : Int) := e
  rw [e']
  simp
  omega

set_option maxRecDepth 100000 in
set_option maxHeartbeats 1000000 in
theorem runes1_in (n : Nat) (hn : 1 ≤ n) (l Bs : Nat) (s : ByteArray) (hs : s.size ≤ 1000000) (J Jx : List Ru → World → Prop)
    (hY : ∀ pre x W, J pre W → pre.length < s.size → YieldAt Fence.wide (n - 1) Tryz.prog l (Ru.args x) W fun e W' =>
      (e = .returned (.bool true) ∧ J (pre ++ [x]) W' ∧ KeepCell Bs W W') ∨ (e = .returned (.bool false) ∧ Jx (pre ++ [x]) W'))
    (W : World) (hBs : W.cell? ⟨Bs, 0, none⟩ = some (.string s)) (h0 : J [] W) :
    CallsIn Fence.wide n Tryz.prog 29 #[.func (.yield l) #[] #[], .pointer (some ⟨Bs, 0, none⟩)] W fun e W' => (∃ v, e = .returned v) ∧
      ((∃ ys : List Ru, ys.map (·.1) = uRunes s.data.toList 0 ∧ J ys W') ∨ (∃ pre : List Ru, pre.map (·.1) <+: uRunes s.data.toList 0 ∧ Jx pre W')) := by
  refine callsIn_of_wp Tryz.func29 rfl trivial ?_ rfl
  simp only [Tryz.ntmps29, List.size_toArray, List.length_cons, List.length_nil, Nat.reduceAdd, Nat.reduceSub, Array.replicate_succ, Array.replicate_zero, List.push_toArray, List.append_toArray, List.nil_append, List.cons_append]
  gi_wp2
  refine wpIn_scope ?_
  refine wpIn_seq (wpIn_label ?_)
  gi_wp2
  gi_loopw [3] (fun a wr => ∃ (k : Nat) (pre : List Ru), k ≤ s.size ∧ pre.length ≤ k ∧ a = .int .i64 k ∧ Hid (pre.map (·.1) ++ uRunes (s.data.toList.drop k) k = uRunes s.data.toList 0) ∧ Hid (J pre wr) ∧ wr.cell? ⟨Bs, 0, none⟩ = some (.string s))
    (fun a _ => s.size - (intOf a).toNat)
  case atStart => exact ⟨0, [], by omega, by simp, rfl, Lib.hid (by simp), Lib.hid h0, hBs⟩
  case round =>
    obtain ⟨k, pre, hk, hpl, rfl, hp, hJ, hc⟩ := hrel
    by_cases hlt : k < s.size
    · have hb : s[k].toNat < 256 := UInt8.toNat_lt _
      have hst := Lib.hid (drop_cons s k hlt)
      obtain ⟨R, N, hRN⟩ : ∃ R N, uHead s[k].toNat = (R, N) := ⟨_, _, rfl⟩
      have hR : R < 128 := by have := uHead_lt s[k].toNat; rw [hRN] at this; exact this
      have hN4 : N ≤ 4 := by have := uHead_le s[k].toNat; rw [hRN] at this; exact this
      have HRN := Lib.hid hRN
      clear hRN
      have hdl : (s.data.toList.drop (k + 1)).length + 1 = s.size - k := by simp; omega
      by_cases hN0 : N = 0
      · have hz : ((N : Int) == 0) = true := by simp [hN0]
        have hend : Hid (pre.map (·.1) = uRunes s.data.toList 0) := Lib.hid (by rw [← hp.out, uRunes_stop _ _ (by rw [hst.out]; exact u1_none _ _ R N HRN.out (Or.inl hN0))]; simp)
        clear hN0 hp hst hdl
        gi_wp2_with fail
        refine ⟨trivial, (callsIn_wide.2 (head_any s[k].toNat _ hb)).mono ?_⟩
        rintro e w' ⟨rfl, rfl⟩
        rw [HRN.out]
        gi_wp2
        rw [Exit.noGoto_normal]
        go_end0
        exact ⟨⟨_, rfl⟩, .inl ⟨pre, hend.out, hJ.out⟩⟩
      · have hz : ((N : Int) == 0) = false := by simp [hN0]
        by_cases hsh : s.size - k < N
        · have hend : Hid (pre.map (·.1) = uRunes s.data.toList 0) := Lib.hid (by rw [← hp.out, uRunes_stop _ _ (by rw [hst.out]; exact u1_short _ _ R N HRN.out (by omega))]; simp)
          clear hp hst hdl
          gi_wp2_with fail
          refine ⟨trivial, (callsIn_wide.2 (head_any s[k].toNat _ hb)).mono ?_⟩
          rintro e w' ⟨rfl, rfl⟩
          rw [HRN.out]
          gi_wp2
          rw [Exit.noGoto_normal]
          go_end0
          exact ⟨⟨_, rfl⟩, .inl ⟨pre, hend.out, hJ.out⟩⟩
        · have hstop : ∀ t : List UInt8, t = s.data.toList.drop (k + 1) → (N = 0 ∨ uTail (N - 1) R t = none) → Hid (pre.map (·.1) = uRunes s.data.toList 0) := fun t ht h => Lib.hid (by rw [← hp.out, uRunes_stop _ _ (by rw [hst.out]; subst ht; exact u1_none _ _ R N HRN.out h)]; simp)
          have hstop2 : ∀ q : Nat, uTail (N - 1) R (s.data.toList.drop (k + 1)) = some q → uSize q ≠ N → Hid (pre.map (·.1) = uRunes s.data.toList 0) := fun q ht h => Lib.hid (by rw [← hp.out, uRunes_stop _ _ (by rw [hst.out]; exact u1_bad _ _ R N q HRN.out ht h)]; simp)
          have hgo : ∀ q : Nat, uTail (N - 1) R (s.data.toList.drop (k + 1)) = some q → uSize q = N → Hid (pre.map (·.1) ++ (k, q) :: uRunes (s.data.toList.drop (k + N)) (k + N) = uRunes s.data.toList 0) := fun q ht h => Lib.hid (by
            have hu := u1_good s[k] (s.data.toList.drop (k + 1)) R N q HRN.out hN0 ht h
            rw [← hst.out] at hu
            rw [← hp.out, uRunes_go (s.data.toList.drop k) k (by rw [hu]; exact hN0), hu, List.drop_drop])
          have Hstop := Lib.hid hstop
          have Hstop2 := Lib.hid hstop2
          have Hgo := Lib.hid hgo
          clear hp hst hdl hstop hstop2 hgo
          gi_wp2_with fail
          refine ⟨trivial, (callsIn_wide.2 (head_any s[k].toNat _ hb)).mono ?_⟩
          rintro e w' ⟨rfl, rfl⟩
          rw [HRN.out]
          gi_wp2
          gi_loop [4, 6] (fun r i => ∃ j q : Nat, j + 1 ≤ N ∧ Hid (q < 128 * 64 ^ j) ∧ i = .int .i64 (k + 1 + j : Nat) ∧ r = .int .i64 q ∧ Hid (uTail (N - 1) R (s.data.toList.drop (k + 1)) = uTail (N - 1 - j) q (s.data.toList.drop (k + 1 + j)))) (fun _ i => s.size - (intOf i).toNat)
          case atStart => exact ⟨0, R, by omega, Lib.hid (by simpa using hR), by go_num, rfl, Lib.hid rfl⟩
          case round =>
            obtain ⟨j, q, hj, hq, rfl, rfl, hut⟩ := hrel
            have hq2 : q < 100000000 := by
              have h1 : 64 ^ j ≤ 64 ^ 3 := Nat.pow_le_pow_right (by omega) (by omega)
              have := hq.out
              simp at h1
              omega
            by_cases hjl : j + 1 < N
            · have hidx : k + 1 + j < s.size := by omega
              have hd : s[k + 1 + j].toNat < 256 := UInt8.toNat_lt _
              have hds := Lib.hid (drop_cons s (k + 1 + j) hidx)
              by_cases hcn : 128 ≤ s[k + 1 + j].toNat ∧ s[k + 1 + j].toNat < 192
              · have hT := cont_yes _ hcn.1 hcn.2
                have hor := Lib.hid (or_six q s[k + 1 + j].toNat hq2 hcn.1 hcn.2)
                have hut' : Hid (uTail (N - 1) R (s.data.toList.drop (k + 1)) = uTail (N - 1 - (j + 1)) (q * 64 + (s[k + 1 + j].toNat - 128)) (s.data.toList.drop (k + 1 + (j + 1)))) := Lib.hid (by
                  rw [hut.out, hds.out, show N - 1 - j = N - 1 - (j + 1) + 1 from by omega, uTail_step _ _ _ _ hcn.1 hcn.2]; rfl)
                have hq' : Hid (q * 64 + (s[k + 1 + j].toNat - 128) < 128 * 64 ^ (j + 1)) := Lib.hid (by have := hq.out; rw [Nat.pow_succ]; omega)
                clear hut hds hq
                gi_wp2
                go_round
                case rel => exact ⟨j + 1, _, by omega, hq', by go_num, by rw [hor.out], hut'⟩
                case measure => simp [intOf]; omega
              · have hT := cont_no _ hd hcn
                have hend := Hstop.out _ rfl (Or.inr (by rw [hut.out, hds.out, show N - 1 - j = N - 1 - (j + 1) + 1 from by omega, uTail_fall _ _ _ _ hcn]))
                clear hut hds hq hcn
                gi_wp2
                rw [Exit.noGoto_normal]
                go_end0
                exact ⟨⟨_, rfl⟩, .inl ⟨pre, hend.out, hJ.out⟩⟩
            · have hsome : uTail (N - 1) R (s.data.toList.drop (k + 1)) = some q := by rw [hut.out, show N - 1 - j = 0 from by omega]; rfl
              by_cases hsz : uSize q = N
              · have hgo := Hgo.out q hsome hsz
                have hq3 : q ≤ 1114111 := uSize_hi q (by omega)
                have hsz' : ((uSize q : Int) != (N : Int)) = false := by simp [hsz]
                have hNk : k + N ≤ s.size := by omega
                have hN1 : 1 ≤ N := by omega
                clear hsome hsz hut hq
                obtain ⟨fn, tmps, assign, body, hy, hYR⟩ := hY pre ⟨(k, q), by omega, hq3⟩ wr hJ.out (by omega)
                dsimp only [Ru.args] at hy
                gi_wp2_with fail
                refine ⟨trivial, (callsIn_wide.2 (size_any (q : Int) _)).mono ?_⟩
                rintro e w' ⟨rfl, rfl⟩
                rw [uSizeI_nat]
                gi_wp2
                refine hYR.mono ?_
                rintro e W3 (⟨rfl, hJ3, hk3⟩ | ⟨rfl, hJx3⟩)
                · have hc3 : W3.cell? ⟨Bs, 0, none⟩ = some (.string s) := hk3 _ hc
                  have hp3 : Hid ((pre ++ [(⟨(k, q), by omega, hq3⟩ : Ru)]).map (·.1) ++ uRunes (s.data.toList.drop (k + N)) (k + N) = uRunes s.data.toList 0) := Lib.hid (by rw [← hgo.out]; simp)
                  have hJ3' := Lib.hid hJ3
                  clear hJ3 hgo hYR hy
                  gi_wp2
                  go_roundw
                  case rel => exact ⟨k + N, _, hNk, by simp; omega, by go_num, hp3, hJ3', hc3⟩
                  case measure => simp [intOf]; omega
                · have hp3 : (pre ++ [(⟨(k, q), by omega, hq3⟩ : Ru)]).map (·.1) <+: uRunes s.data.toList 0 := ⟨uRunes (s.data.toList.drop (k + N)) (k + N), by rw [← hgo.out]; simp⟩
                  have Hp3 := Lib.hid hp3
                  have hJx' := Lib.hid hJx3
                  clear hgo hYR hy hp3 hJx3
                  gi_wp2
                  rw [Exit.noGoto_normal]
                  go_end0
                  exact ⟨⟨_, rfl⟩, .inr ⟨_, Hp3.out, hJx'.out⟩⟩
              · have hend := Hstop2.out q hsome hsz
                have hsz' : ((uSize q : Int) != (N : Int)) = true := by simp; omega
                clear hsome hsz hut hq
                gi_wp2_with fail
                refine ⟨trivial, (callsIn_wide.2 (size_any (q : Int) _)).mono ?_⟩
                rintro e w' ⟨rfl, rfl⟩
                rw [uSizeI_nat]
                gi_wp2
                refine ⟨fun _ h => (by cases h), ?_⟩
                gi_wp2
                rw [Exit.noGoto_normal]
                go_end0
                exact ⟨⟨_, rfl⟩, .inl ⟨pre, hend.out, hJ.out⟩⟩
    · have hend : Hid (pre.map (·.1) = uRunes s.data.toList 0) := Lib.hid (by rw [← hp.out, List.drop_eq_nil_of_le (by simp; omega), uRunes_stop _ _ rfl]; simp)
      clear hp
      gi_wp2
      rw [Exit.noGoto_normal]
      go_end0
      exact ⟨⟨_, rfl⟩, .inl ⟨pre, hend.out, hJ.out⟩⟩
end Go.Proofs.YtkebjllehegjlaaGreatDoor
