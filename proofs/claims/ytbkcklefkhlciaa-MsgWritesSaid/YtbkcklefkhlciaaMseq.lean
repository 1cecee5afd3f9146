/-
  What a message's iterator over the fields of a number and of some kinds tells.
-/
import Derived.Test.YtbkcklefkhlciaaMbytes
namespace Go.Proofs.Ytbkcklefkhlciaa
open Go.RowKit Go.Shelf
attribute [local go_sem] Oper.semAt_some
set_option linter.unusedVariables false
/-- What a round must keep: the cells of the blocks that S names. -/
def KeepS (S : Nat → Prop) (W W' : World) : Prop := ∀ g i v, S g → W.cell? ⟨g, i, none⟩ = some v → W'.cell? ⟨g, i, none⟩ = some v
section
variable {S : Nat → Prop}
theorem KeepS.trans {A B C : World} (h : KeepS S A B) (k : KeepS S B C) : KeepS S A C := fun g i v hg hv => k g i v hg (h g i v hg hv)
theorem KeepS.below {n₀ : Nat} {A B : World} (h : Below n₀ A B) (hB : ∀ g, S g → g < n₀) : KeepS S A B := fun g i v hg hv => (h.cell (p := ⟨g, i, none⟩) (hB g hg)).trans hv
theorem KeepS.b (W : World) (l : Nat) (o o' : Obj) (h : W.heap[l]? = some o) (hc : o.isCells = false) : KeepS S W (W.putObj l o') := fun g i v _ hv =>
  cell_kept hv (grownBy_putObj' W l o') (fun r e => by cases e; exact ⟨_, h, hc⟩)
theorem KeepS.set {b : Nat} (W : World) (v : Value) (o : Nat) (h : ¬ S b) : KeepS S W (W.setCell ⟨b, o, none⟩ v) := fun g i u hg hu =>
  (World.cell?_setCell_other _ _ _ _ (fun e => h (by cases e; exact hg))).trans hu
theorem KeepS.alloc (W : World) (o : Obj) : KeepS S W (W.alloc o) := fun g i u _ hu => cell_kept hu (World.grownBy_alloc W o none) (fun r e => by cases e)
theorem KeepS.drew (W : World) : KeepS S W W.drew := fun g i u _ hu => hu
theorem KeepS.row {W W' : World} {row : Option Nat} (hg : W.grownBy W' row) (h : ∀ r, row = some r → ¬ S r) : KeepS S W W' := fun g i u hS hu =>
  (hg.cell_far ⟨g, i, none⟩ (World.block_lt_of_cell? W _ hu) (fun e => h g e.symm hS)).trans hu
end
/-- What is told: the fields of the number and of one of the kinds, each with its place in the message. -/
def mtell (num : Int) (ks : List Int) : Nat → List (Fd × Nat) → List (Nat × (Fd × Nat))
  | _, [] => []
  | k, p :: r => if (p.1.num : Int) = num ∧ ks.contains (p.1.kind : Int) = true then (k, p) :: mtell num ks (k + 1) r else mtell num ks (k + 1) r
def margs (x : Nat × (Fd × Nat)) : Array Value := #[.int .i64 (x.1 : Int), fdV x.2.1 (x.2.2 : Int)]
/-- What the iterator reads: the variables that it holds, the kinds, the message with its fields. -/
structure SeqIn (S : Nat → Prop) (W : World) (B1 B2 B3 m : Nat) (num : Int) (kb kc : Nat) (ks : List Int) (af : Option Addr) (cf : Nat) (l : List (Fd × Nat)) : Prop where
  s1 : S B1
  s2 : S B2
  s3 : S B3
  sm : S m
  sk : S kb
  b1 : W.cell? ⟨B1, 0, none⟩ = some (.pointer (some ⟨m, 0, none⟩))
  b2 : W.cell? ⟨B2, 0, none⟩ = some (.int .i64 num)
  b3 : W.cell? ⟨B3, 0, none⟩ = some (.slice (some ⟨kb, 0, none⟩) ks.length kc)
  kr : ∀ j, j < ks.length → W.cell? ⟨kb, j, none⟩ = some (.int .i64 (ks.getD j 0))
  m0 : W.cell? ⟨m, 0, none⟩ = some (.bool true)
  m1 : W.cell? ⟨m, 1, none⟩ = some (.slice af l.length cf)
  fh : ∀ i p, l[i]? = some p → ∃ g, af = some ⟨g, 0, none⟩ ∧ S g ∧ ∀ j u, (fdC p)[j]? = some u → W.cell? ⟨g, i * 5 + j, none⟩ = some u
theorem SeqIn.kept {S : Nat → Prop} {W W' : World} {B1 B2 B3 m : Nat} {num : Int} {kb kc : Nat} {ks : List Int} {af : Option Addr} {cf : Nat} {l : List (Fd × Nat)} (h : SeqIn S W B1 B2 B3 m num kb kc ks af cf l) (k : KeepS S W W') : SeqIn S W' B1 B2 B3 m num kb kc ks af cf l :=
  ⟨h.s1, h.s2, h.s3, h.sm, h.sk, k _ _ _ h.s1 h.b1, k _ _ _ h.s2 h.b2, k _ _ _ h.s3 h.b3, fun j hj => k _ _ _ h.sk (h.kr j hj), k _ _ _ h.sm h.m0, k _ _ _ h.sm h.m1, fun i p hp => by
    obtain ⟨g, h1, h2, h3⟩ := h.fh i p hp
    exact ⟨g, h1, h2, fun j u hu => k _ _ _ h2 (h3 j u hu)⟩⟩
theorem has_any (kb kc : Nat) (ks : List Int) (x : Int) (w : World) (hk : ks.length ≤ 1000) (hc : ∀ j, j < ks.length → w.cell? ⟨kb, j, none⟩ = some (.int .i64 (ks.getD j 0))) :
    Calls Try.prog 58 #[.slice (some ⟨kb, 0, none⟩) ks.length kc, .int .i64 x] w fun e w' => e = .returned (.bool (ks.contains x)) ∧ w = w' := by
  refine (Try.slices_Contains_int kb 0 ks.length kc ks x w (Nat.le_refl _) (by omega) (fun j hj => by rw [Nat.zero_add]; exact hc j hj)).mono ?_
  rintro e w' ⟨rfl, rfl⟩
  rw [List.take_length]
  exact ⟨rfl, rfl⟩
set_option maxRecDepth 100000 in
set_option maxHeartbeats 2000000 in
theorem seq_in (n : Nat) (hn : 1 ≤ n) (lp B : Nat) (S : Nat → Prop) (B1 B2 B3 m : Nat) (num : Int) (kb kc : Nat) (ks : List Int) (af : Option Addr) (cf : Nat) (l : List (Fd × Nat)) (hl : l.length ≤ 100000) (hks : ks.length ≤ 1000)
    (J Jx : List (Nat × (Fd × Nat)) → World → Prop) (hJ : AbidesFrom B J)
    (hY : ∀ pre x W, J pre W → pre.length < l.length → pre ++ [x] <+: mtell num ks 0 l → YieldAt Fence.wide (n - 1) Try.prog lp (margs x) W fun e W' =>
      (e = .returned (.bool true) ∧ J (pre ++ [x]) W' ∧ KeepS S W W') ∨ (e = .returned (.bool false) ∧ Jx (pre ++ [x]) W'))
    (W : World) (h : SeqIn S W B1 B2 B3 m num kb kc ks af cf l) (h0 : J [] W) :
    CallsIn Fence.wide n Try.prog 57 #[.func (.yield lp) #[] #[], .pointer (some ⟨B1, 0, none⟩), .pointer (some ⟨B2, 0, none⟩), .pointer (some ⟨B3, 0, none⟩)] W fun e W' => (∃ v, e = .returned v) ∧
      ((∃ ys, ys = mtell num ks 0 l ∧ J ys W') ∨ (∃ pre, pre <+: mtell num ks 0 l ∧ Jx pre W')) := by
  refine callsIn_of_wp Try.func57 rfl trivial ?_ rfl
  simp only [Try.ntmps57, List.size_toArray, List.length_cons, List.length_nil, Nat.reduceAdd, Nat.reduceSub, Array.replicate_succ, Array.replicate_zero, List.push_toArray, List.append_toArray, List.nil_append, List.cons_append]
  have q1 := h.b1; have q2 := h.m0; have q3 := h.m1
  obtain ⟨N, hN⟩ : ∃ N, l.length = N := ⟨_, rfl⟩
  have HN := Lib.hid hN
  rw [hN] at q3 hl hY
  have H := Lib.hid h; have HJ0 := Lib.hid h0
  clear h h0 hN
  refine wpIn_scope ?_
  gi_wp2_with fail
  refine ⟨trivial, (callsIn_wide.2 (none_msg m _ q2)).mono ?_⟩
  rintro e w1 ⟨rfl, rfl⟩
  gi_wp2
  refine wpIn_label ?_
  gi_wp2
  gi_loopw [15] (fun a wr => ∃ (k : Nat) (pre : List (Nat × (Fd × Nat))), k ≤ N ∧ pre.length ≤ k ∧ a = .int .i64 (k : Int) ∧ Hid (pre ++ mtell num ks k (l.drop k) = mtell num ks 0 l) ∧ Hid (J pre wr) ∧ Hid (SeqIn S wr B1 B2 B3 m num kb kc ks af cf l)) (fun a _ => N - (intOf a).toNat)
  case atStart => exact ⟨0, [], by omega, by simp, rfl, Lib.hid (by simp), HJ0, H⟩
  case round =>
    obtain ⟨k, pre, hk, hpl, rfl, hp, hj, hs⟩ := hrel
    clear q1 q2 q3
    by_cases hlt : k < N
    · obtain ⟨p, hpk⟩ : ∃ p, l[k]? = some p := ⟨_, List.getElem?_eq_getElem (by rw [HN.out]; exact hlt)⟩
      have hdrop : l.drop k = p :: l.drop (k + 1) := by
        have hkl : k < l.length := by rw [HN.out]; exact hlt
        rw [List.drop_eq_getElem_cons hkl]
        congr 1
        rw [List.getElem?_eq_getElem hkl] at hpk
        exact Option.some.inj hpk
      obtain ⟨ga, rfl, hgaS, hca⟩ := hs.out.fh k p hpk
      obtain ⟨⟨fnum, fkind, fval, fdata⟩, fat⟩ := p
      have n0 := hca 0 _ rfl; have n1 := hca 1 _ rfl; have n2 := hca 2 _ rfl; have n3 := hca 3 _ rfl; have n4 := hca 4 _ rfl
      simp only [Nat.add_zero] at n0 n1 n2 n3 n4
      have hi0 : (0 : Int) ≤ (k : Int) := by omega
      have hi1 : (k : Int) < (N : Int) := by omega
      have a2 : ∀ o, (wr.alloc o).cell? ⟨B2, 0, none⟩ = some (.int .i64 num) := fun o => KeepS.alloc (S := S) wr o _ _ _ hs.out.s2 hs.out.b2
      have a3 : ∀ o, (wr.alloc o).cell? ⟨B3, 0, none⟩ = some (.slice (some ⟨kb, 0, none⟩) ks.length kc) := fun o => KeepS.alloc (S := S) wr o _ _ _ hs.out.s3 hs.out.b3
      obtain ⟨num', hnum⟩ : ∃ x : Int, (fnum : Int) = x := ⟨_, rfl⟩
      obtain ⟨kind', hkind⟩ : ∃ x : Int, (fkind : Int) = x := ⟨_, rfl⟩
      obtain ⟨val', hval⟩ : ∃ x : Int, (fval : Int) = x := ⟨_, rfl⟩
      obtain ⟨at', hat⟩ : ∃ x : Int, (fat : Int) = x := ⟨_, rfl⟩
      have hja : ∀ o, Hid (J pre (wr.alloc o)) := fun o => Lib.hid (abides_below hJ hj.out ((Below.refl _ _).alloc (Nat.le_refl _) _))
      have hsa : ∀ o, Hid (SeqIn S (wr.alloc o) B1 B2 B3 m num kb kc ks (some ⟨ga, 0, none⟩) cf l) := fun o => Lib.hid (hs.out.kept (KeepS.alloc _ _))
      by_cases hm1 : num' = num
      · cases hm2 : ks.contains kind' with
        | true =>
          have hcont : Hid (mtell num ks k (l.drop k) = (k, ⟨fnum, fkind, fval, fdata⟩, fat) :: mtell num ks (k + 1) (l.drop (k + 1))) := Lib.hid (by
            rw [hdrop, mtell, if_pos ⟨by simp only; rw [hnum, hm1], by simp only; rw [hkind]; exact hm2⟩])
          obtain ⟨fn, tmps, assign, body, hy, hYR⟩ := hY pre (k, ⟨fnum, fkind, fval, fdata⟩, fat) (wr.alloc (.cells #[.int .i64 num', .int .i64 kind', .int .i64 at', .int .u64 val', .string fdata] 77)) (hja _).out (by omega) ⟨mtell num ks (k + 1) (l.drop (k + 1)), by rw [← hp.out, hcont.out]; simp⟩
          replace hy : (Instr.yield lp #[.int .i64 (k : Int), .agg #[.int .i64 num', .int .i64 kind', .int .i64 at', .int .u64 val', .string fdata]]).run Try.prog (wr.alloc (.cells #[.int .i64 num', .int .i64 kind', .int .i64 at', .int .u64 val', .string fdata] 77)) = .ok (.round lp fn tmps assign body) (wr.alloc (.cells #[.int .i64 num', .int .i64 kind', .int .i64 at', .int .u64 val', .string fdata] 77)) := by
            have e : margs (k, (⟨fnum, fkind, fval, fdata⟩ : Fd), fat) = #[.int .i64 (k : Int), .agg #[.int .i64 num', .int .i64 kind', .int .i64 at', .int .u64 val', .string fdata]] := by
              unfold margs fdV
              simp only
              rw [hnum, hkind, hval, hat]
            rw [← e]
            exact hy
          have hs2 := hsa (.cells #[.int .i64 num', .int .i64 kind', .int .i64 at', .int .u64 val', .string fdata] 77)
          rw [hnum] at n0; rw [hkind] at n1; rw [hat] at n2; rw [hval] at n3
          have Hm2 := Lib.hid hm2
          have Hhas : Hid (∀ w, SeqIn S w B1 B2 B3 m num kb kc ks (some ⟨ga, 0, none⟩) cf l → Calls Try.prog 58 #[.slice (some ⟨kb, 0, none⟩) ks.length kc, .int .i64 kind'] w fun e w' => e = .returned (.bool true) ∧ w = w') := Lib.hid (fun w h => by
            have := has_any kb kc ks kind' w hks h.kr
            rw [Hm2.out] at this
            exact this)
          clear hca hdrop hpk hnum hkind hval hat hm2 hja hsa hj
          subst hm1
          gi_wp2_with fail
          refine ⟨trivial, (callsIn_wide.2 (Hhas.out _ hs2.out)).mono ?_⟩
          rintro e w1 ⟨rfl, rfl⟩
          gi_wp2
          refine hYR.mono ?_
          rintro e W3 (⟨rfl, hJ3, hk3⟩ | ⟨rfl, hJx3⟩)
          · have hp3 : Hid ((pre ++ [(k, (⟨fnum, fkind, fval, fdata⟩ : Fd), fat)]) ++ mtell num' ks (k + 1) (l.drop (k + 1)) = mtell num' ks 0 l) := Lib.hid (by rw [← hp.out, hcont.out]; simp)
            have hJ3' := Lib.hid hJ3
            have hs3 := Lib.hid (hs2.out.kept hk3)
            clear hJ3 hYR hy hp hcont hs2 hk3 a2 a3 n0 n1 n2 n3 n4 hs
            gi_wp2
            go_roundw
            case rel => first | exact ⟨k + 1, _, by omega, by simp; omega, by go_num, hp3, hJ3', hs3⟩ | ((repeat apply Exists.intro); exact ⟨⟨k + 1, _, by omega, by simp; omega, by go_num, hp3, hJ3', hs3⟩, rfl⟩)
            case measure => simp [intOf]; omega
          · have hp3 : Hid ((pre ++ [(k, (⟨fnum, fkind, fval, fdata⟩ : Fd), fat)]) <+: mtell num' ks 0 l) := Lib.hid ⟨mtell num' ks (k + 1) (l.drop (k + 1)), by rw [← hp.out, hcont.out]; simp⟩
            have hJx' := Lib.hid hJx3
            clear hJx3 hYR hy hp hcont hs2 a2 a3 n0 n1 n2 n3 n4 hs
            gi_wp2
            rw [Exit.noGoto_normal]
            go_end0
            exact ⟨⟨_, rfl⟩, .inr ⟨_, hp3.out, hJx'.out⟩⟩
        | false =>
          have hcont : Hid (mtell num ks k (l.drop k) = mtell num ks (k + 1) (l.drop (k + 1))) := Lib.hid (by
            rw [hdrop, mtell, if_neg (by simp only; rw [hkind, hm2]; simp)])
          have hp3 : Hid (pre ++ mtell num ks (k + 1) (l.drop (k + 1)) = mtell num ks 0 l) := Lib.hid (by rw [← hp.out, hcont.out])
          have hs2 := hsa (.cells #[.int .i64 num', .int .i64 kind', .int .i64 at', .int .u64 val', .string fdata] 77)
          have hj2 := hja (.cells #[.int .i64 num', .int .i64 kind', .int .i64 at', .int .u64 val', .string fdata] 77)
          rw [hnum] at n0; rw [hkind] at n1; rw [hat] at n2; rw [hval] at n3
          have Hm2 := Lib.hid hm2
          have Hhas : Hid (∀ w, SeqIn S w B1 B2 B3 m num kb kc ks (some ⟨ga, 0, none⟩) cf l → Calls Try.prog 58 #[.slice (some ⟨kb, 0, none⟩) ks.length kc, .int .i64 kind'] w fun e w' => e = .returned (.bool false) ∧ w = w') := Lib.hid (fun w h => by
            have := has_any kb kc ks kind' w hks h.kr
            rw [Hm2.out] at this
            exact this)
          clear hca hdrop hpk hnum hkind hval hat hm2 hja hsa hj hp hcont
          subst hm1
          gi_wp2_with fail
          refine ⟨trivial, (callsIn_wide.2 (Hhas.out _ hs2.out)).mono ?_⟩
          rintro e w1 ⟨rfl, rfl⟩
          clear a2 a3 n0 n1 n2 n3 n4 hs
          gi_wp2
          refine ⟨fun f hf => by (cases hf), ?_⟩
          gi_wp2
          go_roundw
          case rel => first | exact ⟨k + 1, pre, by omega, by omega, by go_num, hp3, hj2, hs2⟩ | ((repeat apply Exists.intro); exact ⟨⟨k + 1, pre, by omega, by omega, by go_num, hp3, hj2, hs2⟩, rfl⟩)
          case measure => simp [intOf]; omega
      · have hcont : Hid (mtell num ks k (l.drop k) = mtell num ks (k + 1) (l.drop (k + 1))) := Lib.hid (by
          rw [hdrop, mtell, if_neg (by simp only; rw [hnum]; exact fun h => hm1 h.1)])
        have hp3 : Hid (pre ++ mtell num ks (k + 1) (l.drop (k + 1)) = mtell num ks 0 l) := Lib.hid (by rw [← hp.out, hcont.out])
        have hs2 := hsa (.cells #[.int .i64 num', .int .i64 kind', .int .i64 at', .int .u64 val', .string fdata] 77)
        have hj2 := hja (.cells #[.int .i64 num', .int .i64 kind', .int .i64 at', .int .u64 val', .string fdata] 77)
        rw [hnum] at n0; rw [hkind] at n1; rw [hat] at n2; rw [hval] at n3
        have hb1 : (num' == num) = false := by simpa using hm1
        clear hca hdrop hpk hnum hkind hval hat hja hsa hj hp hcont
        gi_wp2
        refine ⟨trivial, ?_⟩
        gi_wp2
        refine ⟨fun f hf => by (cases hf), ?_⟩
        gi_wp2
        go_roundw
        case rel => first | exact ⟨k + 1, pre, by omega, by omega, by go_num, hp3, hj2, hs2⟩ | ((repeat apply Exists.intro); exact ⟨⟨k + 1, pre, by omega, by omega, by go_num, hp3, hj2, hs2⟩, rfl⟩)
        case measure => simp [intOf]; omega
    · have hend : Hid (pre = mtell num ks 0 l) := Lib.hid (by
        have := hp.out
        rw [List.drop_eq_nil_of_le (by rw [HN.out]; omega)] at this
        simpa [mtell] using this)
      clear hp hs
      gi_wp2
      rw [Exit.noGoto_normal]
      go_end0
      exact ⟨⟨_, rfl⟩, .inl ⟨pre, hend.out, hj.out⟩⟩
end Go.Proofs.Ytbkcklefkhlciaa
