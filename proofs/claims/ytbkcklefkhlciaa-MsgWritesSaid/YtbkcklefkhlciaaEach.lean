/-
  The iterator over a text's fields: its contract.
-/
import Derived.RangeFuncNested
import Derived.RangeFuncBound
import Derived.RangeFuncCalls
import Derived.RangeFuncLeaves
import Derived.RangeFuncBox
import Derived.Shelf.Abstract
import Derived.Shelf.RegionOpen
import Derived.OwnWalkIn
import Derived.TacticsInMore
import Derived.LoopNIn
import Derived.LoopIn
import Derived.Scope
import Derived.ControlIn
import Derived.WalkMore
import Derived.Test.YtbkcklefkhlciaaPget
namespace Go.Proofs.Ytbkcklefkhlciaa
open Go.RowKit Go.Shelf
attribute [local go_sem] Oper.semAt_some

theorem wpIn_scope {n : Nat} {P : Program} {c : Code} {Q : Exit → Act → World → Prop} {a : Act} {w : World} (h : c.wpIn Fence.wide n P (Exit.noGoto Q) a w) : (Code.scope c).wpIn Fence.wide n P Q a w :=
  wpIn_wide.2 (wp_scope_straight (wpIn_wide.1 h))
/-- What the iterator tells at once: a field and its place, or what is wrong (c stands for the code c + 1) and where. -/
inductive Pt where
  | ok (f : Fd) (k : Nat)
  | bad (c k : Nat)
def zeroV : Value := .agg #[.int .i64 0, .int .i64 0, .int .i64 0, .int .u64 0, .string ⟨#[]⟩]
def diagV (c k : Int) : Value := .agg #[.int .i64 c, .int .i64 k, .string ⟨#[]⟩]
def Pt.args : Pt → Array Value
  | .ok f k => #[fdV f k, diagV 0 0]
  | .bad c k => #[zeroV, diagV ((c + 1 : Nat) : Int) k]
def pallF (s : ByteArray) : Nat → Nat → List Pt
  | 0, _ => []
  | fuel + 1, k => if k < s.size then match pget (s.extract k s.size) with
      | some (f, n) => .ok f k :: pallF s fuel (k + n)
      | none => [Pt.bad 9 k]
    else []
/-- All that is told of a text from place k on. -/
def pfrom (s : ByteArray) (k : Nat) : List Pt := pallF s (s.size - k) k
def pall (s : ByteArray) : List Pt := if 60000 < s.size then [.bad 1 0] else pfrom s 0
theorem pbody_size (r : ByteArray) (kind : Nat) {v : Nat} {d : ByteArray} {n : Nat} (h : pbody r kind = some (v, d, n)) : 1 ≤ n ∧ n ≤ r.size := by
  have hl := gv_le r.data.toList
  have hle : (gv r.data.toList).2.1 ≤ r.size := hl.1
  unfold pbody at h
  by_cases h0 : kind = 0
  · rw [if_pos h0] at h
    split at h
    · rename_i hb
      simp only [Option.some.injEq, Prod.mk.injEq] at h
      have := gv_pos _ hb
      omega
    · cases h
  · rw [if_neg h0] at h
    by_cases h2 : kind = 2
    · rw [if_pos h2] at h
      split at h
      · rename_i hb
        simp only [Option.some.injEq, Prod.mk.injEq] at h
        have := gv_pos _ hb.1
        have := hb.2
        omega
      · cases h
    · rw [if_neg h2] at h
      by_cases h5 : kind = 5
      · rw [if_pos h5] at h
        split at h
        · simp only [Option.some.injEq, Prod.mk.injEq] at h; omega
        · cases h
      · rw [if_neg h5] at h
        by_cases h1 : kind = 1
        · rw [if_pos h1] at h
          split at h
          · simp only [Option.some.injEq, Prod.mk.injEq] at h; omega
          · cases h
        · rw [if_neg h1] at h; cases h
theorem pget_size (s : ByteArray) {f : Fd} {n : Nat} (h : pget s = some (f, n)) : 2 ≤ n ∧ n ≤ s.size := by
  have hl := gv_le s.data.toList
  have hle : (gv s.data.toList).2.1 ≤ s.size := hl.1
  unfold pget at h
  split at h
  · rename_i hb
    split at h
    · rename_i v d m hp
      simp only [Option.some.injEq, Prod.mk.injEq] at h
      have h1 := pbody_size _ _ hp
      have h2 := gv_pos _ hb.1
      have h3 : (s.extract (gv s.data.toList).2.1 s.size).size = s.size - (gv s.data.toList).2.1 := by simp
      omega
    · cases h
  · cases h
theorem pallF_fuel (s : ByteArray) : ∀ (f g k : Nat), s.size - k ≤ f → s.size - k ≤ g → pallF s f k = pallF s g k := by
  intro f
  induction f with
  | zero =>
    intro g k hf hg
    cases g with
    | zero => rfl
    | succ g => simp only [pallF]; rw [if_neg (by omega)]
  | succ f ih =>
    intro g k hf hg
    cases g with
    | zero => simp only [pallF]; rw [if_neg (by omega)]
    | succ g =>
      simp only [pallF]
      by_cases hk : k < s.size
      · rw [if_pos hk, if_pos hk]
        cases hp : pget (s.extract k s.size) with
        | none => rfl
        | some p =>
          obtain ⟨fd, n⟩ := p
          have := pget_size _ hp
          simp only
          rw [ih g (k + n) (by omega) (by omega)]
      · rw [if_neg hk, if_neg hk]
theorem pfrom_end (s : ByteArray) (k : Nat) (h : s.size ≤ k) : pfrom s k = [] := by
  unfold pfrom; rw [show s.size - k = 0 from by omega]; rfl
theorem pfrom_bad (s : ByteArray) (k : Nat) (h : k < s.size) (hp : pget (s.extract k s.size) = none) : pfrom s k = [Pt.bad 9 k] := by
  unfold pfrom; rw [show s.size - k = (s.size - k - 1) + 1 from by omega]; simp only [pallF]; rw [if_pos h, hp]
theorem pfrom_ok (s : ByteArray) (k : Nat) {f : Fd} {n : Nat} (h : k < s.size) (hp : pget (s.extract k s.size) = some (f, n)) : pfrom s k = .ok f k :: pfrom s (k + n) := by
  have := pget_size _ hp
  unfold pfrom; rw [show s.size - k = (s.size - k - 1) + 1 from by omega]; simp only [pallF]; rw [if_pos h, hp]
  simp only
  rw [pallF_fuel s (s.size - k - 1) (s.size - (k + n)) (k + n) (by omega) (by omega)]

/-- What a round must keep: the variable that holds the text. -/
def KeepCell (Bs : Nat) (W W' : World) : Prop := ∀ v, W.cell? ⟨Bs, 0, none⟩ = some v → W'.cell? ⟨Bs, 0, none⟩ = some v
theorem KeepCell.refl (Bs : Nat) (W : World) : KeepCell Bs W W := fun _ h => h
theorem KeepCell.trans {Bs : Nat} {A B C : World} (h : KeepCell Bs A B) (k : KeepCell Bs B C) : KeepCell Bs A C := fun v hv => k v (h v hv)
theorem KeepCell.below {Bs n₀ : Nat} {A B : World} (h : Below n₀ A B) (hB : Bs < n₀) : KeepCell Bs A B := fun _ hv => (h.cell (p := ⟨Bs, 0, none⟩) hB).trans hv
theorem KeepCell.b {Bs n : Nat} (W : World) (l : Nat) (o o' : Obj) (_ : n ≤ l) (h : W.heap[l]? = some o) (hc : o.isCells = false) (_ : o.isWalk = false) : KeepCell Bs W (W.putObj l o') := fun v hv =>
  cell_kept hv (grownBy_putObj' W l o') (fun r e => by cases e; exact ⟨_, h, hc⟩)
theorem KeepCell.set {Bs b : Nat} (W : World) (v : Value) (o : Nat) (h : b ≠ Bs) : KeepCell Bs W (W.setCell ⟨b, o, none⟩ v) := fun u hu =>
  (World.cell?_setCell_other _ _ _ _ (fun e => h (by cases e; rfl))).trans hu
theorem KeepCell.alloc {Bs : Nat} (W : World) (o : Obj) : KeepCell Bs W (W.alloc o) := fun u hu => cell_kept hu (World.grownBy_alloc W o none) (fun r e => by cases e)
theorem grown_below {B : Nat} {W W' : World} (h : Below B W W') (hB : W.heap.size ≤ B) : W.grownBy W' none := ⟨h.os, h.tape, h.output, h.size, fun i hi _ => h.block i (by omega)⟩
theorem abides_below {β : Type} {B : Nat} {J : β → World → Prop} (h : AbidesFrom B J) {x : β} {W W' : World} (hj : J x W) (hb : Below W.heap.size W W') : J x W' :=
  h x W W' none hj (grown_below hb (Nat.le_refl _)) (fun r e => by cases e)
theorem extract_size (s : ByteArray) (k : Nat) : (s.extract k s.size).size = s.size - k := by simp

set_option maxRecDepth 100000 in
set_option maxHeartbeats 1000000 in
theorem each1_pre (n : Nat) (hn : 1 ≤ n) (l Bs B : Nat) (s : ByteArray) (hs : s.size ≤ 1000000) (J Jx : List Pt → World → Prop) (hJ : AbidesFrom B J)
    (hY : ∀ pre x W, J pre W → pre.length < s.size → pre ++ [x] <+: pall s → YieldAt Fence.wide (n - 1) Try.prog l (Pt.args x) W fun e W' =>
      (e = .returned (.bool true) ∧ J (pre ++ [x]) W' ∧ KeepCell Bs W W') ∨ (e = .returned (.bool false) ∧ Jx (pre ++ [x]) W'))
    (W : World) (hBs : W.cell? ⟨Bs, 0, none⟩ = some (.string s)) (h0 : J [] W) :
    CallsIn Fence.wide n Try.prog 61 #[.func (.yield l) #[] #[], .pointer (some ⟨Bs, 0, none⟩)] W fun e W' => (∃ v, e = .returned v) ∧
      ((∃ ys : List Pt, ys = pall s ∧ J ys W') ∨ (∃ pre : List Pt, pre <+: pall s ∧ Jx pre W')) := by
  refine callsIn_of_wp Try.func61 rfl trivial ?_ rfl
  simp only [Try.ntmps61, List.size_toArray, List.length_cons, List.length_nil, Nat.reduceAdd, Nat.reduceSub, Array.replicate_succ, Array.replicate_zero, List.push_toArray, List.append_toArray, List.nil_append, List.cons_append]
  by_cases hbig : 60000 < s.size
  · have hall : Hid (pall s = [.bad 1 0]) := Lib.hid (by unfold pall; rw [if_pos hbig])
    obtain ⟨fn, tmps, assign, body, hy, hYR⟩ := hY [] (.bad 1 0) W h0 (by simp; omega) (by rw [hall.out]; exact List.prefix_refl _)
    replace hy : (Instr.yield l #[.agg #[.int .i64 0, .int .i64 0, .int .i64 0, .int .u64 0, .string ⟨#[]⟩], .agg #[.int .i64 2, .int .i64 0, .string ⟨#[]⟩]]).run Try.prog W = .ok (.round l fn tmps assign body) W := hy
    refine wpIn_scope ?_
    gi_wp2
    refine hYR.mono ?_
    rintro e W3 (⟨rfl, hJ3, hk3⟩ | ⟨rfl, hJx3⟩)
    · have hJ' := Lib.hid hJ3
      clear hJ3 hYR hy
      gi_wp2
      rw [Exit.noGoto_ret]
      refine bodyPost_ret (results_none rfl _ _ _) rfl ?_
      exact ⟨⟨_, rfl⟩, .inl ⟨_, hall.out.symm, hJ'.out⟩⟩
    · have hJ' := Lib.hid hJx3
      clear hJx3 hYR hy
      gi_wp2
      rw [Exit.noGoto_ret]
      refine bodyPost_ret (results_none rfl _ _ _) rfl ?_
      exact ⟨⟨_, rfl⟩, .inr ⟨_, by rw [hall.out]; exact List.prefix_refl _, hJ'.out⟩⟩
  · have hall : Hid (pall s = pfrom s 0) := Lib.hid (by unfold pall; rw [if_neg hbig])
    refine wpIn_scope ?_
    gi_wp2
    refine wpIn_label ?_
    gi_wp2
    gi_loopw [3] (fun a wr => ∃ (k : Nat) (pre : List Pt), k ≤ s.size ∧ pre.length ≤ k ∧ a = .int .i64 k ∧ Hid (pre ++ pfrom s k = pall s) ∧ Hid (J pre wr) ∧ wr.cell? ⟨Bs, 0, none⟩ = some (.string s) ∧ Bs < wr.heap.size)
      (fun a _ => s.size - (intOf a).toNat)
    case atStart => exact ⟨0, [], by omega, by simp, rfl, Lib.hid (by simp; exact hall.out.symm), Lib.hid h0, hBs, World.block_lt_of_cell? W _ hBs⟩
    case round =>
      obtain ⟨k, pre, hk, hpl, rfl, hp, hj, hc, hlt0⟩ := hrel
      by_cases hlt : k < s.size
      · have hsz : (s.extract k s.size).size ≤ 1000000 := by rw [extract_size]; omega
        gi_wp2_with fail
        refine ⟨trivial, (callsIn_wide.2 (get_any (s.extract k s.size) _ hsz)).mono ?_⟩
        rintro e w1 ⟨⟨f, m, hg, rfl⟩ | ⟨v, m, hg, ⟨a1, a2, a3, a4, a5, rfl⟩, rfl⟩, hb⟩
        · have hm := pget_size _ hg
          rw [extract_size] at hm
          have hcont := Lib.hid (pfrom_ok s k hlt hg)
          have hc1 : w1.cell? ⟨Bs, 0, none⟩ = some (.string s) := (hb.cell (p := ⟨Bs, 0, none⟩) hlt0).trans hc
          have hlt1 : Bs < w1.heap.size := Nat.lt_of_lt_of_le hlt0 hb.size
          have hj1 := Lib.hid (abides_below hJ hj.out hb)
          have hj2 : J pre (w1.alloc (.cells #[.int .i64 f.num, .int .i64 f.kind, .int .i64 k, .int .u64 f.val, .string f.data] 77)) := abides_below hJ hj1.out ((Below.refl _ _).alloc (Nat.le_refl _) _)
          have hc2 : (w1.alloc (.cells #[.int .i64 f.num, .int .i64 f.kind, .int .i64 k, .int .u64 f.val, .string f.data] 77)).cell? ⟨Bs, 0, none⟩ = some (.string s) := (((Below.refl _ w1).alloc (Nat.le_refl _) _).cell (p := ⟨Bs, 0, none⟩) hlt1).trans hc1
          have hkm : k + m ≤ s.size := by omega
          have hm2 : 2 ≤ m := hm.1
          obtain ⟨fn, tmps, assign, body, hy, hYR⟩ := hY pre (.ok f k) (w1.alloc (.cells #[.int .i64 f.num, .int .i64 f.kind, .int .i64 k, .int .u64 f.val, .string f.data] 77)) hj2 (by omega) ⟨pfrom s (k + m), by rw [← hp.out, hcont.out]; simp⟩
          replace hy : (Instr.yield l #[.agg #[.int .i64 f.num, .int .i64 f.kind, .int .i64 k, .int .u64 f.val, .string f.data], .agg #[.int .i64 0, .int .i64 0, .string ⟨#[]⟩]]).run Try.prog (w1.alloc (.cells #[.int .i64 f.num, .int .i64 f.kind, .int .i64 k, .int .u64 f.val, .string f.data] 77)) = .ok (.round l fn tmps assign body) (w1.alloc (.cells #[.int .i64 f.num, .int .i64 f.kind, .int .i64 k, .int .u64 f.val, .string f.data] 77)) := hy
          have Hc2 := Lib.hid hc2
          unfold fdV
          clear hg hb hj hsz hj2 hj1 hc2 hm
          gi_wp2
          refine hYR.mono ?_
          rintro e W3 (⟨rfl, hJ3, hk3⟩ | ⟨rfl, hJx3⟩)
          · have hc3 : W3.cell? ⟨Bs, 0, none⟩ = some (.string s) := hk3 _ Hc2.out
            have hp3 : Hid ((pre ++ [Pt.ok f k]) ++ pfrom s (k + m) = pall s) := Lib.hid (by rw [← hp.out, hcont.out]; simp)
            have hJ3' := Lib.hid hJ3
            have hlt3 : Bs < W3.heap.size := World.block_lt_of_cell? W3 _ hc3
            clear hJ3 hYR hy hp hcont hc1 hc Hc2 hk3
            gi_wp2
            go_roundw
            case rel => exact ⟨k + m, _, hkm, by simp; omega, by go_num, hp3, hJ3', hc3, hlt3⟩
            case measure => simp [intOf]; omega
          · have hp3 : Hid ((pre ++ [Pt.ok f k]) <+: pall s) := Lib.hid ⟨pfrom s (k + m), by rw [← hp.out, hcont.out]; simp⟩
            have hJx' := Lib.hid hJx3
            clear hJx3 hYR hy hp hcont hc1 hc Hc2
            gi_wp2
            rw [Exit.noGoto_normal]
            go_end0
            exact ⟨⟨_, rfl⟩, .inr ⟨_, hp3.out, hJx'.out⟩⟩
        · have hcont := Lib.hid (pfrom_bad s k hlt hg)
          have hc1 : w1.cell? ⟨Bs, 0, none⟩ = some (.string s) := (hb.cell (p := ⟨Bs, 0, none⟩) hlt0).trans hc
          have hlt1 : Bs < w1.heap.size := Nat.lt_of_lt_of_le hlt0 hb.size
          have hj1 := Lib.hid (abides_below hJ hj.out hb)
          obtain ⟨fn, tmps, assign, body, hy, hYR⟩ := hY pre (.bad 9 k) (w1.alloc (.cells #[.int .i64 a1, .int .i64 a2, .int .i64 a3, .int .u64 a4, .string a5] 77)) (abides_below hJ hj1.out ((Below.refl _ _).alloc (Nat.le_refl _) _)) (by omega) (by rw [← hp.out, hcont.out]; exact List.prefix_refl _)
          replace hy : (Instr.yield l #[.agg #[.int .i64 0, .int .i64 0, .int .i64 0, .int .u64 0, .string ⟨#[]⟩], .agg #[.int .i64 10, .int .i64 k, .string ⟨#[]⟩]]).run Try.prog (w1.alloc (.cells #[.int .i64 a1, .int .i64 a2, .int .i64 a3, .int .u64 a4, .string a5] 77)) = .ok (.round l fn tmps assign body) (w1.alloc (.cells #[.int .i64 a1, .int .i64 a2, .int .i64 a3, .int .u64 a4, .string a5] 77)) := hy
          have hp3 : Hid (pre ++ [Pt.bad 9 k] = pall s) := Lib.hid (by rw [← hp.out, hcont.out])
          clear hg hb hj hsz hj1 hp hcont
          gi_wp2
          refine hYR.mono ?_
          rintro e W3 (⟨rfl, hJ3, hk3⟩ | ⟨rfl, hJx3⟩)
          · have hJ3' := Lib.hid hJ3
            clear hJ3 hYR hy hc1 hc hk3
            gi_wp2
            rw [Exit.noGoto_normal]
            go_end0
            exact ⟨⟨_, rfl⟩, .inl ⟨_, hp3.out, hJ3'.out⟩⟩
          · have hJx' := Lib.hid hJx3
            clear hJx3 hYR hy hc1 hc
            gi_wp2
            rw [Exit.noGoto_normal]
            go_end0
            exact ⟨⟨_, rfl⟩, .inr ⟨_, by rw [hp3.out]; exact List.prefix_refl _, hJx'.out⟩⟩
      · have hend : Hid (pre = pall s) := Lib.hid (by rw [← hp.out, pfrom_end s k (by omega)]; simp)
        clear hp
        gi_wp2
        rw [Exit.noGoto_normal]
        go_end0
        exact ⟨⟨_, rfl⟩, .inl ⟨pre, hend.out, hj.out⟩⟩
theorem each1_in (n : Nat) (hn : 1 ≤ n) (l Bs B : Nat) (s : ByteArray) (hs : s.size ≤ 1000000) (J Jx : List Pt → World → Prop) (hJ : AbidesFrom B J)
    (hY : ∀ pre x W, J pre W → pre.length < s.size → YieldAt Fence.wide (n - 1) Try.prog l (Pt.args x) W fun e W' =>
      (e = .returned (.bool true) ∧ J (pre ++ [x]) W' ∧ KeepCell Bs W W') ∨ (e = .returned (.bool false) ∧ Jx (pre ++ [x]) W'))
    (W : World) (hBs : W.cell? ⟨Bs, 0, none⟩ = some (.string s)) (h0 : J [] W) :
    CallsIn Fence.wide n Try.prog 61 #[.func (.yield l) #[] #[], .pointer (some ⟨Bs, 0, none⟩)] W fun e W' => (∃ v, e = .returned v) ∧
      ((∃ ys : List Pt, ys = pall s ∧ J ys W') ∨ (∃ pre : List Pt, pre <+: pall s ∧ Jx pre W')) :=
  each1_pre n hn l Bs B s hs J Jx hJ (fun pre x W hj hl _ => hY pre x W hj hl) W hBs h0
end Go.Proofs.Ytbkcklefkhlciaa
