/-
  The iterator over a list's reasons: its contract.
-/
import Derived.Test.YtinkdjplehaibaaDoorDAll
namespace Go.Proofs.YtinkdjplehaibaaDoor
open Go.RowKit Go.Shelf
set_option linter.unusedVariables false
attribute [local go_sem] Oper.semAt_some
def en : Nat → List Dg → List (Nat × Dg)
  | _, [] => []
  | k, d :: r => (k, d) :: en (k + 1) r
theorem en_len : ∀ (l : List Dg) (k : Nat), (en k l).length = l.length := by
  intro l; induction l with
  | nil => intro k; rfl
  | cons d r ih => intro k; simp [en, ih]
theorem en_drop (l : List Dg) (k : Nat) (d : Dg) (h : l[k]? = some d) : en k (l.drop k) = (k, d) :: en (k + 1) (l.drop (k + 1)) := by
  have hk : k < l.length := (List.getElem?_eq_some_iff.1 h).1
  have e : l.drop k = d :: l.drop (k + 1) := by
    rw [List.drop_eq_getElem_cons hk]
    congr 1
    rw [List.getElem?_eq_getElem hk] at h
    exact Option.some.inj h
  rw [e]; rfl
theorem en_end (l : List Dg) (k : Nat) (h : l.length ≤ k) : en k (l.drop k) = [] := by rw [List.drop_eq_nil_of_le h]; rfl
def dArgs (x : Nat × Dg) : Array Value := #[.int .i64 (x.1 : Int), .agg #[.int .i64 x.2.code, .int .i64 x.2.at_, .string x.2.what]]
/-- A block that lies apart: it is just these cells, and stays so. -/
def Keeps (Far : World → Nat → Array Value → Prop) (W W' : World) : Prop := ∀ g cs, Far W g cs → Far W' g cs
theorem rd_slice {B : Nat} {w : World} {v : Value} {ds : List Dg} (h : RD B w v ds) : ∃ va vc, v = .slice va ds.length vc := by
  rcases h.2 with ⟨rfl, h0⟩ | ⟨g, cap, cur, rfl, _⟩
  · exact ⟨none, 0, by rw [h0]⟩
  · exact ⟨_, _, rfl⟩
set_option maxRecDepth 100000 in
set_option maxHeartbeats 1000000 in
theorem each1_in (n : Nat) (hn : 1 ≤ n) (l Bs n0 : Nat) (p : Value) (ds : List Dg) (Far : World → Nat → Array Value → Prop)
    (hF1 : ∀ W g cs, Far W g cs → Blk W g 40 cs) (hF2 : ∀ W W' g cs, Far W g cs → Below W.heap.size W W' → Far W' g cs)
    (B : Nat) (J Jx : List (Nat × Dg) → World → Prop) (hJ : AbidesFrom B J)
    (hY : ∀ pre x W, J pre W → pre.length < 100 → YieldAt Fence.wide (n - 1) Tryd.prog l (dArgs x) W fun e W' =>
      (e = .returned (.bool true) ∧ J (pre ++ [x]) W' ∧ Keeps Far W W') ∨ (e = .returned (.bool false) ∧ Jx (pre ++ [x]) W'))
    (W : World) (hBs : W.cell? ⟨Bs, 0, none⟩ = some p) (hp : IsP n0 W p ds)
    (hF0 : ∀ W1 g cs, Below W.heap.size W W1 → W.heap.size ≤ g → Blk W1 g 40 cs → Far W1 g cs) (h0 : J [] W) :
    CallsIn Fence.wide n Tryd.prog 53 #[.func (.yield l) #[] #[], .pointer (some ⟨Bs, 0, none⟩)] W fun e W' => (∃ v, e = .returned v) ∧
      ((∃ ys, ys = en 0 ds ∧ J ys W') ∨ (∃ pre, pre <+: en 0 ds ∧ Jx pre W')) := by
  have hlen := hp.len
  refine callsIn_of_wp Tryd.func53 rfl trivial ?_ rfl
  simp only [Tryd.ntmps53, List.size_toArray, List.length_cons, List.length_nil, Nat.reduceAdd, Nat.reduceSub, Array.replicate_succ, Array.replicate_zero, List.push_toArray, List.append_toArray, List.nil_append, List.cons_append]
  have hpp : ∃ pa, p = .pointer pa := by
    rcases hp with ⟨rfl, _⟩ | ⟨x, rfl, _⟩
    · exact ⟨_, rfl⟩
    · exact ⟨_, rfl⟩
  obtain ⟨pa, rfl⟩ := hpp
  have Hp := Lib.hid hp
  clear hp
  refine wpIn_scope ?_
  gi_wp2
  refine wpIn_label ?_
  gi_wp2_with fail
  refine ⟨trivial, (callsIn_wide.2 (all_any n0 ds _ W Hp.out)).mono ?_⟩
  rintro e w1 ⟨v, rfl, hr, hb⟩
  have HJ1 : Hid (J [] w1) := Lib.hid (abides_below hJ h0 hb)
  obtain ⟨va, vc, rfl⟩ := rd_slice hr
  have HD : Hid (∀ wr : World, (∀ g cs, Far w1 g cs → Far wr g cs) → DR wr (.slice va ds.length vc) ds) := Lib.hid (fun wr hk => by
    rcases hr.2 with ⟨he, h0⟩ | ⟨g, cap, cur, he, hbg, hg, hrest⟩
    · have hd : ds = [] := List.eq_nil_of_length_eq_zero h0
      subst hd
      exact ⟨va, vc, rfl, fun i d hd => by simp at hd⟩
    · have hf := hk g cur (hF0 w1 g cur hb hbg hg)
      have hg' := hF1 _ _ _ hf
      refine dr_row (b := W.heap.size) ⟨hr.1, .inr ⟨g, cap, cur, he, hbg, hg', hrest⟩⟩)
  clear hr hb h0 Hp hF0 hBs
  gi_wp2
  gi_loopw [8] (fun a wr => ∃ (k : Nat) (pre : List (Nat × Dg)), k ≤ ds.length ∧ pre.length = k ∧ a = .int .i64 (k : Int) ∧ Hid (pre ++ en k (ds.drop k) = en 0 ds) ∧ Hid (J pre wr) ∧ Hid (Keeps Far w1 wr))
    (fun a _ => ds.length - (intOf a).toNat)
  case atStart => exact ⟨0, [], by omega, rfl, rfl, Lib.hid (by simp), HJ1, Lib.hid (fun g cs h => h)⟩
  case round =>
    obtain ⟨k, pre, hk, hpl, rfl, hpre, hj, hkp⟩ := hrel
    by_cases hlt : k < ds.length
    · obtain ⟨d, hd⟩ : ∃ d, ds[k]? = some d := ⟨_, List.getElem?_eq_getElem hlt⟩
      obtain ⟨a', c', hv', hcell⟩ := HD.out wr hkp.out
      cases hv'
      obtain ⟨ad, had, hadl, hc⟩ := hcell k d hd
      subst had
      obtain ⟨c0, c1, c2⟩ := c3_of hc
      have hi0 : (0 : Int) ≤ (k : Int) := by omega
      have hi1 : (k : Int) < (ds.length : Int) := by omega
      have hcont := Lib.hid (en_drop ds k d hd)
      have hb2 : Below wr.heap.size wr (wr.alloc (.cells #[.int .i64 d.code, .int .i64 d.at_, .string d.what] 40)) := (Below.refl _ _).alloc (Nat.le_refl _) _
      have HJ2 : Hid (J pre (wr.alloc (.cells #[.int .i64 d.code, .int .i64 d.at_, .string d.what] 40))) := Lib.hid (abides_below hJ hj.out hb2)
      have HK2 : Hid (Keeps Far w1 (wr.alloc (.cells #[.int .i64 d.code, .int .i64 d.at_, .string d.what] 40))) := Lib.hid (fun g cs h => hF2 _ _ _ _ (hkp.out g cs h) hb2)
      obtain ⟨fn, tmps, assign, body, hy, hYR⟩ := hY pre (k, d) _ HJ2.out (by omega)
      replace hy : (Instr.yield l #[.int .i64 (k : Int), .agg #[.int .i64 d.code, .int .i64 d.at_, .string d.what]]).run Tryd.prog (wr.alloc (.cells #[.int .i64 d.code, .int .i64 d.at_, .string d.what] 40)) = .ok (.round l fn tmps assign body) (wr.alloc (.cells #[.int .i64 d.code, .int .i64 d.at_, .string d.what] 40)) := hy
      clear hcell hc hd hb2 hj hkp
      gi_wp2_with fail
      refine hYR.mono ?_
      rintro e W3 (⟨rfl, hJ3, hk3⟩ | ⟨rfl, hJx3⟩)
      · have hp3 : Hid ((pre ++ [(k, d)]) ++ en (k + 1) (ds.drop (k + 1)) = en 0 ds) := Lib.hid (by rw [← hpre.out, hcont.out]; simp)
        have hJ3' := Lib.hid hJ3
        have hk3' : Hid (Keeps Far w1 W3) := Lib.hid (fun g cs h => hk3 g cs (HK2.out g cs h))
        clear hJ3 hYR hy hpre hcont hk3 HJ2 HK2 c0 c1 c2
        gi_wp2
        go_roundw
        case rel => exact ⟨k + 1, _, by omega, by simp; omega, by go_num, hp3, hJ3', hk3'⟩
        case measure => simp [intOf]; omega
      · have hp3 : Hid ((pre ++ [(k, d)]) <+: en 0 ds) := Lib.hid ⟨en (k + 1) (ds.drop (k + 1)), by rw [← hpre.out, hcont.out]; simp⟩
        have hJx' := Lib.hid hJx3
        clear hJx3 hYR hy hpre hcont HJ2 HK2 c0 c1 c2
        gi_wp2
        rw [Exit.noGoto_normal]
        go_end0
        exact ⟨⟨_, rfl⟩, .inr ⟨_, hp3.out, hJx'.out⟩⟩
    · have hend : Hid (pre = en 0 ds) := Lib.hid (by rw [← hpre.out, en_end ds k (by omega)]; simp)
      clear hpre
      gi_wp2
      rw [Exit.noGoto_normal]
      go_end0
      exact ⟨⟨_, rfl⟩, .inl ⟨pre, hend.out, hj.out⟩⟩
end Go.Proofs.YtinkdjplehaibaaDoor
