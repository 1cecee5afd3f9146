/-
  Real: the document's fields as real ones.
-/
import Derived.Test.YtkaoacoahlbcoaaRFields
import Derived.Deep.RegionHeld3
import Derived.Deep.RegionLaw
namespace Go.Proofs.Ytkaoacoahlbcoaa
open Go.RowKit
set_option linter.unusedVariables false
/-- One field more behind the fields l, at a step of a region that draws its order; a row elsewhere stays. -/
theorem step_push_pf {ops : Array Oper} {o : Oper} {a : Act} {K : Act → World → Prop} {Q : Exit → Act → World → Prop} {E : Prop} (hgd : o.guard = none) (s x : Operand)
    (ho : o.op = .call { callee := .builtin .append, args := #[s, x], argTypes := #[37, 37] }) (B : Nat) (W : World) (v : Value) (l : List (Fd × Nat)) (p : Fd × Nat) (cs : Array Value) (hcs : cs.toList = fdC p)
    (hs : a.eval s = v) (hown : W.ownsRow B 31 5 v l.length (fdsC l)) (hB : B ≤ W.heap.size) (ga : Nat) (hga : ga < W.heap.size) (hne : v.ownBlock ≠ some ga) (g : Nat) (hgW : W.heap.size = g) (hx : a.eval x = .slice (some ⟨g, 0, none⟩) 1 1) (hlen : l.length ≤ 1000000)
    {i : Nat} {u0 u1 u2 u3 u4 : Value} (n0 : W.cell? ⟨ga, i, none⟩ = some u0) (n1 : W.cell? ⟨ga, i + 1, none⟩ = some u1) (n2 : W.cell? ⟨ga, i + 2, none⟩ = some u2) (n3 : W.cell? ⟨ga, i + 3, none⟩ = some u3) (n4 : W.cell? ⟨ga, i + 4, none⟩ = some u4)
    (h : ∀ v' W', W'.ownsRow B 31 5 v' (l ++ [p]).length (fdsC (l ++ [p])) → Below B W W' → (W'.cell? ⟨ga, i, none⟩ = some u0 ∧ W'.cell? ⟨ga, i + 1, none⟩ = some u1 ∧ W'.cell? ⟨ga, i + 2, none⟩ = some u2 ∧ W'.cell? ⟨ga, i + 3, none⟩ = some u3 ∧ W'.cell? ⟨ga, i + 4, none⟩ = some u4) → K (a.put o.dst v') W') :
    if Region.wanted o (yielded ops a.tmps) = true then Oper.wp Try.prog o a (W.alloc (.cells cs 31)) K Q else E := by
  have hw : Region.wanted o (yielded ops a.tmps) = true := by simp [Region.wanted, hgd]
  rw [if_pos hw]
  obtain ⟨i0, hi, hz0, hz1, hz2⟩ := info_parts Try.infoF
  subst hgW
  have hl := hown.lt
  have hc : ∀ j, (W.alloc (.cells cs 31)).cell? ⟨W.heap.size, j, none⟩ = cs[j]? := fun j => (Blk.new W 31 cs).cell j
  have hB' : B ≤ (W.alloc (.cells cs 31)).heap.size := by simp; omega
  refine wp_append_own _ s x 37 ho B 31 i0 (.agg #[.int .i64 0, .int .i64 0, .int .i64 0, .int .u64 0, .string ⟨#[]⟩]) 5 48 Try.underlying37 hi hz0 hz1 hz2 rfl (by decide) v l.length _ hs (hown.alloc _) ⟨W.heap.size, 0, none⟩ 1 1 (fdC p) hx rfl ?_ ?_ ?_ ?_ hB' ?_
  · intro j u hj
    have e : (⟨W.heap.size, 0, none⟩ : Addr).add j = ⟨W.heap.size, j, none⟩ := by unfold Addr.add; split <;> simp_all
    rw [e, hc, ← hj, ← hcs, Array.getElem?_toList]
  · intro u hu; unfold fdC at hu; simp at hu; rcases hu with rfl | rfl | rfl | rfl | rfl <;> rfl
  · unfold maxLen; omega
  · omega
  · intro v' W' hown' hg _
    have far : ∀ (o : Nat) (u : Value), W.cell? ⟨ga, o, none⟩ = some u → W'.cell? ⟨ga, o, none⟩ = some u := fun o u hu => by
      have h1 : (W.alloc (.cells cs 31)).cell? ⟨ga, o, none⟩ = some u := cell_kept hu (World.grownBy_alloc W _ none) (fun r e => by cases e)
      exact (hg.cell_far ⟨ga, o, none⟩ (by simp; omega) (fun e => hne e.symm)).trans h1
    refine h v' W' ?_ (((Below.refl B W).alloc hB _).grown hg hB' (fun k hk => (hl k hk).1)) ⟨far _ _ n0, far _ _ n1, far _ _ n2, far _ _ n3, far _ _ n4⟩
    rw [fdsC_snoc, List.length_append]
    exact hown'
theorem slice_of' {W : World} {b : Nat} {e : TypeId} {s : Nat} {v : Value} {n : Nat} {xs : List Value} (h : W.ownsRow b e s v n xs) : ∃ a c, v = .slice a n c := by
  obtain ⟨hl, ⟨rfl, hn⟩ | ⟨g, cap, cur, rfl, _⟩⟩ := h
  · exact ⟨none, 0, by rw [hn]⟩
  · exact ⟨_, _, rfl⟩
def RealIs (l : List (Fd × Nat)) (w : World) (e : Ending) (w' : World) : Prop := ∃ a c, e = .returned (.slice a l.length c) ∧ FHolds w' a l ∧ Below w.heap.size w w'
set_option maxRecDepth 100000 in
set_option maxHeartbeats 4000000 in
theorem real_any (a : Option Addr) (c : Nat) (l : List (Fd × Nat)) (w : World) (hl : l.length ≤ 100000) (ha : FHolds w a l) :
    Calls Try.prog 21 #[.slice a l.length c] w (RealIs l w) := by
  have HA := Lib.hid ha
  obtain ⟨n, hn⟩ : ∃ n, l.length = n := ⟨_, rfl⟩
  have Hn := Lib.hid hn
  rw [hn]
  have hn1 : n ≤ 100000 := by omega
  obtain ⟨B, hB⟩ : ∃ B, w.heap.size = B := ⟨_, rfl⟩
  have HB := Lib.hid hB
  clear ha hn hl hB
  go_enter Try.func21, Try.ntmps21
  go_wp2
  go_loopw [3, 4] (fun ov i wr => ∃ j : Nat, i = .int .i64 (j : Int) ∧ j ≤ n ∧ Hid (wr.ownsRow B 31 5 ov j (fdsC (l.take j))) ∧ Hid (Below B w wr) ∧ B ≤ wr.heap.size) (fun _ i _ => n - (intOf i).toNat)
  case atStart => exact ⟨0, rfl, by omega, Lib.hid (World.ownsRow_nil _ _ _ _), Lib.hid (Below.refl _ _), by have := HB.out; omega⟩
  case round =>
    obtain ⟨j, rfl, hj, ho, hb, hBs⟩ := hrel
    by_cases hlt : j < n
    · obtain ⟨p, hp⟩ : ∃ p, l[j]? = some p := ⟨_, List.getElem?_eq_getElem (by rw [Hn.out]; exact hlt)⟩
      have hbw : Below w.heap.size w wr := by rw [HB.out]; exact hb.out
      obtain ⟨ga0, hxa0, hga0, _⟩ := HA.out j p hp
      obtain ⟨ga, hxa, hga, hca⟩ := (HA.out.below hbw) j p hp
      rw [hxa0] at hxa
      cases hxa
      subst hxa0
      have hgB : ga0 < B := by have := HB.out; omega
      obtain ⟨f, k⟩ := p
      have n0 := hca 0 _ rfl; have n1 := hca 1 _ rfl; have n2 := hca 2 _ rfl; have n3 := hca 3 _ rfl; have n4 := hca 4 _ rfl
      simp only [Nat.add_zero] at n0
      have htk : l.take (j + 1) = l.take j ++ [(f, k)] := by
        rw [List.take_add_one, hp]; rfl
      have hln : (l.take j).length = j := by rw [List.length_take, Hn.out]; omega
      have ho' : wr.ownsRow B 31 5 u3 (l.take j).length (fdsC (l.take j)) := by rw [hln]; exact ho.out
      have Ho := Lib.hid ho'
      have Htk := Lib.hid htk
      have Hln := Lib.hid hln
      have Hp := Lib.hid hp
      clear hca hp hbw htk hln ho' ho
      go_wp2_with fail
      have Ho2 := Lib.hid (World.ownsRow.drew Ho.out)
      have hne : u3.ownBlock ≠ some ga0 := fun e => by have := (Ho.out.lt _ e).1; omega
      have hcsE : Hid ((#[.int .i64 f.num, .int .i64 f.kind, .int .i64 (k : Int), .int .u64 f.val, .string f.data] : Array Value).toList = fdC (f, k)) := Lib.hid rfl
      go_region_held3 (fun w' => w'.cell? ⟨ga0, j * 5, none⟩ = some (.int .i64 f.num) ∧ w'.cell? ⟨ga0, j * 5 + 1, none⟩ = some (.int .i64 f.kind) ∧ w'.cell? ⟨ga0, j * 5 + 2, none⟩ = some (.int .i64 (k : Int)) ∧ w'.cell? ⟨ga0, j * 5 + 3, none⟩ = some (.int .u64 f.val) ∧ w'.cell? ⟨ga0, j * 5 + 4, none⟩ = some (.string f.data))
        (first | exact hS5 | go_keep)
        (first
          | (refine step_push_pf (by rfl) (.tmp 11) (.tmp 38) (by rfl) B _ _ (l.take j) (f, k) _ hcsE.out (by rfl) Ho2.out hBs ga0 hga hne _ rfl (by rfl) (by rw [Hln.out]; omega) n0 n1 n2 n3 n4 ?_; intro v4 w4 own4 b4 hS5))
      have Ho' : Hid (w4.ownsRow B 31 5 v4 (j + 1) (fdsC (l.take (j + 1)))) := Lib.hid (by
        have h1 : w4.ownsRow B 31 5 v4 (l.take j ++ [(f, k)]).length (fdsC (l.take j ++ [(f, k)])) := by first | exact own4 | (rw [List.length_append]; exact own4)
        rw [List.length_append, Hln.out] at h1
        rw [Htk.out]
        exact h1)
      have Hb' : Hid (Below B w w4) := Lib.hid ((Below.drew hb.out).trans b4)
      have hB4 : B ≤ w4.heap.size := Nat.le_trans hBs b4.size
      clear own4 b4 hS5 n0 n1 n2 n3 n4 hne hb Ho Ho2
      go_wp2
      go_roundw
      case rel => exact ⟨j + 1, by go_num, by omega, Ho', Hb', hB4⟩
      case measure => simp [intOf]; omega
    · have hjn : j = n := by omega
      obtain ⟨a', c', hv⟩ := slice_of' ho.out
      subst hv
      have hfin : Hid (RealIs l w (.returned (.slice a' j c')) wr) := Lib.hid (by
        have h1 := ho.out
        rw [hjn, List.take_of_length_le (by rw [Hn.out]; omega)] at h1
        refine ⟨a', c', by rw [Hn.out, hjn], fholds_own h1 Hn.out.symm, ?_⟩
        rw [HB.out]
        exact hb.out)
      clear ho hb
      go_wp2
      go_ret
      exact hfin.out
end Go.Proofs.Ytkaoacoahlbcoaa
