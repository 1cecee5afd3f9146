/-
  The iterator's maker, and the two functions that range over a text's characters: where the text ends, and how many characters it has.
-/
import Derived.Test.YtkebjllehegjlaaGreatDoorUtIter2
import Derived.Deep.QuietTactic
import Derived.BigQuiet
namespace Go.Proofs.YtkebjllehegjlaaGreatDoor
open Go.RowKit Go.Shelf
attribute [local go_sem] Oper.semAt_some

set_option maxHeartbeats 1000000 in
theorem runes_any (s : ByteArray) (w : World) :
    Calls Tryz.prog 18 #[.string s] w fun e w' => e = .returned (.func (.func 29) #[] #[.pointer (some ⟨w.heap.size, 0, none⟩)]) ∧ w.alloc (.cells #[.string s] 9) = w' := by
  go_enter Tryz.func18, Tryz.ntmps18
  go_wp2
  go_ret
  exact ⟨rfl, rfl⟩
theorem runes_stops (n : Nat) (hn : 1 ≤ n) (Bs : Nat) (s : ByteArray) (hs : s.size ≤ 1000000) (w : World) (hB : Bs < w.heap.size) (hc : w.cell? ⟨Bs, 0, none⟩ = some (.string s)) :
    SeqStopsK Fence.wide n Tryz.prog 29 #[.pointer (some ⟨Bs, 0, none⟩)] (fun x : Ru => #[.int .i64 (x.1.1 : Int), .int .i64 (x.1.2 : Int)]) (KeepCell Bs) (fun ys => ys.map (·.1) = uRunes s.data.toList 0) (fun pre => pre.map (·.1) <+: uRunes s.data.toList 0) s.size w := fun l J Jx W hW _ _ hY h0 => by
  have hc' := (hW.cell (p := ⟨Bs, 0, none⟩) (by simpa using hB)).trans hc
  exact runes1_in n hn l Bs s hs J Jx hY W hc' h0

set_option maxRecDepth 100000 in
set_option maxHeartbeats 2000000 in
theorem check_in (n : Nat) (hn : 3 ≤ n) (s : ByteArray) (hs : s.size ≤ 1000000) (w : World) :
    CallsIn Fence.wide n Tryz.prog 17 #[.string s] w fun e W' => e = .returned (.tuple #[.int .i64 (uEnd s.data.toList), .bool ((uEnd s.data.toList : Int) == (s.size : Int))]) ∧ Below w.heap.size w W' := by
  have h1 : 1 ≤ n := by omega
  refine callsIn_of_wp_marks Tryz.func17 rfl trivial ?_ rfl
  simp only [Tryz.ntmps17, List.size_toArray, List.length_cons, List.length_nil, Nat.reduceAdd, Nat.reduceSub, Array.replicate_succ, Array.replicate_zero, List.push_toArray, List.append_toArray, List.nil_append, List.cons_append]
  gi_wp2_with fail
  refine ⟨trivial, (callsIn_wide.2 (runes_any s _)).mono ?_⟩
  rintro e w' ⟨rfl, rfl⟩
  gi_wp2_with fail
  have bS := Boxed.new w 3 (.int .i64 0)
  have bN := Boxed.new (w.alloc (.cells #[.int .i64 0] 3)) 9 (.string s)
  rw [World.size_alloc] at bN
  have hB0 : Below w.heap.size w ((w.alloc (.cells #[.int .i64 0] 3)).alloc (.cells #[.string s] 9)) := ((Below.refl _ w).alloc (Nat.le_refl _) _).alloc (by simp) _
  refine wpIn_rangeFunc_ownG rfl h1 (gf := 29) (lb := #[.pointer (some ⟨w.heap.size + 1, 0, none⟩)]) rfl trivial (enters_of Tryz.func29 (by kernel_rfl) rfl)
    (runes_stops (n - 1) (by omega) (w.heap.size + 1) s hs _ (by simp) bN.cell) KeepCell.trans KeepCell.b (Below.refl _ _) (fun _ => rfl)
    (fun pre W => (W.cell? ⟨w.heap.size, 0, none⟩ = some (.int .i64 (uEndOf (pre.map (·.1)) : Nat)) ∧ W.frozen? ⟨w.heap.size, 0, none⟩ = false) ∧ Below w.heap.size w W)
    (fun _ _ _ => False)
    (OwnFrom.and (Go.Own.from (fun s A B row hs hg hr => ⟨cell_kept hs.1 hg hr, (frozen_kept hs.1 hg hr).trans hs.2⟩) _) (ownFrom_below (Nat.le_refl _) (by simp; omega)))
    (fun _ _ _ _ _ hs _ _ => hs)
    ⟨⟨(bS.alloc _).cell, (bS.alloc _).frozen⟩, hB0⟩
    (fun x => { tmps := #[.string s, undef, .int .i64 0, .bool false, .pointer (some ⟨w.heap.size, 0, none⟩), .int .i64 x.1.1, .int .i64 x.1.2, .string s, .func (.func 29) #[] #[.pointer (some ⟨w.heap.size + 1, 0, none⟩)], .int .i64 x.1.1, .int .i64 x.1.2, undef, undef, undef, undef, undef, undef, undef, undef, undef], defers := [] }) ?assign ?body ?done ?stop
  case assign =>
    intro l x W K hK
    gi_wp2
    exact hK
  case body =>
    rintro l pre x W ⟨⟨hc, hf⟩, hB⟩ hl
    have hx1 := x.2.1
    have hx2 := x.2.2
    have hsz := uSize_le x.1.2
    gi_wp2_with fail
    refine ⟨trivial, fun _ => by omega, ?_⟩
    refine (CallsIn.inRound l (callsIn_wide.2 (size_any (x.1.2 : Int) _))).mono ?_
    rintro e w' ⟨rfl, rfl⟩
    rw [uSizeI_nat]
    have he : uEndOf ((pre ++ [x]).map (·.1)) = x.1.1 + uSize x.1.2 := by rw [List.map_append]; exact uEndOf_snoc _ _
    have He := Lib.hid he
    clear he
    gi_wp2
    refine ⟨(KeepsOthers.setCell _ _ _).from _, KeepCell.set _ _ (by omega), ⟨?_, by rw [World.frozen?_setCell]; exact hf⟩, hB.setCell (p := ⟨w.heap.size, 0, none⟩) (Nat.le_refl _) _⟩
    rw [He.out]
    exact World.cell?_setCell_same' _ _ _ (by rw [hc]; rfl)
  case done =>
    rintro D ys W hD hys ⟨⟨hc, hf⟩, hB⟩ hK
    have hl : uEndOf (ys.map (·.1)) = uEnd s.data.toList := by rw [hys]; exact uEndOf_runes _
    rw [hl] at hc
    gi_wp2
    refine wpIn_wide.2 ?_
    go_quiet (fail)
    gi_wp2
    have hK' : (W.drewN nq).heap[D]? = some (.deferred (some [])) := by simpa using hK
    have hB' : Below w.heap.size w (W.drewN nq) := below_drewN hB nq
    refine ⟨by simp, .inl ⟨_, _, rfl, run_takeDeferred hK', ?_⟩⟩
    refine ⟨.tuple #[.int .i64 (uEnd s.data.toList), .bool ((uEnd s.data.toList : Int) == (s.size : Int))], ?_, rfl, hB'.trans (belowK_b (w := w) (Nat.le_refl _) _ D _ _ (by simp at hD; omega) hK' rfl rfl)⟩
    simp [results, Tryz.f17, go_sem]
  case stop =>
    rintro D c pre W _ _ h _
    exact h.elim
theorem check_any (s : ByteArray) (hs : s.size ≤ 1000000) (w : World) :
    Calls Tryz.prog 17 #[.string s] w fun e W' => e = .returned (.tuple #[.int .i64 (uEnd s.data.toList), .bool ((uEnd s.data.toList : Int) == (s.size : Int))]) ∧ Below w.heap.size w W' :=
  callsIn_wide.1 (check_in 3 (Nat.le_refl _) s hs w)
end Go.Proofs.YtkebjllehegjlaaGreatDoor
