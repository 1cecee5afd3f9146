/-
  'TargetSteps': for every input the call returns true, and each argument reads behind it as it read before. No conditions. (The frame is the one that the kit's program prints; the walk is in YtckglpkafhmehaaGreatDoorTargetStepsWalk.)
-/
import Derived.Test.YtckglpkafhmehaaGreatDoorRows
import Derived.Test.YtckglpkafhmehaaGreatDoorTie
import Derived.Test.YtckglpkafhmehaaGreatDoorCards
import Derived.SevenTiedAt
import Derived.PinnedBridge
import Derived.SizedLaws
import Derived.Lay
import Derived.LaidOnce
import Derived.WalkKit
import Derived.ProofKit
import Derived.OpenShut
import Derived.Test.YtckglpkafhmehaaGreatDoorTargetStepsWalk
import Derived.Test.YtckglpkafhmehaaGreatDoorPost
import Derived.Test.YtckglpkafhmehaaGreatDoorTTab
import Derived.ShutString
namespace Go.Proofs.YtckglpkafhmehaaGreatDoor.targetSteps
open Go.ChangeShapes Go.WideShapes Go.ChangeAt Go.RowKit
open Go.ChangeMaps (open_string shut_string)
set_option linter.unusedVariables false      -- a walk need not use every 'w<i>' (that an integer argument fits its kind)

section
variable {H : Type} {enc : TypeId × Value → H} {w : World} {base : Nat} {spare : Nat → Bool} {held : Bool}
theorem five_of {α : Type} (l : List α) (h : l.length = 5) : ∃ a b c d e, l = [a, b, c, d, e] := by
  match l, h with
  | [a, b, c, d, e], _ => exact ⟨a, b, c, d, e, rfl⟩
set_option maxRecDepth 100000 in
/-- A target, as an argument. -/
theorem open_tg {v : Value} {d : DataW H} {p : List MemPlace} {r : Reach} {b0 : Nat} (hv : Value.okWide Tryz.prog w r b0 25 v) (h : DataW.Trod enc Tryz.prog w base spare held 25 v d p) (hwt : ∀ n ∈ d.weights Tryz.prog 25, n ≤ reachBytes) :
    ∃ (mn mx fa co : ByteArray) (ca : Int), v = .agg #[.string mn, .string mx, .string fa, .string co, .int .i64 ca] ∧ mn.size ≤ reachBytes ∧ mx.size ≤ reachBytes ∧ fa.size ≤ reachBytes ∧ co.size ≤ reachBytes ∧ (Lit.int .i64 ca).wf = true := by
  obtain ⟨cs, rfl, hsz⟩ := okWide_struct Tryz.underlying25 hv
  obtain ⟨l⟩ := cs
  have h5 : Tryz.prog.cellsOf 25 = 5 := by kernel_rfl
  match l, hsz.trans h5 with
  | [c0, c1, c2, c3, c4], _ =>
    obtain ⟨fuel, hf⟩ := h
    obtain ⟨ys, n', _, hxa, _, hyl, hg⟩ := DataW.trod_struct Tryz.underlying25 hf
    have hda : d = .agg (ys.map (·.1)) := congrArg Prod.fst hxa
    rw [hda] at hwt
    simp only [DataW.weights, Tryz.underlying25] at hwt
    have i1 : Tryz.prog.cellsOf 3 = 1 := by kernel_rfl
    have s1 : Tryz.prog.cellsOf 9 = 1 := by kernel_rfl
    have g0 := hg 0 { name := "Min", type := 9, offset := 0, embedded := false, tag := "", pkgPath := "", byteOffset := 0 } rfl
    have g1 := hg 1 { name := "Max", type := 9, offset := 1, embedded := false, tag := "", pkgPath := "", byteOffset := 16 } rfl
    have g2 := hg 2 { name := "Factor", type := 9, offset := 2, embedded := false, tag := "", pkgPath := "", byteOffset := 32 } rfl
    have g3 := hg 3 { name := "Constant", type := 9, offset := 3, embedded := false, tag := "", pkgPath := "", byteOffset := 48 } rfl
    have g4 := hg 4 { name := "Cast", type := 3, offset := 4, embedded := false, tag := "", pkgPath := "", byteOffset := 64 } rfl
    obtain ⟨y0, y1, y2, y3, y4, rfl⟩ := five_of ys hyl
    obtain ⟨n0, e0, x0, _⟩ := DataW.trod_string Tryz.underlying9 g0
    obtain ⟨n1, e1, x1, _⟩ := DataW.trod_string Tryz.underlying9 g1
    obtain ⟨n2, e2, x2, _⟩ := DataW.trod_string Tryz.underlying9 g2
    obtain ⟨n3, e3, x3, _⟩ := DataW.trod_string Tryz.underlying9 g3
    obtain ⟨n4, e4, _, w4⟩ := DataW.trod_int Tryz.underlying3 g4
    simp [Value.cells, i1, s1] at e0 e1 e2 e3 e4
    subst e0 e1 e2 e3 e4 x0 x1 x2 x3
    have k0 := hwt n0.data.toList.length (DataW.weights_mem_each (j := 0) rfl rfl _ (by simp [DataW.weights]))
    have k1 := hwt n1.data.toList.length (DataW.weights_mem_each (j := 1) rfl rfl _ (by simp [DataW.weights]))
    have k2 := hwt n2.data.toList.length (DataW.weights_mem_each (j := 2) rfl rfl _ (by simp [DataW.weights]))
    have k3 := hwt n3.data.toList.length (DataW.weights_mem_each (j := 3) rfl rfl _ (by simp [DataW.weights]))
    exact ⟨n0, n1, n2, n3, n4, rfl, by simpa using k0, by simpa using k1, by simpa using k2, by simpa using k3, w4⟩
end
theorem laidOut : laidOutB Tryz.prog = true := by kernel_rfl
theorem own : ownKnob Tryz.prog.godebug = none := by kernel_rfl

/-! ### THE ROW's STEP: WRITTEN OUT: LEAVE IT -/
set_option maxRecDepth 100000 in
theorem lifted (os : Os) (started : os.Started) (H : Type) (enc : TypeId × Value → H) :
    ReturnsInHanded {} Tryz.checked os 4 .any (fun w args => (Rows.targetStepsSpec.pre enc Tryz.prog Tryz.f4 [] false w args ∧ laidMetH Tryz.prog Rows.targetStepsRow.laid w) ∧ sizedMet enc Tryz.prog Tryz.f4 (OpenSpec.ofChange Rows.targetStepsSpec) false w args) (Rows.targetStepsSpec.post enc Tryz.prog Tryz.f4 false true false false) := by
  refine returnsInHanded_of_change_and (C := Tryz.checked) (X := fun w _ => laidMetH Tryz.prog Rows.targetStepsRow.laid w) (fun _ _ _ hh h => h.of_heap hh) own started (by kernel_rfl) Tryz.func4
    (ChangeSpec.witness_shaped (enc := enc) (C := Tryz.checked) (os := os) (X := fun w _ => laidMetH Tryz.prog Rows.targetStepsRow.laid w) false (World.laidAll Tryz.prog os Rows.targetStepsRow.laid) #[.agg #[.string ByteArray.empty, .string ByteArray.empty, .string ByteArray.empty, .string ByteArray.empty, .int .i64 0], .string ByteArray.empty] 8 (World.laidAll_os _ _ _)
      (World.shaped_of_ZipB (by kernel_rfl) (by kernel_rfl)) (by kernel_rfl) (by kernel_rfl) (by kernel_rfl)
      (by rw [MakeChecks.laidMetH_plain _ _ _ (by kernel_rfl)]; exact laidMet_laidAll _ (by kernel_rfl) (by kernel_rfl))) ?_
  intro W base args ds gs before hval0 hW _ hzs hX _
  have hval : ∀ (j : Nat) t v, Tryz.f4.params[j]? = some t → args[j]? = some v → Value.okWide Tryz.prog W .any base t v := hval0
  have hW' := hW
  obtain ⟨p, q, hA0, hV, rfl, hfz, hnd⟩ := hW
  have hA : DataW.TrodAll enc Tryz.prog W 0 (fun _ => true) true Tryz.f4.params.toList args.toList ds p := hA0
  have hzs2 : (DataW.weightsEach Tryz.prog (Tryz.f4.params.toList ++ Rows.targetStepsSpec.plain.varTypes Tryz.prog) (ds ++ gs)).all (· ≤ reachBytes) = true := hzs
  rw [Tryz.params4] at hA hval hzs2
  obtain ⟨v0, vs0, d0, ds0, p0, q0, hargs, rfl, rfl, h0, r0⟩ := trodAll_cons hA
  obtain ⟨v1, vs1, d1, ds1, p1, q1, rfl, rfl, rfl, h1, r1⟩ := trodAll_cons r0
  obtain ⟨rfl, rfl, rfl⟩ := trodAll_nil r1
  obtain rfl : args = #[v0, v1] := by cases args; simp_all
  obtain ⟨rfl, rfl⟩ := trodVars_none hV
  have k0 := h0
  have lt0 : ∀ x ∈ p0, x.block < W.heap.size := by obtain ⟨m, hm⟩ := k0; exact DataW.trod_lt m _ _ _ hm
  have hwt : ∀ n ∈ d0.weights Tryz.prog 25, n ≤ reachBytes := fun n hn =>
    of_decide_eq_true (List.all_eq_true.1 hzs2 n (DataW.weights_mem_each (j := 0) rfl rfl n hn))
  obtain ⟨mn, mx, fa, co, ca, rfl, s1, s2, s3, s4, w5⟩ := open_tg (hval 0 25 v0 rfl rfl) h0 hwt
  obtain ⟨a1, rfl, rfl, rfl, w1⟩ := open_string Tryz.underlying9 (hval 1 9 v1 rfl rfl) h1
  have s5 : a1.size ≤ reachBytes := by have := sized_string (j := 1) hzs2 rfl rfl; simpa using this
  clear hA0 hval0 hzs hzs2
  simp only [List.append_nil] at hW'
  refine (walk mn mx fa co a1 ca s1 s2 s3 s4 s5 w5 W (tab_targetSteps hX) (tabB_targetSteps hX)).mono fun e W' ⟨he, hg⟩ => ?_
  subst he
  have h9 : DataW.TrodAll enc Tryz.prog W' 0 (fun b => decide (b < W.heap.size)) true [25, 9] [.agg #[.string mn, .string mx, .string fa, .string co, .int .i64 ca], .string a1] [d0, .lit (.string a1.data.toList)] (p0 ++ ([] ++ [])) :=
    trodAll_cons_mk (Below.trod laidOut (by kernel_rfl) (of_decide_eq_true (by kernel_rfl)) k0 hg lt0) (trodAll_cons_mk (shut_string Tryz.underlying9 w1) trodAll_mk0)
  rw [show p0 ++ (([] : List MemPlace) ++ []) = p0 by simp] at h9
  exact ⟨_, rfl, post_law hW' hg (fun _ _ _ => (trodAll_cons_mk (shut_bool Tryz.underlying4 _) trodAll_mk0)) h9 (fun _ => rfl)⟩

theorem over : Rows.targetStepsRow.holds Tryz.pinned (OpenSpec.ofChange Rows.targetStepsSpec) :=
  OpenClaim.holds_of_wide 4 Tryz.f4 rfl rfl rfl rfl rfl rfl rfl ⟨rfl, rfl, rfl, rfl, rfl⟩ rfl rfl rfl rfl rfl (by kernel_rfl) Tryz.func4 (by kernel_rfl)
    (of_decide_eq_true (by kernel_rfl)) (by unfold Func.isWrapper; first | (rw [if_pos (by decide +kernel)]; kernel_rfl) | (rw [if_neg (by decide +kernel)]; exact ⟨rfl, rfl⟩))
    (fun os started H enc _ => lifted os started H enc)

/-- The statement: the card. -/
theorem proved : Rows.TargetStepsCardSaid :=
  Claim7.holds_tied_plain_at .later [] [.data, .data, .data, .data, .pinned] true (true, "422f86b0e527f85365028f13b7d8b33a9e16b94068a2d39caacea46c0a1559c6") false over (fun _ h => by cases h) (by kernel_rfl) (fun _ h => by cases h) targetSteps_row_tie rfl ⟨rfl, rfl⟩ (by kernel_rfl) rfl
    (fun f fn hf hfn => by
      obtain rfl : f = 4 := Option.some.inj ((show Tryz.prog.funcNamed "hornbeam/hornbeamlaw17.TargetSteps" = some 4 by kernel_rfl).symm.trans hf) |>.symm
      obtain rfl : fn = Tryz.f4 := (Option.some.inj (Tryz.func4.symm.trans hfn)).symm
      exact ⟨by kernel_rfl, fun j t ht => by
        rw [Tryz.params4] at ht
        have hm : t ∈ [25, 9] := by simpa using Array.mem_of_getElem? ht
        have hall : ([25, 9].all fun u => !Tryz.prog.wantsStandIn u) = true := by kernel_rfl
        exact (show Tryz.prog.wantsStandIn t = false by simpa using List.all_eq_true.1 hall t hm)⟩)
    (by kernel_rfl)
end Go.Proofs.YtckglpkafhmehaaGreatDoor.targetSteps
