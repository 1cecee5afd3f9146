/-
  Law 1: the number of a text's digits.
-/
import Derived.Test.YtllmacokhjmdgaaGreatDoorNForm
import Derived.Laws.MakeOwn
namespace Go.Proofs.YtllmacokhjmdgaaGreatDoor
open Go.RowKit
set_option linter.unusedVariables false
/-- The value v is the number N: its words lie in memory, the last of them is not 0. -/
def IsN (w : World) (v : Value) (N : Nat) : Prop :=
  ∃ a c us, v = .agg #[.slice a us.length c] ∧ us.length ≤ c ∧ UR w a us ∧ Wrd us ∧ wv us = N ∧ us.length ≤ 10000 ∧ (us ≠ [] → us.getD (us.length - 1) 0 ≠ 0) ∧ (us = [] → a = none ∧ c = 0)
theorem IsN.below {w w' : World} {v : Value} {N B : Nat} (h : IsN w v N) (hb : Below B w w') (hB : w.heap.size ≤ B) : IsN w' v N := by
  obtain ⟨a, c, us, h1, h2, h3, h4⟩ := h
  exact ⟨a, c, us, h1, h2, h3.below hb hB, h4⟩
theorem isN_zero (w : World) : IsN w (.agg #[.slice none 0 0]) 0 := ⟨none, 0, [], rfl, Nat.le_refl _, fun i hi => by simp at hi, fun u hu => by simp at hu, rfl, by simp, fun h => absurd rfl h, fun _ => ⟨rfl, rfl⟩⟩
theorem isN_trim {w : World} {a : Option Addr} {c : Nat} {us : List Nat} (hu : UR w a us) (hw : Wrd us) (hc : us.length ≤ c) (hl : us.length ≤ 10000) : IsN w (.agg #[trimV a c (tlen us us.length)]) (wv us) := by
  have hle := tlen_le us us.length
  have hv := tlen_wv us us.length (Nat.le_refl _)
  rw [List.take_length] at hv
  have hlast := tlen_last us us.length
  generalize tlen us us.length = m at *
  have hlen : (us.take m).length = m := by rw [List.length_take]; omega
  unfold trimV
  by_cases h0 : m = 0
  · rw [if_pos h0, ← hv, h0]
    exact isN_zero w
  · rw [if_neg h0]
    refine ⟨a, c, us.take m, by rw [hlen], by omega, hu.take m, fun u hx => hw u (List.mem_of_mem_take hx), hv, by omega, fun _ => ?_, fun h => by have := congrArg List.length h; rw [hlen] at this; exact absurd this h0⟩
    rw [hlen, List.getD_eq_getElem?_getD, List.getElem?_take, if_pos (by omega), ← List.getD_eq_getElem?_getD]
    exact hlast (by omega)
theorem dv_append (a b : List UInt8) : dv (a ++ b) = dv a * 10 ^ b.length + dv b := by
  rcases List.eq_nil_or_concat b with rfl | ⟨r, x, rfl⟩
  · simp [dv]
  · have ih := dv_append a r
    rw [List.concat_eq_append, ← List.append_assoc, dv_snoc, dv_snoc, ih, List.length_append, List.length_singleton, Nat.pow_succ, Nat.add_mul, ← Nat.mul_assoc]
    omega
termination_by b.length
decreasing_by simp_all
theorem ou_far {B : Nat} {w : World} {v : Value} {us : List Nat} (h : OU B w v us) : ∃ a c, v = .slice a us.length c ∧ us.length ≤ c ∧ UR w a us ∧ (us = [] ∨ ∃ g, a = some ⟨g, 0, none⟩ ∧ B ≤ g) := by
  obtain ⟨a, c, rfl, hc, hu⟩ := ou_ur h
  refine ⟨a, c, rfl, hc, hu, ?_⟩
  rcases h.2 with ⟨he, h0⟩ | ⟨g, cap, cur, he, hbg, _⟩
  · exact .inl (List.eq_nil_of_length_eq_zero h0)
  · refine .inr ⟨g, ?_, hbg⟩
    injection he
theorem UR.far {w : World} {a : Option Addr} {us : List Nat} (h : UR w a us) {B b i : Nat} (hb : b < B) (hf : us = [] ∨ ∃ g, a = some ⟨g, 0, none⟩ ∧ B ≤ g) (x : Value) : UR (w.setCell ⟨b, i, none⟩ x) a us := by
  intro j hj
  obtain ⟨ad, ha, hlt, hc⟩ := h j hj
  refine ⟨ad, ha, by rw [World.size_setCell]; exact hlt, ?_⟩
  rcases hf with rfl | ⟨g, hg, hbg⟩
  · simp at hj
  · rw [hg] at ha
    cases ha
    rw [World.cell?_setCell_other _ _ _ _ (fun e => by have := congrArg Addr.block e; rw [add_block] at this; simp at this; omega)]
    exact hc
theorem ext_list (s : ByteArray) (i j : Nat) : (s.extract i j).data.toList = (s.data.toList.drop i).take (j - i) := by
  rw [ByteArray.data_extract, Array.toList_extract, List.extract_eq_take_drop]
theorem bytes_ext {a b : ByteArray} (h : a.data.toList = b.data.toList) : a = b := ByteArray.ext (Array.toList_inj.1 h)
def sOf : Value → Nat
  | .string s => s.size
  | _ => 0
/-- What the loop over the parts keeps: p bytes are read, the words us stand for them. -/
structure Pz (s : ByteArray) (p : Nat) (us : List Nat) : Prop where
  wrd : Wrd us
  val : wv us = dv (s.data.toList.take p)
  len : us.length ≤ p
  div : p = 0 ∨ (s.size - p) % 19 = 0
def ParseIs (s : ByteArray) (w : World) (e : Ending) (w' : World) : Prop :=
  ((WF s ∧ s.size ≤ 1200 ∧ ∃ v, e = .returned (.tuple #[v, .int .i64 0]) ∧ IsN w' v (dv s.data.toList)) ∨
   (¬ WF s ∧ e = .returned (.tuple #[.agg #[.slice none 0 0], .int .i64 3])) ∨
   (WF s ∧ 1200 < s.size ∧ e = .returned (.tuple #[.agg #[.slice none 0 0], .int .i64 2]))) ∧ Below w.heap.size w w'
theorem res_nat2 {fn : Func} {p u : Tmp} (h : fn.results = #[.cell p 26, .tmp u]) (tmps : Array Value) (w : World) (g : Nat) (v x : Value) (hp : tmps.getD p undef = .pointer (some ⟨g, 0, none⟩)) (hu : tmps.getD u undef = x) (hg : Blk w g 26 #[v]) :
    (results fn tmps).run Tryz.prog w = .ok (.tuple #[.agg #[v], x]) w := by
  rw [results_cell_tmp h, hp, hu]
  have e : (loadVar 26 ⟨g, 0, none⟩).run Tryz.prog w = .ok (.agg #[v]) w := run_loadVar_row w g 26 26 #[v] (0, 0) _ hg Tryz.underlying26 (by kernel_rfl) (by kernel_rfl)
  simp [asAddr, e, Result.andThen]
set_option maxRecDepth 100000 in
set_option maxHeartbeats 2000000 in
theorem parse_any (s : ByteArray) (w : World) (hs : s.size ≤ maxLen) :
    Calls Tryz.prog 91 #[.string s] w (ParseIs s w) := by
  obtain ⟨W1, hW1⟩ : ∃ W1, w.alloc (.cells #[.slice none 0 0] 26) = W1 := ⟨_, rfl⟩
  have hk : Blk W1 w.heap.size 26 #[.slice none 0 0] := by rw [← hW1]; exact Blk.new w _ _
  have HB : Hid (Below w.heap.size w W1) := Lib.hid (by rw [← hW1]; exact (Below.refl _ _).alloc (Nat.le_refl _) _)
  have hsz1 : W1.heap.size = w.heap.size + 1 := by rw [← hW1]; simp
  have hk0 := hk.cell 0; have hkf := hk.frozen 0
  simp only [List.getElem?_toArray, List.getElem?_cons_zero] at hk0
  have HK := Lib.hid hk
  have HForm := Lib.hid (form_any s W1 hs)
  clear hk
  unfold maxLen at hs
  by_cases hwf : WF s
  · have hform : Hid (Calls Tryz.prog 114 #[.string s] W1 fun e w' => e = .returned (.bool true) ∧ W1 = w') := Lib.hid (HForm.out.mono fun e w' h => by
      rcases h.1 with ⟨_, he⟩ | ⟨hn, _⟩
      · exact ⟨he, h.2⟩
      · exact absurd hwf hn)
    by_cases hbig : 1200 < s.size
    · have hbi : (1200 : Int) < (s.size : Int) := by omega
      have HF : Hid (∀ w', Below w.heap.size w w' → ParseIs s w (.returned (.tuple #[.agg #[.slice none 0 0], .int .i64 2])) w') := Lib.hid (fun w' hb => ⟨.inr (.inr ⟨hwf, hbig, rfl⟩), hb⟩)
      clear hwf HForm
      go_enter Tryz.func91, Tryz.ntmps91
      go_wp2_with fail
      refine hform.out.mono ?_
      rintro e w2 ⟨rfl, rfl⟩
      go_wp2_with fail
      refine bodyPost_ret (res_nat2 rfl _ _ w.heap.size (.slice none 0 0) (.int .i64 2) rfl rfl (HK.out.set_ 0 _)) rfl ?_
      exact HF.out _ (HB.out.setCell (p := ⟨w.heap.size, 0, none⟩) (Nat.le_refl _) _)
    · have hbi : ¬ (1200 : Int) < (s.size : Int) := by omega
      obtain ⟨n, hn⟩ : ∃ n, s.size = n := ⟨_, rfl⟩
      have Hn := Lib.hid hn
      have HWF := Lib.hid hwf
      rw [hn] at hbi
      have hn12 : n ≤ 1200 := by omega
      obtain ⟨i0, hi, hz0, hz1, hz2⟩ := info_parts Tryz.infoU
      obtain ⟨W2, hmk, hom, hgm⟩ := run_make_own (P := Tryz.prog) W1 (w.heap.size + 1) 24 22 i0 (.int .u64 0) 1 Tryz.underlying24 hi hz0 hz1 .i64 .i64 (n / 19 + 1) (by rw [hz2]; omega) (by unfold maxLen; omega) (by omega)
      have ecap : ((n / 19 + 1 : Nat) : Int) = (n : Int) / 19 + 1 := by omega
      rw [ecap] at hmk
      rw [hsz1] at hom
      have HO2 : Hid (OU (w.heap.size + 1) W2 (.slice (some ⟨w.heap.size + 1, 0, none⟩) 0 (n / 19 + 1)) []) := Lib.hid hom
      have HB2 : Hid (Below (w.heap.size + 1) W1 W2) := Lib.hid ((Below.refl _ W1).grown hgm (by omega) (fun k hk => by cases hk))
      have HP0 : Hid (Pz s 0 []) := Lib.hid ⟨fun u hu => by simp at hu, by simp [wv, dv], by simp, .inl rfl⟩
      have hex0 : s.extract 0 s.size = s := ByteArray.extract_zero_size
      clear HForm hs hom hgm hi hz0 hz1 hz2 hwf
      go_enter Tryz.func91, Tryz.ntmps91
      go_wp2_with fail
      refine hform.out.mono ?_
      rintro e w2 ⟨rfl, rfl⟩
      go_wp2_with fail
      clear hmk
      go_loopw [0, 4] (fun sv vv wr => ∃ (p : Nat) (us : List Nat) (r : ByteArray), p ≤ n ∧ sv = .string r ∧ Hid (r = s.extract p s.size) ∧ Hid (OU (w.heap.size + 1) wr vv us) ∧ Hid (Pz s p us) ∧ Hid (Below (w.heap.size + 1) W1 wr)) (fun sv _ _ => sOf sv)
      case atStart => exact ⟨0, [], s, by omega, rfl, Lib.hid hex0.symm, HO2, HP0, HB2⟩
      case round =>
        obtain ⟨p, us, r, hp, rfl, hr, hO, hP, hBl⟩ := hrel
        clear HO2 HP0 HB2 hex0
        obtain ⟨L, hL⟩ : ∃ L, r.size = L := ⟨_, rfl⟩
        have hrs : Hid (L = n - p) := Lib.hid (by rw [← hL, hr.out]; have := Hn.out; simp; omega)
        have hLn : L ≤ n := by have := hrs.out; omega
        by_cases hL0 : 0 < L
        · have hLi : (0 : Int) < (L : Int) := by omega
          obtain ⟨m, hm⟩ : ∃ m, (L - 1) % 19 + 1 = m := ⟨_, rfl⟩
          have hm19 : m ≤ 19 := by omega
          have hmL : m ≤ L := by omega
          have hm1 : 1 ≤ m := by omega
          have eM : ((L : Int) - 1) % 19 + 1 = (m : Int) := by omega
          have hmi : (m : Int) ≤ (L : Int) := by omega
          have hmi0 : (0 : Int) ≤ (m : Int) := by omega
          have htake : Hid ((r.extract 0 m).data.toList = (s.data.toList.drop p).take m) := Lib.hid (by
            rw [hr.out, ext_list, ext_list, List.drop_zero, List.take_take, Nat.sub_zero]
            congr 1
            have := Hn.out; have := hrs.out; omega)
          obtain ⟨t, htt⟩ : ∃ t, r.extract 0 m = t := ⟨_, rfl⟩
          obtain ⟨r', hrr⟩ : ∃ r', r.extract m L = r' := ⟨_, rfl⟩
          rw [htt] at htake
          have hpart : Hid (∀ wx, Calls Tryz.prog 116 #[.string t] wx fun e w' => e = .returned (.int .u64 (dv t.data.toList : Nat)) ∧ wx = w') := Lib.hid (fun wx => part_any t wx (by rw [← htt]; simp; omega) (fun b hb => HWF.out.dig b (by rw [htake.out] at hb; exact List.mem_of_mem_drop (List.mem_of_mem_take hb))))
          obtain ⟨T, hT⟩ : ∃ T : Int, ((dv t.data.toList : Nat) : Int) = T := ⟨_, rfl⟩
          rw [hT] at hpart
          have hscale : Hid (Calls Tryz.prog 115 #[u4, .int .u64 10000000000000000000, .int .u64 T] wr (ScaleIs us 10000000000000000000 (dv t.data.toList) (w.heap.size + 1) wr)) := Lib.hid (by
            rw [← hT]
            have hdv : dv t.data.toList < 10 ^ t.data.toList.length := dv_lt _ _ rfl (fun b hb => HWF.out.dig b (by rw [htake.out] at hb; exact List.mem_of_mem_drop (List.mem_of_mem_take hb)))
            have h19 : 10 ^ t.data.toList.length ≤ 10 ^ 19 := Nat.pow_le_pow_right (by decide) (by rw [htake.out, List.length_take]; omega)
            have e19 : (10 : Nat) ^ 19 = 10000000000000000000 := by decide
            exact scale_any (w.heap.size + 1) u4 us 10000000000000000000 _ wr hO.out (by have := hBl.out.size; omega) hP.out.wrd (by omega) (by omega) (by have := hP.out.len; omega))
          go_wp2_with fail
          refine (hpart.out _).mono ?_
          rintro e w3 ⟨rfl, rfl⟩
          go_wp2_with fail
          refine hscale.out.mono ?_
          rintro e w4 ⟨v4, us4, rfl, hO4, hW4, hv4, hl4, hB4⟩
          obtain ⟨a4, c4, hv4', hc4, _⟩ := ou_form hO4
          subst hv4'
          have HO4 := Lib.hid hO4
          have HB4 : Hid (Below (w.heap.size + 1) W1 w4) := Lib.hid (hBl.out.trans hB4)
          have HP4 : Hid (Pz s (p + m) us4) := Lib.hid (by
            refine ⟨hW4, ?_, by have := hP.out.len; omega, .inr ?_⟩
            · have hlen : t.data.toList.length = m := by
                rw [htake.out, List.length_take, List.length_drop]
                have : s.data.toList.length = s.size := by simp
                have := Hn.out; have := hrs.out; omega
              rw [List.take_add, ← htake.out, dv_append, hv4, hP.out.val, hlen]
              rcases hP.out.div with h0 | h0
              · rw [h0]; simp [dv]
              · have hm9 : m = 19 := by rw [Hn.out] at h0; have := hrs.out; omega
                rw [hm9]
            · rw [Hn.out]; have := hrs.out; omega)
          have Hr4 : Hid (r' = s.extract (p + m) s.size) := Lib.hid (by
            refine bytes_ext ?_
            rw [← hrr, hr.out, ext_list, ext_list, ext_list, List.drop_take, List.drop_drop, List.take_take]
            have := Hn.out; have := hrs.out
            congr 1
            omega)
          have hr's : r'.size = L - m := by rw [← hrr]; simp; omega
          clear hO4 hW4 hv4 hl4 hB4 hP hBl hO hscale hpart
          go_wp2_with fail
          go_roundw
          case rel => exact ⟨p + m, us4, r', by have := hrs.out; omega, rfl, Hr4, HO4, HP4, HB4⟩
          case measure => simp only [sOf]; omega
        · have hL0' : L = 0 := by omega
          subst hL0'
          have hpn : p = n := by have := hrs.out; omega
          obtain ⟨a4, c4, rfl, hc4, hur, hfar⟩ := ou_far hO.out
          have htrim := Lib.hid (trim_any a4 c4 us wr hur (by have := hP.out.len; omega) hc4)
          have HN : Hid (∀ w' x, Below wr.heap.size wr w' → IsN (w'.setCell ⟨w.heap.size, 0, none⟩ x) (.agg #[trimV a4 c4 (tlen us us.length)]) (dv s.data.toList)) := Lib.hid (fun w' x hb => by
            have h1 := isN_trim ((hur.below hb (Nat.le_refl _)).far (B := w.heap.size + 1) (b := w.heap.size) (i := 0) (by omega) hfar x) hP.out.wrd hc4 (by have := hP.out.len; omega)
            rw [hP.out.val, hpn, List.take_of_length_le (by have : s.data.toList.length = s.size := by simp
                                                            have := Hn.out; omega)] at h1
            exact h1)
          have hBw : Below w.heap.size w wr := HB.out.trans (hBl.out.mono (by omega))
          have hk3 : Blk wr w.heap.size 26 #[.slice none 0 0] := HK.out.below hBl.out (by omega)
          have hw3 : w.heap.size < wr.heap.size := hk3.lt
          have HK3 := Lib.hid hk3
          have HBw := Lib.hid hBw
          clear hO hP hBl hur hk3 hBw hfar
          go_wp2_with fail
          refine htrim.out.mono ?_
          rintro e w5 ⟨rfl, hb5⟩
          have hk5 : Blk w5 w.heap.size 26 #[.slice none 0 0] := HK3.out.below hb5 hw3
          have hk50 := hk5.cell 0; have hk5f := hk5.frozen 0
          simp only [List.getElem?_toArray, List.getElem?_cons_zero] at hk50
          obtain ⟨tv, htv⟩ : ∃ tv, trimV a4 c4 (tlen us us.length) = tv := ⟨_, rfl⟩
          have htvs : ∃ x y z, tv = .slice x y z := by
            rw [← htv]; unfold trimV; split
            · exact ⟨_, _, _, rfl⟩
            · exact ⟨_, _, _, rfl⟩
          obtain ⟨tx, ty, tz, rfl⟩ := htvs
          have HN5 := Lib.hid (fun x => HN.out w5 x hb5)
          rw [htv] at HN5 ⊢
          have HB5 := Lib.hid (HBw.out.trans (hb5.mono (by omega)))
          have hsz5 : w.heap.size < w5.heap.size := hk5.lt
          have HK5 := Lib.hid hk5
          clear hb5 hk5 htv HN htrim
          go_wp2_with fail
          refine bodyPost_ret (res_nat2 rfl _ _ w.heap.size (.slice tx ty tz) (.int .i64 0) rfl rfl (HK5.out.set_ 0 _)) rfl ?_
          exact ⟨.inl ⟨HWF.out, by rw [Hn.out]; omega, _, rfl, HN5.out _⟩, HB5.out.setCell (p := ⟨w.heap.size, 0, none⟩) (Nat.le_refl _) _⟩
  · have hform : Hid (Calls Tryz.prog 114 #[.string s] W1 fun e w' => e = .returned (.bool false) ∧ W1 = w') := Lib.hid (HForm.out.mono fun e w' h => by
      rcases h.1 with ⟨hn, _⟩ | ⟨_, he⟩
      · exact absurd hn hwf
      · exact ⟨he, h.2⟩)
    have HF : Hid (∀ w', Below w.heap.size w w' → ParseIs s w (.returned (.tuple #[.agg #[.slice none 0 0], .int .i64 3])) w') := Lib.hid (fun w' hb => ⟨.inr (.inl ⟨hwf, rfl⟩), hb⟩)
    clear hwf HForm
    go_enter Tryz.func91, Tryz.ntmps91
    go_wp2_with fail
    refine hform.out.mono ?_
    rintro e w2 ⟨rfl, rfl⟩
    go_wp2_with fail
    refine bodyPost_ret (res_nat2 rfl _ _ w.heap.size (.slice none 0 0) (.int .i64 3) rfl rfl (HK.out.set_ 0 _)) rfl ?_
    exact HF.out _ (HB.out.setCell (p := ⟨w.heap.size, 0, none⟩) (Nat.le_refl _) _)
end Go.Proofs.YtllmacokhjmdgaaGreatDoor
