/-
  Law 1: what Parse tells lies in new memory.
  Law 1: two lists of numbers, the program's and the document's, each in a row of its own.
  Law 1: texts read as numbers, the program's and the document's; are two alike?
  Law 1: one text read as a number, both ways; are the program's number and the document's alike?
-/
import Derived.Test.YtikbhcndgmanmaaDoorNParse
import Derived.Test.YtikbhcndgmanmaaDoorRefB
import Derived.Test.YtikbhcndgmanmaaDoorNNines
import Derived.Test.YtikbhcndgmanmaaDoorNAlive
namespace Go.Proofs.YtikbhcndgmanmaaDoor
open Go.RowKit
set_option linter.unusedVariables false
/-- A number that lies at B or behind. -/
def Fre (B : Nat) (v : Value) : Prop := ∀ ad n c, v = .agg #[.slice (some ad) n c] → B ≤ ad.block
theorem fre_trim {a : Option Addr} {c m : Nat} {us : List Nat} {B B' : Nat} (hf : us = [] ∨ ∃ g, a = some ⟨g, 0, none⟩ ∧ B' ≤ g) (hB : B ≤ B') (hm : m ≤ us.length) : Fre B (.agg #[trimV a c m]) := by
  intro ad n k e
  unfold trimV at e
  split at e
  · cases e
  · rename_i h0
    rcases hf with h | ⟨g, h, hg⟩
    · rw [h] at hm; simp at hm; exact absurd hm h0
    · subst h
      cases e
      exact Nat.le_trans hB hg
def ParseFs (s : ByteArray) (w : World) (e : Ending) (w' : World) : Prop :=
  ((WF s ∧ s.size ≤ 1200 ∧ ∃ v, e = .returned (.tuple #[v, .int .i64 0]) ∧ IsN w' v (dv s.data.toList) ∧ Fre w.heap.size v) ∨
   (¬ WF s ∧ e = .returned (.tuple #[.agg #[.slice none 0 0], .int .i64 3])) ∨
   (WF s ∧ 1200 < s.size ∧ e = .returned (.tuple #[.agg #[.slice none 0 0], .int .i64 2]))) ∧ Below w.heap.size w w'
set_option maxRecDepth 100000 in
set_option maxHeartbeats 2000000 in
theorem parse_fre (s : ByteArray) (w : World) (hs : s.size ≤ maxLen) :
    Calls Tryd.prog 36 #[.string s] w (ParseFs s w) := by
  obtain ⟨W1, hW1⟩ : ∃ W1, w.alloc (.cells #[.slice none 0 0] 30) = W1 := ⟨_, rfl⟩
  have hk : Blk W1 w.heap.size 30 #[.slice none 0 0] := by rw [← hW1]; exact Blk.new w _ _
  have HB : Hid (Below w.heap.size w W1) := Lib.hid (by rw [← hW1]; exact (Below.refl _ _).alloc (Nat.le_refl _) _)
  have hsz1 : W1.heap.size = w.heap.size + 1 := by rw [← hW1]; simp
  have hk0 := hk.cell 0; have hkf := hk.frozen 0
  simp only [List.getElem?_toArray, List.getElem?_cons_zero] at hk0
  have HK := Lib.hid hk
  have HForm := Lib.hid (form_any s W1 hs)
  clear hk
  unfold maxLen at hs
  by_cases hwf : WF s
  · have hform : Hid (Calls Tryd.prog 56 #[.string s] W1 fun e w' => e = .returned (.bool true) ∧ W1 = w') := Lib.hid (HForm.out.mono fun e w' h => by
      rcases h.1 with ⟨_, he⟩ | ⟨hn, _⟩
      · exact ⟨he, h.2⟩
      · exact absurd hwf hn)
    by_cases hbig : 1200 < s.size
    · have hbi : (1200 : Int) < (s.size : Int) := by omega
      have HF : Hid (∀ w', Below w.heap.size w w' → ParseFs s w (.returned (.tuple #[.agg #[.slice none 0 0], .int .i64 2])) w') := Lib.hid (fun w' hb => ⟨.inr (.inr ⟨hwf, hbig, rfl⟩), hb⟩)
      clear hwf HForm
      go_enter Tryd.func36, Tryd.ntmps36
      go_wp2_with fail
      refine hform.out.mono ?_
      rintro e w2 ⟨rfl, rfl⟩
      go_wp2_with fail
      refine bodyPost_ret (res_nat2 rfl _ _ w.heap.size (.slice none 0 0) (.int .i64 2) rfl rfl (HK.out.set_ 0 _)) rfl ?_
      exact HF.out _ (HB.out.setCell (p := ⟨w.heap.size, 0, none⟩) (Nat.le_refl _) _)
    · have hbi : ¬ (1200 : Int) < (s.size : Int) := by omega
      obtain ⟨n, hn⟩ : ∃ n, s.size = n := ⟨_, rfl⟩
      have Hn := Lib.hid hn
      have HWF := Lib.hid hwf
      rw [hn] at hbi
      have hn12 : n ≤ 1200 := by omega
      obtain ⟨i0, hi, hz0, hz1, hz2⟩ := info_parts Tryd.infoU
      obtain ⟨W2, hmk, hom, hgm⟩ := run_make_own (P := Tryd.prog) W1 (w.heap.size + 1) 28 44 i0 (.int .u64 0) 1 Tryd.underlying28 hi hz0 hz1 .i64 .i64 (n / 19 + 1) (by rw [hz2]; omega) (by unfold maxLen; omega) (by omega)
      have ecap : ((n / 19 + 1 : Nat) : Int) = (n : Int) / 19 + 1 := by omega
      rw [ecap] at hmk
      rw [hsz1] at hom
      have HO2 : Hid (OU (w.heap.size + 1) W2 (.slice (some ⟨w.heap.size + 1, 0, none⟩) 0 (n / 19 + 1)) []) := Lib.hid hom
      have HB2 : Hid (Below (w.heap.size + 1) W1 W2) := Lib.hid ((Below.refl _ W1).grown hgm (by omega) (fun k hk => by cases hk))
      have HP0 : Hid (Pz s 0 []) := Lib.hid ⟨fun u hu => by simp at hu, by simp [wv, dv], by simp, .inl rfl⟩
      have hex0 : s.extract 0 s.size = s := ByteArray.extract_zero_size
      clear HForm hs hom hgm hi hz0 hz1 hz2 hwf
      go_enter Tryd.func36, Tryd.ntmps36
      go_wp2_with fail
      refine hform.out.mono ?_
      rintro e w2 ⟨rfl, rfl⟩
      go_wp2_with fail
      clear hmk
      go_loopw [0, 4] (fun sv vv wr => ∃ (p : Nat) (us : List Nat) (r : ByteArray), p ≤ n ∧ sv = .string r ∧ Hid (r = s.extract p s.size) ∧ Hid (OU (w.heap.size + 1) wr vv us) ∧ Hid (Pz s p us) ∧ Hid (Below (w.heap.size + 1) W1 wr)) (fun sv _ _ => sOf sv)
      case atStart => exact ⟨0, [], s, by omega, rfl, Lib.hid hex0.symm, HO2, HP0, HB2⟩
      case round =>
        obtain ⟨p, us, r, hp, rfl, hr, hO, hP, hBl⟩ := hrel
        clear HO2 HP0 HB2 hex0
        obtain ⟨L, hL⟩ : ∃ L, r.size = L := ⟨_, rfl⟩
        have hrs : Hid (L = n - p) := Lib.hid (by rw [← hL, hr.out]; have := Hn.out; simp; omega)
        have hLn : L ≤ n := by have := hrs.out; omega
        by_cases hL0 : 0 < L
        · have hLi : (0 : Int) < (L : Int) := by omega
          obtain ⟨m, hm⟩ : ∃ m, (L - 1) % 19 + 1 = m := ⟨_, rfl⟩
          have hm19 : m ≤ 19 := by omega
          have hmL : m ≤ L := by omega
          have hm1 : 1 ≤ m := by omega
          have eM : ((L : Int) - 1) % 19 + 1 = (m : Int) := by omega
          have hmi : (m : Int) ≤ (L : Int) := by omega
          have hmi0 : (0 : Int) ≤ (m : Int) := by omega
          have htake : Hid ((r.extract 0 m).data.toList = (s.data.toList.drop p).take m) := Lib.hid (by
            rw [hr.out, ext_list, ext_list, List.drop_zero, List.take_take, Nat.sub_zero]
            congr 1
            have := Hn.out; have := hrs.out; omega)
          obtain ⟨t, htt⟩ : ∃ t, r.extract 0 m = t := ⟨_, rfl⟩
          obtain ⟨r', hrr⟩ : ∃ r', r.extract m L = r' := ⟨_, rfl⟩
          rw [htt] at htake
          have hpart : Hid (∀ wx, Calls Tryd.prog 58 #[.string t] wx fun e w' => e = .returned (.int .u64 (dv t.data.toList : Nat)) ∧ wx = w') := Lib.hid (fun wx => part_any t wx (by rw [← htt]; simp; omega) (fun b hb => HWF.out.dig b (by rw [htake.out] at hb; exact List.mem_of_mem_drop (List.mem_of_mem_take hb))))
          obtain ⟨T, hT⟩ : ∃ T : Int, ((dv t.data.toList : Nat) : Int) = T := ⟨_, rfl⟩
          rw [hT] at hpart
          have hscale : Hid (Calls Tryd.prog 57 #[u4, .int .u64 10000000000000000000, .int .u64 T] wr (ScaleIs us 10000000000000000000 (dv t.data.toList) (w.heap.size + 1) wr)) := Lib.hid (by
            rw [← hT]
            have hdv : dv t.data.toList < 10 ^ t.data.toList.length := dv_lt _ _ rfl (fun b hb => HWF.out.dig b (by rw [htake.out] at hb; exact List.mem_of_mem_drop (List.mem_of_mem_take hb)))
            have h19 : 10 ^ t.data.toList.length ≤ 10 ^ 19 := Nat.pow_le_pow_right (by decide) (by rw [htake.out, List.length_take]; omega)
            have e19 : (10 : Nat) ^ 19 = 10000000000000000000 := by decide
            exact scale_any (w.heap.size + 1) u4 us 10000000000000000000 _ wr hO.out (by have := hBl.out.size; omega) hP.out.wrd (by omega) (by omega) (by have := hP.out.len; omega))
          go_wp2_with fail
          refine (hpart.out _).mono ?_
          rintro e w3 ⟨rfl, rfl⟩
          go_wp2_with fail
          refine hscale.out.mono ?_
          rintro e w4 ⟨v4, us4, rfl, hO4, hW4, hv4, hl4, hB4⟩
          obtain ⟨a4, c4, hv4', hc4, _⟩ := ou_form hO4
          subst hv4'
          have HO4 := Lib.hid hO4
          have HB4 : Hid (Below (w.heap.size + 1) W1 w4) := Lib.hid (hBl.out.trans hB4)
          have HP4 : Hid (Pz s (p + m) us4) := Lib.hid (by
            refine ⟨hW4, ?_, by have := hP.out.len; omega, .inr ?_⟩
            · have hlen : t.data.toList.length = m := by
                rw [htake.out, List.length_take, List.length_drop]
                have : s.data.toList.length = s.size := by simp
                have := Hn.out; have := hrs.out; omega
              rw [List.take_add, ← htake.out, dv_append, hv4, hP.out.val, hlen]
              rcases hP.out.div with h0 | h0
              · rw [h0]; simp [dv]
              · have hm9 : m = 19 := by rw [Hn.out] at h0; have := hrs.out; omega
                rw [hm9]
            · rw [Hn.out]; have := hrs.out; omega)
          have Hr4 : Hid (r' = s.extract (p + m) s.size) := Lib.hid (by
            refine bytes_ext ?_
            rw [← hrr, hr.out, ext_list, ext_list, ext_list, List.drop_take, List.drop_drop, List.take_take]
            have := Hn.out; have := hrs.out
            congr 1
            omega)
          have hr's : r'.size = L - m := by rw [← hrr]; simp; omega
          clear hO4 hW4 hv4 hl4 hB4 hP hBl hO hscale hpart
          go_wp2_with fail
          go_roundw
          case rel => exact ⟨p + m, us4, r', by have := hrs.out; omega, rfl, Hr4, HO4, HP4, HB4⟩
          case measure => simp only [sOf]; omega
        · have hL0' : L = 0 := by omega
          subst hL0'
          have hpn : p = n := by have := hrs.out; omega
          obtain ⟨a4, c4, rfl, hc4, hur, hfar⟩ := ou_far hO.out
          have htrim := Lib.hid (trim_any a4 c4 us wr hur (by have := hP.out.len; omega) hc4)
          have HN : Hid (∀ w' x, Below wr.heap.size wr w' → IsN (w'.setCell ⟨w.heap.size, 0, none⟩ x) (.agg #[trimV a4 c4 (tlen us us.length)]) (dv s.data.toList)) := Lib.hid (fun w' x hb => by
            have h1 := isN_trim ((hur.below hb (Nat.le_refl _)).far (B := w.heap.size + 1) (b := w.heap.size) (i := 0) (by omega) hfar x) hP.out.wrd hc4 (by have := hP.out.len; omega)
            rw [hP.out.val, hpn, List.take_of_length_le (by have : s.data.toList.length = s.size := by simp
                                                            have := Hn.out; omega)] at h1
            exact h1)
          have hBw : Below w.heap.size w wr := HB.out.trans (hBl.out.mono (by omega))
          have hk3 : Blk wr w.heap.size 30 #[.slice none 0 0] := HK.out.below hBl.out (by omega)
          have hw3 : w.heap.size < wr.heap.size := hk3.lt
          have HK3 := Lib.hid hk3
          have HBw := Lib.hid hBw
          have hfr := fre_trim (c := c4) (m := tlen us us.length) (B := w.heap.size) hfar (by omega) (tlen_le us us.length)
          clear hO hP hBl hur hk3 hBw hfar
          go_wp2_with fail
          refine htrim.out.mono ?_
          rintro e w5 ⟨rfl, hb5⟩
          have hk5 : Blk w5 w.heap.size 30 #[.slice none 0 0] := HK3.out.below hb5 hw3
          have hk50 := hk5.cell 0; have hk5f := hk5.frozen 0
          simp only [List.getElem?_toArray, List.getElem?_cons_zero] at hk50
          obtain ⟨tv, htv⟩ : ∃ tv, trimV a4 c4 (tlen us us.length) = tv := ⟨_, rfl⟩
          have htvs : ∃ x y z, tv = .slice x y z := by
            rw [← htv]; unfold trimV; split
            · exact ⟨_, _, _, rfl⟩
            · exact ⟨_, _, _, rfl⟩
          obtain ⟨tx, ty, tz, rfl⟩ := htvs
          have HN5 := Lib.hid (fun x => HN.out w5 x hb5)
          rw [htv] at HN5 hfr ⊢
          have Hfr := Lib.hid hfr
          clear hfr
          have HB5 := Lib.hid (HBw.out.trans (hb5.mono (by omega)))
          have hsz5 : w.heap.size < w5.heap.size := hk5.lt
          have HK5 := Lib.hid hk5
          clear hb5 hk5 htv HN htrim
          go_wp2_with fail
          refine bodyPost_ret (res_nat2 rfl _ _ w.heap.size (.slice tx ty tz) (.int .i64 0) rfl rfl (HK5.out.set_ 0 _)) rfl ?_
          exact ⟨.inl ⟨HWF.out, by rw [Hn.out]; omega, _, rfl, HN5.out _, Hfr.out⟩, HB5.out.setCell (p := ⟨w.heap.size, 0, none⟩) (Nat.le_refl _) _⟩
  · have hform : Hid (Calls Tryd.prog 56 #[.string s] W1 fun e w' => e = .returned (.bool false) ∧ W1 = w') := Lib.hid (HForm.out.mono fun e w' h => by
      rcases h.1 with ⟨hn, _⟩ | ⟨_, he⟩
      · exact absurd hn hwf
      · exact ⟨he, h.2⟩)
    have HF : Hid (∀ w', Below w.heap.size w w' → ParseFs s w (.returned (.tuple #[.agg #[.slice none 0 0], .int .i64 3])) w') := Lib.hid (fun w' hb => ⟨.inr (.inl ⟨hwf, rfl⟩), hb⟩)
    clear hwf HForm
    go_enter Tryd.func36, Tryd.ntmps36
    go_wp2_with fail
    refine hform.out.mono ?_
    rintro e w2 ⟨rfl, rfl⟩
    go_wp2_with fail
    refine bodyPost_ret (res_nat2 rfl _ _ w.heap.size (.slice none 0 0) (.int .i64 3) rfl rfl (HK.out.set_ 0 _)) rfl ?_
    exact HF.out _ (HB.out.setCell (p := ⟨w.heap.size, 0, none⟩) (Nat.le_refl _) _)
end Go.Proofs.YtikbhcndgmanmaaDoor
namespace Go.Proofs.YtikbhcndgmanmaaDoor
open Go.RowKit
set_option linter.unusedVariables false
/-- The slice u, if it has anything, lies in another block than v. -/
def Off (u v : Value) : Prop := ∀ ad n c, u = .slice (some ad) (n + 1) c → v.ownBlock ≠ some ad.block
theorem isN_lt {W : World} {ad : Addr} {n c N : Nat} (h : IsN W (.agg #[.slice (some ad) (n + 1) c]) N) : ad.block < W.heap.size := by
  obtain ⟨a, c', us, hv, _, hu, _⟩ := h
  injection hv with hv
  simp only [Array.mk.injEq, List.cons.injEq, Value.slice.injEq, and_true] at hv
  obtain ⟨rfl, h2, rfl⟩ := hv
  obtain ⟨ad', he, hlt, _⟩ := hu 0 (by omega)
  cases he
  exact hlt
theorem rn_lt {W : World} {ad : Addr} {n c N : Nat} (h : RN W (.slice (some ad) (n + 1) c) N) : ad.block < W.heap.size := by
  obtain ⟨ds, ⟨a, c', hv, _, hu, _⟩, _⟩ := h
  injection hv with h1 h2 h3
  subst h1
  obtain ⟨ad', he, hlt, _⟩ := hu 0 (by omega)
  cases he
  exact hlt
theorem isN_grown {W W' : World} {u : Value} {N : Nat} {v : Value} (h : IsN W (.agg #[u]) N) (hg : W.grownBy W' v.ownBlock) (hf : Off u v) : IsN W' (.agg #[u]) N := by
  obtain ⟨a, c', us, hv, hc, hu, hrest⟩ := h
  refine ⟨a, c', us, hv, hc, fun i hi => ?_, hrest⟩
  obtain ⟨ad, rfl, hlt, hcl⟩ := hu i hi
  injection hv with hv
  simp only [Array.mk.injEq, List.cons.injEq, and_true] at hv
  have hne : some ad.block ≠ v.ownBlock := fun e => hf ad (us.length - 1) c' (by rw [hv, show us.length - 1 + 1 = us.length from by omega]) e.symm
  refine ⟨ad, rfl, Nat.lt_of_lt_of_le hlt hg.size, ?_⟩
  have e : W'.heap[(ad.add i).block]? = W.heap[(ad.add i).block]? := by rw [add_block]; exact hg.block _ hlt hne
  exact (World.cell?_of_block e).trans hcl
theorem rn_grown {W W' : World} {u : Value} {N : Nat} {v : Value} (h : RN W u N) (hg : W.grownBy W' v.ownBlock) (hf : Off u v) : RN W' u N := by
  obtain ⟨ds, ⟨a, c', hv, hc, hu, hz⟩, hrest⟩ := h
  refine ⟨ds, ⟨a, c', hv, hc, fun i hi => ?_, hz⟩, hrest⟩
  obtain ⟨ad, rfl, hlt, hcl⟩ := hu i hi
  have hne : some ad.block ≠ v.ownBlock := fun e => hf ad (ds.length - 1) c' (by rw [hv, show ds.length - 1 + 1 = ds.length from by omega]) e.symm
  refine ⟨ad, rfl, Nat.lt_of_lt_of_le hlt hg.size, ?_⟩
  have e : W'.heap[(ad.add i).block]? = W.heap[(ad.add i).block]? := by rw [add_block]; exact hg.block _ hlt hne
  exact (World.cell?_of_block e).trans hcl
theorem off_new {u v v' : Value} {g : Nat} (h : Off u v) (hlt : ∀ ad n c, u = .slice (some ad) (n + 1) c → ad.block < g) (hv : v'.ownBlock = v.ownBlock ∨ v'.ownBlock = some g) : Off u v' := fun ad n c e => by
  rcases hv with hv | hv
  · rw [hv]; exact h ad n c e
  · rw [hv]
    intro e2
    have := hlt ad n c e
    simp at e2
    omega
/-- Two rows of the call's own, and the numbers that they hold. -/
structure NS (w W : World) (va vb : Value) (xs ys : List Value) (ms ns : List Nat) : Prop where
  oa : W.ownsRow w.heap.size 30 1 va xs.length xs
  ob : W.ownsRow w.heap.size 32 1 vb ys.length ys
  ne : ∀ g, va.ownBlock = some g → vb.ownBlock ≠ some g
  la : xs.length = ms.length
  lb : ys.length = ns.length
  na : ∀ (i : Nat) (x : Value) (N : Nat), xs[i]? = some x → ms[i]? = some N → (∃ a n c, x = .slice a n c) ∧ IsN W (.agg #[x]) N ∧ Off x va ∧ Off x vb
  nb : ∀ (i : Nat) (y : Value) (N : Nat), ys[i]? = some y → ns[i]? = some N → (∃ a n c, y = .slice a n c) ∧ RN W y N ∧ Off y va ∧ Off y vb
  bel : Below w.heap.size w W
theorem NS.zero (w : World) : NS w w (.slice none 0 0) (.slice none 0 0) [] [] [] [] :=
  ⟨World.ownsRow_nil _ _ _ _, World.ownsRow_nil _ _ _ _, fun g e => (by cases e), rfl, rfl, fun i x N e => by simp at e, fun i x N e => by simp at e, Below.refl _ _⟩
theorem NS.below {w W W' : World} {va vb : Value} {xs ys : List Value} {ms ns : List Nat} (h : NS w W va vb xs ys ms ns) (hb : Below W.heap.size W W') : NS w W' va vb xs ys ms ns :=
  ⟨own_below h.oa hb, own_below h.ob hb, h.ne, h.la, h.lb, fun i x N e1 e2 => ⟨(h.na i x N e1 e2).1, (h.na i x N e1 e2).2.1.below hb (Nat.le_refl _), (h.na i x N e1 e2).2.2⟩,
    fun i x N e1 e2 => ⟨(h.nb i x N e1 e2).1, (h.nb i x N e1 e2).2.1.below hb (Nat.le_refl _), (h.nb i x N e1 e2).2.2⟩, h.bel.trans (hb.mono h.bel.size)⟩
theorem own_blk {W : World} {B : Nat} {e : TypeId} {v : Value} {n : Nat} {xs : List Value} (h : W.ownsRow B e 1 v n xs) {g : Nat} (hg : v.ownBlock = some g) : B ≤ g ∧ g < W.heap.size := by
  rcases h.2 with ⟨rfl, _⟩ | ⟨g', cap, cur, rfl, hb, hgg, _⟩
  · cases hg
  · simp only [Value.ownBlock, Option.some.injEq] at hg
    subst hg
    exact ⟨hb, (Array.getElem?_eq_some_iff.1 hgg).1⟩
theorem fre_off {W : World} {x v : Value} {B e n' : Nat} {xs : List Value} (hf : Fre W.heap.size (.agg #[x])) (h : W.ownsRow B e 1 v n' xs) : Off x v := fun ad n c he h2 => by
  have h1 := hf ad (n + 1) c (by rw [he])
  have h3 := (own_blk h h2).2
  omega
theorem aft_off {W : World} {x v : Value} {B e n' : Nat} {xs : List Value} (hf : Aft W.heap.size x) (h : W.ownsRow B e 1 v n' xs) : Off x v := fun ad n c he h2 => by
  have h1 := hf ad (n + 1) c he
  have h3 := (own_blk h h2).2
  omega
theorem Tryd.infoNN : (Tryd.prog.info? 30).map (fun i => (i.zero, i.size, i.bytes)) = some (some (.agg #[.slice none 0 0]), 1, 24) := by kernel_rfl
theorem Tryd.infoRR : (Tryd.prog.info? 32).map (fun i => (i.zero, i.size, i.bytes)) = some (some (.slice none 0 0), 1, 24) := by kernel_rfl
theorem Tryd.underNN : Tryd.prog.underlying 23 = some (.slice 30) := by kernel_rfl
theorem Tryd.underRR : Tryd.prog.underlying 24 = some (.slice 32) := by kernel_rfl
theorem get_snoc {α : Type} {l : List α} {x y : α} {i : Nat} (h : (l ++ [x])[i]? = some y) : l[i]? = some y ∨ i = l.length ∧ y = x := by
  rcases Nat.lt_trichotomy i l.length with h1 | h1 | h1
  · rw [List.getElem?_append_left h1] at h; exact .inl h
  · subst h1
    rw [List.getElem?_append_right (Nat.le_refl _), Nat.sub_self] at h
    simp at h
    exact .inr ⟨rfl, h.symm⟩
  · rw [List.getElem?_append_right (by omega), List.getElem?_eq_none (by simp; omega)] at h
    cases h
/-- One of the program's numbers more; y waits. -/
theorem push_na {ops : Array Oper} {rest : List Oper} {o : Oper} {a : Act} {Q : Exit → Act → World → Prop} (hgd : o.guard = none) (s x : Operand)
    (ho : o.op = .call { callee := .builtin .append, args := #[s, x], argTypes := #[23, 23] }) {w W : World} {va vb : Value} {xs ys : List Value} {ms ns : List Nat} (u : Value) (N : Nat) (y : Value) (M : Nat)
    (hs : a.eval s = va) (h : NS w W va vb xs ys ms ns) (g : Nat) (hgW : W.heap.size = g) (hx : a.eval x = .slice (some ⟨g, 0, none⟩) 1 1) (hu : ∃ a n c, u = .slice a n c) (hN : IsN W (.agg #[u]) N) (hua : Off u va) (hub : Off u vb)
    (hM : RN W y M) (hya : Off y va) (hyb : Off y vb) (hlen : xs.length ≤ 1000000)
    (hk : ∀ va' W', NS w W' va' vb (xs ++ [u]) ys (ms ++ [N]) ns → RN W' y M → Off y va' → Off y vb → wpList Tryd.prog ops Q rest (a.put o.dst va') W') :
    wpList Tryd.prog ops Q (o :: rest) a (W.alloc (.cells #[u] 30)) := by
  obtain ⟨i0, hi, hz0, hz1, hz2⟩ := info_parts Tryd.infoNN
  subst hgW
  have hB := h.bel.size
  have hoa := World.ownsRow.alloc h.oa (.cells #[u] 30)
  have hl := below_lit W (.cells #[u] 30)
  refine wpList_append_own_at _ hgd s x 23 ho w.heap.size 30 i0 (.agg #[.slice none 0 0]) 1 24 Tryd.underNN hi hz0 hz1 hz2 rfl (by decide) va xs.length xs hs hoa ⟨W.heap.size, 0, none⟩ 1 1 [u] hx rfl (cell_one_new _ _ _) ?_ ?_ ?_ ?_ ?_
  · intro v hv; simp at hv; subst hv
    obtain ⟨p, q, r, rfl⟩ := hu
    rfl
  · unfold maxLen; omega
  · omega
  · simp; omega
  · intro va' W' hown' hg _ hat
    have hg2 : W.grownBy W' va.ownBlock := ((World.grownBy_alloc W _ va.ownBlock)).trans hg
    have hat2 : va'.ownBlock = va.ownBlock ∨ va'.ownBlock = some (W.heap.size + 1) := by simpa using hat
    have key : ∀ z K, IsN W (.agg #[z]) K → Off z va → Off z va' := fun z K h1 h2 => off_new h2 (fun ad n c e => by have := isN_lt (e ▸ h1); omega) hat2
    have key2 : ∀ z K, RN W z K → Off z va → Off z va' := fun z K h1 h2 => off_new h2 (fun ad n c e => by have := rn_lt (e ▸ h1); omega) hat2
    refine hk va' W' ⟨by rw [List.length_append]; exact hown', h.ob.kept hg2 ?_, ?_, by simp [h.la], h.lb, ?_, ?_, ?_⟩ (rn_grown hM hg2 hya) (key2 y M hM hya) hyb
    · cases hv : vb.ownBlock with
      | none => exact .inl rfl
      | some g => exact .inr (fun e => h.ne g e.symm hv)
    · intro g e1 e2
      rcases hat2 with h1 | h1
      · exact h.ne g (h1 ▸ e1) e2
      · have h3 := (own_blk h.ob e2).2
        rw [h1] at e1
        simp at e1
        omega
    · intro i z K e1 e2
      rcases get_snoc e1 with h1 | ⟨h1, rfl⟩
      · have hi2 : i < ms.length := by rw [← h.la]; exact (List.getElem?_eq_some_iff.1 h1).1
        rw [List.getElem?_append_left hi2] at e2
        obtain ⟨h2, h3, h4, h5⟩ := h.na i z K h1 e2
        exact ⟨h2, isN_grown h3 hg2 h4, key z K h3 h4, h5⟩
      · rw [h1, h.la, List.getElem?_append_right (Nat.le_refl _), Nat.sub_self] at e2
        simp at e2
        subst e2
        exact ⟨hu, isN_grown hN hg2 hua, key _ _ hN hua, hub⟩
    · intro i z K e1 e2
      obtain ⟨h2, h3, h4, h5⟩ := h.nb i z K e1 e2
      exact ⟨h2, rn_grown h3 hg2 h4, key2 z K h3 h4, h5⟩
    · exact (h.bel.trans (hl.mono hB)).grown hg (by simp; omega) (fun k hk2 => (own_blk h.oa hk2).1)
/-- One of the document's numbers more. -/
theorem push_nb {ops : Array Oper} {rest : List Oper} {o : Oper} {a : Act} {Q : Exit → Act → World → Prop} (hgd : o.guard = none) (s x : Operand)
    (ho : o.op = .call { callee := .builtin .append, args := #[s, x], argTypes := #[24, 24] }) {w W : World} {va vb : Value} {xs ys : List Value} {ms ns : List Nat} (u : Value) (N : Nat)
    (hs : a.eval s = vb) (h : NS w W va vb xs ys ms ns) (g : Nat) (hgW : W.heap.size = g) (hx : a.eval x = .slice (some ⟨g, 0, none⟩) 1 1) (hu : ∃ a n c, u = .slice a n c) (hN : RN W u N) (hua : Off u va) (hub : Off u vb) (hlen : ys.length ≤ 1000000)
    (hk : ∀ vb' W', NS w W' va vb' xs (ys ++ [u]) ms (ns ++ [N]) → wpList Tryd.prog ops Q rest (a.put o.dst vb') W') :
    wpList Tryd.prog ops Q (o :: rest) a (W.alloc (.cells #[u] 32)) := by
  obtain ⟨i0, hi, hz0, hz1, hz2⟩ := info_parts Tryd.infoRR
  subst hgW
  have hB := h.bel.size
  have hob := World.ownsRow.alloc h.ob (.cells #[u] 32)
  have hl := below_lit W (.cells #[u] 32)
  refine wpList_append_own_at _ hgd s x 24 ho w.heap.size 32 i0 (.slice none 0 0) 1 24 Tryd.underRR hi hz0 hz1 hz2 rfl (by decide) vb ys.length ys hs hob ⟨W.heap.size, 0, none⟩ 1 1 [u] hx rfl (cell_one_new _ _ _) ?_ ?_ ?_ ?_ ?_
  · intro v hv; simp at hv; subst hv
    obtain ⟨p, q, r, rfl⟩ := hu
    rfl
  · unfold maxLen; omega
  · omega
  · simp; omega
  · intro vb' W' hown' hg _ hat
    have hg2 : W.grownBy W' vb.ownBlock := ((World.grownBy_alloc W _ vb.ownBlock)).trans hg
    have hat2 : vb'.ownBlock = vb.ownBlock ∨ vb'.ownBlock = some (W.heap.size + 1) := by simpa using hat
    have key : ∀ z K, IsN W (.agg #[z]) K → Off z vb → Off z vb' := fun z K h1 h2 => off_new h2 (fun ad n c e => by have := isN_lt (e ▸ h1); omega) hat2
    have key2 : ∀ z K, RN W z K → Off z vb → Off z vb' := fun z K h1 h2 => off_new h2 (fun ad n c e => by have := rn_lt (e ▸ h1); omega) hat2
    refine hk vb' W' ⟨h.oa.kept hg2 ?_, by rw [List.length_append]; exact hown', ?_, h.la, by simp [h.lb], ?_, ?_, ?_⟩
    · cases hv : va.ownBlock with
      | none => exact .inl rfl
      | some g => exact .inr (fun e => h.ne g hv e.symm)
    · intro g e1 e2
      rcases hat2 with h1 | h1
      · exact h.ne g e1 (h1 ▸ e2)
      · have h3 := (own_blk h.oa e1).2
        rw [h1] at e2
        simp at e2
        omega
    · intro i z K e1 e2
      obtain ⟨h2, h3, h4, h5⟩ := h.na i z K e1 e2
      exact ⟨h2, isN_grown h3 hg2 h5, h4, key z K h3 h5⟩
    · intro i z K e1 e2
      rcases get_snoc e1 with h1 | ⟨h1, rfl⟩
      · have hi2 : i < ns.length := by rw [← h.lb]; exact (List.getElem?_eq_some_iff.1 h1).1
        rw [List.getElem?_append_left hi2] at e2
        obtain ⟨h2, h3, h4, h5⟩ := h.nb i z K h1 e2
        exact ⟨h2, rn_grown h3 hg2 h5, h4, key2 z K h3 h5⟩
      · rw [h1, h.lb, List.getElem?_append_right (Nat.le_refl _), Nat.sub_self] at e2
        simp at e2
        subst e2
        exact ⟨hu, rn_grown hN hg2 hub, hua, key2 _ _ hN hub⟩
    · exact (h.bel.trans (hl.mono hB)).grown hg (by simp; omega) (fun k hk2 => (own_blk h.ob hk2).1)
end Go.Proofs.YtikbhcndgmanmaaDoor
namespace Go.Proofs.YtikbhcndgmanmaaDoor
open Go.RowKit
set_option linter.unusedVariables false
/-- The number of a text; of any other text 0. -/
noncomputable def nn (s : ByteArray) : Nat := by
  classical exact if WF s then dv s.data.toList else 0
/-- The code that both tell. -/
noncomputable def cc (s : ByteArray) : Int := by
  classical exact if WF s then 0 else 3
theorem pow4 {x n k : Nat} (h : x < 10 ^ n) (hn : n ≤ 4 * k) : x < 10000 ^ k := by
  have h1 : 10 ^ n ≤ 10 ^ (4 * k) := Nat.pow_le_pow_right (by decide) hn
  rw [Nat.pow_mul] at h1
  exact Nat.lt_of_lt_of_le h h1
theorem nn_lt {s : ByteArray} {k : Nat} (hs : s.size ≤ 4 * k) : nn s < 10000 ^ k := by
  unfold nn
  split
  · rename_i h
    exact pow4 (dv_lt s.size s.data.toList (by simp) h.dig) hs
  · exact Nat.pow_pos (by decide)
theorem parse_both (s : ByteArray) (w : World) (hs : s.size ≤ 1200) : Calls Tryd.prog 36 #[.string s] w fun e w' => ∃ x y z, e = .returned (.tuple #[.agg #[.slice x y z], .int .i64 (cc s)]) ∧ IsN w' (.agg #[.slice x y z]) (nn s) ∧ Fre w.heap.size (.agg #[.slice x y z]) ∧ Below w.heap.size w w' :=
  (parse_fre s w (by unfold maxLen; omega)).mono fun e w' ⟨h, hb⟩ => by
    rcases h with ⟨h1, _, v, rfl, h2, h3⟩ | ⟨h1, rfl⟩ | ⟨_, h1, _⟩
    · obtain ⟨x, y, z, rfl⟩ := isN_form h2
      refine ⟨x, y, z, by unfold cc; rw [if_pos h1], ?_, h3, hb⟩
      unfold nn; rw [if_pos h1]; exact h2
    · refine ⟨none, 0, 0, by unfold cc; rw [if_neg h1], ?_, fun ad n c e => (by cases e), hb⟩
      unfold nn; rw [if_neg h1]; exact isN_zero w'
    · omega
theorem rn_nil (w : World) : RN w (.slice none 0 0) 0 := ⟨[], rd_nil w, fun d h => by simp at h, trm_nil, rfl⟩
theorem rparse_both (s : ByteArray) (w : World) (hs : s.size ≤ 1200) : Calls Tryd.prog 38 #[.string s] w fun e w' => ∃ x y z, e = .returned (.tuple #[.slice x y z, .int .i64 (cc s)]) ∧ RN w' (.slice x y z) (nn s) ∧ Aft w.heap.size (.slice x y z) ∧ Below w.heap.size w w' :=
  (rparse_any s w hs).mono fun e w' ⟨h, hb⟩ => by
    rcases h with ⟨h1, v, rfl, h2, h3⟩ | ⟨h1, rfl⟩
    · obtain ⟨x, y, z, rfl, _, _⟩ := rn_form h2
      refine ⟨x, y, z, by unfold cc; rw [if_pos h1], ?_, h3, hb⟩
      unfold nn; rw [if_pos h1]; exact h2
    · refine ⟨none, 0, 0, by unfold cc; rw [if_neg h1], ?_, fun ad n c e => (by cases e), hb⟩
      unfold nn; rw [if_neg h1]; exact rn_nil w'
/-- The row at a holds the texts ss. -/
def TR (w : World) (a : Option Addr) (ss : List ByteArray) : Prop := ∀ i, i < ss.length → ∃ ad, a = some ad ∧ ad.block < w.heap.size ∧ w.cell? (ad.add i) = some (.string (ss.getD i ⟨#[]⟩))
set_option maxRecDepth 100000 in
set_option maxHeartbeats 4000000 in
theorem nats_any (ss : List ByteArray) (a : Option Addr) (c : Nat) (w : World) (hr : TR w a ss) (hs : ∀ s ∈ ss, s.size ≤ 1200) (hl : ss.length ≤ 1000) (htab : Tab w) :
    Calls Tryd.prog 7 #[.slice a ss.length c] w fun e w' => ∃ va vb xs ys, e = .returned (.tuple #[va, vb, .bool true]) ∧ NS w w' va vb xs ys (ss.map nn) (ss.map nn) := by
  have HR := Lib.hid hr; have HSz := Lib.hid hs; have HTab := Lib.hid htab
  obtain ⟨n, hn⟩ : ∃ n, ss.length = n := ⟨_, rfl⟩
  have Hn := Lib.hid hn
  rw [hn] at hl ⊢
  have H0 := Lib.hid (NS.zero w)
  clear hr hs htab hn
  go_enter Tryd.func7, Tryd.ntmps7
  go_wp2_with fail
  go_loopw [5, 6, 7] (fun va vb iv wr => ∃ (k : Nat) (xs ys : List Value), k ≤ n ∧ iv = .int .i64 (k : Int) ∧ Hid (NS w wr va vb xs ys ((ss.take k).map nn) ((ss.take k).map nn))) (fun _ _ iv _ => n - (intOf iv).toNat)
  case atStart => exact ⟨0, [], [], by omega, rfl, H0⟩
  case round =>
    clear H0
    obtain ⟨k, xs, ys, hk, rfl, hN⟩ := hrel
    by_cases hlt : k < n
    · obtain ⟨ad, rfl, hadl, hca⟩ := HR.out k (by rw [Hn.out]; exact hlt)
      have hks : k < ss.length := by rw [Hn.out]; exact hlt
      have hmem : ss.getD k ⟨#[]⟩ ∈ ss := by rw [List.getD_eq_getElem?_getD, List.getElem?_eq_getElem hks]; exact List.getElem_mem _
      have htk : ss.take (k + 1) = ss.take k ++ [ss.getD k ⟨#[]⟩] := by
        rw [List.take_add_one, List.getD_eq_getElem?_getD, List.getElem?_eq_getElem hks]; rfl
      have hsz := HSz.out _ hmem
      have hxl : xs.length ≤ 1000 := by have := hN.out.la; rw [List.length_map, List.length_take] at this; omega
      have hyl : ys.length ≤ 1000 := by have := hN.out.lb; rw [List.length_map, List.length_take] at this; omega
      generalize ss.getD k ⟨#[]⟩ = s at *
      have hca1 : wr.cell? (ad.add k) = some (.string s) := (hN.out.bel.cell (by rw [add_block]; exact hadl)).trans hca
      have HCa : Hid (∀ W, Below wr.heap.size wr W → W.cell? (ad.add k) = some (.string s)) := Lib.hid (fun W h => by
        have h1 := (hN.out.bel.trans (h.mono hN.out.bel.size)).cell (p := ad.add k) (by rw [add_block]; exact hadl)
        exact h1.trans hca)
      have HP := Lib.hid (parse_both s wr hsz)
      have HRP : Hid (∀ W, Calls Tryd.prog 38 #[.string s] W fun e w' => ∃ x y z, e = .returned (.tuple #[.slice x y z, .int .i64 (cc s)]) ∧ RN w' (.slice x y z) (nn s) ∧ Aft W.heap.size (.slice x y z) ∧ Below W.heap.size W w') := Lib.hid (fun W => rparse_both s W hsz)
      obtain ⟨C, hC⟩ : ∃ C, cc s = C := ⟨_, rfl⟩
      rw [hC] at HP HRP
      have hCC : (C != C) = false := by simp
      obtain ⟨T, hT⟩ : ∃ T : ByteArray, (⟨(Lib.decDigits (nn s)).toArray⟩ : ByteArray) = T := ⟨_, rfl⟩
      have HT := Lib.hid hT
      have HNl := Lib.hid (pow_up 300 9000 (nn_lt (s := s) (k := 300) (by omega)) (by decide))
      have Htk := Lib.hid htk
      obtain ⟨N, hNN⟩ : ∃ N, nn s = N := ⟨_, rfl⟩
      have HNN := Lib.hid hNN
      rw [hNN] at HP HRP HT HNl
      have ck0 : (0 : Int) ≤ (k : Int) := by omega
      have ckn : (k : Int) < (n : Int) := by omega
      clear hca hadl hmem htk hsz hC hT hNN hks
      go_wp2_with fail
      refine HP.out.mono ?_
      rintro e w2 ⟨x, y, z, rfl, hx, hf, hb2⟩
      obtain ⟨W3, hW3⟩ : ∃ W3, w2.alloc (.cells #[.slice x y z] 30) = W3 := ⟨_, rfl⟩
      have hb23 : Below w2.heap.size w2 W3 := by rw [← hW3]; exact below_lit _ _
      have hbox : Blk W3 w2.heap.size 30 #[.slice x y z] := by rw [← hW3]; exact Blk.new w2 _ _
      have hbr3 := hb2.trans (hb23.mono hb2.size)
      have hca3 := HCa.out W3 hbr3
      have HX3 := Lib.hid (hx.below hb23 (Nat.le_refl _))
      have HN3 := Lib.hid (hN.out.below hbr3)
      have HOxa := Lib.hid (fre_off hf hN.out.oa)
      have HOxb := Lib.hid (fre_off hf hN.out.ob)
      obtain ⟨bx, hbx⟩ : ∃ bx, w2.heap.size = bx := ⟨_, rfl⟩
      rw [hbx] at hbox
      have Hbox := Lib.hid hbox
      have HW3 := Lib.hid hW3
      have Hbx := Lib.hid hbx
      have hca3' : (w2.alloc (.cells #[.slice x y z] 30)).cell? (ad.add k) = some (.string s) := by rw [hW3]; exact hca3
      clear hx hf hb2 hb23 hbox hbr3 hca3 hW3 hbx HP hN hca1
      go_wp2_with fail
      rw [HW3.out, Hbx.out]
      refine (HRP.out W3).mono ?_
      rintro e w4 ⟨x4, y4, z4, rfl, hy, hf4, hb4⟩
      have HX4 := Lib.hid (HX3.out.below hb4 (Nat.le_refl _))
      have HN4 := Lib.hid (HN3.out.below hb4)
      have HOya := Lib.hid (aft_off hf4 HN3.out.oa)
      have HOyb := Lib.hid (aft_off hf4 HN3.out.ob)
      have HY4 := Lib.hid hy
      have Hbox4 := Lib.hid (Hbox.out.below hb4 Hbox.out.lt)
      have q4 : w4.cell? ⟨bx, 0, none⟩ = some (.slice x y z) := Hbox4.out.cell 0
      have HT4 := Lib.hid (text_any N _ w4 HX4.out (HTab.out.below HN4.out.bel (Nat.le_refl _)))
      clear hy hf4 hb4 HRP HX3 HN3 Hbox HCa hca3'
      go_wp2_with fail
      refine HT4.out.mono ?_
      rintro e w5 ⟨rfl, hb5⟩
      rw [HT.out]
      have HX5 := Lib.hid (HX4.out.below hb5 (Nat.le_refl _))
      have HN5 := Lib.hid (HN4.out.below hb5)
      have HY5 := Lib.hid (HY4.out.below hb5 (Nat.le_refl _))
      have Hbox5 := Lib.hid (Hbox4.out.below hb5 Hbox4.out.lt)
      have HT5 := Lib.hid (rtext_any N _ w5 HY5.out HNl.out)
      clear hb5 HT4 HX4 HN4 HY4 Hbox4 q4
      go_wp2_with fail
      refine HT5.out.mono ?_
      rintro e w6 ⟨rfl, hb6⟩
      rw [HT.out]
      have HX6 := Lib.hid (HX5.out.below hb6 (Nat.le_refl _))
      have HN6 := Lib.hid (HN5.out.below hb6)
      have HY6 := Lib.hid (HY5.out.below hb6 (Nat.le_refl _))
      have Hbox6 := Lib.hid (Hbox5.out.below hb6 Hbox5.out.lt)
      have q6 : w6.cell? ⟨bx, 0, none⟩ = some (.slice x y z) := Hbox6.out.cell 0
      clear hb6 HT5 HX5 HN5 HY5 Hbox5
      go_wp2_with (at_builtin; refine push_na rfl (.tmp 44) (.tmp 46) rfl (.slice x y z) N (.slice x4 y4 z4) N rfl HN6.out _ rfl rfl ⟨_, _, _, rfl⟩ HX6.out HOxa.out HOxb.out HY6.out HOya.out HOyb.out (by omega) ?_)
      intro va' W7 hN7 hy7 ha7 hb7
      have HN7 := Lib.hid hN7; have HY7 := Lib.hid hy7; have HA7 := Lib.hid ha7; have HB7 := Lib.hid hb7
      clear hN7 hy7 ha7 hb7 HX6 HN6 HY6 Hbox6 q6
      go_wp2_with (at_builtin; refine push_nb rfl (.tmp 48) (.tmp 50) rfl (.slice x4 y4 z4) N rfl HN7.out _ rfl rfl ⟨_, _, _, rfl⟩ HY7.out HA7.out HB7.out (by omega) ?_)
      intro vb' W8 hN8
      have HN8 : Hid (NS w W8 va' vb' (xs ++ [.slice x y z]) (ys ++ [.slice x4 y4 z4]) ((ss.take (k + 1)).map nn) ((ss.take (k + 1)).map nn)) := Lib.hid (by
        rw [Htk.out, List.map_append, List.map_cons, List.map_nil, HNN.out, List.map_take]
        exact hN8)
      clear hN8 HN7 HY7
      go_wp2_with fail
      go_roundw
      case rel => exact ⟨k + 1, _, _, by omega, by go_num, HN8⟩
      case measure => simp [intOf]; omega
    · obtain rfl : k = n := by omega
      have HF := Lib.hid hN.out
      rw [List.take_of_length_le (by rw [Hn.out]; exact Nat.le_refl _)] at HF
      have ckn : ¬ (k : Int) < (k : Int) := by omega
      clear hN
      go_wp2_with fail
      go_ret3
      exact ⟨_, _, rfl, xs, ys, HF.out⟩
end Go.Proofs.YtikbhcndgmanmaaDoor
namespace Go.Proofs.YtikbhcndgmanmaaDoor
open Go.RowKit
set_option linter.unusedVariables false
set_option maxRecDepth 100000 in
set_option maxHeartbeats 2000000 in
theorem same_num (N : Nat) (va vb : Value) (w : World) (ha : IsN w va N) (hb : RN w vb N) (hN : N < 10000 ^ 9000) (htab : Tab w) :
    Calls Tryd.prog 12 #[va, vb] w fun e w' => e = .returned (.bool true) ∧ Below w.heap.size w w' := by
  obtain ⟨a, n, c, rfl⟩ := isN_form ha
  obtain ⟨T, hT⟩ : ∃ T : ByteArray, (⟨(Lib.decDigits N).toArray⟩ : ByteArray) = T := ⟨_, rfl⟩
  have HT := Lib.hid hT
  obtain ⟨W1, hW1⟩ : ∃ W1, w.alloc (.cells #[.slice a n c] 30) = W1 := ⟨_, rfl⟩
  have hb1 : Below w.heap.size w W1 := by rw [← hW1]; exact below_lit _ _
  have q1 : W1.cell? ⟨w.heap.size, 0, none⟩ = some (.slice a n c) := by rw [← hW1]; exact (Blk.new w 30 #[.slice a n c]).cell 0
  have HT1 := Lib.hid (text_any N _ W1 (ha.below hb1 (Nat.le_refl _)) (htab.below hb1 (Nat.le_refl _)))
  have HB1 := Lib.hid hb1
  have HRb := Lib.hid hb
  have HNl := Lib.hid hN
  clear ha hb hT hb1 htab hN
  go_enter Tryd.func12, Tryd.ntmps12
  go_wp2_with fail
  refine HT1.out.mono ?_
  rintro e w2 ⟨rfl, hb2⟩
  rw [HT.out]
  have HB2 := Lib.hid (HB1.out.trans (hb2.mono HB1.out.size))
  have HT2 := Lib.hid (rtext_any N _ w2 (HRb.out.below HB2.out (Nat.le_refl _)) HNl.out)
  clear hb2 HT1
  go_wp2_with fail
  refine HT2.out.mono ?_
  rintro e w3 ⟨rfl, hb3⟩
  rw [HT.out]
  have HB3 := Lib.hid (HB2.out.trans (hb3.mono HB2.out.size))
  clear hb3 HT2
  go_wp2_with fail
  go_ret
  exact ⟨rfl, HB3.out⟩
/-- One number, as both have it, in rows at ga and gb. -/
structure One (w W : World) (ga gb : Nat) (x y : Value) (N : Nat) : Prop where
  ca : W.cell? ⟨ga, 0, none⟩ = some x
  cb : W.cell? ⟨gb, 0, none⟩ = some y
  na : IsN W (.agg #[x]) N
  nb : RN W y N
  bel : Below w.heap.size w W
theorem One.below {w W W' : World} {ga gb : Nat} {x y : Value} {N : Nat} (h : One w W ga gb x y N) (hb : Below W.heap.size W W') : One w W' ga gb x y N :=
  ⟨(hb.cell (p := ⟨ga, 0, none⟩) (World.block_lt_of_cell? W ⟨ga, 0, none⟩ h.ca)).trans h.ca, (hb.cell (p := ⟨gb, 0, none⟩) (World.block_lt_of_cell? W ⟨gb, 0, none⟩ h.cb)).trans h.cb,
    h.na.below hb (Nat.le_refl _), h.nb.below hb (Nat.le_refl _), h.bel.trans (hb.mono h.bel.size)⟩
theorem row_form {W : World} {B : Nat} {e : TypeId} {v : Value} {n : Nat} {xs : List Value} (h : W.ownsRow B e 1 v n xs) (hn : 0 < n) : ∃ g c, v = .slice (some ⟨g, 0, none⟩) n c ∧ n ≤ c ∧ ∀ i x, xs[i]? = some x → W.cell? ⟨g, i, none⟩ = some x := by
  rcases h.2 with ⟨_, h0⟩ | ⟨g, cap, cur, rfl, _, hg, hnc, _, hsz, htk⟩
  · omega
  · refine ⟨g, cap, rfl, hnc, fun i x hx => ?_⟩
    have hi : i < xs.length := (List.getElem?_eq_some_iff.1 hx).1
    have hl := h.1
    rw [← htk, List.getElem?_take, if_pos (by omega)] at hx
    rw [cell_of_row W g i cur e (0, 0) hg, ← Array.getElem?_toList]
    exact hx
theorem nats_one (s : ByteArray) (w : World) (hs : s.size ≤ 1200) (htab : Tab w) :
    Calls Tryd.prog 7 #[.slice (some ⟨w.heap.size, 0, none⟩) 1 1] (w.alloc (.cells #[.string s] 9)) fun e w' =>
      ∃ ga ca gb cb x y z x' y' z', e = .returned (.tuple #[.slice (some ⟨ga, 0, none⟩) 1 ca, .slice (some ⟨gb, 0, none⟩) 1 cb, .bool true]) ∧ One w w' ga gb (.slice x y z) (.slice x' y' z') (nn s) := by
  have hl := below_lit w (.cells #[.string s] 9)
  have htr : TR (w.alloc (.cells #[.string s] 9)) (some ⟨w.heap.size, 0, none⟩) [s] := fun i hi => by
    have h0 : i = 0 := by simp at hi; omega
    subst h0
    refine ⟨_, rfl, by simp, ?_⟩
    have e : (⟨w.heap.size, 0, none⟩ : Addr).add 0 = ⟨w.heap.size, 0, none⟩ := rfl
    rw [e, (Blk.new w 9 #[.string s]).cell 0]
    simp
  refine (nats_any [s] _ 1 _ htr (fun t ht => by simp at ht; subst ht; exact hs) (by simp) (htab.below hl (Nat.le_refl _))).mono fun e w' h => ?_
  obtain ⟨va, vb, xs, ys, rfl, hN⟩ := h
  have hla := hN.la; have hlb := hN.lb
  simp only [List.map_cons, List.map_nil, List.length_cons, List.length_nil] at hla hlb
  obtain ⟨u, rfl⟩ : ∃ u, xs = [u] := List.length_eq_one_iff.1 hla
  obtain ⟨v, rfl⟩ : ∃ v, ys = [v] := List.length_eq_one_iff.1 hlb
  obtain ⟨⟨x, y, z, rfl⟩, h2, _⟩ := hN.na 0 u (nn s) rfl rfl
  obtain ⟨⟨x', y', z', rfl⟩, k2, _⟩ := hN.nb 0 v (nn s) rfl rfl
  obtain ⟨ga, ca, rfl, _, hca⟩ := row_form hN.oa (by simp)
  obtain ⟨gb, cb, rfl, _, hcb⟩ := row_form hN.ob (by simp)
  exact ⟨ga, ca, gb, cb, x, y, z, x', y', z', rfl, hca 0 _ rfl, hcb 0 _ rfl, h2, k2, hl.trans (hN.bel.mono hl.size)⟩
end Go.Proofs.YtikbhcndgmanmaaDoor
