/-
 Law 3: how a literal is cut up (dec.cut), the walk.
-/
import Derived.Test.YtnhobagjpjcigaaGreatDoorDCut
namespace Go.Proofs.YtnhobagjpjcigaaGreatDoor
open Go.RowKit
set_option linter.unusedVariables false
theorem res_lit {fn : Func} {p u : Tmp} (h : fn.results = #[.cell p 78, .tmp u]) (tmps : Array Value) (w : World) (g : Nat) (a : Bool) (s1 : ByteArray) (k : Int) (c : Bool) (s2 : ByteArray) (x : Value) (hp : tmps.getD p undef = .pointer (some ⟨g, 0, none⟩)) (hu : tmps.getD u undef = x) (hg : Blk w g 78 #[.bool a, .string s1, .int .i64 k, .bool c, .string s2]) :
 (results fn tmps).run Tryz.prog w = .ok (.tuple #[.agg #[.bool a, .string s1, .int .i64 k, .bool c, .string s2], x]) w := by
 rw [results_cell_tmp h, hp, hu]
 have e : (loadVar 78 ⟨g, 0, none⟩).run Tryz.prog w = .ok (.agg #[.bool a, .string s1, .int .i64 k, .bool c, .string s2]) w := run_loadVar_row w g 78 78 #[.bool a, .string s1, .int .i64 k, .bool c, .string s2] (0, 0) _ hg Tryz.underlying78 (by kernel_rfl) (by kernel_rfl)
 simp [asAddr, e, Result.andThen]
/-- What cut tells. -/
def CutIs (s : ByteArray) (w : World) (e : Ending) (w' : World) : Prop := e = .returned (.tuple #[.agg #[.bool (lcut s).1.neg, .string (bz (lcut s).1.ds), .int .i64 ((lcut s).1.pl : Int), .bool (lcut s).1.low, .string (bz (lcut s).1.es)], .bool (lok (lcut s))]) ∧ Below w.heap.size w w'
theorem lrun_nil (i : Nat) (p : UInt8) (s : LS) : lrun i p s [] = (s, true) := by unfold lrun; rfl
set_option maxRecDepth 100000 in
set_option maxHeartbeats 8000000 in
theorem dcut_any (s : ByteArray) (w : World) (hs : s.size ≤ 400) : Calls Tryz.prog 48 #[.string s] w (CutIs s w) := by
 obtain ⟨W0, hW0⟩ : ∃ W0, (((w.alloc (.cells #[.bool false, .string ⟨#[]⟩, .int .i64 0, .bool false, .string ⟨#[]⟩] 78)).alloc (.cells #[.bool false, .string ⟨#[]⟩, .int .i64 0, .bool false, .string ⟨#[]⟩] 78)).alloc (.cells #[.pointer none, .slice none 0 0] 136)).alloc (.cells #[.pointer none, .slice none 0 0] 136) = W0 := ⟨_, rfl⟩
 obtain ⟨b2, hb2⟩ : ∃ b, w.heap.size = b := ⟨_, rfl⟩
 obtain ⟨b4, hb4⟩ : ∃ b, b2 + 1 = b := ⟨_, rfl⟩
 obtain ⟨b5, hb5⟩ : ∃ b, b4 + 1 = b := ⟨_, rfl⟩
 obtain ⟨b6, hb6⟩ : ∃ b, b5 + 1 = b := ⟨_, rfl⟩
 obtain ⟨B, hB⟩ : ∃ b, b6 + 1 = b := ⟨_, rfl⟩
 have HLo : Hid (Lo w B b2 b4 b5 b6) := Lib.hid ⟨by omega, by omega, by omega, by omega, by omega⟩
 have HL0 : Hid (Lm w B b2 b4 b5 b6 lzero W0) := Lib.hid (by
  have k1 := Blk.new w 78 #[.bool false, .string ⟨#[]⟩, .int .i64 0, .bool false, .string ⟨#[]⟩]
  have k2 := Blk.new (w.alloc (.cells #[.bool false, .string ⟨#[]⟩, .int .i64 0, .bool false, .string ⟨#[]⟩] 78)) 78 #[.bool false, .string ⟨#[]⟩, .int .i64 0, .bool false, .string ⟨#[]⟩]
  have k3 := Blk.new ((w.alloc (.cells #[.bool false, .string ⟨#[]⟩, .int .i64 0, .bool false, .string ⟨#[]⟩] 78)).alloc (.cells #[.bool false, .string ⟨#[]⟩, .int .i64 0, .bool false, .string ⟨#[]⟩] 78)) 136 #[.pointer none, .slice none 0 0]
  have k4 := Blk.new (((w.alloc (.cells #[.bool false, .string ⟨#[]⟩, .int .i64 0, .bool false, .string ⟨#[]⟩] 78)).alloc (.cells #[.bool false, .string ⟨#[]⟩, .int .i64 0, .bool false, .string ⟨#[]⟩] 78)).alloc (.cells #[.pointer none, .slice none 0 0] 136)) 136 #[.pointer none, .slice none 0 0]
  have q1 := ((k1.alloc (.cells #[.bool false, .string ⟨#[]⟩, .int .i64 0, .bool false, .string ⟨#[]⟩] 78)).alloc (.cells #[.pointer none, .slice none 0 0] 136)).alloc (.cells #[.pointer none, .slice none 0 0] 136)
  have q2 := (k2.alloc (.cells #[.pointer none, .slice none 0 0] 136)).alloc (.cells #[.pointer none, .slice none 0 0] 136)
  have q3 := k3.alloc (.cells #[.pointer none, .slice none 0 0] 136)
  rw [hW0] at q1 q2 q3 k4
  simp only [World.size_alloc, hb2, hb4, hb5, hb6] at q1 q2 q3 k4
  have hbel : Below w.heap.size w W0 := by
   rw [← hW0]
   exact ((((Below.refl _ w).alloc (Nat.le_refl _) _).alloc (by simp) _).alloc (by simp; omega) _).alloc (by simp; omega) _
  have hsz : W0.heap.size = B := by rw [← hW0]; simp; omega
  exact ⟨hbel, q1, q2, B, _, _, Nat.le_refl _, by omega, .inl rfl, q3, World.ownsRowF_nil _ _ _ _, fun _ => rfl, fun g hg => by simp [Value.ownBlock] at hg, Bdx.new _ k4⟩)
 have HL : Hid (lrun 0 0 lzero s.data.toList = lcut s) := Lib.hid rfl
 have Hn : Hid (s.data.toList.length = s.size) := Lib.hid (by simp)
 have HF : Hid (∀ w' r, lcut s = r → Below w.heap.size w w' → CutIs s w (.returned (.tuple #[.agg #[.bool r.1.neg, .string (bz r.1.ds), .int .i64 (r.1.pl : Int), .bool r.1.low, .string (bz r.1.es)], .bool (lok r)])) w') := Lib.hid (fun w' r hr hb => by subst hr; exact ⟨rfl, hb⟩)
 obtain ⟨R, hR⟩ : ∃ R, lcut s = R := ⟨_, rfl⟩
 rw [hR] at HL
 have HR := Lib.hid hR
 obtain ⟨n, hn⟩ : ∃ n, s.size = n := ⟨_, rfl⟩
 rw [hn] at hs Hn
 have HW0 := Lib.hid hW0; have Hb2 := Lib.hid hb2; have Hb4 := Lib.hid hb4; have Hb5 := Lib.hid hb5; have Hb6 := Lib.hid hb6; have HB := Lib.hid hB; have Hsn := Lib.hid hn
 clear hR hW0 hb2 hb4 hb5 hb6 hB
 go_enter Tryz.func48, Tryz.ntmps48
 go_wp2_with fail
 go_step3
 go_wp2_with fail
 simp only [HW0.out, Hb2.out, Hb4.out, Hb5.out, Hb6.out]
 refine wp_label ?_
 go_upto_block 0 with fail
 go_cut [7, 8] (fun p f wc => ∃ st : LS, p = .int .i64 (st.part : Int) ∧ f = .bool R.2 ∧ Hid (R.1 = st) ∧ Hid (Lm w B b2 b4 b5 b6 st wc))
 case first =>
  go_wp2_with fail
  go_loopw [7, 8, 13] (fun p f i wr => ∃ (k : Nat) (st : LS) (prev : UInt8), k ≤ n ∧ i = .int .i64 (k : Int) ∧ f = .bool true ∧ p = .int .i64 (st.part : Int) ∧ Hid (LK k st) ∧ Hid (lrun k prev st (s.data.toList.drop k) = R) ∧ Hid (∀ j, k = j + 1 → s.data.toList[j]? = some prev) ∧ Hid (Lm w B b2 b4 b5 b6 st wr)) (fun _ _ i _ => n - (intOf i).toNat)
  case atStart => exact ⟨0, lzero, 0, by omega, rfl, rfl, rfl, Lib.hid lk_zero, HL, Lib.hid (fun j h => by omega), HL0⟩
  case round =>
   clear HL HL0
   obtain ⟨k, st, prev, hk, rfl, rfl, rfl, hK, hrun, hprev, hM⟩ := hrel
   by_cases hlt : k < n
   · have hks : k < s.size := by rw [Hsn.out]; exact hlt
     have hat := toList_at s k hks
     have hdr : s.data.toList.drop k = s[k] :: s.data.toList.drop (k + 1) := by
      rw [List.drop_eq_getElem_cons (by rw [Hn.out]; exact hlt)]
      congr 1
     obtain ⟨b, hb⟩ : ∃ b, s[k] = b := ⟨_, rfl⟩
     rw [hb] at hat hdr
     obtain ⟨C, hC⟩ : ∃ C : Int, (b.toNat : Int) = C := ⟨_, rfl⟩
     have hC0 : 0 ≤ C := by omega
     have hC2 : C < 256 := by have := b.toNat_lt; omega
     have hi0 : (0 : Int) ≤ (k : Int) := by omega
     have hi1 : (k : Int) < (n : Int) := by omega
     have HC := Lib.hid hC; have Hat := Lib.hid hat
     have hsn := Hsn.out
     have Hgo : Hid (∀ st', lstep k prev st b = some st' → Hid (lrun (k + 1) b st' (s.data.toList.drop (k + 1)) = R) ∧ Hid (LK (k + 1) st')) := Lib.hid (fun st' h => by
      have h1 := hrun.out
      rw [hdr, lrun_go h] at h1
      exact ⟨Lib.hid h1, Lib.hid (lstep_k hK.out h)⟩)
     have Hstop : Hid (lstep k prev st b = none → R = (st, false)) := Lib.hid (fun h => by
      have h1 := hrun.out
      rw [hdr, lrun_stop h] at h1
      exact h1.symm)
     have Hnx : Hid (∀ j, k + 1 = j + 1 → s.data.toList[j]? = some b) := Lib.hid (fun j h => by
      obtain rfl : k = j := by omega
      exact Hat.out)
     obtain ⟨P, hP⟩ : ∃ P : Int, (st.part : Int) = P := ⟨_, rfl⟩
     have HP := Lib.hid hP
     have hPr : 0 ≤ P ∧ P ≤ 2 := by have := hK.out.part; omega
     obtain ⟨hP0, hP2⟩ := hPr
     have Hes : Hid (P ≠ 2 → st.es = []) := Lib.hid (fun h => hK.out.none (by omega))
     have Hpos : Hid (P ≠ 0 → 0 < k) := Lib.hid (fun h => hK.out.pos (by omega))
     have HLn : Hid (st.ds.length ≤ 400 ∧ st.es.length ≤ 400 ∧ st.pl ≤ 400) := Lib.hid (by have := hK.out.ds; have := hK.out.es; have := hK.out.pl; exact ⟨by omega, by omega, by omega⟩)
     rw [hP]
     clear hP hdr hrun hK
     by_cases hd : 48 ≤ C ∧ C ≤ 57
     · obtain ⟨hd1, hd2⟩ := hd
       by_cases hp2 : P = 2
       · subst hp2
         have HS : Hid (lstep k prev st b = some { st with es := st.es ++ [b] }) := Lib.hid (by have e1 := HC.out; have e2 := HP.out; unfold lstep; rw [if_pos ⟨by omega, by omega⟩, if_pos (by omega)])
         obtain ⟨hrun', hK'⟩ := Hgo.out _ HS.out
         have HCe := Lib.hid (hM.out.callE HLo.out (by have := HLn.out; omega) b)
         rw [HC.out] at HCe
         clear Hgo Hstop hM
         go_wp2_with fail
         refine HCe.out.mono ?_
         rintro e w8 ⟨rfl, hM8⟩
         have HM' := Lib.hid hM8
         clear hM8 HCe
         go_wp2_with fail
         go_roundw
         case rel => first | exact ⟨k + 1, { st with es := st.es ++ [b] }, b, by omega, by go_num, rfl, (show Value.int .i64 2 = .int .i64 (st.part : Int) by rw [HP.out]), hK', hrun', Hnx, HM'⟩ | ((repeat apply Exists.intro); exact ⟨⟨k + 1, { st with es := st.es ++ [b] }, b, by omega, by go_num, rfl, (show Value.int .i64 2 = .int .i64 (st.part : Int) by rw [HP.out]), hK', hrun', Hnx, HM'⟩, rfl⟩)
         case measure => simp [intOf]; omega
       · have hp2b : (P == 2) = false := by simpa using hp2
         have HS : Hid (lstep k prev st b = some { st with ds := st.ds ++ [b], pl := st.pl + st.part }) := Lib.hid (by have e1 := HC.out; have e2 := HP.out; unfold lstep; rw [if_pos ⟨by omega, by omega⟩, if_neg (by omega)])
         obtain ⟨hrun', hK'⟩ := Hgo.out _ HS.out
         have HCd := Lib.hid (hM.out.callD HLo.out (Hes.out hp2) (by have := HLn.out; omega) b)
         rw [HC.out] at HCd
         obtain ⟨Z, hZ⟩ : ∃ Z : Int, (st.pl : Int) = Z := ⟨_, rfl⟩
         have hZ0 : 0 ≤ Z := by omega
         have hZ1 : Z ≤ 400 := by have := HLn.out; omega
         have HZ := Lib.hid hZ
         clear Hgo Hstop hM hZ
         go_wp2_with fail
         refine HCd.out.mono ?_
         rintro e w8 ⟨rfl, hM8⟩
         have q2 : w8.cell? ⟨b4, 2, none⟩ = some (.int .i64 Z) := by rw [← HZ.out]; exact hM8.r4.cell 2
         have fq2 := hM8.r4.frozen 2
         have HM' : Hid (Lm w B b2 b4 b5 b6 { st with ds := st.ds ++ [b], pl := st.pl + st.part } (w8.setCell ⟨b4, 2, none⟩ (.int .i64 (Z + P)))) := Lib.hid (hM8.field HLo.out 2 _ rfl rfl (by
          have e1 : Z + P = ((st.pl + st.part : Nat) : Int) := by rw [← HZ.out, ← HP.out]; simp
          rw [e1]; rfl))
         clear hM8 HCd
         go_wp2_with fail
         go_roundw
         case rel => first | exact ⟨k + 1, { st with ds := st.ds ++ [b], pl := st.pl + st.part }, b, by omega, by go_num, rfl, (show Value.int .i64 P = .int .i64 (st.part : Int) by rw [HP.out]), hK', hrun', Hnx, HM'⟩ | ((repeat apply Exists.intro); exact ⟨⟨k + 1, { st with ds := st.ds ++ [b], pl := st.pl + st.part }, b, by omega, by go_num, rfl, (show Value.int .i64 P = .int .i64 (st.part : Int) by rw [HP.out]), hK', hrun', Hnx, HM'⟩, rfl⟩)
         case measure => simp [intOf]; omega
     · by_cases h46 : C = 46
       · subst h46
         by_cases hp0 : P = 0
         · subst hp0
           have HS : Hid (lstep k prev st b = some { st with part := 1 }) := Lib.hid (by have e1 := HC.out; have e2 := HP.out; unfold lstep; rw [if_neg (by omega), if_pos (by omega)])
           obtain ⟨hrun', hK'⟩ := Hgo.out _ HS.out
           have HM' : Hid (Lm w B b2 b4 b5 b6 { st with part := 1 } wr) := Lib.hid (by obtain ⟨m1, m2, m3, m4⟩ := hM.out; exact ⟨m1, m2, m3, m4⟩)
           clear Hgo Hstop hM
           go_wp2_with fail
           go_roundw
           case rel => first | exact ⟨k + 1, { st with part := 1 }, b, by omega, by go_num, rfl, (show Value.int .i64 1 = .int .i64 ((1 : Nat) : Int) from rfl), hK', hrun', Hnx, HM'⟩ | ((repeat apply Exists.intro); exact ⟨⟨k + 1, { st with part := 1 }, b, by omega, by go_num, rfl, (show Value.int .i64 1 = .int .i64 ((1 : Nat) : Int) from rfl), hK', hrun', Hnx, HM'⟩, rfl⟩)
           case measure => simp [intOf]; omega
         · have hp0b : (P == 0) = false := by simpa using hp0
           have HS : Hid (R = (st, false)) := Lib.hid (Hstop.out (by have e1 := HC.out; have e2 := HP.out; unfold lstep; rw [if_neg (by omega), if_neg (by omega), if_neg (by omega), if_neg (by omega), if_neg (by omega)]))
           clear Hgo Hstop
           go_wp2_with fail
           go_meet
           exact ⟨st, show Value.int .i64 _ = .int .i64 (st.part : Int) by rw [HP.out], by rw [HS.out], Lib.hid (by rw [HS.out]), hM⟩
       · by_cases h101 : C = 101
         · subst h101
           by_cases hp2 : P = 2
           · subst hp2
             have HS : Hid (R = (st, false)) := Lib.hid (Hstop.out (by have e1 := HC.out; have e2 := HP.out; unfold lstep; rw [if_neg (by omega), if_neg (by omega), if_neg (by omega), if_neg (by omega), if_neg (by omega)]))
             clear Hgo Hstop
             go_wp2_with fail
             go_meet
             exact ⟨st, show Value.int .i64 _ = .int .i64 (st.part : Int) by rw [HP.out], by rw [HS.out], Lib.hid (by rw [HS.out]), hM⟩
           · have hp2b : (P != 2) = true := by simpa using hp2
             have HS : Hid (lstep k prev st b = some { st with part := 2 }) := Lib.hid (by have e1 := HC.out; have e2 := HP.out; unfold lstep; rw [if_neg (by omega), if_neg (by omega), if_pos ⟨by omega, by omega⟩])
             obtain ⟨hrun', hK'⟩ := Hgo.out _ HS.out
             have HM' : Hid (Lm w B b2 b4 b5 b6 { st with part := 2 } wr) := Lib.hid (by obtain ⟨m1, m2, m3, m4⟩ := hM.out; exact ⟨m1, m2, m3, m4⟩)
             clear Hgo Hstop hM
             go_wp2_with fail
             go_roundw
             case rel => first | exact ⟨k + 1, { st with part := 2 }, b, by omega, by go_num, rfl, (show Value.int .i64 2 = .int .i64 ((2 : Nat) : Int) from rfl), hK', hrun', Hnx, HM'⟩ | ((repeat apply Exists.intro); exact ⟨⟨k + 1, { st with part := 2 }, b, by omega, by go_num, rfl, (show Value.int .i64 2 = .int .i64 ((2 : Nat) : Int) from rfl), hK', hrun', Hnx, HM'⟩, rfl⟩)
             case measure => simp [intOf]; omega
         · by_cases h69 : C = 69
           · subst h69
             by_cases hp2 : P = 2
             · subst hp2
               have HS : Hid (R = (st, false)) := Lib.hid (Hstop.out (by have e1 := HC.out; have e2 := HP.out; unfold lstep; rw [if_neg (by omega), if_neg (by omega), if_neg (by omega), if_neg (by omega), if_neg (by omega)]))
               clear Hgo Hstop
               go_wp2_with fail
               go_meet
               exact ⟨st, show Value.int .i64 _ = .int .i64 (st.part : Int) by rw [HP.out], by rw [HS.out], Lib.hid (by rw [HS.out]), hM⟩
             · have hp2b : (P != 2) = true := by simpa using hp2
               have HS : Hid (lstep k prev st b = some { st with part := 2 }) := Lib.hid (by have e1 := HC.out; have e2 := HP.out; unfold lstep; rw [if_neg (by omega), if_neg (by omega), if_pos ⟨by omega, by omega⟩])
               obtain ⟨hrun', hK'⟩ := Hgo.out _ HS.out
               have HM' : Hid (Lm w B b2 b4 b5 b6 { st with part := 2 } wr) := Lib.hid (by obtain ⟨m1, m2, m3, m4⟩ := hM.out; exact ⟨m1, m2, m3, m4⟩)
               clear Hgo Hstop hM
               go_wp2_with fail
               go_roundw
               case rel => first | exact ⟨k + 1, { st with part := 2 }, b, by omega, by go_num, rfl, (show Value.int .i64 2 = .int .i64 ((2 : Nat) : Int) from rfl), hK', hrun', Hnx, HM'⟩ | ((repeat apply Exists.intro); exact ⟨⟨k + 1, { st with part := 2 }, b, by omega, by go_num, rfl, (show Value.int .i64 2 = .int .i64 ((2 : Nat) : Int) from rfl), hK', hrun', Hnx, HM'⟩, rfl⟩)
               case measure => simp [intOf]; omega
           · by_cases h43 : C = 43
             · subst h43
               by_cases hk0 : k = 0
               · have hk0b : ((k : Int) == 0) = true := by simp; omega
                 have Hk0 := Lib.hid hk0
                 clear hk0
                 have HS : Hid (lstep k prev st b = some { st with neg := false }) := Lib.hid (by have e1 := HC.out; have e2 := HP.out; unfold lstep; rw [if_neg (by omega), if_neg (by omega), if_neg (by omega), if_pos ⟨by omega, Hk0.out⟩]; have e3 : decide (b.toNat = 45) = false := (by simp; omega); rw [e3])
                 obtain ⟨hrun', hK'⟩ := Hgo.out _ HS.out
                 have q0 := hM.out.r4.cell 0; have fq0 := hM.out.r4.frozen 0
                 have HM' : Hid (Lm w B b2 b4 b5 b6 { st with neg := false } (wr.setCell ⟨b4, 0, none⟩ (.bool false))) := Lib.hid (hM.out.field HLo.out 0 _ rfl rfl rfl)
                 clear Hgo Hstop hM
                 go_wp2_with fail
                 go_roundw
                 case rel => first | exact ⟨k + 1, { st with neg := false }, b, by omega, by go_num, rfl, (show Value.int .i64 P = .int .i64 (st.part : Int) by rw [HP.out]), hK', hrun', Hnx, HM'⟩ | ((repeat apply Exists.intro); exact ⟨⟨k + 1, { st with neg := false }, b, by omega, by go_num, rfl, (show Value.int .i64 P = .int .i64 (st.part : Int) by rw [HP.out]), hK', hrun', Hnx, HM'⟩, rfl⟩)
                 case measure => simp [intOf]; omega
               · obtain ⟨j, rfl⟩ : ∃ j, k = j + 1 := ⟨k - 1, by omega⟩
                 have hk0b : ((((j + 1 : Nat)) : Int) == 0) = false := by simp; omega
                 by_cases hp2 : P = 2
                 · subst hp2
                   have hat' := hprev.out j rfl
                   have hjs : j < s.size := by omega
                   have hb' : s[j] = prev := by
                    have h := toList_at s j hjs
                    rw [hat'] at h
                    exact (Option.some.inj h).symm
                   obtain ⟨D, hD⟩ : ∃ D : Int, (prev.toNat : Int) = D := ⟨_, rfl⟩
                   have hD0 : 0 ≤ D := by omega
                   have hD2 : D < 256 := by have := prev.toNat_lt; omega
                   have hjk : ((j + 1 : Nat) : Int) - 1 = (j : Int) := by omega
                   have hj0 : (0 : Int) ≤ (j : Int) := by omega
                   have hj1 : (j : Int) < (n : Int) := by omega
                   have HD := Lib.hid hD
                   by_cases h101 : D = 101
                   · subst h101
                     have HS : Hid (lstep (j + 1) prev st b = some { st with low := false }) := Lib.hid (by have e1 := HC.out; have e2 := HP.out; unfold lstep; have e4 := HD.out; rw [if_neg (by omega), if_neg (by omega), if_neg (by omega), if_neg (by omega), if_pos ⟨by omega, by omega, by omega⟩]; have e3 : decide (b.toNat = 45) = false := (by simp; omega); rw [e3])
                     obtain ⟨hrun', hK'⟩ := Hgo.out _ HS.out
                     have q3 := hM.out.r4.cell 3; have fq3 := hM.out.r4.frozen 3
                     have HM' : Hid (Lm w B b2 b4 b5 b6 { st with low := false } (wr.setCell ⟨b4, 3, none⟩ (.bool false))) := Lib.hid (hM.out.field HLo.out 3 _ rfl rfl rfl)
                     clear Hgo Hstop hM
                     go_wp2_with fail
                     go_roundw
                     case rel => first | exact ⟨j + 1 + 1, { st with low := false }, b, by omega, by go_num, rfl, (show Value.int .i64 2 = .int .i64 (st.part : Int) by rw [HP.out]), hK', hrun', Hnx, HM'⟩ | ((repeat apply Exists.intro); exact ⟨⟨j + 1 + 1, { st with low := false }, b, by omega, by go_num, rfl, (show Value.int .i64 2 = .int .i64 (st.part : Int) by rw [HP.out]), hK', hrun', Hnx, HM'⟩, rfl⟩)
                     case measure => simp [intOf]; omega
                   · by_cases h69 : D = 69
                     · subst h69
                       have HS : Hid (lstep (j + 1) prev st b = some { st with low := false }) := Lib.hid (by have e1 := HC.out; have e2 := HP.out; unfold lstep; have e4 := HD.out; rw [if_neg (by omega), if_neg (by omega), if_neg (by omega), if_neg (by omega), if_pos ⟨by omega, by omega, by omega⟩]; have e3 : decide (b.toNat = 45) = false := (by simp; omega); rw [e3])
                       obtain ⟨hrun', hK'⟩ := Hgo.out _ HS.out
                       have q3 := hM.out.r4.cell 3; have fq3 := hM.out.r4.frozen 3
                       have HM' : Hid (Lm w B b2 b4 b5 b6 { st with low := false } (wr.setCell ⟨b4, 3, none⟩ (.bool false))) := Lib.hid (hM.out.field HLo.out 3 _ rfl rfl rfl)
                       clear Hgo Hstop hM
                       go_wp2_with fail
                       go_roundw
                       case rel => first | exact ⟨j + 1 + 1, { st with low := false }, b, by omega, by go_num, rfl, (show Value.int .i64 2 = .int .i64 (st.part : Int) by rw [HP.out]), hK', hrun', Hnx, HM'⟩ | ((repeat apply Exists.intro); exact ⟨⟨j + 1 + 1, { st with low := false }, b, by omega, by go_num, rfl, (show Value.int .i64 2 = .int .i64 (st.part : Int) by rw [HP.out]), hK', hrun', Hnx, HM'⟩, rfl⟩)
                       case measure => simp [intOf]; omega
                     · have hDa : (D == 101) = false := by simpa using h101
                       have hDb : (D == 69) = false := by simpa using h69
                       have HS : Hid (R = (st, false)) := Lib.hid (Hstop.out (by have e1 := HC.out; have e2 := HP.out; unfold lstep; have e4 := HD.out; rw [if_neg (by omega), if_neg (by omega), if_neg (by omega), if_neg (by omega), if_neg (by omega)]))
                       clear Hgo Hstop
                       go_wp2_with fail
                       go_meet
                       exact ⟨st, show Value.int .i64 _ = .int .i64 (st.part : Int) by rw [HP.out], by rw [HS.out], Lib.hid (by rw [HS.out]), hM⟩
                 · have hp2b : (P == 2) = false := by simpa using hp2
                   have HS : Hid (R = (st, false)) := Lib.hid (Hstop.out (by have e1 := HC.out; have e2 := HP.out; unfold lstep; rw [if_neg (by omega), if_neg (by omega), if_neg (by omega), if_neg (by omega), if_neg (by omega)]))
                   clear Hgo Hstop
                   go_wp2_with fail
                   go_meet
                   exact ⟨st, show Value.int .i64 _ = .int .i64 (st.part : Int) by rw [HP.out], by rw [HS.out], Lib.hid (by rw [HS.out]), hM⟩
             · by_cases h45 : C = 45
               · subst h45
                 by_cases hk0 : k = 0
                 · have hk0b : ((k : Int) == 0) = true := by simp; omega
                   have Hk0 := Lib.hid hk0
                   clear hk0
                   have HS : Hid (lstep k prev st b = some { st with neg := true }) := Lib.hid (by have e1 := HC.out; have e2 := HP.out; unfold lstep; rw [if_neg (by omega), if_neg (by omega), if_neg (by omega), if_pos ⟨by omega, Hk0.out⟩]; have e3 : decide (b.toNat = 45) = true := (by simp; omega); rw [e3])
                   obtain ⟨hrun', hK'⟩ := Hgo.out _ HS.out
                   have q0 := hM.out.r4.cell 0; have fq0 := hM.out.r4.frozen 0
                   have HM' : Hid (Lm w B b2 b4 b5 b6 { st with neg := true } (wr.setCell ⟨b4, 0, none⟩ (.bool true))) := Lib.hid (hM.out.field HLo.out 0 _ rfl rfl rfl)
                   clear Hgo Hstop hM
                   go_wp2_with fail
                   go_roundw
                   case rel => first | exact ⟨k + 1, { st with neg := true }, b, by omega, by go_num, rfl, (show Value.int .i64 P = .int .i64 (st.part : Int) by rw [HP.out]), hK', hrun', Hnx, HM'⟩ | ((repeat apply Exists.intro); exact ⟨⟨k + 1, { st with neg := true }, b, by omega, by go_num, rfl, (show Value.int .i64 P = .int .i64 (st.part : Int) by rw [HP.out]), hK', hrun', Hnx, HM'⟩, rfl⟩)
                   case measure => simp [intOf]; omega
                 · obtain ⟨j, rfl⟩ : ∃ j, k = j + 1 := ⟨k - 1, by omega⟩
                   have hk0b : ((((j + 1 : Nat)) : Int) == 0) = false := by simp; omega
                   by_cases hp2 : P = 2
                   · subst hp2
                     have hat' := hprev.out j rfl
                     have hjs : j < s.size := by omega
                     have hb' : s[j] = prev := by
                      have h := toList_at s j hjs
                      rw [hat'] at h
                      exact (Option.some.inj h).symm
                     obtain ⟨D, hD⟩ : ∃ D : Int, (prev.toNat : Int) = D := ⟨_, rfl⟩
                     have hD0 : 0 ≤ D := by omega
                     have hD2 : D < 256 := by have := prev.toNat_lt; omega
                     have hjk : ((j + 1 : Nat) : Int) - 1 = (j : Int) := by omega
                     have hj0 : (0 : Int) ≤ (j : Int) := by omega
                     have hj1 : (j : Int) < (n : Int) := by omega
                     have HD := Lib.hid hD
                     by_cases h101 : D = 101
                     · subst h101
                       have HS : Hid (lstep (j + 1) prev st b = some { st with low := true }) := Lib.hid (by have e1 := HC.out; have e2 := HP.out; unfold lstep; have e4 := HD.out; rw [if_neg (by omega), if_neg (by omega), if_neg (by omega), if_neg (by omega), if_pos ⟨by omega, by omega, by omega⟩]; have e3 : decide (b.toNat = 45) = true := (by simp; omega); rw [e3])
                       obtain ⟨hrun', hK'⟩ := Hgo.out _ HS.out
                       have q3 := hM.out.r4.cell 3; have fq3 := hM.out.r4.frozen 3
                       have HM' : Hid (Lm w B b2 b4 b5 b6 { st with low := true } (wr.setCell ⟨b4, 3, none⟩ (.bool true))) := Lib.hid (hM.out.field HLo.out 3 _ rfl rfl rfl)
                       clear Hgo Hstop hM
                       go_wp2_with fail
                       go_roundw
                       case rel => first | exact ⟨j + 1 + 1, { st with low := true }, b, by omega, by go_num, rfl, (show Value.int .i64 2 = .int .i64 (st.part : Int) by rw [HP.out]), hK', hrun', Hnx, HM'⟩ | ((repeat apply Exists.intro); exact ⟨⟨j + 1 + 1, { st with low := true }, b, by omega, by go_num, rfl, (show Value.int .i64 2 = .int .i64 (st.part : Int) by rw [HP.out]), hK', hrun', Hnx, HM'⟩, rfl⟩)
                       case measure => simp [intOf]; omega
                     · by_cases h69 : D = 69
                       · subst h69
                         have HS : Hid (lstep (j + 1) prev st b = some { st with low := true }) := Lib.hid (by have e1 := HC.out; have e2 := HP.out; unfold lstep; have e4 := HD.out; rw [if_neg (by omega), if_neg (by omega), if_neg (by omega), if_neg (by omega), if_pos ⟨by omega, by omega, by omega⟩]; have e3 : decide (b.toNat = 45) = true := (by simp; omega); rw [e3])
                         obtain ⟨hrun', hK'⟩ := Hgo.out _ HS.out
                         have q3 := hM.out.r4.cell 3; have fq3 := hM.out.r4.frozen 3
                         have HM' : Hid (Lm w B b2 b4 b5 b6 { st with low := true } (wr.setCell ⟨b4, 3, none⟩ (.bool true))) := Lib.hid (hM.out.field HLo.out 3 _ rfl rfl rfl)
                         clear Hgo Hstop hM
                         go_wp2_with fail
                         go_roundw
                         case rel => first | exact ⟨j + 1 + 1, { st with low := true }, b, by omega, by go_num, rfl, (show Value.int .i64 2 = .int .i64 (st.part : Int) by rw [HP.out]), hK', hrun', Hnx, HM'⟩ | ((repeat apply Exists.intro); exact ⟨⟨j + 1 + 1, { st with low := true }, b, by omega, by go_num, rfl, (show Value.int .i64 2 = .int .i64 (st.part : Int) by rw [HP.out]), hK', hrun', Hnx, HM'⟩, rfl⟩)
                         case measure => simp [intOf]; omega
                       · have hDa : (D == 101) = false := by simpa using h101
                         have hDb : (D == 69) = false := by simpa using h69
                         have HS : Hid (R = (st, false)) := Lib.hid (Hstop.out (by have e1 := HC.out; have e2 := HP.out; unfold lstep; have e4 := HD.out; rw [if_neg (by omega), if_neg (by omega), if_neg (by omega), if_neg (by omega), if_neg (by omega)]))
                         clear Hgo Hstop
                         go_wp2_with fail
                         go_meet
                         exact ⟨st, show Value.int .i64 _ = .int .i64 (st.part : Int) by rw [HP.out], by rw [HS.out], Lib.hid (by rw [HS.out]), hM⟩
                   · have hp2b : (P == 2) = false := by simpa using hp2
                     have HS : Hid (R = (st, false)) := Lib.hid (Hstop.out (by have e1 := HC.out; have e2 := HP.out; unfold lstep; rw [if_neg (by omega), if_neg (by omega), if_neg (by omega), if_neg (by omega), if_neg (by omega)]))
                     clear Hgo Hstop
                     go_wp2_with fail
                     go_meet
                     exact ⟨st, show Value.int .i64 _ = .int .i64 (st.part : Int) by rw [HP.out], by rw [HS.out], Lib.hid (by rw [HS.out]), hM⟩
               · have o1 : (C == 46) = false := by simpa using h46
                 have o2 : (C == 101) = false := by simpa using h101
                 have o3 : (C == 69) = false := by simpa using h69
                 have o4 : (C == 43) = false := by simpa using h43
                 have o5 : (C == 45) = false := by simpa using h45
                 by_cases hlo : C < 48
                 · have hl1 : ¬ 48 ≤ C := by omega
                   have HS : Hid (R = (st, false)) := Lib.hid (Hstop.out (by have e1 := HC.out; have e2 := HP.out; unfold lstep; rw [if_neg (by omega), if_neg (by omega), if_neg (by omega), if_neg (by omega), if_neg (by omega)]))
                   clear Hgo Hstop
                   go_wp2_with fail
                   go_meet
                   exact ⟨st, show Value.int .i64 _ = .int .i64 (st.part : Int) by rw [HP.out], by rw [HS.out], Lib.hid (by rw [HS.out]), hM⟩
                 · have hl1 : 48 ≤ C := by omega
                   have hl2 : ¬ C ≤ 57 := by omega
                   have HS : Hid (R = (st, false)) := Lib.hid (Hstop.out (by have e1 := HC.out; have e2 := HP.out; unfold lstep; rw [if_neg (by omega), if_neg (by omega), if_neg (by omega), if_neg (by omega), if_neg (by omega)]))
                   clear Hgo Hstop
                   go_wp2_with fail
                   go_meet
                   exact ⟨st, show Value.int .i64 _ = .int .i64 (st.part : Int) by rw [HP.out], by rw [HS.out], Lib.hid (by rw [HS.out]), hM⟩
   · obtain rfl : k = n := by omega
     have hR : Hid (R = (st, true)) := Lib.hid (by
      have h1 := hrun.out
      rw [List.drop_eq_nil_of_le (by rw [Hn.out]; exact Nat.le_refl _), lrun_nil] at h1
      exact h1.symm)
     clear hrun
     go_wp2_with fail
     go_meet
     exact ⟨st, rfl, by rw [hR.out], Lib.hid (by rw [hR.out]), hM⟩
 case rest =>
  obtain ⟨st, rfl, rfl, hst, hM⟩ := hcut
  have HT := Lib.hid (hM.out.texts HLo.out)
  obtain ⟨ok, hok⟩ : ∃ b : Bool, R.2 = b := ⟨_, rfl⟩
  have HFn : Hid (∀ w' v b, Below w.heap.size w w' → v = .agg #[.bool st.neg, .string (bz st.ds), .int .i64 (st.pl : Int), .bool st.low, .string (bz st.es)] → b = (ok && (!st.ds.isEmpty && (!st.es.isEmpty || st.part != 2))) → CutIs s w (.returned (.tuple #[v, .bool b])) w') := Lib.hid (fun w' v b hb hv hbb => by
   have h1 := HF.out w' R HR.out hb
   unfold lok at h1
   rw [hok, hst.out] at h1
   rw [hv, hbb]
   exact h1)
  rw [hok]
  clear HF HL HL0 hst hM hok
  go_wp2_with fail
  refine HT.out.mono ?_
  rintro e w1 ⟨rfl, h2⟩
  have HT2 := Lib.hid h2
  clear h2 HT
  go_wp2_with fail
  refine HT2.out.mono ?_
  rintro e w2 ⟨rfl, hb, k2, k4⟩
  have f41 := k4.frozen 1; have f44 := k4.frozen 4
  have q0 := k4.cell 0; have q1 := k4.cell 1; have q2 := k4.cell 2; have q3 := k4.cell 3; have q4 := k4.cell 4
  simp only [List.getElem?_toArray, List.getElem?_cons_zero, List.getElem?_cons_succ] at q0 q1 q2 q3 q4
  have Hk2 := Lib.hid k2; have Hk4 := Lib.hid k4; have HBl := Lib.hid hb
  clear k2 k4 hb HT2
  obtain ⟨PT, hPT⟩ : ∃ P : Int, (st.part : Int) = P := ⟨_, rfl⟩
  obtain ⟨PL, hPL⟩ : ∃ P : Int, (st.pl : Int) = P := ⟨_, rfl⟩
  obtain ⟨DS, hDS⟩ : ∃ D, bz st.ds = D := ⟨_, rfl⟩
  obtain ⟨ES, hES⟩ : ∃ D, bz st.es = D := ⟨_, rfl⟩
  rw [hDS, hES, hPT]
  rw [hPL] at q2
  have HDS := Lib.hid hDS; have HES := Lib.hid hES; have HPL := Lib.hid hPL; have HPT := Lib.hid hPT
  have r0 := Hk2.out.cell 0; have r1 := Hk2.out.cell 1; have r2 := Hk2.out.cell 2; have r3 := Hk2.out.cell 3; have r4 := Hk2.out.cell 4
  have g0 := Hk2.out.frozen 0; have g1 := Hk2.out.frozen 1; have g2 := Hk2.out.frozen 2; have g3 := Hk2.out.frozen 3; have g4 := Hk2.out.frozen 4
  simp only [List.getElem?_toArray, List.getElem?_cons_zero, List.getElem?_cons_succ] at r0 r1 r2 r3 r4
  have hne : ¬ b2 = b4 := by have := HLo.out.o4; omega
  have hne2 : ¬ b4 = b2 := fun e => hne e.symm
  have HK : Hid (Blk (((((((w2.setCell ⟨b4, 1, none⟩ (.string DS)).setCell ⟨b4, 4, none⟩ (.string ES)).setCell ⟨b2, 0, none⟩ (.bool st.neg)).setCell ⟨b2, 1, none⟩ (.string DS)).setCell ⟨b2, 2, none⟩ (.int .i64 PL)).setCell ⟨b2, 3, none⟩ (.bool st.low)).setCell ⟨b2, 4, none⟩ (.string ES)) b2 78 #[.bool st.neg, .string DS, .int .i64 PL, .bool st.low, .string ES] ∧ Below w.heap.size w (((((((w2.setCell ⟨b4, 1, none⟩ (.string DS)).setCell ⟨b4, 4, none⟩ (.string ES)).setCell ⟨b2, 0, none⟩ (.bool st.neg)).setCell ⟨b2, 1, none⟩ (.string DS)).setCell ⟨b2, 2, none⟩ (.int .i64 PL)).setCell ⟨b2, 3, none⟩ (.bool st.low)).setCell ⟨b2, 4, none⟩ (.string ES))) := Lib.hid (by
   have h2 := HLo.out.o2; have h4 := HLo.out.o4
   refine ⟨?_, ?_⟩
   · exact ((((((Hk2.out.far (p := ⟨b4, 1, none⟩) hne _).far (p := ⟨b4, 4, none⟩) hne _).set_ 0 _).set_ 1 _).set_ 2 _).set_ 3 _).set_ 4 _
   · exact ((((((HBl.out.setCell (p := ⟨b4, 1, none⟩) (by show w.heap.size ≤ b4; omega) _).setCell (p := ⟨b4, 4, none⟩) (by show w.heap.size ≤ b4; omega) _).setCell (p := ⟨b2, 0, none⟩) h2 _).setCell (p := ⟨b2, 1, none⟩) h2 _).setCell (p := ⟨b2, 2, none⟩) h2 _).setCell (p := ⟨b2, 3, none⟩) h2 _).setCell (p := ⟨b2, 4, none⟩) h2 _)
  have Hnil : ∀ l D, bz l = D → ((D.toList = []) ↔ l = []) := fun l D h => by
   rw [← h]
   show (ByteArray.mk l.toArray).toList = [] ↔ l = []
   rw [ByteArray.toList_mk]
  have hdn := Hnil st.ds DS hDS; have hen := Hnil st.es ES hES
  clear Hnil hDS hES hPL hPT
  cases ok with
  | false =>
   clear hdn hen
   go_wp2_with fail
   refine bodyPost_ret (res_lit rfl _ _ b2 st.neg DS PL st.low ES (Value.bool false) rfl rfl ?_) rfl ?_
   · exact HK.out.1
   · exact HFn.out _ (.agg #[.bool st.neg, .string DS, .int .i64 PL, .bool st.low, .string ES]) false HK.out.2 (by rw [HDS.out, HES.out, HPL.out]) (by rfl)
  | true =>
   by_cases hd0 : st.ds = []
   · have HX : Hid (st.ds.isEmpty = true) := Lib.hid (by rw [hd0]; rfl)
     have hdl : DS.toList = [] := hdn.2 hd0
     clear hdn hen hd0
     go_wp2_with fail
     refine bodyPost_ret (res_lit rfl _ _ b2 st.neg DS PL st.low ES (Value.bool false) rfl rfl ?_) rfl ?_
     · exact HK.out.1
     · exact HFn.out _ (.agg #[.bool st.neg, .string DS, .int .i64 PL, .bool st.low, .string ES]) false HK.out.2 (by rw [HDS.out, HES.out, HPL.out]) (by rw [HX.out]; rfl)
   · have HX : Hid (st.ds.isEmpty = false) := Lib.hid (by cases h : st.ds with | nil => exact absurd h hd0 | cons x r => rfl)
     have hdl : ¬ DS.toList = [] := fun h => hd0 (hdn.1 h)
     have hdb : DS.toList.isEmpty = false := List.isEmpty_eq_false_iff.2 hdl
     by_cases he0 : st.es = []
     · have HY : Hid (st.es.isEmpty = true) := Lib.hid (by rw [he0]; rfl)
       have hel : ES.toList = [] := hen.2 he0
       by_cases hp : PT = 2
       · have hpb : (PT != 2) = false := by simpa using hp
         have HZ : Hid ((st.part != 2) = false) := Lib.hid (by have h9 := HPT.out; have h8 : st.part = 2 := (by omega); simp [h8])
         clear hdn hen hd0 he0 hp
         go_wp2_with fail
         refine bodyPost_ret (res_lit rfl _ _ b2 st.neg DS PL st.low ES (Value.bool false) rfl rfl ?_) rfl ?_
         · exact HK.out.1
         · exact HFn.out _ (.agg #[.bool st.neg, .string DS, .int .i64 PL, .bool st.low, .string ES]) false HK.out.2 (by rw [HDS.out, HES.out, HPL.out]) (by rw [HX.out, HY.out, HZ.out]; rfl)
       · have hpb : (PT != 2) = true := by simpa using hp
         have HZ : Hid ((st.part != 2) = true) := Lib.hid (by have h9 := HPT.out; have h8 : st.part ≠ 2 := (by omega); simp [h8])
         clear hdn hen hd0 he0 hp
         go_wp2_with fail
         refine bodyPost_ret (res_lit rfl _ _ b2 st.neg DS PL st.low ES (Value.bool true) rfl rfl ?_) rfl ?_
         · exact HK.out.1
         · exact HFn.out _ (.agg #[.bool st.neg, .string DS, .int .i64 PL, .bool st.low, .string ES]) true HK.out.2 (by rw [HDS.out, HES.out, HPL.out]) (by rw [HX.out, HY.out, HZ.out]; rfl)
     · have HY : Hid (st.es.isEmpty = false) := Lib.hid (by cases h : st.es with | nil => exact absurd h he0 | cons x r => rfl)
       have hel : ¬ ES.toList = [] := fun h => he0 (hen.1 h)
       have heb : ES.toList.isEmpty = false := List.isEmpty_eq_false_iff.2 hel
       clear hdn hen hd0 he0
       go_wp2_with fail
       refine bodyPost_ret (res_lit rfl _ _ b2 st.neg DS PL st.low ES (Value.bool true) rfl rfl ?_) rfl ?_
       · exact HK.out.1
       · exact HFn.out _ (.agg #[.bool st.neg, .string DS, .int .i64 PL, .bool st.low, .string ES]) true HK.out.2 (by rw [HDS.out, HES.out, HPL.out]) (by rw [HX.out, HY.out]; rfl)
end Go.Proofs.YtnhobagjpjcigaaGreatDoor
