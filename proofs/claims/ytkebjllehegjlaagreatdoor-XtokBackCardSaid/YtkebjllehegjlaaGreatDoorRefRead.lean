/-
  The document's own reading of a text: where it ends, and its characters; a character's bytes.
-/
import Derived.Test.YtkebjllehegjlaaGreatDoorRefChar
import Derived.Test.YtkebjllehegjlaaGreatDoorTold
import Derived.Outline
import Derived.Maps.AppendAt
namespace Go.Proofs.YtkebjllehegjlaaGreatDoor
open Go.RowKit
set_option linter.unusedVariables false
theorem extract_list (s : ByteArray) (k : Nat) : (s.extract k s.size).data.toList = s.data.toList.drop k := by
  simp
  exact List.take_of_length_le (by simp)
theorem extract_size (s : ByteArray) (k : Nat) (h : k ≤ s.size) : (s.extract k s.size).size = s.size - k := by simp
def EndIs (s : ByteArray) (e : Ending) : Prop := e = .returned (.tuple #[.int .i64 (uEnd s.data.toList), .bool (decide (uEnd s.data.toList = s.size))])
theorem endIs_part (s : ByteArray) (k : Nat) (h : uEnd s.data.toList = k) (h2 : k < s.size) : EndIs s (.returned (.tuple #[.int .i64 k, .bool false])) := by
  unfold EndIs; rw [h, show decide (k = s.size) = false from by simp; omega]
theorem endIs_full (s : ByteArray) (h : uEnd s.data.toList = s.size) : EndIs s (.returned (.tuple #[.int .i64 s.size, .bool true])) := by
  unfold EndIs; rw [h, show decide (s.size = s.size) = true from by simp]
set_option maxRecDepth 100000 in
set_option maxHeartbeats 1000000 in
theorem refcheck_any (s : ByteArray) (w : World) (hs : s.size ≤ 1000000) :
    Calls Tryz.prog 8 #[.string s] w fun e w' => EndIs s e ∧ w = w' := by
  go_enter Tryz.func8, Tryz.ntmps8
  go_wp2
  go_loop [4] (fun i => ∃ k : Nat, k ≤ s.size ∧ i = .int .i64 k ∧ Hid (uEnd s.data.toList = k + uEnd (s.data.toList.drop k))) (fun i => s.size - (intOf i).toNat)
  case atStart => exact ⟨0, by omega, rfl, Lib.hid (by simp)⟩
  case round =>
    obtain ⟨k, hk, rfl, he⟩ := hrel
    by_cases hlt : k < s.size
    · have hE := extract_list s k
      have hsz := extract_size s k hk
      obtain ⟨N, hN⟩ : ∃ N, (u1 (s.data.toList.drop k)).2 = N := ⟨_, rfl⟩
      obtain ⟨C, hC⟩ : ∃ C, (u1 (s.data.toList.drop k)).1 = C := ⟨_, rfl⟩
      have hNle : k + N ≤ s.size := by have := u1_le (s.data.toList.drop k); rw [hN] at this; simp at this; omega
      have Hpair : Hid (∀ e, PairIs (s.extract k s.size).data.toList e → e = .returned (.tuple #[.int .i64 C, .int .i64 N])) := Lib.hid (fun e h => by unfold PairIs at h; rw [hE, hC, hN] at h; exact h)
      by_cases h0 : N = 0
      · have hend : Hid (uEnd s.data.toList = k) := Lib.hid (by rw [he.out, uEnd_stop _ (by rw [hN]; exact h0)]; omega)
        have H0 := Lib.hid h0
        clear hE hN hC he h0 
        have hb1 : (s.extract k s.size).size ≤ 1000000 := by omega
        have hb2 : 0 < (s.extract k s.size).size := by omega
        clear hsz
        go_wp2_with fail
        refine (refchar1_any _ _ hb1 hb2).mono ?_
        rintro e w' ⟨hp, rfl⟩
        obtain rfl := Hpair.out _ hp
        rw [H0.out]
        go_wp2
        go_ret2
        exact ⟨endIs_part s k hend.out hlt, rfl⟩
      · have hend : Hid (uEnd s.data.toList = (k + N) + uEnd (s.data.toList.drop (k + N))) := Lib.hid (by rw [he.out, uEnd_go _ (by rw [hN]; exact h0), hN, List.drop_drop]; omega)
        have hz : ((N : Int) == 0) = false := by simp; omega
        have hN1 : 1 ≤ N := by omega
        clear hE hN hC he h0
        have hb1 : (s.extract k s.size).size ≤ 1000000 := by omega
        have hb2 : 0 < (s.extract k s.size).size := by omega
        clear hsz
        go_wp2_with fail
        refine (refchar1_any _ _ hb1 hb2).mono ?_
        rintro e w' ⟨hp, rfl⟩
        obtain rfl := Hpair.out _ hp
        go_wp2
        go_round
        case rel => exact ⟨k + N, hNle, by go_num, hend⟩
        case measure => simp [intOf]; omega
    · have hend : Hid (uEnd s.data.toList = s.size) := Lib.hid (by rw [he.out, List.drop_eq_nil_of_le (by simp; omega)]; simp [uEnd, uEndF]; omega)
      clear he
      go_wp2
      go_ret2
      exact ⟨endIs_full s hend.out, rfl⟩
/-- v is a slice of the call's own that holds the numbers l. -/
def OwnZ (B : Nat) (w : World) (v : Value) (l : List Int) : Prop := w.ownsRow B 3 1 v l.length (l.map (Value.int .i64 ·))
/-- Two slices of the call's own, in blocks of their own. -/
structure Duz (B : Nat) (w W : World) (v1 v2 : Value) (l1 l2 : List Int) : Prop where
  o1 : OwnZ B W v1 l1
  o2 : OwnZ B W v2 l2
  ne : ∀ g, v1.ownBlock = some g → v2.ownBlock ≠ some g
  bel : Below B w W
  size : B ≤ W.heap.size
theorem Duz.swap {B : Nat} {w W : World} {v1 v2 : Value} {l1 l2 : List Int} (h : Duz B w W v1 v2 l1 l2) : Duz B w W v2 v1 l2 l1 := ⟨h.o2, h.o1, fun g e e' => h.ne g e' e, h.bel, h.size⟩
theorem push_duz {ops : Array Oper} {rest : List Oper} {o : Oper} {a : Act} {Q : Exit → Act → World → Prop} (hgd : o.guard = none) (s x : Operand)
    (ho : o.op = .call { callee := .builtin .append, args := #[s, x], argTypes := #[38, 38] }) (B : Nat) (w W : World) (v1 v2 : Value) (l1 l2 : List Int) (n : Int)
    (hs : a.eval s = v1) (hd : Duz B w W v1 v2 l1 l2) (hx : a.eval x = .slice (some ⟨W.heap.size, 0, none⟩) 1 1) (hlen : l1.length ≤ 1000000)
    (h : ∀ v' W', Duz B w W' v' v2 (l1 ++ [n]) l2 → wpList Tryz.prog ops Q rest (a.put o.dst v') W') :
    wpList Tryz.prog ops Q (o :: rest) a (W.alloc (.cells #[.int .i64 n] 3)) := by
  obtain ⟨i0, hi, hz0, hz1, hz2⟩ := info_parts Tryz.infoI
  have ha : OwnZ B (W.alloc (.cells #[.int .i64 n] 3)) v1 l1 := World.ownsRow.alloc hd.o1 _
  have hb : OwnZ B (W.alloc (.cells #[.int .i64 n] 3)) v2 l2 := World.ownsRow.alloc hd.o2 _
  have hl2 := hd.o2.lt
  have hl1 := hd.o1.lt
  refine wpList_append_own_at _ hgd s x 38 ho B 3 i0 (.int .i64 0) 1 8 Tryz.underlying38 hi hz0 hz1 hz2 rfl (by decide) v1 l1.length (l1.map (Value.int .i64 ·)) hs ha ⟨W.heap.size, 0, none⟩ 1 1 [.int .i64 n] hx rfl (cell_one_new _ _ _) ?_ ?_ ?_ ?_ ?_
  · intro u hu; simp at hu; subst hu; rfl
  · unfold maxLen; omega
  · omega
  · have := hd.size; simp; omega
  · intro v' W' hown' hg _ hat
    refine h v' W' ⟨?_, own_far hb hg hd.ne, ?_, ?_, ?_⟩
    · unfold OwnZ
      rw [List.map_append, List.length_append]
      exact hown'
    · intro g hg1 hg2
      rcases hat with e | e
      · rw [e] at hg1; exact hd.ne g hg1 hg2
      · rw [e] at hg1; cases hg1; have := (hl2 _ hg2).2; simp at this; omega
    · exact (hd.bel.alloc hd.size _).grown hg (by have := hd.size; simp; omega) (fun k hk => (hl1 k hk).1)
    · have := hg.size; have := hd.size; simp at *; omega
def RunesAre (s : ByteArray) (B : Nat) (w : World) (e : Ending) (w' : World) : Prop :=
  ∃ v1 v2, e = .returned (.tuple #[v1, v2]) ∧ Duz B w w' v1 v2 ((uRunes s.data.toList 0).map (fun p => (p.1 : Int))) ((uRunes s.data.toList 0).map (fun p => (p.2 : Int)))
set_option maxRecDepth 100000 in
set_option maxHeartbeats 1000000 in
theorem refrunes_any (s : ByteArray) (w : World) (hs : s.size ≤ 1000000) :
    Calls Tryz.prog 9 #[.string s] w (RunesAre s w.heap.size w) := by
  go_enter Tryz.func9, Tryz.ntmps9
  go_wp2
  go_loopw [4, 5, 6] (fun v1 v2 i wr => ∃ (k : Nat) (l : List (Nat × Nat)), k ≤ s.size ∧ l.length ≤ k ∧ i = .int .i64 k ∧ Hid (uRunes s.data.toList 0 = l ++ uRunes (s.data.toList.drop k) k) ∧ Hid (Duz w.heap.size w wr v1 v2 (l.map (fun p => (p.1 : Int))) (l.map (fun p => (p.2 : Int))))) (fun _ _ i _ => s.size - (intOf i).toNat)
  case atStart => exact ⟨0, [], by omega, by simp, rfl, Lib.hid (by simp), Lib.hid ⟨World.ownsRow_nil _ _ _ _, World.ownsRow_nil _ _ _ _, (fun g e => by cases e), Below.refl _ _, Nat.le_refl _⟩⟩
  case round =>
    obtain ⟨k, l, hk, hl, rfl, he, hd⟩ := hrel
    by_cases hlt : k < s.size
    · have hE := extract_list s k
      have hsz := extract_size s k hk
      obtain ⟨N, hN⟩ : ∃ N, (u1 (s.data.toList.drop k)).2 = N := ⟨_, rfl⟩
      obtain ⟨C, hC⟩ : ∃ C, (u1 (s.data.toList.drop k)).1 = C := ⟨_, rfl⟩
      have hNle : k + N ≤ s.size := by have := u1_le (s.data.toList.drop k); rw [hN] at this; simp at this; omega
      have Hpair : Hid (∀ e, PairIs (s.extract k s.size).data.toList e → e = .returned (.tuple #[.int .i64 C, .int .i64 N])) := Lib.hid (fun e h => by unfold PairIs at h; rw [hE, hC, hN] at h; exact h)
      by_cases h0 : N = 0
      · have hend : Hid (uRunes s.data.toList 0 = l) := Lib.hid (by rw [he.out, uRunes_stop _ _ (by rw [hN]; exact h0)]; simp)
        have H0 := Lib.hid h0
        clear hE hN hC he h0
        have hb1 : (s.extract k s.size).size ≤ 1000000 := by omega
        have hb2 : 0 < (s.extract k s.size).size := by omega
        clear hsz
        go_wp2_with fail
        refine (refchar1_any _ _ hb1 hb2).mono ?_
        rintro e w' ⟨hp, rfl⟩
        obtain rfl := Hpair.out _ hp
        rw [H0.out]
        go_wp2
        go_ret2
        exact ⟨_, _, rfl, by rw [hend.out]; exact hd.out⟩
      · have hend : Hid (uRunes s.data.toList 0 = (l ++ [(k, C)]) ++ uRunes (s.data.toList.drop (k + N)) (k + N)) := Lib.hid (by rw [he.out, uRunes_go _ _ (by rw [hN]; exact h0), hN, hC, List.drop_drop]; simp)
        have hz : ((N : Int) == 0) = false := by simp; omega
        have hN1 : 1 ≤ N := by omega
        have hm1 : Hid (l.map (fun p : Nat × Nat => (p.1 : Int)) ++ [(k : Int)] = (l ++ [(k, C)]).map (fun p : Nat × Nat => (p.1 : Int))) := Lib.hid (by simp)
        have hm2 : Hid (l.map (fun p : Nat × Nat => (p.2 : Int)) ++ [(C : Int)] = (l ++ [(k, C)]).map (fun p : Nat × Nat => (p.2 : Int))) := Lib.hid (by simp)
        have hll1 : Hid ((l.map (fun p : Nat × Nat => (p.1 : Int))).length ≤ 1000000) := Lib.hid (by simp; omega)
        have hll2 : Hid ((l.map (fun p : Nat × Nat => (p.2 : Int))).length ≤ 1000000) := Lib.hid (by simp; omega)
        clear hE hN hC he h0
        have hb1 : (s.extract k s.size).size ≤ 1000000 := by omega
        have hb2 : 0 < (s.extract k s.size).size := by omega
        clear hsz
        go_wp2_with fail
        refine (refchar1_any _ _ hb1 hb2).mono ?_
        rintro e w' ⟨hp, rfl⟩
        obtain rfl := Hpair.out _ hp
        clear Hpair
        go_wp2_with (at_builtin; refine push_duz rfl (.tmp 22) (.tmp 24) rfl w.heap.size w _ _ _ _ _ _ rfl hd.out rfl hll1.out ?_)
        intro v1' W1 hd1
        have hd2 := Lib.hid hd1.swap
        clear hd hd1
        go_wp2_with (at_builtin; refine push_duz rfl (.tmp 26) (.tmp 28) rfl w.heap.size w _ _ _ _ _ _ rfl hd2.out rfl hll2.out ?_)
        intro v2' W2 hd3
        rw [hm1.out, hm2.out] at hd3
        have hd4 := Lib.hid hd3.swap
        clear hd2 hd3
        go_wp2
        go_roundw
        case rel => exact ⟨k + N, l ++ [(k, C)], hNle, by simp; omega, by go_num, hend, hd4⟩
        case measure => simp [intOf]; omega
    · have hend : Hid (uRunes s.data.toList 0 = l) := Lib.hid (by rw [he.out, List.drop_eq_nil_of_le (by simp; omega), uRunes_stop _ _ rfl]; simp)
      clear he
      go_wp2
      go_ret2
      exact ⟨_, _, rfl, by rw [hend.out]; exact hd.out⟩
end Go.Proofs.YtkebjllehegjlaaGreatDoor
