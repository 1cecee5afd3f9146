/-
 strings.Builder: two of the call's own beside each other: what a write into one leaves of all else.
-/
import Derived.Test.YtnhobagjpjcigaaGreatDoorNSmall
namespace Go.Proofs.YtnhobagjpjcigaaGreatDoor
open Go.RowKit
set_option linter.unusedVariables false
/-- The builder in block b holds t; its row lies from block B on. -/
def Bdx (B b : Nat) (t : ByteArray) (w : World) : Prop := ∃ p v, (p = .pointer none ∨ p = .pointer (some ⟨b, 0, none⟩)) ∧ w.heap[b]? = some (.cells #[p, v] 136 (0, 0)) ∧ w.ownsRowF B 5 1 v t.size (Lib.byteCells t.data.toList) ∧ (t.size = 0 → v = .slice none 0 0)
/-- Blocks below B stay, but for b. -/
structure Fx (B b : Nat) (w w' : World) : Prop where
 os : w'.os = w.os
 tape : w'.tape = w.tape
 output : w'.output = w.output
 size : w.heap.size ≤ w'.heap.size
 block : ∀ i, i < B → i ≠ b → w'.heap[i]? = w.heap[i]?
theorem rowF_mono {w : World} {B C : Nat} {e : TypeId} {z : Nat} {v : Value} {n : Nat} {xs : List Value} (h : w.ownsRowF B e z v n xs) (hC : C ≤ B) : w.ownsRowF C e z v n xs := by
 refine ⟨h.1, ?_⟩
 rcases h.2 with h2 | ⟨g, cap, cur, fz, h3, h4, h5⟩
 · exact .inl h2
 · exact .inr ⟨g, cap, cur, fz, h3, by omega, h5⟩
theorem rowF_far {w : World} {B b : Nat} {p v v0 : Value} {n : Nat} {xs : List Value} (h : w.ownsRowF B 5 1 v n xs) (hb : w.heap[b]? = some (.cells #[p, v0] 136 (0, 0))) : v.ownBlock ≠ some b := by
 rcases h.2 with ⟨rfl, _⟩ | ⟨g, cap, cur, fz, rfl, _, hg, _⟩
 · simp [Value.ownBlock]
 · intro e
   obtain rfl : g = b := by simpa [Value.ownBlock] using e
   rw [hb] at hg
   simp at hg
theorem rowF_kept {w w' : World} {B : Nat} {v : Value} {n : Nat} {xs : List Value} (h : w.ownsRowF B 5 1 v n xs) (hk : ∀ g, v.ownBlock = some g → w'.heap[g]? = w.heap[g]?) : w'.ownsRowF B 5 1 v n xs := by
 refine ⟨h.1, ?_⟩
 rcases h.2 with h2 | ⟨g, cap, cur, fz, h3, h4, h5, h6⟩
 · exact .inl h2
 · exact .inr ⟨g, cap, cur, fz, h3, h4, (hk g (by rw [h3]; rfl)).trans h5, h6⟩
theorem heap_lt {w : World} {b : Nat} {o : Obj} (h : w.heap[b]? = some o) : b < w.heap.size := (Array.getElem?_eq_some_iff.1 h).1
theorem Bdx.new {w : World} {b : Nat} (B : Nat) (h : w.heap[b]? = some (.cells #[.pointer none, .slice none 0 0] 136 (0, 0))) : Bdx B b ⟨#[]⟩ w := ⟨_, _, .inl rfl, h, World.ownsRowF_nil _ _ _ _, fun _ => rfl⟩
/-- A builder that nothing touches stays. -/
theorem Bdx.kept {B b : Nat} {t : ByteArray} {w w' : World} (h : Bdx B b t w) (hk : ∀ i, i < w.heap.size → w'.heap[i]? = w.heap[i]?) : Bdx B b t w' := by
 obtain ⟨p, v, hp, hb, hr, hz⟩ := h
 refine ⟨p, v, hp, (hk b (heap_lt hb)).trans hb, rowF_kept hr (fun g hg => ?_), hz⟩
 rcases hr.2 with ⟨rfl, _⟩ | ⟨g', cap, cur, fz, rfl, _, hg', _⟩
 · simp [Value.ownBlock] at hg
 · obtain rfl : g' = g := by simpa [Value.ownBlock] using hg
   exact hk g' (heap_lt hg')
theorem Bdx.keptBut {B b c : Nat} {t : ByteArray} {w w' : World} {ty : TypeId} {cs : Array Value} (h : Bdx B b t w) (hc : w.heap[c]? = some (.cells cs ty (0, 0))) (ht : ty ≠ 5) (hbc : b ≠ c) (hk : ∀ i, i < w.heap.size → i ≠ c → w'.heap[i]? = w.heap[i]?) : Bdx B b t w' := by
 obtain ⟨p, v, hp, hb, hr, hz⟩ := h
 refine ⟨p, v, hp, (hk b (heap_lt hb) hbc).trans hb, rowF_kept hr (fun g hg => ?_), hz⟩
 rcases hr.2 with ⟨rfl, _⟩ | ⟨g', cap, cur, fz, rfl, _, hg', _⟩
 · simp [Value.ownBlock] at hg
 · obtain rfl : g' = g := by simpa [Value.ownBlock] using hg
   refine hk g' (heap_lt hg') (fun e => ?_)
   subst e
   rw [hc] at hg'
   simp at hg'
   exact ht hg'.2.1
theorem Bdx.is {B b : Nat} {t : ByteArray} {w : World} (h : Bdx B b t w) : ∃ p v, (p = .pointer none ∨ p = .pointer (some ⟨b, 0, none⟩)) ∧ w.heap[b]? = some (.cells #[p, v] 136 (0, 0)) ∧ w.ownsRowF B 5 1 v t.size (Lib.byteCells t.data.toList) ∧ (t.size = 0 → v = .slice none 0 0) ∧ Lib.BuilderAtF 136 5 0 b p (Lib.byteCells t.data.toList) w := by
 obtain ⟨p, v, hp, hb, hr, hz⟩ := h
 exact ⟨p, v, hp, hb, hr, hz, Nat.zero_le _, v, hb, by rw [cells_len]; exact rowF_mono hr (Nat.zero_le _), rowF_far hr hb⟩
/-- Behind copyCheck. -/
structure CpX (b : Nat) (v : Value) (w w' : World) : Prop where
 own : w'.heap[b]? = some (.cells #[.pointer (some ⟨b, 0, none⟩), v] 136 (0, 0))
 os : w'.os = w.os
 tape : w'.tape = w.tape
 output : w'.output = w.output
 size : w'.heap.size = w.heap.size
 block : ∀ i, i ≠ b → w'.heap[i]? = w.heap[i]?
set_option maxHeartbeats 1000000 in
set_option maxRecDepth 100000 in
theorem copyx_any (b : Nat) (p v : Value) (bs : List Value) (w : World) (hp : p = .pointer none ∨ p = .pointer (some ⟨b, 0, none⟩)) (hb : w.heap[b]? = some (.cells #[p, v] 136 (0, 0))) (h : Lib.BuilderAtF 136 5 0 b p bs w) :
 Calls Tryz.prog 145 #[.pointer (some ⟨b, 0, none⟩)] w fun e w' => e = .returned (.tuple #[]) ∧ CpX b v w w' := by
 obtain ⟨j, hj, hjs⟩ := Option.map_eq_some_iff.1 Tryz.sizeBd
 rcases hp with rfl | rfl
 · have h0 := h.cell0
   have hsh := h.shape
   have hfz := h.frozen0
   have HC : Hid (CpX b v w (w.setCell ⟨b, 0, none⟩ (.pointer (some ⟨b, 0, none⟩)))) := Lib.hid ⟨by simp [World.setCell, Array.getElem?_modify, hb], rfl, rfl, rfl, by simp, fun i hi => Below.heap_setCell _ _ _ i hi⟩
   clear hb
   go_enter Tryz.func145, Tryz.ntmps145
   go_wp2
   rw [Lib.run_to_unsafe w ⟨b, 0, none⟩ Tryz.underlying133 Tryz.underlying179 hj (by rw [hjs]; decide) hsh (Nat.zero_lt_succ 1)]
   simp only [Result.andThen]
   rw [Oper.upon_value]
   go_wp2
   rw [run_callFunc_extern Tryz.func158 (by kernel_rfl) (by kernel_rfl) (by kernel_rfl) (e := Extern.AbiNoEscape.same) (by kernel_rfl)]
   rw [Lib.run_noEscape]
   simp only [Result.andThen]
   rw [Oper.upon_value]
   go_wp2
   rw [Lib.run_from_unsafe w ⟨b, 0, none⟩ Tryz.underlying179 Tryz.underlying133 hj hsh Tryz.liesBd]
   simp only [Result.andThen]
   rw [Oper.upon_value]
   go_wp2
   go_end0
   exact ⟨rfl, HC.out⟩
 · have h0 := h.cell0
   have HC : Hid (CpX b v w w) := Lib.hid ⟨hb, rfl, rfl, rfl, rfl, fun i hi => rfl⟩
   clear hb
   go_enter Tryz.func145, Tryz.ntmps145
   go_wp2
   rw [Lib.run_neq_ptr_same w _ Tryz.underlying133 hj]
   go_wp2
   go_end0
   exact ⟨rfl, HC.out⟩
theorem cells_push (s : ByteArray) (n : Nat) (hn : n < 256) : Lib.byteCells (s.push (UInt8.ofNat n)).data.toList = Lib.byteCells s.data.toList ++ [.int .u8 (n : Int)] := by
 have h2 : (UInt8.ofNat n).toNat = n := by simp; omega
 have h1 : (s.push (UInt8.ofNat n)).data.toList = s.data.toList ++ [UInt8.ofNat n] := by simp
 rw [h1]
 simp only [Lib.byteCells, List.map_append, List.map_cons, List.map_nil]
 rw [h2]
set_option maxHeartbeats 2000000 in
set_option maxRecDepth 100000 in
theorem wbx_any (B b : Nat) (t : ByteArray) (n : Nat) (w : World) (hn : n < 256) (h : Bdx B b t w) (hlen : t.size + 1 ≤ 140737488355328) (hBw : B ≤ w.heap.size) :
 Calls Tryz.prog 104 #[.pointer (some ⟨b, 0, none⟩), .int .u8 (n : Int)] w fun e w' => e = .returned .nilIface ∧ Bdx B b (t.push (UInt8.ofNat n)) w' ∧ Fx B b w w' := by
 obtain ⟨i0, hi, hz0, hz1, hz2⟩ := info_parts Tryz.infoU8
 obtain ⟨c, hc⟩ : ∃ c : Int, (n : Int) = c := ⟨_, rfl⟩
 obtain ⟨p, v, hp, hb, hr, _, hAt⟩ := h.is
 have HCp := Lib.hid (copyx_any b p v _ w hp hb hAt)
 rw [hc]
 go_enter Tryz.func104, Tryz.ntmps104
 go_wp2_with (refine HCp.out.mono ?_)
 rintro e w1 ⟨rfl, h1⟩
 have hbk := h1.own
 have hown := rowF_kept hr (w' := w1) (fun g hg => h1.block g (fun e => rowF_far hr hb (by rw [hg, e])))
 have c0 : w1.cell? ⟨b, 0, none⟩ = some (.pointer (some ⟨b, 0, none⟩)) := by rw [Lib.cell_of_heap hbk]; rfl
 have c1 : w1.cell? ⟨b, 1, none⟩ = some v := by rw [Lib.cell_of_heap hbk]; rfl
 have HS1 := Lib.hid h1.size
 go_wp2_with (at_builtin; refine wpList_append_ownF _ rfl _ _ 134 rfl B 5 i0 (.int .u8 0) 1 1 Tryz.underlying134 hi hz0 hz1 hz2 rfl (by decide) _ _ _ rfl (hown.alloc _) ⟨w1.heap.size, 0, none⟩ 1 1 [.int .u8 c] rfl rfl ?c1 ?c2 ?c3 ?c4 ?c5 ?_)
 case c1 =>
  intro j u hj
  match j, hj with
  | 0, hj => simp at hj; subst hj; simp [Addr.add]
 case c2 => intro u hu; simp at hu; subst hu; rfl
 case c3 => unfold maxLen; omega
 case c4 => omega
 case c5 => have := HS1.out; simp; omega
 intro v' w2 hown' hgrow _
 have hs1 := HS1.out
 have hlt : b < w1.heap.size := heap_lt hbk
 have hb2 : w2.heap[b]? = some (.cells #[.pointer (some ⟨b, 0, none⟩), v] 136 (0, 0)) := by
  rw [hgrow.block b (by simp; omega) (fun e => rowF_far hown hbk e.symm), Lib.alloc_old w1 _ b hlt]
  exact hbk
 have d0 : w2.cell? ⟨b, 0, none⟩ = some (.pointer (some ⟨b, 0, none⟩)) := by rw [Lib.cell_of_heap hb2]; rfl
 have d1 : w2.cell? ⟨b, 1, none⟩ = some v := by rw [Lib.cell_of_heap hb2]; rfl
 have f1 : w2.frozen? ⟨b, 1, none⟩ = false := Lib.frozen_of_heap hb2 1
 obtain ⟨g, cap, rfl⟩ : ∃ g cap, v' = .slice (some ⟨g, 0, none⟩) (t.size + 1) cap := by
  rcases hown'.2 with ⟨_, h0⟩ | ⟨g, cap, cur, fz, hv, _⟩
  · omega
  · exact ⟨g, cap, hv⟩
 have hne2 := rowF_far hown' hb2
 have hgs := hgrow.size
 rw [World.size_alloc] at hgs
 have HF : Hid (Bdx B b (t.push (UInt8.ofNat n)) (w2.setCell ⟨b, 1, none⟩ (.slice (some ⟨g, 0, none⟩) (t.size + 1) cap)) ∧ Fx B b w (w2.setCell ⟨b, 1, none⟩ (.slice (some ⟨g, 0, none⟩) (t.size + 1) cap))) := Lib.hid (by
  refine ⟨⟨_, .slice (some ⟨g, 0, none⟩) (t.size + 1) cap, .inr rfl, by simp [World.setCell, Array.getElem?_modify, hb2], ?_, fun h0 => ?_⟩, ?_⟩
  · have hps : (t.push (UInt8.ofNat n)).size = t.size + 1 := by simp
    rw [hps, cells_push t n hn, hc]
    exact rowF_kept hown' (fun g' hg' => Below.heap_setCell _ _ _ g' (fun e => hne2 (by rw [hg', e])))
  · have hps : (t.push (UInt8.ofNat n)).size = t.size + 1 := by simp
    omega
  · refine ⟨?_, ?_, ?_, ?_, fun i hi hib => ?_⟩
    · exact (hgrow.os).trans h1.os
    · exact (hgrow.tape).trans h1.tape
    · exact (hgrow.output).trans h1.output
    · rw [World.size_setCell]; omega
    · rw [Below.heap_setCell _ _ _ i hib]
      rw [hgrow.block i (by simp; omega) (fun e => ?_), Lib.alloc_old w1 _ i (by omega), h1.block i hib]
      rcases hown.2 with ⟨rfl, _⟩ | ⟨g', cap', cur', fz', rfl, hBg, _⟩
      · simp [Value.ownBlock] at e
      · have : i = g' := by simpa [Value.ownBlock] using e
        omega)
 clear hgrow hown' hown h1 hgs hs1
 go_wp2
 go_ret
 exact ⟨rfl, HF.out⟩
/-- Blocks stay, but for the row v. -/
structure StX (v : Value) (w w' : World) : Prop where
 os : w'.os = w.os
 tape : w'.tape = w.tape
 output : w'.output = w.output
 size : w'.heap.size = w.heap.size
 block : ∀ i, some i ≠ v.ownBlock → w'.heap[i]? = w.heap[i]?
theorem StX.freeze (w : World) (g n m c : Nat) : StX (.slice (some ⟨g, 0, none⟩) m c) w (w.drew.freeze ⟨g, 0, none⟩ n) :=
by
 unfold World.freeze
 split
 · exact ⟨rfl, rfl, rfl, rfl, fun i _ => rfl⟩
 · refine ⟨rfl, rfl, rfl, by show (w.heap.modify g _).size = w.heap.size; rw [Array.size_modify], fun i hi => ?_⟩
   have hne : g ≠ i := fun e => hi (by rw [e]; rfl)
   show (w.heap.modify g _)[i]? = w.heap[i]?
   rw [Array.getElem?_modify, if_neg hne]
set_option maxHeartbeats 2000000 in
set_option maxRecDepth 100000 in
theorem strx_any (B b : Nat) (p v : Value) (t : ByteArray) (w : World) (hbk : w.heap[b]? = some (.cells #[p, v] 136 (0, 0))) (hown : w.ownsRowF B 5 1 v t.size (Lib.byteCells t.data.toList)) (hz : t.size = 0 → v = .slice none 0 0) :
 Calls Tryz.prog 105 #[.pointer (some ⟨b, 0, none⟩)] w fun e w' => e = .returned (.string t) ∧ StX v w w' := by
 by_cases h0 : t.size = 0
 · obtain rfl := hz h0
   obtain rfl : t = ⟨#[]⟩ := ByteArray.size_eq_zero_iff.1 h0
   have c1 : w.drew.cell? ⟨b, 1, none⟩ = some (.slice none 0 0) := by
    have : w.drew.heap[b]? = some (.cells #[p, .slice none 0 0] 136 (0, 0)) := hbk
    rw [Lib.cell_of_heap this]; rfl
   have HF : Hid (StX (.slice none 0 0) w w.drew) := Lib.hid ⟨rfl, rfl, rfl, rfl, fun i _ => rfl⟩
   have hUS : ∀ W, (Builtin.unsafeString_ #[171, 3] 9 #[.pointer none, .int .i64 0]).run Tryz.prog W = .ok (.string .empty) W := fun W => Lib.run_unsafeString_none W _ _ _ none
   have hSD : (Builtin.unsafeSliceData_ #[134] 171 #[.slice none 0 0]).run Tryz.prog w.drew = .ok (.pointer none) w.drew := rfl
   clear hown hbk hz h0
   have mixed : Tryz.prog.follows .mixedOrders = true := by kernel_rfl
   go_enter Tryz.func105, Tryz.ntmps105
   go_wp2
   go_region_o
   all_goals (go_wp2; go_ret; exact ⟨rfl, HF.out⟩)
 · obtain ⟨g, cap, cur, fz, rfl, hbg, hg, hfz, hnc, hcm, hcs, htake⟩ : ∃ g cap cur fz, v = .slice (some ⟨g, 0, none⟩) t.size cap ∧ B ≤ g ∧ w.heap[g]? = some (.cells cur 5 fz) ∧ fz.2 ≤ t.size * 1 ∧ t.size ≤ cap ∧ cap ≤ maxLen ∧ cur.size = cap * 1 ∧ cur.toList.take (t.size * 1) = Lib.byteCells t.data.toList := by
    rcases hown.2 with ⟨_, hz⟩ | ⟨g, cap, cur, fz, hv, r⟩
    · exact absurd hz h0
    · exact ⟨g, cap, cur, fz, hv, r⟩
   have c1 : w.drew.cell? ⟨b, 1, none⟩ = some (.slice (some ⟨g, 0, none⟩) t.size cap) := by
    have : w.drew.heap[b]? = some (.cells #[p, .slice (some ⟨g, 0, none⟩) t.size cap] 136 (0, 0)) := hbk
    rw [Lib.cell_of_heap this]; rfl
   have hSD : (Builtin.unsafeSliceData_ #[134] 171 #[.slice (some ⟨g, 0, none⟩) t.size cap]).run Tryz.prog w.drew = .ok (.pointer (some ⟨g, 0, none⟩)) w.drew :=
    Lib.run_unsafeSliceData_row _ _ _ _ _ _ (by omega)
   have hl0 : t.data.toList ≠ [] := fun e => h0 (by have := congrArg List.length e; simpa using this)
   have hlen : t.data.toList.length = t.size := by simp
   have hUS : (Builtin.unsafeString_ #[171, 3] 9 #[.pointer (some ⟨g, 0, none⟩), .int .i64 t.size]).run Tryz.prog w.drew = .ok (.string t) (w.drew.freeze ⟨g, 0, none⟩ t.size) := by
    have := Lib.run_unsafeString_row (P := Tryz.prog) w.drew 171 3 9 5 Tryz.underlying171 (by kernel_rfl) g cur.size (by have hg' : w.drew.heap[g]? = some (.cells cur 5 fz) := hg; simp [World.shape?, hg']) t.data.toList hl0 (by rw [hlen]; omega) (by unfold maxLen at hcm; rw [hlen]; omega) (fun j x hx => by
     have := hown.cells (g := g) rfl j (.int .u8 x.toNat) (by simp [Lib.byteCells, hx])
     exact this)
    rw [hlen] at this
    rw [this]
   have HF : Hid (StX (.slice (some ⟨g, 0, none⟩) t.size cap) w (w.drew.freeze ⟨g, 0, none⟩ t.size)) := Lib.hid (StX.freeze w g t.size t.size cap)
   clear hown hbk hz h0 hg hcs htake hl0 hlen
   have mixed : Tryz.prog.follows .mixedOrders = true := by kernel_rfl
   go_enter Tryz.func105, Tryz.ntmps105
   go_wp2
   go_region_o
   all_goals (go_wp2; go_ret; exact ⟨rfl, HF.out⟩)
end Go.Proofs.YtnhobagjpjcigaaGreatDoor
