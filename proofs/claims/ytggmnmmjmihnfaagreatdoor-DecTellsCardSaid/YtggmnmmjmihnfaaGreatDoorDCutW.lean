/-
 strings.Builder: two of the call's own beside each other: what a write into one leaves of all else.
 Law 3: how a literal is cut up (dec.cut).
 Law 3: how a literal is cut up (dec.cut), the walk.
-/
import Derived.Test.YtggmnmmjmihnfaaGreatDoorNSmall
import Derived.Test.YtggmnmmjmihnfaaGreatDoorDLit
import Derived.Test.YtggmnmmjmihnfaaGreatDoorQMake
import Derived.Deep.CutBlock
import Derived.Deep.DeepCutAuto
import Derived.Deep.CutRange
namespace Go.Proofs.YtggmnmmjmihnfaaGreatDoor
open Go.RowKit
set_option linter.unusedVariables false
/-- The builder in block b holds t; its row lies from block B on. -/
def Bdx (B b : Nat) (t : ByteArray) (w : World) : Prop := ∃ p v, (p = .pointer none ∨ p = .pointer (some ⟨b, 0, none⟩)) ∧ w.heap[b]? = some (.cells #[p, v] 87 (0, 0)) ∧ w.ownsRowF B 5 1 v t.size (Lib.byteCells t.data.toList) ∧ (t.size = 0 → v = .slice none 0 0)
/-- Blocks below B stay, but for b. -/
structure Fx (B b : Nat) (w w' : World) : Prop where
 os : w'.os = w.os
 tape : w'.tape = w.tape
 output : w'.output = w.output
 size : w.heap.size ≤ w'.heap.size
 block : ∀ i, i < B → i ≠ b → w'.heap[i]? = w.heap[i]?
theorem rowF_mono {w : World} {B C : Nat} {e : TypeId} {z : Nat} {v : Value} {n : Nat} {xs : List Value} (h : w.ownsRowF B e z v n xs) (hC : C ≤ B) : w.ownsRowF C e z v n xs := by
 refine ⟨h.1, ?_⟩
 rcases h.2 with h2 | ⟨g, cap, cur, fz, h3, h4, h5⟩
 · exact .inl h2
 · exact .inr ⟨g, cap, cur, fz, h3, by omega, h5⟩
theorem rowF_far {w : World} {B b : Nat} {p v v0 : Value} {n : Nat} {xs : List Value} (h : w.ownsRowF B 5 1 v n xs) (hb : w.heap[b]? = some (.cells #[p, v0] 87 (0, 0))) : v.ownBlock ≠ some b := by
 rcases h.2 with ⟨rfl, _⟩ | ⟨g, cap, cur, fz, rfl, _, hg, _⟩
 · simp [Value.ownBlock]
 · intro e
   obtain rfl : g = b := by simpa [Value.ownBlock] using e
   rw [hb] at hg
   simp at hg
theorem rowF_kept {w w' : World} {B : Nat} {v : Value} {n : Nat} {xs : List Value} (h : w.ownsRowF B 5 1 v n xs) (hk : ∀ g, v.ownBlock = some g → w'.heap[g]? = w.heap[g]?) : w'.ownsRowF B 5 1 v n xs := by
 refine ⟨h.1, ?_⟩
 rcases h.2 with h2 | ⟨g, cap, cur, fz, h3, h4, h5, h6⟩
 · exact .inl h2
 · exact .inr ⟨g, cap, cur, fz, h3, h4, (hk g (by rw [h3]; rfl)).trans h5, h6⟩
theorem heap_lt {w : World} {b : Nat} {o : Obj} (h : w.heap[b]? = some o) : b < w.heap.size := (Array.getElem?_eq_some_iff.1 h).1
theorem Bdx.new {w : World} {b : Nat} (B : Nat) (h : w.heap[b]? = some (.cells #[.pointer none, .slice none 0 0] 87 (0, 0))) : Bdx B b ⟨#[]⟩ w := ⟨_, _, .inl rfl, h, World.ownsRowF_nil _ _ _ _, fun _ => rfl⟩
/-- A builder that nothing touches stays. -/
theorem Bdx.kept {B b : Nat} {t : ByteArray} {w w' : World} (h : Bdx B b t w) (hk : ∀ i, i < w.heap.size → w'.heap[i]? = w.heap[i]?) : Bdx B b t w' := by
 obtain ⟨p, v, hp, hb, hr, hz⟩ := h
 refine ⟨p, v, hp, (hk b (heap_lt hb)).trans hb, rowF_kept hr (fun g hg => ?_), hz⟩
 rcases hr.2 with ⟨rfl, _⟩ | ⟨g', cap, cur, fz, rfl, _, hg', _⟩
 · simp [Value.ownBlock] at hg
 · obtain rfl : g' = g := by simpa [Value.ownBlock] using hg
   exact hk g' (heap_lt hg')
theorem Bdx.keptBut {B b c : Nat} {t : ByteArray} {w w' : World} {ty : TypeId} {cs : Array Value} (h : Bdx B b t w) (hc : w.heap[c]? = some (.cells cs ty (0, 0))) (ht : ty ≠ 5) (hbc : b ≠ c) (hk : ∀ i, i < w.heap.size → i ≠ c → w'.heap[i]? = w.heap[i]?) : Bdx B b t w' := by
 obtain ⟨p, v, hp, hb, hr, hz⟩ := h
 refine ⟨p, v, hp, (hk b (heap_lt hb) hbc).trans hb, rowF_kept hr (fun g hg => ?_), hz⟩
 rcases hr.2 with ⟨rfl, _⟩ | ⟨g', cap, cur, fz, rfl, _, hg', _⟩
 · simp [Value.ownBlock] at hg
 · obtain rfl : g' = g := by simpa [Value.ownBlock] using hg
   refine hk g' (heap_lt hg') (fun e => ?_)
   subst e
   rw [hc] at hg'
   simp at hg'
   exact ht hg'.2.1
theorem Bdx.is {B b : Nat} {t : ByteArray} {w : World} (h : Bdx B b t w) : ∃ p v, (p = .pointer none ∨ p = .pointer (some ⟨b, 0, none⟩)) ∧ w.heap[b]? = some (.cells #[p, v] 87 (0, 0)) ∧ w.ownsRowF B 5 1 v t.size (Lib.byteCells t.data.toList) ∧ (t.size = 0 → v = .slice none 0 0) ∧ Lib.BuilderAtF 87 5 0 b p (Lib.byteCells t.data.toList) w := by
 obtain ⟨p, v, hp, hb, hr, hz⟩ := h
 exact ⟨p, v, hp, hb, hr, hz, Nat.zero_le _, v, hb, by rw [cells_len]; exact rowF_mono hr (Nat.zero_le _), rowF_far hr hb⟩
/-- Behind copyCheck. -/
structure CpX (b : Nat) (v : Value) (w w' : World) : Prop where
 own : w'.heap[b]? = some (.cells #[.pointer (some ⟨b, 0, none⟩), v] 87 (0, 0))
 os : w'.os = w.os
 tape : w'.tape = w.tape
 output : w'.output = w.output
 size : w'.heap.size = w.heap.size
 block : ∀ i, i ≠ b → w'.heap[i]? = w.heap[i]?
set_option maxHeartbeats 1000000 in
set_option maxRecDepth 100000 in
theorem copyx_any (b : Nat) (p v : Value) (bs : List Value) (w : World) (hp : p = .pointer none ∨ p = .pointer (some ⟨b, 0, none⟩)) (hb : w.heap[b]? = some (.cells #[p, v] 87 (0, 0))) (h : Lib.BuilderAtF 87 5 0 b p bs w) :
 Calls Tryz.prog 84 #[.pointer (some ⟨b, 0, none⟩)] w fun e w' => e = .returned (.tuple #[]) ∧ CpX b v w w' := by
 obtain ⟨j, hj, hjs⟩ := Option.map_eq_some_iff.1 Tryz.sizeBd
 rcases hp with rfl | rfl
 · have h0 := h.cell0
   have hsh := h.shape
   have hfz := h.frozen0
   have HC : Hid (CpX b v w (w.setCell ⟨b, 0, none⟩ (.pointer (some ⟨b, 0, none⟩)))) := Lib.hid ⟨by simp [World.setCell, Array.getElem?_modify, hb], rfl, rfl, rfl, by simp, fun i hi => Below.heap_setCell _ _ _ i hi⟩
   clear hb
   go_enter Tryz.func84, Tryz.ntmps84
   go_wp2
   rw [Lib.run_to_unsafe w ⟨b, 0, none⟩ Tryz.underlying84 Tryz.underlying137 hj (by rw [hjs]; decide) hsh (Nat.zero_lt_succ 1)]
   simp only [Result.andThen]
   rw [Oper.upon_value]
   go_wp2
   rw [run_callFunc_extern Tryz.func106 (by kernel_rfl) (by kernel_rfl) (by kernel_rfl) (e := Extern.AbiNoEscape.same) (by kernel_rfl)]
   rw [Lib.run_noEscape]
   simp only [Result.andThen]
   rw [Oper.upon_value]
   go_wp2
   rw [Lib.run_from_unsafe w ⟨b, 0, none⟩ Tryz.underlying137 Tryz.underlying84 hj hsh Tryz.liesBd]
   simp only [Result.andThen]
   rw [Oper.upon_value]
   go_wp2
   go_end0
   exact ⟨rfl, HC.out⟩
 · have h0 := h.cell0
   have HC : Hid (CpX b v w w) := Lib.hid ⟨hb, rfl, rfl, rfl, rfl, fun i hi => rfl⟩
   clear hb
   go_enter Tryz.func84, Tryz.ntmps84
   go_wp2
   rw [Lib.run_neq_ptr_same w _ Tryz.underlying84 hj]
   go_wp2
   go_end0
   exact ⟨rfl, HC.out⟩
theorem cells_push (s : ByteArray) (n : Nat) (hn : n < 256) : Lib.byteCells (s.push (UInt8.ofNat n)).data.toList = Lib.byteCells s.data.toList ++ [.int .u8 (n : Int)] := by
 have h2 : (UInt8.ofNat n).toNat = n := by simp; omega
 have h1 : (s.push (UInt8.ofNat n)).data.toList = s.data.toList ++ [UInt8.ofNat n] := by simp
 rw [h1]
 simp only [Lib.byteCells, List.map_append, List.map_cons, List.map_nil]
 rw [h2]
set_option maxHeartbeats 2000000 in
set_option maxRecDepth 100000 in
theorem wbx_any (B b : Nat) (t : ByteArray) (n : Nat) (w : World) (hn : n < 256) (h : Bdx B b t w) (hlen : t.size + 1 ≤ 140737488355328) (hBw : B ≤ w.heap.size) :
 Calls Tryz.prog 50 #[.pointer (some ⟨b, 0, none⟩), .int .u8 (n : Int)] w fun e w' => e = .returned .nilIface ∧ Bdx B b (t.push (UInt8.ofNat n)) w' ∧ Fx B b w w' := by
 obtain ⟨i0, hi, hz0, hz1, hz2⟩ := info_parts Tryz.infoU8
 obtain ⟨c, hc⟩ : ∃ c : Int, (n : Int) = c := ⟨_, rfl⟩
 obtain ⟨p, v, hp, hb, hr, _, hAt⟩ := h.is
 have HCp := Lib.hid (copyx_any b p v _ w hp hb hAt)
 rw [hc]
 go_enter Tryz.func50, Tryz.ntmps50
 go_wp2_with (refine HCp.out.mono ?_)
 rintro e w1 ⟨rfl, h1⟩
 have hbk := h1.own
 have hown := rowF_kept hr (w' := w1) (fun g hg => h1.block g (fun e => rowF_far hr hb (by rw [hg, e])))
 have c0 : w1.cell? ⟨b, 0, none⟩ = some (.pointer (some ⟨b, 0, none⟩)) := by rw [Lib.cell_of_heap hbk]; rfl
 have c1 : w1.cell? ⟨b, 1, none⟩ = some v := by rw [Lib.cell_of_heap hbk]; rfl
 have HS1 := Lib.hid h1.size
 go_wp2_with (at_builtin; refine wpList_append_ownF _ rfl _ _ 85 rfl B 5 i0 (.int .u8 0) 1 1 Tryz.underlying85 hi hz0 hz1 hz2 rfl (by decide) _ _ _ rfl (hown.alloc _) ⟨w1.heap.size, 0, none⟩ 1 1 [.int .u8 c] rfl rfl ?c1 ?c2 ?c3 ?c4 ?c5 ?_)
 case c1 =>
  intro j u hj
  match j, hj with
  | 0, hj => simp at hj; subst hj; simp [Addr.add]
 case c2 => intro u hu; simp at hu; subst hu; rfl
 case c3 => unfold maxLen; omega
 case c4 => omega
 case c5 => have := HS1.out; simp; omega
 intro v' w2 hown' hgrow _
 have hs1 := HS1.out
 have hlt : b < w1.heap.size := heap_lt hbk
 have hb2 : w2.heap[b]? = some (.cells #[.pointer (some ⟨b, 0, none⟩), v] 87 (0, 0)) := by
  rw [hgrow.block b (by simp; omega) (fun e => rowF_far hown hbk e.symm), Lib.alloc_old w1 _ b hlt]
  exact hbk
 have d0 : w2.cell? ⟨b, 0, none⟩ = some (.pointer (some ⟨b, 0, none⟩)) := by rw [Lib.cell_of_heap hb2]; rfl
 have d1 : w2.cell? ⟨b, 1, none⟩ = some v := by rw [Lib.cell_of_heap hb2]; rfl
 have f1 : w2.frozen? ⟨b, 1, none⟩ = false := Lib.frozen_of_heap hb2 1
 obtain ⟨g, cap, rfl⟩ : ∃ g cap, v' = .slice (some ⟨g, 0, none⟩) (t.size + 1) cap := by
  rcases hown'.2 with ⟨_, h0⟩ | ⟨g, cap, cur, fz, hv, _⟩
  · omega
  · exact ⟨g, cap, hv⟩
 have hne2 := rowF_far hown' hb2
 have hgs := hgrow.size
 rw [World.size_alloc] at hgs
 have HF : Hid (Bdx B b (t.push (UInt8.ofNat n)) (w2.setCell ⟨b, 1, none⟩ (.slice (some ⟨g, 0, none⟩) (t.size + 1) cap)) ∧ Fx B b w (w2.setCell ⟨b, 1, none⟩ (.slice (some ⟨g, 0, none⟩) (t.size + 1) cap))) := Lib.hid (by
  refine ⟨⟨_, .slice (some ⟨g, 0, none⟩) (t.size + 1) cap, .inr rfl, by simp [World.setCell, Array.getElem?_modify, hb2], ?_, fun h0 => ?_⟩, ?_⟩
  · have hps : (t.push (UInt8.ofNat n)).size = t.size + 1 := by simp
    rw [hps, cells_push t n hn, hc]
    exact rowF_kept hown' (fun g' hg' => Below.heap_setCell _ _ _ g' (fun e => hne2 (by rw [hg', e])))
  · have hps : (t.push (UInt8.ofNat n)).size = t.size + 1 := by simp
    omega
  · refine ⟨?_, ?_, ?_, ?_, fun i hi hib => ?_⟩
    · exact (hgrow.os).trans h1.os
    · exact (hgrow.tape).trans h1.tape
    · exact (hgrow.output).trans h1.output
    · rw [World.size_setCell]; omega
    · rw [Below.heap_setCell _ _ _ i hib]
      rw [hgrow.block i (by simp; omega) (fun e => ?_), Lib.alloc_old w1 _ i (by omega), h1.block i hib]
      rcases hown.2 with ⟨rfl, _⟩ | ⟨g', cap', cur', fz', rfl, hBg, _⟩
      · simp [Value.ownBlock] at e
      · have : i = g' := by simpa [Value.ownBlock] using e
        omega)
 clear hgrow hown' hown h1 hgs hs1
 go_wp2
 go_ret
 exact ⟨rfl, HF.out⟩
/-- Blocks stay, but for the row v. -/
structure StX (v : Value) (w w' : World) : Prop where
 os : w'.os = w.os
 tape : w'.tape = w.tape
 output : w'.output = w.output
 size : w'.heap.size = w.heap.size
 block : ∀ i, some i ≠ v.ownBlock → w'.heap[i]? = w.heap[i]?
theorem StX.freeze (w : World) (g n m c : Nat) : StX (.slice (some ⟨g, 0, none⟩) m c) w (w.drew.freeze ⟨g, 0, none⟩ n) :=
by
 unfold World.freeze
 split
 · exact ⟨rfl, rfl, rfl, rfl, fun i _ => rfl⟩
 · refine ⟨rfl, rfl, rfl, by show (w.heap.modify g _).size = w.heap.size; rw [Array.size_modify], fun i hi => ?_⟩
   have hne : g ≠ i := fun e => hi (by rw [e]; rfl)
   show (w.heap.modify g _)[i]? = w.heap[i]?
   rw [Array.getElem?_modify, if_neg hne]
set_option maxHeartbeats 2000000 in
set_option maxRecDepth 100000 in
theorem strx_any (B b : Nat) (p v : Value) (t : ByteArray) (w : World) (hbk : w.heap[b]? = some (.cells #[p, v] 87 (0, 0))) (hown : w.ownsRowF B 5 1 v t.size (Lib.byteCells t.data.toList)) (hz : t.size = 0 → v = .slice none 0 0) :
 Calls Tryz.prog 51 #[.pointer (some ⟨b, 0, none⟩)] w fun e w' => e = .returned (.string t) ∧ StX v w w' := by
 by_cases h0 : t.size = 0
 · obtain rfl := hz h0
   obtain rfl : t = ⟨#[]⟩ := ByteArray.size_eq_zero_iff.1 h0
   have c1 : w.drew.cell? ⟨b, 1, none⟩ = some (.slice none 0 0) := by
    have : w.drew.heap[b]? = some (.cells #[p, .slice none 0 0] 87 (0, 0)) := hbk
    rw [Lib.cell_of_heap this]; rfl
   have HF : Hid (StX (.slice none 0 0) w w.drew) := Lib.hid ⟨rfl, rfl, rfl, rfl, fun i _ => rfl⟩
   have hUS : ∀ W, (Builtin.unsafeString_ #[123, 3] 9 #[.pointer none, .int .i64 0]).run Tryz.prog W = .ok (.string .empty) W := fun W => Lib.run_unsafeString_none W _ _ _ none
   have hSD : (Builtin.unsafeSliceData_ #[85] 123 #[.slice none 0 0]).run Tryz.prog w.drew = .ok (.pointer none) w.drew := rfl
   clear hown hbk hz h0
   have mixed : Tryz.prog.follows .mixedOrders = true := by kernel_rfl
   go_enter Tryz.func51, Tryz.ntmps51
   go_wp2
   go_region_o
   all_goals (go_wp2; go_ret; exact ⟨rfl, HF.out⟩)
 · obtain ⟨g, cap, cur, fz, rfl, hbg, hg, hfz, hnc, hcm, hcs, htake⟩ : ∃ g cap cur fz, v = .slice (some ⟨g, 0, none⟩) t.size cap ∧ B ≤ g ∧ w.heap[g]? = some (.cells cur 5 fz) ∧ fz.2 ≤ t.size * 1 ∧ t.size ≤ cap ∧ cap ≤ maxLen ∧ cur.size = cap * 1 ∧ cur.toList.take (t.size * 1) = Lib.byteCells t.data.toList := by
    rcases hown.2 with ⟨_, hz⟩ | ⟨g, cap, cur, fz, hv, r⟩
    · exact absurd hz h0
    · exact ⟨g, cap, cur, fz, hv, r⟩
   have c1 : w.drew.cell? ⟨b, 1, none⟩ = some (.slice (some ⟨g, 0, none⟩) t.size cap) := by
    have : w.drew.heap[b]? = some (.cells #[p, .slice (some ⟨g, 0, none⟩) t.size cap] 87 (0, 0)) := hbk
    rw [Lib.cell_of_heap this]; rfl
   have hSD : (Builtin.unsafeSliceData_ #[85] 123 #[.slice (some ⟨g, 0, none⟩) t.size cap]).run Tryz.prog w.drew = .ok (.pointer (some ⟨g, 0, none⟩)) w.drew :=
    Lib.run_unsafeSliceData_row _ _ _ _ _ _ (by omega)
   have hl0 : t.data.toList ≠ [] := fun e => h0 (by have := congrArg List.length e; simpa using this)
   have hlen : t.data.toList.length = t.size := by simp
   have hUS : (Builtin.unsafeString_ #[123, 3] 9 #[.pointer (some ⟨g, 0, none⟩), .int .i64 t.size]).run Tryz.prog w.drew = .ok (.string t) (w.drew.freeze ⟨g, 0, none⟩ t.size) := by
    have := Lib.run_unsafeString_row (P := Tryz.prog) w.drew 123 3 9 5 Tryz.underlying123 (by kernel_rfl) g cur.size (by have hg' : w.drew.heap[g]? = some (.cells cur 5 fz) := hg; simp [World.shape?, hg']) t.data.toList hl0 (by rw [hlen]; omega) (by unfold maxLen at hcm; rw [hlen]; omega) (fun j x hx => by
     have := hown.cells (g := g) rfl j (.int .u8 x.toNat) (by simp [Lib.byteCells, hx])
     exact this)
    rw [hlen] at this
    rw [this]
   have HF : Hid (StX (.slice (some ⟨g, 0, none⟩) t.size cap) w (w.drew.freeze ⟨g, 0, none⟩ t.size)) := Lib.hid (StX.freeze w g t.size t.size cap)
   clear hown hbk hz h0 hg hcs htake hl0 hlen
   have mixed : Tryz.prog.follows .mixedOrders = true := by kernel_rfl
   go_enter Tryz.func51, Tryz.ntmps51
   go_wp2
   go_region_o
   all_goals (go_wp2; go_ret; exact ⟨rfl, HF.out⟩)
end Go.Proofs.YtggmnmmjmihnfaaGreatDoor
namespace Go.Proofs.YtggmnmmjmihnfaaGreatDoor
open Go.RowKit
set_option linter.unusedVariables false
abbrev LT : TypeId := 51
/-- What lies in memory while a literal is cut up. -/
structure Lm (w : World) (B b2 b4 b5 b6 : Nat) (s : LS) (W : World) : Prop where
 bel : Below w.heap.size w W
 r2 : Blk W b2 51 #[.bool false, .string ⟨#[]⟩, .int .i64 0, .bool false, .string ⟨#[]⟩]
 r4 : Blk W b4 51 #[.bool s.neg, .string ⟨#[]⟩, .int .i64 (s.pl : Int), .bool s.low, .string ⟨#[]⟩]
 two : ∃ C p v, B ≤ C ∧ C ≤ W.heap.size ∧ (p = .pointer none ∨ p = .pointer (some ⟨b5, 0, none⟩)) ∧ W.heap[b5]? = some (.cells #[p, v] 87 (0, 0)) ∧ W.ownsRowF B 5 1 v (bz s.ds).size (Lib.byteCells (bz s.ds).data.toList) ∧ ((bz s.ds).size = 0 → v = .slice none 0 0) ∧ (∀ g, v.ownBlock = some g → g < C) ∧ Bdx C b6 (bz s.es) W
/-- The boxes' order. -/
structure Lo (w : World) (B b2 b4 b5 b6 : Nat) : Prop where
 o2 : w.heap.size ≤ b2
 o4 : b2 < b4
 o5 : b4 < b5
 o6 : b5 < b6
 oB : b6 < B
section
variable {w W W' : World} {B b2 b4 b5 b6 : Nat} {s : LS}
theorem own_lt {W : World} {B n : Nat} {v : Value} {xs : List Value} {g : Nat} (h : W.ownsRowF B 5 1 v n xs) (hg : v.ownBlock = some g) : g < W.heap.size ∧ B ≤ g := by
 rcases h.2 with ⟨rfl, _⟩ | ⟨g', cap, cur, fz, rfl, hb, hg', _⟩
 · simp [Value.ownBlock] at hg
 · obtain rfl : g' = g := by simpa [Value.ownBlock] using hg
   exact ⟨heap_lt hg', hb⟩
theorem Bdx.empty {C C' b : Nat} (h : Bdx C b (bz []) W) : Bdx C' b (bz []) W := by
 obtain ⟨p, v, hp, hb, hr, hz⟩ := h
 obtain rfl := hz (by rw [bz_size]; rfl)
 exact ⟨p, _, hp, hb, World.ownsRowF_nil _ _ _ _, fun _ => rfl⟩
/-- A digit ahead of the exponent. -/
theorem Lm.digit (h : Lm w B b2 b4 b5 b6 s W) (ho : Lo w B b2 b4 b5 b6) (he : s.es = []) {l : List UInt8} (hB : Bdx B b5 (bz l) W') (hF : Fx B b5 W W') : Lm w B b2 b4 b5 b6 { s with ds := l } W' := by
 obtain ⟨h1, h2, h3, C, p, v, c1, c2, c3, c4, c5, c6, c7, c8⟩ := h
 obtain ⟨o2, o4, o5, o6, oB⟩ := ho
 obtain ⟨p', v', d3, d4, d5, d6⟩ := hB
 refine ⟨⟨hF.os.trans h1.os, hF.tape.trans h1.tape, hF.output.trans h1.output, Nat.le_trans h1.size hF.size, fun i hi => (hF.block i (by omega) (by omega)).trans (h1.block i hi)⟩, (hF.block b2 (by omega) (by omega)).trans h2, (hF.block b4 (by omega) (by omega)).trans h3,
  W'.heap.size, p', v', Nat.le_trans (Nat.le_trans c1 c2) hF.size, Nat.le_refl _, d3, d4, d5, d6, fun g hg => (own_lt d5 hg).1, ?_⟩
 show Bdx _ b6 (bz s.es) W'
 rw [he] at c8 ⊢
 obtain ⟨q, u, e1, e2, e3, e4⟩ := c8
 obtain rfl := e4 (by rw [bz_size]; rfl)
 exact ⟨q, _, e1, (hF.block b6 (by omega) (by omega)).trans e2, World.ownsRowF_nil _ _ _ _, fun _ => rfl⟩
/-- The digits' builder by itself. -/
theorem Lm.five (h : Lm w B b2 b4 b5 b6 s W) : Bdx B b5 (bz s.ds) W := by
 obtain ⟨h1, h2, h3, C, p, v, c1, c2, c3, c4, c5, c6, c7, c8⟩ := h
 exact ⟨p, v, c3, c4, c5, c6⟩
theorem ofNat_u8 (b : UInt8) : UInt8.ofNat b.toNat = b := by simp
/-- A digit ahead of the exponent is written. -/
theorem Lm.callD (h : Lm w B b2 b4 b5 b6 s W) (ho : Lo w B b2 b4 b5 b6) (he : s.es = []) (hl : s.ds.length ≤ 1000) (b : UInt8) : Calls Tryz.prog 50 #[.pointer (some ⟨b5, 0, none⟩), .int .u8 (b.toNat : Int)] W fun e w' => e = .returned .nilIface ∧ Lm w B b2 b4 b5 b6 { s with ds := s.ds ++ [b] } w' := by
 have hsz := h.two
 obtain ⟨C, p, v, c1, c2, _⟩ := hsz
 refine (wbx_any B b5 (bz s.ds) b.toNat W b.toNat_lt h.five (by rw [bz_size]; omega) (by omega)).mono fun e w' h' => ⟨h'.1, ?_⟩
 have hp := h'.2.1
 rw [ofNat_u8, bz_push] at hp
 exact h.digit ho he hp h'.2.2
/-- A digit of the exponent is written. -/
theorem Lm.callE (h : Lm w B b2 b4 b5 b6 s W) (ho : Lo w B b2 b4 b5 b6) (hl : s.es.length ≤ 1000) (b : UInt8) : Calls Tryz.prog 50 #[.pointer (some ⟨b6, 0, none⟩), .int .u8 (b.toNat : Int)] W fun e w' => e = .returned .nilIface ∧ Lm w B b2 b4 b5 b6 { s with es := s.es ++ [b] } w' := by
 obtain ⟨h1, h2, h3, C, p, v, c1, c2, c3, c4, c5, c6, c7, c8⟩ := h
 obtain ⟨o2, o4, o5, o6, oB⟩ := ho
 refine (wbx_any C b6 (bz s.es) b.toNat W b.toNat_lt c8 (by rw [bz_size]; omega) c2).mono fun e w' h' => ⟨h'.1, ?_⟩
 obtain ⟨_, k1, hF⟩ := h'
 rw [ofNat_u8, bz_push] at k1
 exact ⟨⟨hF.os.trans h1.os, hF.tape.trans h1.tape, hF.output.trans h1.output, Nat.le_trans h1.size hF.size, fun i hi => (hF.block i (by omega) (by omega)).trans (h1.block i hi)⟩, (hF.block b2 (by omega) (by omega)).trans h2, (hF.block b4 (by omega) (by omega)).trans h3,
  C, p, v, c1, Nat.le_trans c2 hF.size, c3, (hF.block b5 (by omega) (by omega)).trans c4, rowF_kept c5 (fun g hg => hF.block g (c7 g hg) (by have := (own_lt c5 hg).2; omega)), c6, c7, k1⟩
/-- A field of the literal is written. -/
theorem Lm.field (h : Lm w B b2 b4 b5 b6 s W) (ho : Lo w B b2 b4 b5 b6) (i : Nat) (y : Value) {s' : LS} (hd : s'.ds = s.ds) (he : s'.es = s.es)
 (hc : (#[.bool s.neg, .string ⟨#[]⟩, .int .i64 (s.pl : Int), .bool s.low, .string ⟨#[]⟩] : Array Value).setIfInBounds i y = #[.bool s'.neg, .string ⟨#[]⟩, .int .i64 (s'.pl : Int), .bool s'.low, .string ⟨#[]⟩]) : Lm w B b2 b4 b5 b6 s' (W.setCell ⟨b4, i, none⟩ y) := by
 obtain ⟨h1, h2, h3, C, p, v, c1, c2, c3, c4, c5, c6, c7, c8⟩ := h
 obtain ⟨o2, o4, o5, o6, oB⟩ := ho
 have hk : ∀ j, j ≠ b4 → (W.setCell ⟨b4, i, none⟩ y).heap[j]? = W.heap[j]? := fun j hj => Below.heap_setCell _ _ _ j hj
 refine ⟨h1.setCell (p := ⟨b4, i, none⟩) (by show w.heap.size ≤ b4; omega) _, h2.far (by show b2 ≠ b4; omega) _, by have := h3.set_ i y; rw [hc] at this; exact this, C, p, v, c1, by rw [World.size_setCell]; exact c2, c3, (hk b5 (by omega)).trans c4, ?_, by rw [hd]; exact c6, c7, ?_⟩
 · rw [hd]
   exact rowF_kept c5 (fun g hg => hk g (by have := (own_lt c5 hg).2; omega))
 · rw [he]
   exact c8.keptBut h3 (by decide) (by omega) (fun j _ hj => hk j hj)
/-- The texts that were gathered are handed out. -/
theorem Lm.texts (h : Lm w B b2 b4 b5 b6 s W) (ho : Lo w B b2 b4 b5 b6) : Calls Tryz.prog 51 #[.pointer (some ⟨b5, 0, none⟩)] W fun e w1 => e = .returned (.string (bz s.ds)) ∧ Calls Tryz.prog 51 #[.pointer (some ⟨b6, 0, none⟩)] w1 fun e w2 => e = .returned (.string (bz s.es)) ∧ Below w.heap.size w w2 ∧
 Blk w2 b2 51 #[.bool false, .string ⟨#[]⟩, .int .i64 0, .bool false, .string ⟨#[]⟩] ∧ Blk w2 b4 51 #[.bool s.neg, .string ⟨#[]⟩, .int .i64 (s.pl : Int), .bool s.low, .string ⟨#[]⟩] := by
 obtain ⟨h1, h2, h3, C, p, v, c1, c2, c3, c4, c5, c6, c7, c8⟩ := h
 obtain ⟨o2, o4, o5, o6, oB⟩ := ho
 obtain ⟨q, u, e1, e2, e3, e4⟩ := c8
 refine (strx_any B b5 p v _ W c4 c5 c6).mono fun e w1 hx => ⟨hx.1, ?_⟩
 have hX := hx.2
 have k1 : ∀ i, i < B → w1.heap[i]? = W.heap[i]? := fun i hi => hX.block i (fun e => by have := (own_lt c5 e.symm).2; omega)
 refine (strx_any C b6 q u _ w1 ((k1 b6 oB).trans e2) (rowF_kept e3 (fun g hg => hX.block g (fun e => by have := c7 g e.symm; have := (own_lt e3 hg).2; omega))) e4).mono fun e w2 hy => ⟨hy.1, ?_⟩
 have hY := hy.2
 have k2 : ∀ i, i < B → w2.heap[i]? = W.heap[i]? := fun i hi => (hY.block i (fun e => by
  have h9 : w1.ownsRowF C 5 1 u (bz s.es).size (Lib.byteCells (bz s.es).data.toList) := rowF_kept e3 (fun g hg => hX.block g (fun e => by have := c7 g e.symm; have := (own_lt e3 hg).2; omega))
  have := (own_lt h9 e.symm).2
  omega)).trans (k1 i hi)
 refine ⟨⟨hY.os.trans (hX.os.trans h1.os), hY.tape.trans (hX.tape.trans h1.tape), hY.output.trans (hX.output.trans h1.output), by have := h1.size; have := hX.size; have := hY.size; omega, fun i hi => (k2 i (by omega)).trans (h1.block i hi)⟩, (k2 b2 (by omega)).trans h2, (k2 b4 (by omega)).trans h3⟩
end
end Go.Proofs.YtggmnmmjmihnfaaGreatDoor
namespace Go.Proofs.YtggmnmmjmihnfaaGreatDoor
open Go.RowKit
set_option linter.unusedVariables false
theorem res_lit {fn : Func} {p u : Tmp} (h : fn.results = #[.cell p 51, .tmp u]) (tmps : Array Value) (w : World) (g : Nat) (a : Bool) (s1 : ByteArray) (k : Int) (c : Bool) (s2 : ByteArray) (x : Value) (hp : tmps.getD p undef = .pointer (some ⟨g, 0, none⟩)) (hu : tmps.getD u undef = x) (hg : Blk w g 51 #[.bool a, .string s1, .int .i64 k, .bool c, .string s2]) :
 (results fn tmps).run Tryz.prog w = .ok (.tuple #[.agg #[.bool a, .string s1, .int .i64 k, .bool c, .string s2], x]) w := by
 rw [results_cell_tmp h, hp, hu]
 have e : (loadVar 51 ⟨g, 0, none⟩).run Tryz.prog w = .ok (.agg #[.bool a, .string s1, .int .i64 k, .bool c, .string s2]) w := run_loadVar_row w g 51 51 #[.bool a, .string s1, .int .i64 k, .bool c, .string s2] (0, 0) _ hg Tryz.underlying51 (by kernel_rfl) (by kernel_rfl)
 simp [asAddr, e, Result.andThen]
/-- What cut tells. -/
def CutIs (s : ByteArray) (w : World) (e : Ending) (w' : World) : Prop := e = .returned (.tuple #[.agg #[.bool (lcut s).1.neg, .string (bz (lcut s).1.ds), .int .i64 ((lcut s).1.pl : Int), .bool (lcut s).1.low, .string (bz (lcut s).1.es)], .bool (lok (lcut s))]) ∧ Below w.heap.size w w'
theorem lrun_nil (i : Nat) (p : UInt8) (s : LS) : lrun i p s [] = (s, true) := by unfold lrun; rfl
set_option maxRecDepth 100000 in
set_option maxHeartbeats 8000000 in
theorem dcut_any (s : ByteArray) (w : World) (hs : s.size ≤ 400) : Calls Tryz.prog 18 #[.string s] w (CutIs s w) := by
 obtain ⟨W0, hW0⟩ : ∃ W0, (((w.alloc (.cells #[.bool false, .string ⟨#[]⟩, .int .i64 0, .bool false, .string ⟨#[]⟩] 51)).alloc (.cells #[.bool false, .string ⟨#[]⟩, .int .i64 0, .bool false, .string ⟨#[]⟩] 51)).alloc (.cells #[.pointer none, .slice none 0 0] 87)).alloc (.cells #[.pointer none, .slice none 0 0] 87) = W0 := ⟨_, rfl⟩
 obtain ⟨b2, hb2⟩ : ∃ b, w.heap.size = b := ⟨_, rfl⟩
 obtain ⟨b4, hb4⟩ : ∃ b, b2 + 1 = b := ⟨_, rfl⟩
 obtain ⟨b5, hb5⟩ : ∃ b, b4 + 1 = b := ⟨_, rfl⟩
 obtain ⟨b6, hb6⟩ : ∃ b, b5 + 1 = b := ⟨_, rfl⟩
 obtain ⟨B, hB⟩ : ∃ b, b6 + 1 = b := ⟨_, rfl⟩
 have HLo : Hid (Lo w B b2 b4 b5 b6) := Lib.hid ⟨by omega, by omega, by omega, by omega, by omega⟩
 have HL0 : Hid (Lm w B b2 b4 b5 b6 lzero W0) := Lib.hid (by
  have k1 := Blk.new w 51 #[.bool false, .string ⟨#[]⟩, .int .i64 0, .bool false, .string ⟨#[]⟩]
  have k2 := Blk.new (w.alloc (.cells #[.bool false, .string ⟨#[]⟩, .int .i64 0, .bool false, .string ⟨#[]⟩] 51)) 51 #[.bool false, .string ⟨#[]⟩, .int .i64 0, .bool false, .string ⟨#[]⟩]
  have k3 := Blk.new ((w.alloc (.cells #[.bool false, .string ⟨#[]⟩, .int .i64 0, .bool false, .string ⟨#[]⟩] 51)).alloc (.cells #[.bool false, .string ⟨#[]⟩, .int .i64 0, .bool false, .string ⟨#[]⟩] 51)) 87 #[.pointer none, .slice none 0 0]
  have k4 := Blk.new (((w.alloc (.cells #[.bool false, .string ⟨#[]⟩, .int .i64 0, .bool false, .string ⟨#[]⟩] 51)).alloc (.cells #[.bool false, .string ⟨#[]⟩, .int .i64 0, .bool false, .string ⟨#[]⟩] 51)).alloc (.cells #[.pointer none, .slice none 0 0] 87)) 87 #[.pointer none, .slice none 0 0]
  have q1 := ((k1.alloc (.cells #[.bool false, .string ⟨#[]⟩, .int .i64 0, .bool false, .string ⟨#[]⟩] 51)).alloc (.cells #[.pointer none, .slice none 0 0] 87)).alloc (.cells #[.pointer none, .slice none 0 0] 87)
  have q2 := (k2.alloc (.cells #[.pointer none, .slice none 0 0] 87)).alloc (.cells #[.pointer none, .slice none 0 0] 87)
  have q3 := k3.alloc (.cells #[.pointer none, .slice none 0 0] 87)
  rw [hW0] at q1 q2 q3 k4
  simp only [World.size_alloc, hb2, hb4, hb5, hb6] at q1 q2 q3 k4
  have hbel : Below w.heap.size w W0 := by
   rw [← hW0]
   exact ((((Below.refl _ w).alloc (Nat.le_refl _) _).alloc (by simp) _).alloc (by simp; omega) _).alloc (by simp; omega) _
  have hsz : W0.heap.size = B := by rw [← hW0]; simp; omega
  exact ⟨hbel, q1, q2, B, _, _, Nat.le_refl _, by omega, .inl rfl, q3, World.ownsRowF_nil _ _ _ _, fun _ => rfl, fun g hg => by simp [Value.ownBlock] at hg, Bdx.new _ k4⟩)
 have HL : Hid (lrun 0 0 lzero s.data.toList = lcut s) := Lib.hid rfl
 have Hn : Hid (s.data.toList.length = s.size) := Lib.hid (by simp)
 have HF : Hid (∀ w' r, lcut s = r → Below w.heap.size w w' → CutIs s w (.returned (.tuple #[.agg #[.bool r.1.neg, .string (bz r.1.ds), .int .i64 (r.1.pl : Int), .bool r.1.low, .string (bz r.1.es)], .bool (lok r)])) w') := Lib.hid (fun w' r hr hb => by subst hr; exact ⟨rfl, hb⟩)
 obtain ⟨R, hR⟩ : ∃ R, lcut s = R := ⟨_, rfl⟩
 rw [hR] at HL
 have HR := Lib.hid hR
 obtain ⟨n, hn⟩ : ∃ n, s.size = n := ⟨_, rfl⟩
 rw [hn] at hs Hn
 have HW0 := Lib.hid hW0; have Hb2 := Lib.hid hb2; have Hb4 := Lib.hid hb4; have Hb5 := Lib.hid hb5; have Hb6 := Lib.hid hb6; have HB := Lib.hid hB; have Hsn := Lib.hid hn
 clear hR hW0 hb2 hb4 hb5 hb6 hB
 go_enter Tryz.func18, Tryz.ntmps18
 go_wp2_with fail
 go_step3
 go_wp2_with fail
 simp only [HW0.out, Hb2.out, Hb4.out, Hb5.out, Hb6.out]
 refine wp_label ?_
 go_upto_block 0 with fail
 go_cut [7, 8] (fun p f wc => ∃ st : LS, p = .int .i64 (st.part : Int) ∧ f = .bool R.2 ∧ Hid (R.1 = st) ∧ Hid (Lm w B b2 b4 b5 b6 st wc))
 case first =>
  go_wp2_with fail
  go_loopw [7, 8, 13] (fun p f i wr => ∃ (k : Nat) (st : LS) (prev : UInt8), k ≤ n ∧ i = .int .i64 (k : Int) ∧ f = .bool true ∧ p = .int .i64 (st.part : Int) ∧ Hid (LK k st) ∧ Hid (lrun k prev st (s.data.toList.drop k) = R) ∧ Hid (∀ j, k = j + 1 → s.data.toList[j]? = some prev) ∧ Hid (Lm w B b2 b4 b5 b6 st wr)) (fun _ _ i _ => n - (intOf i).toNat)
  case atStart => exact ⟨0, lzero, 0, by omega, rfl, rfl, rfl, Lib.hid lk_zero, HL, Lib.hid (fun j h => by omega), HL0⟩
  case round =>
   clear HL HL0
   obtain ⟨k, st, prev, hk, rfl, rfl, rfl, hK, hrun, hprev, hM⟩ := hrel
   by_cases hlt : k < n
   · have hks : k < s.size := by rw [Hsn.out]; exact hlt
     have hat := toList_at s k hks
     have hdr : s.data.toList.drop k = s[k] :: s.data.toList.drop (k + 1) := by
      rw [List.drop_eq_getElem_cons (by rw [Hn.out]; exact hlt)]
      congr 1
     obtain ⟨b, hb⟩ : ∃ b, s[k] = b := ⟨_, rfl⟩
     rw [hb] at hat hdr
     obtain ⟨C, hC⟩ : ∃ C : Int, (b.toNat : Int) = C := ⟨_, rfl⟩
     have hC0 : 0 ≤ C := by omega
     have hC2 : C < 256 := by have := b.toNat_lt; omega
     have hi0 : (0 : Int) ≤ (k : Int) := by omega
     have hi1 : (k : Int) < (n : Int) := by omega
     have HC := Lib.hid hC; have Hat := Lib.hid hat
     have hsn := Hsn.out
     have Hgo : Hid (∀ st', lstep k prev st b = some st' → Hid (lrun (k + 1) b st' (s.data.toList.drop (k + 1)) = R) ∧ Hid (LK (k + 1) st')) := Lib.hid (fun st' h => by
      have h1 := hrun.out
      rw [hdr, lrun_go h] at h1
      exact ⟨Lib.hid h1, Lib.hid (lstep_k hK.out h)⟩)
     have Hstop : Hid (lstep k prev st b = none → R = (st, false)) := Lib.hid (fun h => by
      have h1 := hrun.out
      rw [hdr, lrun_stop h] at h1
      exact h1.symm)
     have Hnx : Hid (∀ j, k + 1 = j + 1 → s.data.toList[j]? = some b) := Lib.hid (fun j h => by
      obtain rfl : k = j := by omega
      exact Hat.out)
     obtain ⟨P, hP⟩ : ∃ P : Int, (st.part : Int) = P := ⟨_, rfl⟩
     have HP := Lib.hid hP
     have hPr : 0 ≤ P ∧ P ≤ 2 := by have := hK.out.part; omega
     obtain ⟨hP0, hP2⟩ := hPr
     have Hes : Hid (P ≠ 2 → st.es = []) := Lib.hid (fun h => hK.out.none (by omega))
     have Hpos : Hid (P ≠ 0 → 0 < k) := Lib.hid (fun h => hK.out.pos (by omega))
     have HLn : Hid (st.ds.length ≤ 400 ∧ st.es.length ≤ 400 ∧ st.pl ≤ 400) := Lib.hid (by have := hK.out.ds; have := hK.out.es; have := hK.out.pl; exact ⟨by omega, by omega, by omega⟩)
     rw [hP]
     clear hP hdr hrun hK
     by_cases hd : 48 ≤ C ∧ C ≤ 57
     · obtain ⟨hd1, hd2⟩ := hd
       by_cases hp2 : P = 2
       · subst hp2
         have HS : Hid (lstep k prev st b = some { st with es := st.es ++ [b] }) := Lib.hid (by have e1 := HC.out; have e2 := HP.out; unfold lstep; rw [if_pos ⟨by omega, by omega⟩, if_pos (by omega)])
         obtain ⟨hrun', hK'⟩ := Hgo.out _ HS.out
         have HCe := Lib.hid (hM.out.callE HLo.out (by have := HLn.out; omega) b)
         rw [HC.out] at HCe
         clear Hgo Hstop hM
         go_wp2_with fail
         refine HCe.out.mono ?_
         rintro e w8 ⟨rfl, hM8⟩
         have HM' := Lib.hid hM8
         clear hM8 HCe
         go_wp2_with fail
         go_roundw
         case rel => first | exact ⟨k + 1, { st with es := st.es ++ [b] }, b, by omega, by go_num, rfl, (show Value.int .i64 2 = .int .i64 (st.part : Int) by rw [HP.out]), hK', hrun', Hnx, HM'⟩ | ((repeat apply Exists.intro); exact ⟨⟨k + 1, { st with es := st.es ++ [b] }, b, by omega, by go_num, rfl, (show Value.int .i64 2 = .int .i64 (st.part : Int) by rw [HP.out]), hK', hrun', Hnx, HM'⟩, rfl⟩)
         case measure => simp [intOf]; omega
       · have hp2b : (P == 2) = false := by simpa using hp2
         have HS : Hid (lstep k prev st b = some { st with ds := st.ds ++ [b], pl := st.pl + st.part }) := Lib.hid (by have e1 := HC.out; have e2 := HP.out; unfold lstep; rw [if_pos ⟨by omega, by omega⟩, if_neg (by omega)])
         obtain ⟨hrun', hK'⟩ := Hgo.out _ HS.out
         have HCd := Lib.hid (hM.out.callD HLo.out (Hes.out hp2) (by have := HLn.out; omega) b)
         rw [HC.out] at HCd
         obtain ⟨Z, hZ⟩ : ∃ Z : Int, (st.pl : Int) = Z := ⟨_, rfl⟩
         have hZ0 : 0 ≤ Z := by omega
         have hZ1 : Z ≤ 400 := by have := HLn.out; omega
         have HZ := Lib.hid hZ
         clear Hgo Hstop hM hZ
         go_wp2_with fail
         refine HCd.out.mono ?_
         rintro e w8 ⟨rfl, hM8⟩
         have q2 : w8.cell? ⟨b4, 2, none⟩ = some (.int .i64 Z) := by rw [← HZ.out]; exact hM8.r4.cell 2
         have fq2 := hM8.r4.frozen 2
         have HM' : Hid (Lm w B b2 b4 b5 b6 { st with ds := st.ds ++ [b], pl := st.pl + st.part } (w8.setCell ⟨b4, 2, none⟩ (.int .i64 (Z + P)))) := Lib.hid (hM8.field HLo.out 2 _ rfl rfl (by
          have e1 : Z + P = ((st.pl + st.part : Nat) : Int) := by rw [← HZ.out, ← HP.out]; simp
          rw [e1]; rfl))
         clear hM8 HCd
         go_wp2_with fail
         go_roundw
         case rel => first | exact ⟨k + 1, { st with ds := st.ds ++ [b], pl := st.pl + st.part }, b, by omega, by go_num, rfl, (show Value.int .i64 P = .int .i64 (st.part : Int) by rw [HP.out]), hK', hrun', Hnx, HM'⟩ | ((repeat apply Exists.intro); exact ⟨⟨k + 1, { st with ds := st.ds ++ [b], pl := st.pl + st.part }, b, by omega, by go_num, rfl, (show Value.int .i64 P = .int .i64 (st.part : Int) by rw [HP.out]), hK', hrun', Hnx, HM'⟩, rfl⟩)
         case measure => simp [intOf]; omega
     · by_cases h46 : C = 46
       · subst h46
         by_cases hp0 : P = 0
         · subst hp0
           have HS : Hid (lstep k prev st b = some { st with part := 1 }) := Lib.hid (by have e1 := HC.out; have e2 := HP.out; unfold lstep; rw [if_neg (by omega), if_pos (by omega)])
           obtain ⟨hrun', hK'⟩ := Hgo.out _ HS.out
           have HM' : Hid (Lm w B b2 b4 b5 b6 { st with part := 1 } wr) := Lib.hid (by obtain ⟨m1, m2, m3, m4⟩ := hM.out; exact ⟨m1, m2, m3, m4⟩)
           clear Hgo Hstop hM
           go_wp2_with fail
           go_roundw
           case rel => first | exact ⟨k + 1, { st with part := 1 }, b, by omega, by go_num, rfl, (show Value.int .i64 1 = .int .i64 ((1 : Nat) : Int) from rfl), hK', hrun', Hnx, HM'⟩ | ((repeat apply Exists.intro); exact ⟨⟨k + 1, { st with part := 1 }, b, by omega, by go_num, rfl, (show Value.int .i64 1 = .int .i64 ((1 : Nat) : Int) from rfl), hK', hrun', Hnx, HM'⟩, rfl⟩)
           case measure => simp [intOf]; omega
         · have hp0b : (P == 0) = false := by simpa using hp0
           have HS : Hid (R = (st, false)) := Lib.hid (Hstop.out (by have e1 := HC.out; have e2 := HP.out; unfold lstep; rw [if_neg (by omega), if_neg (by omega), if_neg (by omega), if_neg (by omega), if_neg (by omega)]))
           clear Hgo Hstop
           go_wp2_with fail
           go_meet
           exact ⟨st, show Value.int .i64 _ = .int .i64 (st.part : Int) by rw [HP.out], by rw [HS.out], Lib.hid (by rw [HS.out]), hM⟩
       · by_cases h101 : C = 101
         · subst h101
           by_cases hp2 : P = 2
           · subst hp2
             have HS : Hid (R = (st, false)) := Lib.hid (Hstop.out (by have e1 := HC.out; have e2 := HP.out; unfold lstep; rw [if_neg (by omega), if_neg (by omega), if_neg (by omega), if_neg (by omega), if_neg (by omega)]))
             clear Hgo Hstop
             go_wp2_with fail
             go_meet
             exact ⟨st, show Value.int .i64 _ = .int .i64 (st.part : Int) by rw [HP.out], by rw [HS.out], Lib.hid (by rw [HS.out]), hM⟩
           · have hp2b : (P != 2) = true := by simpa using hp2
             have HS : Hid (lstep k prev st b = some { st with part := 2 }) := Lib.hid (by have e1 := HC.out; have e2 := HP.out; unfold lstep; rw [if_neg (by omega), if_neg (by omega), if_pos ⟨by omega, by omega⟩])
             obtain ⟨hrun', hK'⟩ := Hgo.out _ HS.out
             have HM' : Hid (Lm w B b2 b4 b5 b6 { st with part := 2 } wr) := Lib.hid (by obtain ⟨m1, m2, m3, m4⟩ := hM.out; exact ⟨m1, m2, m3, m4⟩)
             clear Hgo Hstop hM
             go_wp2_with fail
             go_roundw
             case rel => first | exact ⟨k + 1, { st with part := 2 }, b, by omega, by go_num, rfl, (show Value.int .i64 2 = .int .i64 ((2 : Nat) : Int) from rfl), hK', hrun', Hnx, HM'⟩ | ((repeat apply Exists.intro); exact ⟨⟨k + 1, { st with part := 2 }, b, by omega, by go_num, rfl, (show Value.int .i64 2 = .int .i64 ((2 : Nat) : Int) from rfl), hK', hrun', Hnx, HM'⟩, rfl⟩)
             case measure => simp [intOf]; omega
         · by_cases h69 : C = 69
           · subst h69
             by_cases hp2 : P = 2
             · subst hp2
               have HS : Hid (R = (st, false)) := Lib.hid (Hstop.out (by have e1 := HC.out; have e2 := HP.out; unfold lstep; rw [if_neg (by omega), if_neg (by omega), if_neg (by omega), if_neg (by omega), if_neg (by omega)]))
               clear Hgo Hstop
               go_wp2_with fail
               go_meet
               exact ⟨st, show Value.int .i64 _ = .int .i64 (st.part : Int) by rw [HP.out], by rw [HS.out], Lib.hid (by rw [HS.out]), hM⟩
             · have hp2b : (P != 2) = true := by simpa using hp2
               have HS : Hid (lstep k prev st b = some { st with part := 2 }) := Lib.hid (by have e1 := HC.out; have e2 := HP.out; unfold lstep; rw [if_neg (by omega), if_neg (by omega), if_pos ⟨by omega, by omega⟩])
               obtain ⟨hrun', hK'⟩ := Hgo.out _ HS.out
               have HM' : Hid (Lm w B b2 b4 b5 b6 { st with part := 2 } wr) := Lib.hid (by obtain ⟨m1, m2, m3, m4⟩ := hM.out; exact ⟨m1, m2, m3, m4⟩)
               clear Hgo Hstop hM
               go_wp2_with fail
               go_roundw
               case rel => first | exact ⟨k + 1, { st with part := 2 }, b, by omega, by go_num, rfl, (show Value.int .i64 2 = .int .i64 ((2 : Nat) : Int) from rfl), hK', hrun', Hnx, HM'⟩ | ((repeat apply Exists.intro); exact ⟨⟨k + 1, { st with part := 2 }, b, by omega, by go_num, rfl, (show Value.int .i64 2 = .int .i64 ((2 : Nat) : Int) from rfl), hK', hrun', Hnx, HM'⟩, rfl⟩)
               case measure => simp [intOf]; omega
           · by_cases h43 : C = 43
             · subst h43
               by_cases hk0 : k = 0
               · have hk0b : ((k : Int) == 0) = true := by simp; omega
                 have Hk0 := Lib.hid hk0
                 clear hk0
                 have HS : Hid (lstep k prev st b = some { st with neg := false }) := Lib.hid (by have e1 := HC.out; have e2 := HP.out; unfold lstep; rw [if_neg (by omega), if_neg (by omega), if_neg (by omega), if_pos ⟨by omega, Hk0.out⟩]; have e3 : decide (b.toNat = 45) = false := (by simp; omega); rw [e3])
                 obtain ⟨hrun', hK'⟩ := Hgo.out _ HS.out
                 have q0 := hM.out.r4.cell 0; have fq0 := hM.out.r4.frozen 0
                 have HM' : Hid (Lm w B b2 b4 b5 b6 { st with neg := false } (wr.setCell ⟨b4, 0, none⟩ (.bool false))) := Lib.hid (hM.out.field HLo.out 0 _ rfl rfl rfl)
                 clear Hgo Hstop hM
                 go_wp2_with fail
                 go_roundw
                 case rel => first | exact ⟨k + 1, { st with neg := false }, b, by omega, by go_num, rfl, (show Value.int .i64 P = .int .i64 (st.part : Int) by rw [HP.out]), hK', hrun', Hnx, HM'⟩ | ((repeat apply Exists.intro); exact ⟨⟨k + 1, { st with neg := false }, b, by omega, by go_num, rfl, (show Value.int .i64 P = .int .i64 (st.part : Int) by rw [HP.out]), hK', hrun', Hnx, HM'⟩, rfl⟩)
                 case measure => simp [intOf]; omega
               · obtain ⟨j, rfl⟩ : ∃ j, k = j + 1 := ⟨k - 1, by omega⟩
                 have hk0b : ((((j + 1 : Nat)) : Int) == 0) = false := by simp; omega
                 by_cases hp2 : P = 2
                 · subst hp2
                   have hat' := hprev.out j rfl
                   have hjs : j < s.size := by omega
                   have hb' : s[j] = prev := by
                    have h := toList_at s j hjs
                    rw [hat'] at h
                    exact (Option.some.inj h).symm
                   obtain ⟨D, hD⟩ : ∃ D : Int, (prev.toNat : Int) = D := ⟨_, rfl⟩
                   have hD0 : 0 ≤ D := by omega
                   have hD2 : D < 256 := by have := prev.toNat_lt; omega
                   have hjk : ((j + 1 : Nat) : Int) - 1 = (j : Int) := by omega
                   have hj0 : (0 : Int) ≤ (j : Int) := by omega
                   have hj1 : (j : Int) < (n : Int) := by omega
                   have HD := Lib.hid hD
                   by_cases h101 : D = 101
                   · subst h101
                     have HS : Hid (lstep (j + 1) prev st b = some { st with low := false }) := Lib.hid (by have e1 := HC.out; have e2 := HP.out; unfold lstep; have e4 := HD.out; rw [if_neg (by omega), if_neg (by omega), if_neg (by omega), if_neg (by omega), if_pos ⟨by omega, by omega, by omega⟩]; have e3 : decide (b.toNat = 45) = false := (by simp; omega); rw [e3])
                     obtain ⟨hrun', hK'⟩ := Hgo.out _ HS.out
                     have q3 := hM.out.r4.cell 3; have fq3 := hM.out.r4.frozen 3
                     have HM' : Hid (Lm w B b2 b4 b5 b6 { st with low := false } (wr.setCell ⟨b4, 3, none⟩ (.bool false))) := Lib.hid (hM.out.field HLo.out 3 _ rfl rfl rfl)
                     clear Hgo Hstop hM
                     go_wp2_with fail
                     go_roundw
                     case rel => first | exact ⟨j + 1 + 1, { st with low := false }, b, by omega, by go_num, rfl, (show Value.int .i64 2 = .int .i64 (st.part : Int) by rw [HP.out]), hK', hrun', Hnx, HM'⟩ | ((repeat apply Exists.intro); exact ⟨⟨j + 1 + 1, { st with low := false }, b, by omega, by go_num, rfl, (show Value.int .i64 2 = .int .i64 (st.part : Int) by rw [HP.out]), hK', hrun', Hnx, HM'⟩, rfl⟩)
                     case measure => simp [intOf]; omega
                   · by_cases h69 : D = 69
                     · subst h69
                       have HS : Hid (lstep (j + 1) prev st b = some { st with low := false }) := Lib.hid (by have e1 := HC.out; have e2 := HP.out; unfold lstep; have e4 := HD.out; rw [if_neg (by omega), if_neg (by omega), if_neg (by omega), if_neg (by omega), if_pos ⟨by omega, by omega, by omega⟩]; have e3 : decide (b.toNat = 45) = false := (by simp; omega); rw [e3])
                       obtain ⟨hrun', hK'⟩ := Hgo.out _ HS.out
                       have q3 := hM.out.r4.cell 3; have fq3 := hM.out.r4.frozen 3
                       have HM' : Hid (Lm w B b2 b4 b5 b6 { st with low := false } (wr.setCell ⟨b4, 3, none⟩ (.bool false))) := Lib.hid (hM.out.field HLo.out 3 _ rfl rfl rfl)
                       clear Hgo Hstop hM
                       go_wp2_with fail
                       go_roundw
                       case rel => first | exact ⟨j + 1 + 1, { st with low := false }, b, by omega, by go_num, rfl, (show Value.int .i64 2 = .int .i64 (st.part : Int) by rw [HP.out]), hK', hrun', Hnx, HM'⟩ | ((repeat apply Exists.intro); exact ⟨⟨j + 1 + 1, { st with low := false }, b, by omega, by go_num, rfl, (show Value.int .i64 2 = .int .i64 (st.part : Int) by rw [HP.out]), hK', hrun', Hnx, HM'⟩, rfl⟩)
                       case measure => simp [intOf]; omega
                     · have hDa : (D == 101) = false := by simpa using h101
                       have hDb : (D == 69) = false := by simpa using h69
                       have HS : Hid (R = (st, false)) := Lib.hid (Hstop.out (by have e1 := HC.out; have e2 := HP.out; unfold lstep; have e4 := HD.out; rw [if_neg (by omega), if_neg (by omega), if_neg (by omega), if_neg (by omega), if_neg (by omega)]))
                       clear Hgo Hstop
                       go_wp2_with fail
                       go_meet
                       exact ⟨st, show Value.int .i64 _ = .int .i64 (st.part : Int) by rw [HP.out], by rw [HS.out], Lib.hid (by rw [HS.out]), hM⟩
                 · have hp2b : (P == 2) = false := by simpa using hp2
                   have HS : Hid (R = (st, false)) := Lib.hid (Hstop.out (by have e1 := HC.out; have e2 := HP.out; unfold lstep; rw [if_neg (by omega), if_neg (by omega), if_neg (by omega), if_neg (by omega), if_neg (by omega)]))
                   clear Hgo Hstop
                   go_wp2_with fail
                   go_meet
                   exact ⟨st, show Value.int .i64 _ = .int .i64 (st.part : Int) by rw [HP.out], by rw [HS.out], Lib.hid (by rw [HS.out]), hM⟩
             · by_cases h45 : C = 45
               · subst h45
                 by_cases hk0 : k = 0
                 · have hk0b : ((k : Int) == 0) = true := by simp; omega
                   have Hk0 := Lib.hid hk0
                   clear hk0
                   have HS : Hid (lstep k prev st b = some { st with neg := true }) := Lib.hid (by have e1 := HC.out; have e2 := HP.out; unfold lstep; rw [if_neg (by omega), if_neg (by omega), if_neg (by omega), if_pos ⟨by omega, Hk0.out⟩]; have e3 : decide (b.toNat = 45) = true := (by simp; omega); rw [e3])
                   obtain ⟨hrun', hK'⟩ := Hgo.out _ HS.out
                   have q0 := hM.out.r4.cell 0; have fq0 := hM.out.r4.frozen 0
                   have HM' : Hid (Lm w B b2 b4 b5 b6 { st with neg := true } (wr.setCell ⟨b4, 0, none⟩ (.bool true))) := Lib.hid (hM.out.field HLo.out 0 _ rfl rfl rfl)
                   clear Hgo Hstop hM
                   go_wp2_with fail
                   go_roundw
                   case rel => first | exact ⟨k + 1, { st with neg := true }, b, by omega, by go_num, rfl, (show Value.int .i64 P = .int .i64 (st.part : Int) by rw [HP.out]), hK', hrun', Hnx, HM'⟩ | ((repeat apply Exists.intro); exact ⟨⟨k + 1, { st with neg := true }, b, by omega, by go_num, rfl, (show Value.int .i64 P = .int .i64 (st.part : Int) by rw [HP.out]), hK', hrun', Hnx, HM'⟩, rfl⟩)
                   case measure => simp [intOf]; omega
                 · obtain ⟨j, rfl⟩ : ∃ j, k = j + 1 := ⟨k - 1, by omega⟩
                   have hk0b : ((((j + 1 : Nat)) : Int) == 0) = false := by simp; omega
                   by_cases hp2 : P = 2
                   · subst hp2
                     have hat' := hprev.out j rfl
                     have hjs : j < s.size := by omega
                     have hb' : s[j] = prev := by
                      have h := toList_at s j hjs
                      rw [hat'] at h
                      exact (Option.some.inj h).symm
                     obtain ⟨D, hD⟩ : ∃ D : Int, (prev.toNat : Int) = D := ⟨_, rfl⟩
                     have hD0 : 0 ≤ D := by omega
                     have hD2 : D < 256 := by have := prev.toNat_lt; omega
                     have hjk : ((j + 1 : Nat) : Int) - 1 = (j : Int) := by omega
                     have hj0 : (0 : Int) ≤ (j : Int) := by omega
                     have hj1 : (j : Int) < (n : Int) := by omega
                     have HD := Lib.hid hD
                     by_cases h101 : D = 101
                     · subst h101
                       have HS : Hid (lstep (j + 1) prev st b = some { st with low := true }) := Lib.hid (by have e1 := HC.out; have e2 := HP.out; unfold lstep; have e4 := HD.out; rw [if_neg (by omega), if_neg (by omega), if_neg (by omega), if_neg (by omega), if_pos ⟨by omega, by omega, by omega⟩]; have e3 : decide (b.toNat = 45) = true := (by simp; omega); rw [e3])
                       obtain ⟨hrun', hK'⟩ := Hgo.out _ HS.out
                       have q3 := hM.out.r4.cell 3; have fq3 := hM.out.r4.frozen 3
                       have HM' : Hid (Lm w B b2 b4 b5 b6 { st with low := true } (wr.setCell ⟨b4, 3, none⟩ (.bool true))) := Lib.hid (hM.out.field HLo.out 3 _ rfl rfl rfl)
                       clear Hgo Hstop hM
                       go_wp2_with fail
                       go_roundw
                       case rel => first | exact ⟨j + 1 + 1, { st with low := true }, b, by omega, by go_num, rfl, (show Value.int .i64 2 = .int .i64 (st.part : Int) by rw [HP.out]), hK', hrun', Hnx, HM'⟩ | ((repeat apply Exists.intro); exact ⟨⟨j + 1 + 1, { st with low := true }, b, by omega, by go_num, rfl, (show Value.int .i64 2 = .int .i64 (st.part : Int) by rw [HP.out]), hK', hrun', Hnx, HM'⟩, rfl⟩)
                       case measure => simp [intOf]; omega
                     · by_cases h69 : D = 69
                       · subst h69
                         have HS : Hid (lstep (j + 1) prev st b = some { st with low := true }) := Lib.hid (by have e1 := HC.out; have e2 := HP.out; unfold lstep; have e4 := HD.out; rw [if_neg (by omega), if_neg (by omega), if_neg (by omega), if_neg (by omega), if_pos ⟨by omega, by omega, by omega⟩]; have e3 : decide (b.toNat = 45) = true := (by simp; omega); rw [e3])
                         obtain ⟨hrun', hK'⟩ := Hgo.out _ HS.out
                         have q3 := hM.out.r4.cell 3; have fq3 := hM.out.r4.frozen 3
                         have HM' : Hid (Lm w B b2 b4 b5 b6 { st with low := true } (wr.setCell ⟨b4, 3, none⟩ (.bool true))) := Lib.hid (hM.out.field HLo.out 3 _ rfl rfl rfl)
                         clear Hgo Hstop hM
                         go_wp2_with fail
                         go_roundw
                         case rel => first | exact ⟨j + 1 + 1, { st with low := true }, b, by omega, by go_num, rfl, (show Value.int .i64 2 = .int .i64 (st.part : Int) by rw [HP.out]), hK', hrun', Hnx, HM'⟩ | ((repeat apply Exists.intro); exact ⟨⟨j + 1 + 1, { st with low := true }, b, by omega, by go_num, rfl, (show Value.int .i64 2 = .int .i64 (st.part : Int) by rw [HP.out]), hK', hrun', Hnx, HM'⟩, rfl⟩)
                         case measure => simp [intOf]; omega
                       · have hDa : (D == 101) = false := by simpa using h101
                         have hDb : (D == 69) = false := by simpa using h69
                         have HS : Hid (R = (st, false)) := Lib.hid (Hstop.out (by have e1 := HC.out; have e2 := HP.out; unfold lstep; have e4 := HD.out; rw [if_neg (by omega), if_neg (by omega), if_neg (by omega), if_neg (by omega), if_neg (by omega)]))
                         clear Hgo Hstop
                         go_wp2_with fail
                         go_meet
                         exact ⟨st, show Value.int .i64 _ = .int .i64 (st.part : Int) by rw [HP.out], by rw [HS.out], Lib.hid (by rw [HS.out]), hM⟩
                   · have hp2b : (P == 2) = false := by simpa using hp2
                     have HS : Hid (R = (st, false)) := Lib.hid (Hstop.out (by have e1 := HC.out; have e2 := HP.out; unfold lstep; rw [if_neg (by omega), if_neg (by omega), if_neg (by omega), if_neg (by omega), if_neg (by omega)]))
                     clear Hgo Hstop
                     go_wp2_with fail
                     go_meet
                     exact ⟨st, show Value.int .i64 _ = .int .i64 (st.part : Int) by rw [HP.out], by rw [HS.out], Lib.hid (by rw [HS.out]), hM⟩
               · have o1 : (C == 46) = false := by simpa using h46
                 have o2 : (C == 101) = false := by simpa using h101
                 have o3 : (C == 69) = false := by simpa using h69
                 have o4 : (C == 43) = false := by simpa using h43
                 have o5 : (C == 45) = false := by simpa using h45
                 by_cases hlo : C < 48
                 · have hl1 : ¬ 48 ≤ C := by omega
                   have HS : Hid (R = (st, false)) := Lib.hid (Hstop.out (by have e1 := HC.out; have e2 := HP.out; unfold lstep; rw [if_neg (by omega), if_neg (by omega), if_neg (by omega), if_neg (by omega), if_neg (by omega)]))
                   clear Hgo Hstop
                   go_wp2_with fail
                   go_meet
                   exact ⟨st, show Value.int .i64 _ = .int .i64 (st.part : Int) by rw [HP.out], by rw [HS.out], Lib.hid (by rw [HS.out]), hM⟩
                 · have hl1 : 48 ≤ C := by omega
                   have hl2 : ¬ C ≤ 57 := by omega
                   have HS : Hid (R = (st, false)) := Lib.hid (Hstop.out (by have e1 := HC.out; have e2 := HP.out; unfold lstep; rw [if_neg (by omega), if_neg (by omega), if_neg (by omega), if_neg (by omega), if_neg (by omega)]))
                   clear Hgo Hstop
                   go_wp2_with fail
                   go_meet
                   exact ⟨st, show Value.int .i64 _ = .int .i64 (st.part : Int) by rw [HP.out], by rw [HS.out], Lib.hid (by rw [HS.out]), hM⟩
   · obtain rfl : k = n := by omega
     have hR : Hid (R = (st, true)) := Lib.hid (by
      have h1 := hrun.out
      rw [List.drop_eq_nil_of_le (by rw [Hn.out]; exact Nat.le_refl _), lrun_nil] at h1
      exact h1.symm)
     clear hrun
     go_wp2_with fail
     go_meet
     exact ⟨st, rfl, by rw [hR.out], Lib.hid (by rw [hR.out]), hM⟩
 case rest =>
  obtain ⟨st, rfl, rfl, hst, hM⟩ := hcut
  have HT := Lib.hid (hM.out.texts HLo.out)
  obtain ⟨ok, hok⟩ : ∃ b : Bool, R.2 = b := ⟨_, rfl⟩
  have HFn : Hid (∀ w' v b, Below w.heap.size w w' → v = .agg #[.bool st.neg, .string (bz st.ds), .int .i64 (st.pl : Int), .bool st.low, .string (bz st.es)] → b = (ok && (!st.ds.isEmpty && (!st.es.isEmpty || st.part != 2))) → CutIs s w (.returned (.tuple #[v, .bool b])) w') := Lib.hid (fun w' v b hb hv hbb => by
   have h1 := HF.out w' R HR.out hb
   unfold lok at h1
   rw [hok, hst.out] at h1
   rw [hv, hbb]
   exact h1)
  rw [hok]
  clear HF HL HL0 hst hM hok
  go_wp2_with fail
  refine HT.out.mono ?_
  rintro e w1 ⟨rfl, h2⟩
  have HT2 := Lib.hid h2
  clear h2 HT
  go_wp2_with fail
  refine HT2.out.mono ?_
  rintro e w2 ⟨rfl, hb, k2, k4⟩
  have f41 := k4.frozen 1; have f44 := k4.frozen 4
  have q0 := k4.cell 0; have q1 := k4.cell 1; have q2 := k4.cell 2; have q3 := k4.cell 3; have q4 := k4.cell 4
  simp only [List.getElem?_toArray, List.getElem?_cons_zero, List.getElem?_cons_succ] at q0 q1 q2 q3 q4
  have Hk2 := Lib.hid k2; have Hk4 := Lib.hid k4; have HBl := Lib.hid hb
  clear k2 k4 hb HT2
  obtain ⟨PT, hPT⟩ : ∃ P : Int, (st.part : Int) = P := ⟨_, rfl⟩
  obtain ⟨PL, hPL⟩ : ∃ P : Int, (st.pl : Int) = P := ⟨_, rfl⟩
  obtain ⟨DS, hDS⟩ : ∃ D, bz st.ds = D := ⟨_, rfl⟩
  obtain ⟨ES, hES⟩ : ∃ D, bz st.es = D := ⟨_, rfl⟩
  rw [hDS, hES, hPT]
  rw [hPL] at q2
  have HDS := Lib.hid hDS; have HES := Lib.hid hES; have HPL := Lib.hid hPL; have HPT := Lib.hid hPT
  have r0 := Hk2.out.cell 0; have r1 := Hk2.out.cell 1; have r2 := Hk2.out.cell 2; have r3 := Hk2.out.cell 3; have r4 := Hk2.out.cell 4
  have g0 := Hk2.out.frozen 0; have g1 := Hk2.out.frozen 1; have g2 := Hk2.out.frozen 2; have g3 := Hk2.out.frozen 3; have g4 := Hk2.out.frozen 4
  simp only [List.getElem?_toArray, List.getElem?_cons_zero, List.getElem?_cons_succ] at r0 r1 r2 r3 r4
  have hne : ¬ b2 = b4 := by have := HLo.out.o4; omega
  have hne2 : ¬ b4 = b2 := fun e => hne e.symm
  have HK : Hid (Blk (((((((w2.setCell ⟨b4, 1, none⟩ (.string DS)).setCell ⟨b4, 4, none⟩ (.string ES)).setCell ⟨b2, 0, none⟩ (.bool st.neg)).setCell ⟨b2, 1, none⟩ (.string DS)).setCell ⟨b2, 2, none⟩ (.int .i64 PL)).setCell ⟨b2, 3, none⟩ (.bool st.low)).setCell ⟨b2, 4, none⟩ (.string ES)) b2 51 #[.bool st.neg, .string DS, .int .i64 PL, .bool st.low, .string ES] ∧ Below w.heap.size w (((((((w2.setCell ⟨b4, 1, none⟩ (.string DS)).setCell ⟨b4, 4, none⟩ (.string ES)).setCell ⟨b2, 0, none⟩ (.bool st.neg)).setCell ⟨b2, 1, none⟩ (.string DS)).setCell ⟨b2, 2, none⟩ (.int .i64 PL)).setCell ⟨b2, 3, none⟩ (.bool st.low)).setCell ⟨b2, 4, none⟩ (.string ES))) := Lib.hid (by
   have h2 := HLo.out.o2; have h4 := HLo.out.o4
   refine ⟨?_, ?_⟩
   · exact ((((((Hk2.out.far (p := ⟨b4, 1, none⟩) hne _).far (p := ⟨b4, 4, none⟩) hne _).set_ 0 _).set_ 1 _).set_ 2 _).set_ 3 _).set_ 4 _
   · exact ((((((HBl.out.setCell (p := ⟨b4, 1, none⟩) (by show w.heap.size ≤ b4; omega) _).setCell (p := ⟨b4, 4, none⟩) (by show w.heap.size ≤ b4; omega) _).setCell (p := ⟨b2, 0, none⟩) h2 _).setCell (p := ⟨b2, 1, none⟩) h2 _).setCell (p := ⟨b2, 2, none⟩) h2 _).setCell (p := ⟨b2, 3, none⟩) h2 _).setCell (p := ⟨b2, 4, none⟩) h2 _)
  have Hnil : ∀ l D, bz l = D → ((D.toList = []) ↔ l = []) := fun l D h => by
   rw [← h]
   show (ByteArray.mk l.toArray).toList = [] ↔ l = []
   rw [ByteArray.toList_mk]
  have hdn := Hnil st.ds DS hDS; have hen := Hnil st.es ES hES
  clear Hnil hDS hES hPL hPT
  cases ok with
  | false =>
   clear hdn hen
   go_wp2_with fail
   refine bodyPost_ret (res_lit rfl _ _ b2 st.neg DS PL st.low ES (Value.bool false) rfl rfl ?_) rfl ?_
   · exact HK.out.1
   · exact HFn.out _ (.agg #[.bool st.neg, .string DS, .int .i64 PL, .bool st.low, .string ES]) false HK.out.2 (by rw [HDS.out, HES.out, HPL.out]) (by rfl)
  | true =>
   by_cases hd0 : st.ds = []
   · have HX : Hid (st.ds.isEmpty = true) := Lib.hid (by rw [hd0]; rfl)
     have hdl : DS.toList = [] := hdn.2 hd0
     clear hdn hen hd0
     go_wp2_with fail
     refine bodyPost_ret (res_lit rfl _ _ b2 st.neg DS PL st.low ES (Value.bool false) rfl rfl ?_) rfl ?_
     · exact HK.out.1
     · exact HFn.out _ (.agg #[.bool st.neg, .string DS, .int .i64 PL, .bool st.low, .string ES]) false HK.out.2 (by rw [HDS.out, HES.out, HPL.out]) (by rw [HX.out]; rfl)
   · have HX : Hid (st.ds.isEmpty = false) := Lib.hid (by cases h : st.ds with | nil => exact absurd h hd0 | cons x r => rfl)
     have hdl : ¬ DS.toList = [] := fun h => hd0 (hdn.1 h)
     have hdb : DS.toList.isEmpty = false := List.isEmpty_eq_false_iff.2 hdl
     by_cases he0 : st.es = []
     · have HY : Hid (st.es.isEmpty = true) := Lib.hid (by rw [he0]; rfl)
       have hel : ES.toList = [] := hen.2 he0
       by_cases hp : PT = 2
       · have hpb : (PT != 2) = false := by simpa using hp
         have HZ : Hid ((st.part != 2) = false) := Lib.hid (by have h9 := HPT.out; have h8 : st.part = 2 := (by omega); simp [h8])
         clear hdn hen hd0 he0 hp
         go_wp2_with fail
         refine bodyPost_ret (res_lit rfl _ _ b2 st.neg DS PL st.low ES (Value.bool false) rfl rfl ?_) rfl ?_
         · exact HK.out.1
         · exact HFn.out _ (.agg #[.bool st.neg, .string DS, .int .i64 PL, .bool st.low, .string ES]) false HK.out.2 (by rw [HDS.out, HES.out, HPL.out]) (by rw [HX.out, HY.out, HZ.out]; rfl)
       · have hpb : (PT != 2) = true := by simpa using hp
         have HZ : Hid ((st.part != 2) = true) := Lib.hid (by have h9 := HPT.out; have h8 : st.part ≠ 2 := (by omega); simp [h8])
         clear hdn hen hd0 he0 hp
         go_wp2_with fail
         refine bodyPost_ret (res_lit rfl _ _ b2 st.neg DS PL st.low ES (Value.bool true) rfl rfl ?_) rfl ?_
         · exact HK.out.1
         · exact HFn.out _ (.agg #[.bool st.neg, .string DS, .int .i64 PL, .bool st.low, .string ES]) true HK.out.2 (by rw [HDS.out, HES.out, HPL.out]) (by rw [HX.out, HY.out, HZ.out]; rfl)
     · have HY : Hid (st.es.isEmpty = false) := Lib.hid (by cases h : st.es with | nil => exact absurd h he0 | cons x r => rfl)
       have hel : ¬ ES.toList = [] := fun h => he0 (hen.1 h)
       have heb : ES.toList.isEmpty = false := List.isEmpty_eq_false_iff.2 hel
       clear hdn hen hd0 he0
       go_wp2_with fail
       refine bodyPost_ret (res_lit rfl _ _ b2 st.neg DS PL st.low ES (Value.bool true) rfl rfl ?_) rfl ?_
       · exact HK.out.1
       · exact HFn.out _ (.agg #[.bool st.neg, .string DS, .int .i64 PL, .bool st.low, .string ES]) true HK.out.2 (by rw [HDS.out, HES.out, HPL.out]) (by rw [HX.out, HY.out]; rfl)
end Go.Proofs.YtggmnmmjmihnfaaGreatDoor
