/-
 Law 3: how a literal is cut up (dec.cut).
-/
import Derived.Test.YtnhobagjpjcigaaGreatDoorDLit
import Derived.Test.YtnhobagjpjcigaaGreatDoorDBd
import Derived.Test.YtnhobagjpjcigaaGreatDoorQMake
import Derived.Deep.CutBlock
import Derived.Deep.DeepCutAuto
import Derived.Deep.CutRange
namespace Go.Proofs.YtnhobagjpjcigaaGreatDoor
open Go.RowKit
set_option linter.unusedVariables false
abbrev LT : TypeId := 78
/-- What lies in memory while a literal is cut up. -/
structure Lm (w : World) (B b2 b4 b5 b6 : Nat) (s : LS) (W : World) : Prop where
 bel : Below w.heap.size w W
 r2 : Blk W b2 78 #[.bool false, .string ⟨#[]⟩, .int .i64 0, .bool false, .string ⟨#[]⟩]
 r4 : Blk W b4 78 #[.bool s.neg, .string ⟨#[]⟩, .int .i64 (s.pl : Int), .bool s.low, .string ⟨#[]⟩]
 two : ∃ C p v, B ≤ C ∧ C ≤ W.heap.size ∧ (p = .pointer none ∨ p = .pointer (some ⟨b5, 0, none⟩)) ∧ W.heap[b5]? = some (.cells #[p, v] 136 (0, 0)) ∧ W.ownsRowF B 5 1 v (bz s.ds).size (Lib.byteCells (bz s.ds).data.toList) ∧ ((bz s.ds).size = 0 → v = .slice none 0 0) ∧ (∀ g, v.ownBlock = some g → g < C) ∧ Bdx C b6 (bz s.es) W
/-- The boxes' order. -/
structure Lo (w : World) (B b2 b4 b5 b6 : Nat) : Prop where
 o2 : w.heap.size ≤ b2
 o4 : b2 < b4
 o5 : b4 < b5
 o6 : b5 < b6
 oB : b6 < B
section
variable {w W W' : World} {B b2 b4 b5 b6 : Nat} {s : LS}
theorem own_lt {W : World} {B n : Nat} {v : Value} {xs : List Value} {g : Nat} (h : W.ownsRowF B 5 1 v n xs) (hg : v.ownBlock = some g) : g < W.heap.size ∧ B ≤ g := by
 rcases h.2 with ⟨rfl, _⟩ | ⟨g', cap, cur, fz, rfl, hb, hg', _⟩
 · simp [Value.ownBlock] at hg
 · obtain rfl : g' = g := by simpa [Value.ownBlock] using hg
   exact ⟨heap_lt hg', hb⟩
theorem Bdx.empty {C C' b : Nat} (h : Bdx C b (bz []) W) : Bdx C' b (bz []) W := by
 obtain ⟨p, v, hp, hb, hr, hz⟩ := h
 obtain rfl := hz (by rw [bz_size]; rfl)
 exact ⟨p, _, hp, hb, World.ownsRowF_nil _ _ _ _, fun _ => rfl⟩
/-- A digit ahead of the exponent. -/
theorem Lm.digit (h : Lm w B b2 b4 b5 b6 s W) (ho : Lo w B b2 b4 b5 b6) (he : s.es = []) {l : List UInt8} (hB : Bdx B b5 (bz l) W') (hF : Fx B b5 W W') : Lm w B b2 b4 b5 b6 { s with ds := l } W' := by
 obtain ⟨h1, h2, h3, C, p, v, c1, c2, c3, c4, c5, c6, c7, c8⟩ := h
 obtain ⟨o2, o4, o5, o6, oB⟩ := ho
 obtain ⟨p', v', d3, d4, d5, d6⟩ := hB
 refine ⟨⟨hF.os.trans h1.os, hF.tape.trans h1.tape, hF.output.trans h1.output, Nat.le_trans h1.size hF.size, fun i hi => (hF.block i (by omega) (by omega)).trans (h1.block i hi)⟩, (hF.block b2 (by omega) (by omega)).trans h2, (hF.block b4 (by omega) (by omega)).trans h3,
  W'.heap.size, p', v', Nat.le_trans (Nat.le_trans c1 c2) hF.size, Nat.le_refl _, d3, d4, d5, d6, fun g hg => (own_lt d5 hg).1, ?_⟩
 show Bdx _ b6 (bz s.es) W'
 rw [he] at c8 ⊢
 obtain ⟨q, u, e1, e2, e3, e4⟩ := c8
 obtain rfl := e4 (by rw [bz_size]; rfl)
 exact ⟨q, _, e1, (hF.block b6 (by omega) (by omega)).trans e2, World.ownsRowF_nil _ _ _ _, fun _ => rfl⟩
/-- The digits' builder by itself. -/
theorem Lm.five (h : Lm w B b2 b4 b5 b6 s W) : Bdx B b5 (bz s.ds) W := by
 obtain ⟨h1, h2, h3, C, p, v, c1, c2, c3, c4, c5, c6, c7, c8⟩ := h
 exact ⟨p, v, c3, c4, c5, c6⟩
theorem ofNat_u8 (b : UInt8) : UInt8.ofNat b.toNat = b := by simp
/-- A digit ahead of the exponent is written. -/
theorem Lm.callD (h : Lm w B b2 b4 b5 b6 s W) (ho : Lo w B b2 b4 b5 b6) (he : s.es = []) (hl : s.ds.length ≤ 1000) (b : UInt8) : Calls Tryz.prog 104 #[.pointer (some ⟨b5, 0, none⟩), .int .u8 (b.toNat : Int)] W fun e w' => e = .returned .nilIface ∧ Lm w B b2 b4 b5 b6 { s with ds := s.ds ++ [b] } w' := by
 have hsz := h.two
 obtain ⟨C, p, v, c1, c2, _⟩ := hsz
 refine (wbx_any B b5 (bz s.ds) b.toNat W b.toNat_lt h.five (by rw [bz_size]; omega) (by omega)).mono fun e w' h' => ⟨h'.1, ?_⟩
 have hp := h'.2.1
 rw [ofNat_u8, bz_push] at hp
 exact h.digit ho he hp h'.2.2
/-- A digit of the exponent is written. -/
theorem Lm.callE (h : Lm w B b2 b4 b5 b6 s W) (ho : Lo w B b2 b4 b5 b6) (hl : s.es.length ≤ 1000) (b : UInt8) : Calls Tryz.prog 104 #[.pointer (some ⟨b6, 0, none⟩), .int .u8 (b.toNat : Int)] W fun e w' => e = .returned .nilIface ∧ Lm w B b2 b4 b5 b6 { s with es := s.es ++ [b] } w' := by
 obtain ⟨h1, h2, h3, C, p, v, c1, c2, c3, c4, c5, c6, c7, c8⟩ := h
 obtain ⟨o2, o4, o5, o6, oB⟩ := ho
 refine (wbx_any C b6 (bz s.es) b.toNat W b.toNat_lt c8 (by rw [bz_size]; omega) c2).mono fun e w' h' => ⟨h'.1, ?_⟩
 obtain ⟨_, k1, hF⟩ := h'
 rw [ofNat_u8, bz_push] at k1
 exact ⟨⟨hF.os.trans h1.os, hF.tape.trans h1.tape, hF.output.trans h1.output, Nat.le_trans h1.size hF.size, fun i hi => (hF.block i (by omega) (by omega)).trans (h1.block i hi)⟩, (hF.block b2 (by omega) (by omega)).trans h2, (hF.block b4 (by omega) (by omega)).trans h3,
  C, p, v, c1, Nat.le_trans c2 hF.size, c3, (hF.block b5 (by omega) (by omega)).trans c4, rowF_kept c5 (fun g hg => hF.block g (c7 g hg) (by have := (own_lt c5 hg).2; omega)), c6, c7, k1⟩
/-- A field of the literal is written. -/
theorem Lm.field (h : Lm w B b2 b4 b5 b6 s W) (ho : Lo w B b2 b4 b5 b6) (i : Nat) (y : Value) {s' : LS} (hd : s'.ds = s.ds) (he : s'.es = s.es)
 (hc : (#[.bool s.neg, .string ⟨#[]⟩, .int .i64 (s.pl : Int), .bool s.low, .string ⟨#[]⟩] : Array Value).setIfInBounds i y = #[.bool s'.neg, .string ⟨#[]⟩, .int .i64 (s'.pl : Int), .bool s'.low, .string ⟨#[]⟩]) : Lm w B b2 b4 b5 b6 s' (W.setCell ⟨b4, i, none⟩ y) := by
 obtain ⟨h1, h2, h3, C, p, v, c1, c2, c3, c4, c5, c6, c7, c8⟩ := h
 obtain ⟨o2, o4, o5, o6, oB⟩ := ho
 have hk : ∀ j, j ≠ b4 → (W.setCell ⟨b4, i, none⟩ y).heap[j]? = W.heap[j]? := fun j hj => Below.heap_setCell _ _ _ j hj
 refine ⟨h1.setCell (p := ⟨b4, i, none⟩) (by show w.heap.size ≤ b4; omega) _, h2.far (by show b2 ≠ b4; omega) _, by have := h3.set_ i y; rw [hc] at this; exact this, C, p, v, c1, by rw [World.size_setCell]; exact c2, c3, (hk b5 (by omega)).trans c4, ?_, by rw [hd]; exact c6, c7, ?_⟩
 · rw [hd]
   exact rowF_kept c5 (fun g hg => hk g (by have := (own_lt c5 hg).2; omega))
 · rw [he]
   exact c8.keptBut h3 (by decide) (by omega) (fun j _ hj => hk j hj)
/-- The texts that were gathered are handed out. -/
theorem Lm.texts (h : Lm w B b2 b4 b5 b6 s W) (ho : Lo w B b2 b4 b5 b6) : Calls Tryz.prog 105 #[.pointer (some ⟨b5, 0, none⟩)] W fun e w1 => e = .returned (.string (bz s.ds)) ∧ Calls Tryz.prog 105 #[.pointer (some ⟨b6, 0, none⟩)] w1 fun e w2 => e = .returned (.string (bz s.es)) ∧ Below w.heap.size w w2 ∧
 Blk w2 b2 78 #[.bool false, .string ⟨#[]⟩, .int .i64 0, .bool false, .string ⟨#[]⟩] ∧ Blk w2 b4 78 #[.bool s.neg, .string ⟨#[]⟩, .int .i64 (s.pl : Int), .bool s.low, .string ⟨#[]⟩] := by
 obtain ⟨h1, h2, h3, C, p, v, c1, c2, c3, c4, c5, c6, c7, c8⟩ := h
 obtain ⟨o2, o4, o5, o6, oB⟩ := ho
 obtain ⟨q, u, e1, e2, e3, e4⟩ := c8
 refine (strx_any B b5 p v _ W c4 c5 c6).mono fun e w1 hx => ⟨hx.1, ?_⟩
 have hX := hx.2
 have k1 : ∀ i, i < B → w1.heap[i]? = W.heap[i]? := fun i hi => hX.block i (fun e => by have := (own_lt c5 e.symm).2; omega)
 refine (strx_any C b6 q u _ w1 ((k1 b6 oB).trans e2) (rowF_kept e3 (fun g hg => hX.block g (fun e => by have := c7 g e.symm; have := (own_lt e3 hg).2; omega))) e4).mono fun e w2 hy => ⟨hy.1, ?_⟩
 have hY := hy.2
 have k2 : ∀ i, i < B → w2.heap[i]? = W.heap[i]? := fun i hi => (hY.block i (fun e => by
  have h9 : w1.ownsRowF C 5 1 u (bz s.es).size (Lib.byteCells (bz s.es).data.toList) := rowF_kept e3 (fun g hg => hX.block g (fun e => by have := c7 g e.symm; have := (own_lt e3 hg).2; omega))
  have := (own_lt h9 e.symm).2
  omega)).trans (k1 i hi)
 refine ⟨⟨hY.os.trans (hX.os.trans h1.os), hY.tape.trans (hX.tape.trans h1.tape), hY.output.trans (hX.output.trans h1.output), by have := h1.size; have := hX.size; have := hY.size; omega, fun i hi => (k2 i (by omega)).trans (h1.block i hi)⟩, (k2 b2 (by omega)).trans h2, (k2 b4 (by omega)).trans h3⟩
end
end Go.Proofs.YtnhobagjpjcigaaGreatDoor
