/-
  PutInts: numbers, packed.
-/
import Derived.Test.YtbkcklefkhlciaaMops
import Derived.Test.YtbkcklefkhlciaaIr
namespace Go.Proofs.Ytbkcklefkhlciaa
open Go.RowKit
set_option linter.unusedVariables false
/-- An int as 64 bits. -/
def un (z : Int) : Nat := (z % 18446744073709551616).toNat
theorem un_lt (z : Int) : un z < 18446744073709551616 := by unfold un; omega
theorem un_wrap (z : Int) : IntKind.u64.wrap z = ((un z : Nat) : Int) := by
  rw [IntKind.wrap_u64]; unfold un; omega
/-- The bytes of numbers, packed. -/
def ibs : List Int → ByteArray
  | [] => ⟨#[]⟩
  | z :: r => txt (pv (un z)) ++ ibs r
theorem ibs_app (l m : List Int) : ibs (l ++ m) = ibs l ++ ibs m := by
  induction l with
  | nil => simp only [List.nil_append, ibs, nil_bapp]
  | cons z r ih => simp only [List.cons_append, ibs, ih, bapp_assoc]
theorem ibs_one (z : Int) : ibs [z] = txt (pv (un z)) := by simp only [ibs, bapp_nil]
theorem ibs_size (l : List Int) : (ibs l).size ≤ 10 * l.length := by
  induction l with
  | nil => exact Nat.le_refl _
  | cons z r ih =>
    have := pv_ten (un z) (un_lt z)
    simp only [ibs, bsize_app, txt_size, List.length_cons]
    omega
theorem take_more {α : Type} (l : List α) (k : Nat) (d : α) (h : k < l.length) : l.take (k + 1) = l.take k ++ [l.getD k d] := by
  rw [List.take_succ_eq_append_getElem h, List.getD_eq_getElem?_getD, List.getElem?_eq_getElem h]; rfl
theorem bd_below {B b : Nat} {t : ByteArray} {w w' : World} (h : IsBd B b t w) (hb : Below w.heap.size w w') : IsBd B b t w' := by
  have key : ∀ p, Lib.BuilderAtF 81 5 B b p (Lib.byteCells t.data.toList) w → Lib.BuilderAtF 81 5 B b p (Lib.byteCells t.data.toList) w' := by
    intro p h
    have hlt := h.lt
    obtain ⟨hB, v, hbk, hown, hne⟩ := h
    exact ⟨hB, v, (hb.block b hlt).trans hbk, hown.kept (grown_below hb (Nat.le_refl _)) (by cases v.ownBlock <;> simp), hne⟩
  exact h.elim (fun x => .inl (key _ x)) (fun x => .inr (key _ x))
theorem MsgP.below {B m : Nat} {W W' : World} {ps : List (Fd × ByteArray)} {c : Int} (h : MsgP B m W ps c) (hb : Below W.heap.size W W') : MsgP B m W' ps c := IsMsg.below h hb
set_option maxRecDepth 100000 in
set_option maxHeartbeats 2000000 in
theorem putints_some (B m : Nat) (ps : List (Fd × ByteArray)) (num : Nat) (zs : List Int) (a : Option Addr) (c : Nat) (w : World) (hB : B ≤ w.heap.size) (h : MsgP B m w ps 0) (hs : Small ps) (h1 : 1 ≤ num) (h2 : num ≤ 536870911)
    (hz : zs.length ≤ 1000) (hne : 0 < zs.length) (hr : IR w a zs) :
    Calls Try.prog 15 #[.pointer (some ⟨m, 0, none⟩), .int .i64 (num : Int), .slice a zs.length c] w (PutMs B m (ps ++ [tF num (ibs zs)]) w) := by
  have hsz := ibs_size zs
  have HPV : Hid (∀ (z : Int) (w : World), Calls Try.prog 40 #[.int .u64 (IntKind.u64.wrap z)] w (GaveText (txt (pv (un z))) w)) := Lib.hid (fun z w => by rw [un_wrap]; exact putv_any (un z) w (un_lt z))
  obtain ⟨D, hD⟩ : ∃ D, ibs zs = D := ⟨_, rfl⟩
  have HPT : Hid (∀ w1, B ≤ w1.heap.size → MsgP B m w1 ps 0 → Calls Try.prog 37 #[.pointer (some ⟨m, 0, none⟩), .agg #[.int .i64 (num : Int), .int .i64 2, .int .i64 0, .int .u64 0, .string D]] w1 (PutMs B m (ps ++ [tF num D]) w1)) := Lib.hid (fun w1 hB1 hm1 => by
    have hd : D.size ≤ 60000 := by rw [← hD]; omega
    exact putp_any B m ps (tF num D).1 (tF num D).2 w1 hB1 hm1 (Lib.hid (puthid_t num D h1 h2 hd)) hs (by have := size_t num D h1 h2 hd; omega))
  rw [hD]
  have HD := Lib.hid hD
  have Hr := Lib.hid hr
  have Hm := Lib.hid h
  obtain ⟨n, hn⟩ : ∃ n, zs.length = n := ⟨_, rfl⟩
  rw [hn] at hz hne ⊢
  have Hn := Lib.hid hn
  have Hmc : w.cell? ⟨m, 0, none⟩ = some (.bool true) := by obtain ⟨_, fv, ev, hb, _⟩ := h; exact hb.cell 0
  clear hr h hD hn hsz
  have hn0 : ((n : Int) == 0) = false := by simp; omega
  go_enter Try.func15, Try.ntmps15
  go_wp2_with fail
  have hbd := Lib.hid (bd_new w w.heap.size (Nat.le_refl _))
  have hbw : Hid (Below w.heap.size w (w.alloc (.cells #[.pointer none, .slice none 0 0] 81))) := Lib.hid ((Below.refl _ _).alloc (Nat.le_refl _) _)
  go_loopw [17] (fun i wr => ∃ k : Nat, k ≤ n ∧ i = .int .i64 (k : Int) ∧ Hid (IsBd w.heap.size w.heap.size (ibs (zs.take k)) wr) ∧ Hid (Below w.heap.size w wr) ∧ w.heap.size ≤ wr.heap.size) (fun i _ => n - (intOf i).toNat)
  case atStart => exact ⟨0, by omega, rfl, by simpa [ibs] using hbd, hbw, by simp⟩
  case round =>
    obtain ⟨k, hk, rfl, hb, hw, hGs⟩ := hrel
    by_cases hlt : k < n
    · have hwb : Below w.heap.size w wr := hw.out
      obtain ⟨ad, rfl, _, hc⟩ := (Hr.out.below hwb) k (by rw [Hn.out]; exact hlt)
      have hi0 : (0 : Int) ≤ (k : Int) := by omega
      have hi1 : (k : Int) < (n : Int) := by omega
      have hmore : Hid (ibs (zs.take (k + 1)) = ibs (zs.take k) ++ txt (pv (un (zs.getD k 0)))) := Lib.hid (by rw [take_more zs k 0 (by rw [Hn.out]; exact hlt), ibs_app, ibs_one])
      have hsl : Hid ((ibs (zs.take k)).size ≤ 100000 ∧ (txt (pv (un (zs.getD k 0)))).size ≤ 10) := Lib.hid ⟨by have := ibs_size (zs.take k); rw [List.length_take] at this; omega, by rw [txt_size]; exact pv_ten _ (un_lt _)⟩
      obtain ⟨x, hx⟩ : ∃ x, zs.getD k 0 = x := ⟨_, rfl⟩
      rw [hx] at hc hmore hsl
      clear hx hwb
      go_wp2_with fail
      refine (HPV.out x _).mono ?_
      rintro e w1 ⟨rfl, hb1⟩
      have hbd1 := bd_below hb.out hb1
      have hG1 : w.heap.size ≤ w1.heap.size := Nat.le_trans hGs hb1.size
      have hw1 := Lib.hid (hw.out.trans (hb1.mono hGs))
      go_wp2_with fail
      refine (ws_any w.heap.size w.heap.size _ _ _ hbd1 (by have := hsl.out; omega) hG1).mono ?_
      rintro e w2 ⟨rfl, hb2, hb3⟩
      have hbd2 : Hid (IsBd w.heap.size w.heap.size (ibs (zs.take (k + 1))) w2) := Lib.hid (by rw [hmore.out]; exact hb2)
      have hw2 := Lib.hid (hw1.out.trans hb3)
      have hG2 : w.heap.size ≤ w2.heap.size := Nat.le_trans hG1 hb3.size
      clear hb hw hw1 hbd1 hb1 hb2 hb3 hmore hsl hc
      go_wp2
      go_roundw
      case rel =>
        first | exact ⟨k + 1, by omega, by go_num, hbd2, hw2, hG2⟩ | ((repeat apply Exists.intro); exact ⟨⟨k + 1, by omega, by go_num, hbd2, hw2, hG2⟩, rfl⟩)
      case measure => simp [intOf]; omega
    · obtain rfl : k = n := by omega
      have hbd : IsBd w.heap.size w.heap.size D wr := by
        have := hb.out
        rw [List.take_of_length_le (by rw [Hn.out]; omega), HD.out] at this
        exact this
      go_wp2_with fail
      refine (str_any w.heap.size w.heap.size D _ hbd hGs).mono ?_
      rintro e w1 ⟨rfl, _, hb1⟩
      have hw1 : Below w.heap.size w w1 := hw.out.trans hb1
      have hm1 : MsgP B m w1 ps 0 := Hm.out.below hw1
      have hB1 : B ≤ w1.heap.size := by have := hw1.size; omega
      have Hw1 := Lib.hid (hw1.mono hB)
      clear hw1 hb1 hbd hb hw
      go_wp2_with fail
      refine (HPT.out _ hB1 hm1).mono ?_
      rintro e w2 ⟨rfl, g1, g2⟩
      have R := Lib.hid (And.intro g1 (Hw1.out.trans g2))
      clear g1 g2 hm1
      go_wp2
      go_ret
      exact ⟨rfl, R.out.1, R.out.2⟩
end Go.Proofs.Ytbkcklefkhlciaa
