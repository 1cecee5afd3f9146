/-
  Law 7: tokens that the cutter has put, one by one.
-/
import Derived.Test.YtkebjllehegjlaaGreatDoorXv
import Derived.Test.YtkebjllehegjlaaGreatDoorXs
import Derived.Test.YtkebjllehegjlaaGreatDoorXq
namespace Go.Proofs.YtkebjllehegjlaaGreatDoor
open Go.RowKit Go.Shelf
set_option linter.unusedVariables false
/-- A token, as it is told: its attribute, if it has one, is a name, a value, a place. -/
structure Tkn where
  K : Int
  A : Int
  nm : ByteArray
  tx : ByteArray
  em : Bool
  att : Option (ByteArray × ByteArray × Int)
/-- The cells c are the token t. -/
def TkAt (W : World) (B b : Nat) (t : Tkn) (c : List Value) : Prop :=
  match t.att with
  | none => c = tkC t.K t.A t.nm t.tx none 0 0 t.em
  | some q => ∃ g cap, c = tkC t.K t.A t.nm t.tx (some ⟨g, 0, none⟩) 1 cap t.em ∧ AtHolds W g q.1 q.2.1 q.2.2 ∧ B ≤ g
theorem TkAt.len {W : World} {B b : Nat} {t : Tkn} {c : List Value} (h : TkAt W B b t c) : c.length = 6 := by
  unfold TkAt at h
  split at h
  · rw [h]; rfl
  · obtain ⟨g, cap, h, _⟩ := h
    rw [h]; rfl
def Tks (W : World) (B b : Nat) : List Tkn → List Value → Prop
  | [], xs => xs = []
  | t :: ts, xs => ∃ c r, xs = c ++ r ∧ TkAt W B b t c ∧ Tks W B b ts r
theorem Tks.snoc {W : World} {B b : Nat} {t : Tkn} {c : List Value} (hc : TkAt W B b t c) : ∀ (ts : List Tkn) (xs : List Value), Tks W B b ts xs → Tks W B b (ts ++ [t]) (xs ++ c)
  | [], xs, h => by
    rw [show xs = [] from h]
    exact ⟨c, [], by simp, hc, rfl⟩
  | u :: ts, xs, h => by
    obtain ⟨d, r, rfl, hd, hr⟩ := h
    exact ⟨d, r ++ c, by rw [List.append_assoc], hd, Tks.snoc hc ts r hr⟩
theorem Tks.kept {W W' : World} {B b : Nat} (hk : ∀ g nm vl p, AtHolds W g nm vl p → B ≤ g → AtHolds W' g nm vl p) : ∀ (ts : List Tkn) (xs : List Value), Tks W B b ts xs → Tks W' B b ts xs
  | [], xs, h => h
  | t :: ts, xs, h => by
    obtain ⟨d, r, rfl, hd, hr⟩ := h
    refine ⟨d, r, rfl, ?_, Tks.kept hk ts r hr⟩
    unfold TkAt at hd ⊢
    split at hd
    · exact hd
    · obtain ⟨g, cap, h1, h2, h3⟩ := hd
      exact ⟨g, cap, h1, hk _ _ _ _ h2 h3, h3⟩
theorem AtHolds.not_cutter {W : World} {g b : Nat} {nm vl : ByteArray} {p : Int} (h : AtHolds W g nm vl p) {cs : Array Value} (hb : Blk W b 45 cs) : g ≠ b := by
  rintro rfl
  obtain ⟨cur, h1, _⟩ := h
  rw [show W.heap[g]? = _ from hb] at h1
  injection h1 with h1
  injection h1 with _ h2 _
  exact absurd h2 (by decide)
theorem AtHolds.not_row {W : World} {g B n : Nat} {nm vl : ByteArray} {p : Int} {tk : Value} {xs : List Value} (h : AtHolds W g nm vl p) (hr : W.ownsRow B 33 6 tk n xs) : tk.ownBlock ≠ some g := by
  intro e
  obtain ⟨cur, h1, _⟩ := h
  obtain ⟨_, ⟨rfl, _⟩ | ⟨g', cap, cur', rfl, _, hgb, _⟩⟩ := hr
  · cases e
  · have e2 : g' = g := by injection e
    subst e2
    rw [hgb] at h1
    injection h1 with h1
    injection h1 with _ h2 _
    exact absurd h2 (by decide)
/-- The cutter at block b stands at place k of s and has the tokens ts; w is where it all began. -/
structure St (w : World) (b : Nat) (s : ByteArray) (k : Nat) (x : Int) (tk : Value) (ts : List Tkn) (W : World) : Prop where
  cu : Cu w b s k tk x W
  row : ∃ xs, Row w.heap.size b W tk ts.length xs ∧ Tks W w.heap.size b ts xs
theorem St.step {w W W' : World} {b k k' : Nat} {s : ByteArray} {x x' : Int} {tk : Value} {ts : List Tkn} (h : St w b s k x tk ts W) (h' : Cu W b s k' tk x' W') : St w b s k' x' tk ts W' := by
  obtain ⟨xs, h1, h2⟩ := h.row
  exact ⟨h.cu.back h', xs, h1.kept h'.bel, h2.kept (fun g nm vl p hg hB => hg.kept (h'.bel.block g hg.lt (by simpa using hg.not_cutter h.cu.box))) ts xs⟩
/-- What put does: the token t is there. -/
theorem St.put {w W W1 : World} {b k k1 : Nat} {s : ByteArray} {x x1 : Int} {tk : Value} {ts : List Tkn} (h : St w b s k x tk ts W) (h' : Cu W b s k1 tk x1 W1) (t : Tkn) (ht : t.K ≠ 3 ∨ t.tx.toList.isEmpty = false) (hts : ts.length ≤ 1000000) (aa : Option Addr) (al ac : Nat) (hc : ∀ W', (∀ g nm vl p, AtHolds W1 g nm vl p → AtHolds W' g nm vl p) → TkAt W' w.heap.size b t (tkC t.K t.A t.nm t.tx aa al ac t.em)) :
    Calls Tryz.prog 35 #[.pointer (some ⟨b, 0, none⟩), .agg #[.int .i64 t.K, .int .i64 t.A, .string t.nm, .string t.tx, .slice aa al ac, .bool t.em]] W1 fun e w' => ∃ ok, e = .returned (.bool ok) ∧ (ok = true ∧ ∃ tk', St w b s k1 x1 tk' (ts ++ [t]) w') := by
  have h1 := h.step h'
  obtain ⟨xs, hr, hx⟩ := h1.row
  refine (putt_any h1.cu t.K t.A t.nm t.tx aa al ac t.em ht w.heap.size ts.length xs hr h1.cu.size hts).mono fun e w' hh => ?_
  obtain ⟨he, P⟩ := hh
  obtain ⟨tk', hb, hrow⟩ := P.toks
  have hat : ∀ g nm vl p, AtHolds W1 g nm vl p → AtHolds w' g nm vl p := fun g nm vl p hg => hg.kept (P.far g hg.lt (hg.not_cutter h1.cu.box) (hg.not_row hr.own))
  refine ⟨true, he, rfl, tk', ⟨⟨P.os.trans h1.cu.bel.os, P.tape.trans h1.cu.bel.tape, P.output.trans h1.cu.bel.output, Nat.le_trans h1.cu.bel.size P.size, fun g hg hne => ?_⟩, hb⟩, _, by rw [List.length_append]; exact hrow, (hx.kept (fun g nm vl p hg _ => hat g nm vl p hg) ts xs).snoc (hc w' hat) ts xs⟩
  exact (P.far g (Nat.lt_of_lt_of_le hg h1.cu.bel.size) (fun e => hne (by rw [e])) (fun e => by have := (hr.own.lt _ e).1; omega)).trans (h1.cu.bel.block g hg hne)
/-- One token from place k to place k'. -/
def StepOk (s : ByteArray) (k k' : Nat) (t : Tkn) : Prop := ∀ (w W : World) (b : Nat) (tk : Value) (x : Int) (ts : List Tkn), ts.length ≤ 1000000 → St w b s k x tk ts W →
  Calls Tryz.prog 12 #[.pointer (some ⟨b, 0, none⟩)] W fun e w' => ∃ ok, e = .returned (.bool ok) ∧ (ok = true ∧ ∃ tk', St w b s k' x tk' (ts ++ [t]) w')
/-- What stands at place k is no token: p is the wrong place. -/
def StepBad (s : ByteArray) (k : Nat) (p : Int) : Prop := ∀ (w W : World) (b : Nat) (tk : Value) (x : Int) (ts : List Tkn), St w b s k x tk ts W →
  Calls Tryz.prog 12 #[.pointer (some ⟨b, 0, none⟩)] W fun e w' => ∃ ok, e = .returned (.bool ok) ∧ (ok = false ∧ ∃ m, Cu w b s m tk p w')
theorem step_text {s : ByteArray} {k : Nat} (hs : s.size ≤ 1000000) (ps : List Pc) (hp : ∀ p ∈ ps, PcOk p) (hn : ∀ y ∈ srcs ps, y ≠ 62) (hdl : (decs ps).length ≤ 1000000) (hne : ps ≠ []) (hde : decs ps ≠ []) (rest : List UInt8) (hd : s.data.toList.drop k = srcs ps ++ 60 :: rest) :
    StepOk s k (k + (srcs ps).length) ⟨3, k, ⟨#[]⟩, ⟨(decs ps).toArray⟩, false, none⟩ := fun w W b tk x ts hts h => by
  obtain ⟨p, qs, rfl⟩ := List.exists_cons_of_ne_nil hne
  obtain ⟨y, r, hy, hy60⟩ : ∃ y r, s.data.toList.drop k = y :: r ∧ y.toNat ≠ 60 := by
    rw [hd]
    show ∃ y r, (p.src ++ srcs qs) ++ 60 :: rest = y :: r ∧ y.toNat ≠ 60
    rcases hp p (List.mem_cons_self ..) with ⟨z, h1, _, h2⟩ | ⟨r, h1, _⟩
    · rw [h1]; exact ⟨z, _, rfl, h2.1⟩
    · rw [h1]; exact ⟨38, _, rfl, by decide⟩
  obtain ⟨hk, hsk, _, _⟩ := drop_get hy
  refine token_text h.cu.me hk (by rw [hsk]; exact hy60) (fun ok w' => ok = true ∧ ∃ tk', St w b s (k + (srcs (p :: qs)).length) x tk' (ts ++ [⟨3, k, ⟨#[]⟩, ⟨(decs (p :: qs)).toArray⟩, false, none⟩]) w') (fun W' h' => ?_)
  refine text_any h' hs (p :: qs) hp hn hdl rest hd (fun ok w' => ok = true ∧ ∃ tk', St w b s (k + (srcs (p :: qs)).length) x tk' (ts ++ [⟨3, k, ⟨#[]⟩, ⟨(decs (p :: qs)).toArray⟩, false, none⟩]) w') (fun W1 h1 => ?_)
  refine h.put h1 ⟨3, k, ⟨#[]⟩, ⟨(decs (p :: qs)).toArray⟩, false, none⟩ (.inr ?_) hts none 0 0 (fun W' _ => rfl)
  rw [ByteArray.toList_eq]
  show (decs (p :: qs)).isEmpty = false
  cases hz : decs (p :: qs) with
  | nil => exact absurd hz hde
  | cons a r => rfl
theorem first_open {s : ByteArray} {k : Nat} {y : UInt8} {l : List UInt8} (h : s.data.toList.drop k = 60 :: y :: l) (h1 : y ≠ 33) (h2 : y ≠ 63) :
    goes s k ⟨#[60, 33, 45, 45]⟩ = false ∧ goes s k ⟨#[60, 33, 91, 67, 68, 65, 84, 65, 91]⟩ = false ∧ goes s k ⟨#[60, 63]⟩ = false := by
  have e1 : (33 == y) = false := by rw [beq_eq_false_iff_ne]; exact fun e => h1 e.symm
  have e2 : (63 == y) = false := by rw [beq_eq_false_iff_ne]; exact fun e => h2 e.symm
  refine ⟨?_, ?_, ?_⟩
  · rw [goes_list, h]
    show ([60, 33, 45, 45] : List UInt8).isPrefixOf (60 :: y :: l) = false
    simp [List.isPrefixOf, e1]
  · rw [goes_list, h]
    show ([60, 33, 91, 67, 68, 65, 84, 65, 91] : List UInt8).isPrefixOf (60 :: y :: l) = false
    simp [List.isPrefixOf, e1]
  · rw [goes_list, h]
    show ([60, 63] : List UInt8).isPrefixOf (60 :: y :: l) = false
    simp [List.isPrefixOf, e2]
theorem no_close {s : ByteArray} {k : Nat} {y : UInt8} {l : List UInt8} (h : s.data.toList.drop k = 60 :: y :: l) (h1 : y ≠ 47) : goes s k ⟨#[60, 47]⟩ = false := by
  have e1 : (47 == y) = false := by rw [beq_eq_false_iff_ne]; exact fun e => h1 e.symm
  rw [goes_list, h]
  show ([60, 47] : List UInt8).isPrefixOf (60 :: y :: l) = false
  simp [List.isPrefixOf, e1]
/-- A letter that a name begins with. -/
def Letter (c : UInt8) : Prop := c = 97 ∨ c = 98
theorem Letter.ok {c : UInt8} (h : Letter c) : c.toNat < 128 ∧ uStart (c.toNat : Int) = true ∧ c ≠ 33 ∧ c ≠ 63 ∧ c ≠ 47 ∧ c ≠ 62 ∧ uSpace (c.toNat : Int) = false := by
  rcases h with rfl | rfl <;> decide
theorem nm_letter {s : ByteArray} {k : Nat} {c y : UInt8} {l : List UInt8} (h : Letter c) (hd : s.data.toList.drop k = c :: y :: l) (hy : y.toNat < 128) (hp : uPart (y.toNat : Int) = false) : Nm s k c :=
  ⟨⟨_, hd⟩, by rw [hd]; exact nsize_one h.ok.1 h.ok.2.1 hy hp⟩
theorem step_open {s : ByteArray} {k : Nat} (hs : s.size ≤ 1000000) {c : UInt8} (hc : Letter c) {l : List UInt8} (hd : s.data.toList.drop k = 60 :: c :: 62 :: l) :
    StepOk s k (k + 3) ⟨1, k, ⟨#[c]⟩, ⟨#[]⟩, false, none⟩ := fun w W b tk x ts hts h => by
  obtain ⟨hk, hsk, _, hd1⟩ := drop_get hd
  obtain ⟨o1, o2, o3, o4, o5, o6, o7⟩ := hc.ok
  obtain ⟨g1, g2, g3⟩ := first_open hd o3 o4
  refine token_open h.cu.me hk hs (by rw [hsk]; rfl) g1 g2 g3 (no_close hd o5) (fun ok w' => ok = true ∧ ∃ tk', St w b s (k + 3) x tk' (ts ++ [⟨1, k, ⟨#[c]⟩, ⟨#[]⟩, false, none⟩]) w') (fun W' h' => ?_)
  refine opening_z h' hs (k : Int) (nm_letter hc hd1 (by decide) (by decide)) hd1 (fun ok w' => ok = true ∧ ∃ tk', St w b s (k + 3) x tk' (ts ++ [⟨1, k, ⟨#[c]⟩, ⟨#[]⟩, false, none⟩]) w') (fun W1 h1 => ?_)
  exact h.put h1 ⟨1, k, ⟨#[c]⟩, ⟨#[]⟩, false, none⟩ (.inl (show (1 : Int) ≠ 3 by decide)) hts none 0 0 (fun W' _ => rfl)
theorem step_close {s : ByteArray} {k : Nat} (hs : s.size ≤ 1000000) {c : UInt8} (hc : Letter c) {l : List UInt8} (hd : s.data.toList.drop k = 60 :: 47 :: c :: 62 :: l) :
    StepOk s k (k + 4) ⟨2, k, ⟨#[c]⟩, ⟨#[]⟩, false, none⟩ := fun w W b tk x ts hts h => by
  obtain ⟨hk, hsk, _, hd1⟩ := drop_get hd
  obtain ⟨_, _, _, hd2⟩ := drop_get hd1
  obtain ⟨g1, g2, g3⟩ := first_open hd (by decide) (by decide)
  refine token_close h.cu.me hk hs (by rw [hsk]; rfl) g1 g2 g3 (goes_yes (u := [60, 47]) hd) (fun ok w' => ok = true ∧ ∃ tk', St w b s (k + 4) x tk' (ts ++ [⟨2, k, ⟨#[c]⟩, ⟨#[]⟩, false, none⟩]) w') (fun W' h' => ?_)
  refine closing_one h' hs (k : Int) (nm_letter hc hd2 (by decide) (by decide)) hd2 (fun ok w' => ok = true ∧ ∃ tk', St w b s (k + 4) x tk' (ts ++ [⟨2, k, ⟨#[c]⟩, ⟨#[]⟩, false, none⟩]) w') (fun W1 h1 => ?_)
  exact h.put h1 ⟨2, k, ⟨#[c]⟩, ⟨#[]⟩, false, none⟩ (.inl (show (2 : Int) ≠ 3 by decide)) hts none 0 0 (fun W' _ => rfl)
/-- An element with one attribute: blanks b1 ahead of its name, b2 and b3 around its sign, b4 behind its value, which stands between quotes q. -/
theorem step_attr {s : ByteArray} {k : Nat} (hs : s.size ≤ 1000000) {c c2 q : UInt8} (hc : Letter c) (hc2 : Letter c2) (hq : q = 34 ∨ q = 39) (b1 b2 b3 b4 : List UInt8) (h1 : ∀ z ∈ b1, uSpace (z.toNat : Int) = true) (hn1 : b1 ≠ []) (h2 : ∀ z ∈ b2, uSpace (z.toNat : Int) = true) (h3 : ∀ z ∈ b3, uSpace (z.toNat : Int) = true) (h4 : ∀ z ∈ b4, uSpace (z.toNat : Int) = true)
    (ps : List Pc) (hp : ∀ p ∈ ps, VcOk q p) (hdl : (decs ps).length ≤ 1000000) (em : Bool) (l : List UInt8) (hd : s.data.toList.drop k = 60 :: c :: (b1 ++ c2 :: (b2 ++ 61 :: (b3 ++ q :: (srcs ps ++ q :: (b4 ++ (if em = true then 47 :: 62 :: l else 62 :: l))))))) :
    StepOk s k (k + 2 + b1.length + 1 + b2.length + 1 + b3.length + 1 + (srcs ps).length + 1 + b4.length + (if em = true then 2 else 1)) ⟨1, k, ⟨#[c]⟩, ⟨#[]⟩, em, some (⟨#[c2]⟩, ⟨(decs ps).toArray⟩, ((k + 2 + b1.length : Nat) : Int))⟩ := fun w W b tk x ts hts h => by
  obtain ⟨hk, hsk, _, hd1⟩ := drop_get hd
  obtain ⟨o1, o2, o3, o4, o5, o6, o7⟩ := hc.ok
  obtain ⟨p1, p2, p3, p4, p5, p6, p7⟩ := hc2.ok
  obtain ⟨g1, g2, g3⟩ := first_open hd o3 o4
  have hd2 : s.data.toList.drop (k + 1 + 1) = b1 ++ c2 :: (b2 ++ 61 :: (b3 ++ q :: (srcs ps ++ q :: (b4 ++ (if em = true then 47 :: 62 :: l else 62 :: l))))) := (drop_get hd1).2.2.2
  have hd3 : s.data.toList.drop (k + 1 + 1 + b1.length) = c2 :: (b2 ++ 61 :: (b3 ++ q :: (srcs ps ++ q :: (b4 ++ (if em = true then 47 :: 62 :: l else 62 :: l))))) := drop_step hd2
  have hd4 : s.data.toList.drop (k + 1 + 1 + b1.length + 1) = b2 ++ 61 :: (b3 ++ q :: (srcs ps ++ q :: (b4 ++ (if em = true then 47 :: 62 :: l else 62 :: l)))) := (drop_get hd3).2.2.2
  have hd5 : s.data.toList.drop (k + 1 + 1 + b1.length + 1 + b2.length + 1 + b3.length + 1 + (srcs ps).length + 1) = b4 ++ (if em = true then 47 :: 62 :: l else 62 :: l) :=
    drop_step (a := [q]) (drop_step (a := srcs ps) (drop_step (a := [q]) (drop_step (a := b3) (drop_step (a := [61]) (drop_step (a := b2) hd4)))))
  have sp : ∀ z : UInt8, uSpace (z.toNat : Int) = true → z.toNat < 128 ∧ uPart (z.toNat : Int) = false := fun z hz => by
    refine ⟨?_, ?_⟩
    · unfold uSpace at hz
      have := of_decide_eq_true hz
      omega
    · cases hpz : uPart (z.toNat : Int) with
      | false => rfl
      | true => rw [uPart_space _ hpz] at hz; cases hz
  have N1 : Nm s (k + 1) c := by
    obtain ⟨z, r, hb⟩ := List.exists_cons_of_ne_nil hn1
    rw [hb] at hd1
    have := sp z (h1 z (by rw [hb]; exact List.mem_cons_self ..))
    exact nm_letter hc hd1 this.1 this.2
  have N2 : Nm s (k + 1 + 1 + b1.length) c2 := by
    cases b2 with
    | nil => exact nm_letter hc2 hd3 (by decide) (by decide)
    | cons z r =>
      have := sp z (h2 z (List.mem_cons_self ..))
      exact nm_letter hc2 hd3 this.1 this.2
  refine token_open h.cu.me hk hs (by rw [hsk]; rfl) g1 g2 g3 (no_close hd o5) _ (fun W' h' => ?_)
  refine opening_o h' hs (k : Int) N1 b1 h1 hn1 N2 ⟨p7, p6, p5⟩ _ hd2 ⟨(decs ps).toArray⟩ _ b4 l h4 em hd5 (fun W2 h2' => ?_) _ (fun W1 g cap h1' hat hg => ?_)
  · rcases hq with rfl | rfl
    · exact value_34 h2' hs (k : Int) b2 b3 h2 h3 ps hp hdl _ hd4
    · exact value_39 h2' hs (k : Int) b2 b3 h2 h3 ps hp hdl _ hd4
  · have := h.put h1' ⟨1, k, ⟨#[c]⟩, ⟨#[]⟩, em, some (⟨#[c2]⟩, ⟨(decs ps).toArray⟩, ((k + 1 + 1 + b1.length : Nat) : Int))⟩ (.inl (show (1 : Int) ≠ 3 by decide)) hts (some ⟨g, 0, none⟩) 1 cap (fun W' hW => ⟨g, cap, rfl, hW _ _ _ _ hat, Nat.le_trans h.cu.size hg⟩)
    exact this
/-- The text is at its end within an element. -/
theorem step_none {s : ByteArray} {k : Nat} (hs : s.size ≤ 1000000) {c : UInt8} (hc : Letter c) (hd : s.data.toList.drop k = [60, c]) : StepBad s k (k : Int) := fun w W b tk x ts h => by
  obtain ⟨hk, hsk, _, hd1⟩ := drop_get hd
  obtain ⟨o1, o2, o3, o4, o5, o6, o7⟩ := hc.ok
  obtain ⟨g1, g2, g3⟩ := first_open hd o3 o4
  refine token_open h.cu.me hk hs (by rw [hsk]; rfl) g1 g2 g3 (no_close hd o5) (fun ok w' => ok = false ∧ ∃ m, Cu w b s m tk (k : Int) w') (fun W' h' => ?_)
  exact (opening_f h' hs (k : Int) ⟨⟨_, hd1⟩, by rw [hd1]; exact nsize_last o1 o2⟩ hd1).mono fun e w' hh => ⟨false, hh.1, rfl, _, h.cu.back hh.2⟩
end Go.Proofs.YtkebjllehegjlaaGreatDoor
