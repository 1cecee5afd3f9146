/-
  A message, good or with an error: put, fail, Bytes.
  PutFloats and PutInts of many; PutFloats of a pattern that is none.
  What is put, one call at a time, whatever the message has come to.
-/
import Derived.Test.YtbkcklefkhlciaaMops2
import Derived.Test.YtbkcklefkhlciaaMflts
import Derived.Test.YtbkcklefkhlciaaMputF
import Derived.Test.YtbkcklefkhlciaaMops3
namespace Go.Proofs.Ytbkcklefkhlciaa
open Go.RowKit
set_option linter.unusedVariables false
def okn (num : Int) : Bool := decide (1 ≤ num ∧ num ≤ 536870911)
theorem okn_yes {num : Int} (h : okn num = true) : 1 ≤ num ∧ num ≤ 536870911 := by unfold okn at h; simpa using h
theorem okn_no {num : Int} (h : okn num = false) : ¬ (1 ≤ num ∧ num ≤ 536870911) := by unfold okn at h; simpa using h
/-- What a message has come to: its fields, or an error. -/
abbrev Sta := Option (List (Fd × ByteArray))
def St (B m : Nat) (W : World) : Sta → Prop
  | some ps => MsgP B m W ps 0
  | none => ∃ l es, IsMsg B m W l es 1
theorem St.below {B m : Nat} {W W' : World} {st : Sta} (h : St B m W st) (hb : Below W.heap.size W W') : St B m W' st := by
  cases st with
  | some ps => exact MsgP.below h hb
  | none => obtain ⟨l, es, h⟩ := h; exact ⟨l, es, IsMsg.below h hb⟩
theorem St.made {B m : Nat} {W : World} {st : Sta} (h : St B m W st) : W.cell? ⟨m, 0, none⟩ = some (.bool true) := by
  cases st with
  | some ps => obtain ⟨_, fv, ev, hb, _⟩ := h; exact hb.cell 0
  | none => obtain ⟨l, es, _, fv, ev, hb, _⟩ := h; exact hb.cell 0
def addS (num : Int) : Sta → List (Fd × ByteArray) → Sta
  | none, _ => none
  | some ps, [] => some ps
  | some ps, p :: r => if okn num then some (ps ++ (p :: r)) else none
theorem addS_nil (num : Int) (st : Sta) : addS num st [] = st := by cases st <;> rfl
theorem addS_app (num : Int) (st : Sta) (a b : List (Fd × ByteArray)) : addS num (addS num st a) b = addS num st (a ++ b) := by
  cases st with
  | none => rfl
  | some ps =>
    cases a with
    | nil => rfl
    | cons p r =>
      simp only [addS, List.cons_append]
      cases hk : okn num
      · simp [addS]
      · cases b with
        | nil => simp [addS]
        | cons q t => simp [addS, hk]
def StIs (B m : Nat) (st : Sta) (w : World) (e : Ending) (w' : World) : Prop := e = .returned (.pointer (some ⟨m, 0, none⟩)) ∧ St B m w' st ∧ Below B w w' ∧ Fr m w w'
/-- A field with its bytes. -/
def fF (num : Int) (kind val : Nat) (d : ByteArray) : Fd × ByteArray := (⟨num.toNat, kind, val, d⟩, txt (pput num.toNat kind val d))
def KG (kind val : Nat) (d : ByteArray) : Prop := (kind = 0 ∧ d = ⟨#[]⟩) ∨ (kind = 2 ∧ val = 0 ∧ d.size ≤ 60000)
theorem may_k {num : Int} {kind val : Nat} {d : ByteArray} (hk : KG kind val d) (h : okn num = true) : May num kind val d := by
  obtain ⟨h1, h2⟩ := okn_yes h
  rcases hk with ⟨rfl, rfl⟩ | ⟨rfl, rfl, hd⟩
  · exact ⟨h1, h2, .inl ⟨rfl, rfl⟩⟩
  · exact ⟨h1, h2, .inr (.inr (.inr ⟨rfl, rfl, hd⟩))⟩
theorem puthid_k {num : Int} {kind val : Nat} {d : ByteArray} (hv : val < 18446744073709551616) (hk : KG kind val d) (h : okn num = true) : PutHid (fF num kind val d).1 (fF num kind val d).2 := fun w a => by
  have hm := may_k hk h
  have h1 := (okn_yes h).1
  have e : ((num.toNat : Nat) : Int) = num := by omega
  unfold fF
  simp only
  rw [e]
  rcases hk with ⟨rfl, rfl⟩ | ⟨rfl, rfl, hd⟩
  · exact put_varint num a val w hv hm
  · exact put_bytes num a d w hm
theorem size_k {num : Int} {kind val : Nat} {d : ByteArray} (hv : val < 18446744073709551616) (hk : KG kind val d) (h : okn num = true) : (fF num kind val d).2.size ≤ 20 + d.size := by
  have := (pput_length num kind val d (may_k hk h) hv).2
  unfold fF; rw [txt_size]; exact this
theorem fr_three (m : Nat) (w : World) (u : Value) : Fr m w (w.setCell ⟨m, 3, none⟩ u) :=
  ⟨by simp, fun g hg ⟨h1, h2, h3⟩ => ⟨Below.heap_setCell w ⟨m, 3, none⟩ u g h1, h1, fun v hv => h2 v (by rw [World.cell?_setCell_other _ _ _ _ (fun e => by simp at e)] at hv; exact hv), fun v hv => h3 v (by rw [World.cell?_setCell_other _ _ _ _ (fun e => by simp at e)] at hv; exact hv)⟩⟩
theorem putp_two (B m : Nat) (ps : List (Fd × ByteArray)) (p : Fd) (tl : ByteArray) (w : World) (hB : B ≤ w.heap.size) (h : MsgP B m w ps 0) (HP : Hid (PutHid p tl)) (hs : Small ps) (htl0 : tl.size ≤ 1000000) :
    Calls Try.prog 37 #[.pointer (some ⟨m, 0, none⟩), .agg #[.int .i64 p.num, .int .i64 p.kind, .int .i64 0, .int .u64 p.val, .string p.data]] w (StIs B m (some (ps ++ [(p, tl)])) w) := by
  refine (put_good2 B m _ _ p tl w hB h HP (by rw [places_length]; exact hs.1) (by rw [ends_length]; exact hs.1) (by rw [lastOf_ends]; have := hs.2; omega) htl0).mono ?_
  rintro e w' ⟨⟨rfl, h1, h2⟩, h3⟩
  refine ⟨rfl, ?_, h2, h3⟩
  show MsgP B m w' _ 0
  unfold MsgP
  rw [places_snoc, ends_snoc, Nat.zero_add, ← lastOf_ends]
  exact h1
theorem msg_three (m : Nat) (W : World) {B : Nat} {l : List (Fd × Nat)} {es : List Nat} {c : Int} (h : IsMsg B m W l es c) : ∃ fv ev, Blk W m 75 #[.bool true, fv, ev, .int .i64 c] ∧ IsMsg B m (W.setCell ⟨m, 3, none⟩ (.int .i64 1)) l es 1 := by
  obtain ⟨hB, fv, ev, hb, hf, he⟩ := h
  exact ⟨fv, ev, hb, hB, fv, ev, hb.set_ 3 _, own_set hf hb (by decide) 3 _, own_set he hb (by decide) 3 _⟩
set_option maxRecDepth 100000 in
theorem fail_any (B m : Nat) (st : Sta) (w : World) (h : St B m w st) : Calls Try.prog 42 #[.pointer (some ⟨m, 0, none⟩), .int .i64 1] w (StIs B m none w) := by
  have hm := h.made
  cases st with
  | none =>
    obtain ⟨l, es, h⟩ := h
    have H := Lib.hid h
    have c3 : w.cell? ⟨m, 3, none⟩ = some (.int .i64 1) := by obtain ⟨_, fv, ev, hb, _⟩ := h; exact hb.cell 3
    clear h
    go_enter Try.func42, Try.ntmps42
    go_wp2_with fail
    refine (none_msg m _ hm).mono ?_
    rintro e w1 ⟨rfl, rfl⟩
    go_wp2_with fail
    refine (none_msg m _ hm).mono ?_
    rintro e w1 ⟨rfl, rfl⟩
    go_wp2
    go_ret
    exact ⟨rfl, ⟨l, es, H.out⟩, Below.refl _ _, Fr.refl _ _⟩
  | some ps =>
    have h0 : IsMsg B m w (places 0 ps) (ends 0 ps) 0 := h
    obtain ⟨fv, ev, hb, h2⟩ := msg_three m w h0
    have H2 := Lib.hid h2
    have hBm : B ≤ m := h2.1
    have c3 : w.cell? ⟨m, 3, none⟩ = some (.int .i64 0) := hb.cell 3
    have f3 : w.frozen? ⟨m, 3, none⟩ = false := hb.frozen 3
    have hm2 : (w.setCell ⟨m, 3, none⟩ (.int .i64 1)).cell? ⟨m, 0, none⟩ = some (.bool true) := by obtain ⟨_, fv, ev, hb, _⟩ := h2; exact hb.cell 0
    clear h h0 h2 hb
    go_enter Try.func42, Try.ntmps42
    go_wp2_with fail
    refine (none_msg m _ hm).mono ?_
    rintro e w1 ⟨rfl, rfl⟩
    go_wp2_with fail
    refine (none_msg m _ hm2).mono ?_
    rintro e w1 ⟨rfl, rfl⟩
    go_wp2
    go_ret
    exact ⟨rfl, ⟨_, _, H2.out⟩, (Below.refl B w).setCell (p := ⟨m, 3, none⟩) hBm _, fr_three m w _⟩
def Fit (st : Sta) : Prop := ∀ ps, st = some ps → Small ps
set_option maxRecDepth 100000 in
set_option maxHeartbeats 1000000 in
theorem put_st (B m : Nat) (st : Sta) (num : Int) (kind val : Nat) (d : ByteArray) (w : World) (hB : B ≤ w.heap.size) (h : St B m w st) (hf : Fit st) (hv : val < 18446744073709551616) (hk : KG kind val d) :
    Calls Try.prog 37 #[.pointer (some ⟨m, 0, none⟩), .agg #[.int .i64 num, .int .i64 (kind : Int), .int .i64 0, .int .u64 (val : Int), .string d]] w (StIs B m (addS num st [fF num kind val d]) w) := by
  have hm := h.made
  have hml : m < w.heap.size := World.block_lt_of_cell? w _ hm
  cases st with
  | none =>
    obtain ⟨l, es, h⟩ := h
    have H := Lib.hid h
    have c3 : ∀ o, (w.alloc o).cell? ⟨m, 3, none⟩ = some (.int .i64 1) := fun o => by obtain ⟨_, fv, ev, hb, _⟩ := h; exact (hb.alloc o).cell 3
    have c0 : ∀ o, (w.alloc o).cell? ⟨m, 0, none⟩ = some (.bool true) := fun o => by obtain ⟨_, fv, ev, hb, _⟩ := h; exact (hb.alloc o).cell 0
    have HB := Lib.hid hB
    clear h hf hv hk hB
    go_enter Try.func37, Try.ntmps37
    go_wp2_with fail
    refine (none_msg m _ (c0 _)).mono ?_
    rintro e w1 ⟨rfl, rfl⟩
    go_wp2_with fail
    refine (none_msg m _ (c0 _)).mono ?_
    rintro e w1 ⟨rfl, rfl⟩
    go_wp2
    go_ret
    exact ⟨rfl, ⟨l, es, H.out.below ((Below.refl _ _).alloc (Nat.le_refl _) _)⟩, (Below.refl _ _).alloc HB.out _, Fr.below ((Below.refl _ _).alloc (Nat.le_refl _) _) hml⟩
  | some ps =>
    cases hn : okn num with
    | true =>
      have hs := hf ps rfl
      have hsz := size_k (num := num) hv hk hn
      have hd : d.size ≤ 60000 := by rcases hk with ⟨_, rfl⟩ | ⟨_, _, hd⟩ <;> first | exact hd | exact Nat.zero_le _
      have q := putp_two B m ps (fF num kind val d).1 (fF num kind val d).2 w hB h (Lib.hid (puthid_k hv hk hn)) hs (by omega)
      have e : ((num.toNat : Nat) : Int) = num := by have := (okn_yes hn).1; omega
      have e2 : addS num (some ps) [fF num kind val d] = some (ps ++ [fF num kind val d]) := by simp [addS, hn]
      rw [e2]
      have q' : Calls Try.prog 37 #[.pointer (some ⟨m, 0, none⟩), .agg #[.int .i64 ((num.toNat : Nat) : Int), .int .i64 (kind : Int), .int .i64 0, .int .u64 (val : Int), .string d]] w (StIs B m (some (ps ++ [fF num kind val d])) w) := q
      rw [e] at q'
      exact q'
    | false =>
      have e2 : addS num (some ps) [fF num kind val d] = none := by simp [addS, hn]
      rw [e2]
      have hno : ¬ May num kind val d := fun hmay => okn_no hn ⟨hmay.1, hmay.2.1⟩
      have hd : d.size ≤ maxLen := by unfold maxLen; rcases hk with ⟨_, rfl⟩ | ⟨_, _, hd⟩ <;> first | omega | exact Nat.zero_le _
      have HP : Hid (∀ w, Calls Try.prog 44 #[.agg #[.int .i64 num, .int .i64 (kind : Int), .int .i64 0, .int .u64 (val : Int), .string d]] w (GavePut ⟨#[]⟩ 1 w)) := Lib.hid (fun w => put_no num kind 0 val d w hv hd hno)
      have H : Hid (MsgP B m w ps 0) := Lib.hid h
      have c3 : ∀ o, (w.alloc o).cell? ⟨m, 3, none⟩ = some (.int .i64 0) := fun o => by obtain ⟨_, fv, ev, hb, _⟩ := h; exact (hb.alloc o).cell 3
      have c0 : ∀ o, (w.alloc o).cell? ⟨m, 0, none⟩ = some (.bool true) := fun o => by obtain ⟨_, fv, ev, hb, _⟩ := h; exact (hb.alloc o).cell 0
      have HB := Lib.hid hB
      clear h hf hv hk hB hno hd e2 hn
      go_enter Try.func37, Try.ntmps37
      go_wp2_with fail
      refine (none_msg m _ (c0 _)).mono ?_
      rintro e w1 ⟨rfl, rfl⟩
      go_wp2_with fail
      refine (HP.out _).mono ?_
      rintro e w1 ⟨rfl, hb1⟩
      have h1 : MsgP B m w1 ps 0 := (H.out.below ((Below.refl _ _).alloc (Nat.le_refl _) _)).below hb1
      have b1 : Below B w w1 := ((Below.refl _ _).alloc HB.out _).trans (hb1.mono (by have := HB.out; simp; omega))
      have f1 : Fr m w w1 := Fr.below (((Below.refl _ _).alloc (Nat.le_refl _) _).trans (hb1.mono (by simp))) hml
      have H1 := Lib.hid h1; have B1 := Lib.hid b1; have F1 := Lib.hid f1
      clear h1 b1 f1 hb1 c0 c3
      go_wp2_with fail
      refine (fail_any B m (some ps) _ H1.out).mono ?_
      rintro e w2 ⟨rfl, h2, b2, f2⟩
      have R : Hid (St B m w2 none ∧ Below B w w2 ∧ Fr m w w2) := Lib.hid ⟨h2, B1.out.trans b2, F1.out.trans f2⟩
      clear h2 b2 f2
      go_wp2
      go_ret
      exact ⟨rfl, R.out⟩
set_option maxRecDepth 100000 in
theorem bytes_bad (B m : Nat) (w : World) (h : St B m w none) : Calls Try.prog 23 #[.pointer (some ⟨m, 0, none⟩)] w fun e w' => e = .returned (.tuple #[.string ⟨#[]⟩, .int .i64 1]) ∧ ∃ n, w' = w.drewN n := by
  have c0 := h.made
  obtain ⟨l, es, h⟩ := h
  have c3 : w.cell? ⟨m, 3, none⟩ = some (.int .i64 1) := by obtain ⟨_, fv, ev, hb, _⟩ := h; exact hb.cell 3
  clear h
  go_enter Try.func23, Try.ntmps23
  go_wp2_with fail
  refine (none_msg m _ c0).mono ?_
  rintro e w1 ⟨rfl, rfl⟩
  go_wp2_with fail
  go_quiet (fail)
  go_wp2
  go_ret2
  exact ⟨rfl, _, rfl⟩
end Go.Proofs.Ytbkcklefkhlciaa
namespace Go.Proofs.Ytbkcklefkhlciaa
open Go.RowKit
set_option linter.unusedVariables false
set_option maxRecDepth 100000 in
set_option maxHeartbeats 2000000 in
theorem putfloats_big (pt : Option Addr) (num : Int) (us : List Nat) (a : Option Addr) (c : Nat) (Inv : World → World → Prop) (w : World) (hz : us.length ≤ 10000) (hne : 0 < us.length) (hs : ∀ u ∈ us, u < 4294967296) (hr : UR w a us) (HPT : Hid (PutTo pt num (fbs us) Inv w)) :
    Calls Try.prog 19 #[.pointer pt, .int .i64 num, .slice a us.length c] w (PutRes pt Inv w) := by
  have hsz := fbs_size us
  obtain ⟨D, hD⟩ : ∃ D, fbs us = D := ⟨_, rfl⟩
  rw [hD] at HPT
  unfold PutTo at HPT
  have HD := Lib.hid hD
  have Hr := Lib.hid hr
  have Hs := Lib.hid hs
  obtain ⟨n, hn⟩ : ∃ n, us.length = n := ⟨_, rfl⟩
  rw [hn] at hz hne ⊢
  have Hn := Lib.hid hn
  clear hr hD hn hsz hs
  have hn0 : ((n : Int) == 0) = false := by simp; omega
  go_enter Try.func19, Try.ntmps19
  go_wp2_with fail
  have hbd := Lib.hid (bd_new w w.heap.size (Nat.le_refl _))
  have hbw : Hid (Below w.heap.size w (w.alloc (.cells #[.pointer none, .slice none 0 0] 81))) := Lib.hid ((Below.refl _ _).alloc (Nat.le_refl _) _)
  go_loopw [18] (fun i wr => ∃ k : Nat, k ≤ n ∧ i = .int .i64 (k : Int) ∧ Hid (IsBd w.heap.size w.heap.size (fbs (us.take k)) wr) ∧ Hid (Below w.heap.size w wr) ∧ w.heap.size ≤ wr.heap.size) (fun i _ => n - (intOf i).toNat)
  case atStart => exact ⟨0, by omega, rfl, by simpa [fbs] using hbd, hbw, by simp⟩
  case round =>
    obtain ⟨k, hk, rfl, hb, hw, hGs⟩ := hrel
    clear hbd hbw
    by_cases hlt : k < n
    · obtain ⟨ad, rfl, _, hc⟩ := (Hr.out.below hw.out) k (by rw [Hn.out]; exact hlt)
      have hi0 : (0 : Int) ≤ (k : Int) := by omega
      have hi1 : (k : Int) < (n : Int) := by omega
      have hmem : us.getD k 0 ∈ us := by
        have hkl : k < us.length := by rw [Hn.out]; exact hlt
        rw [List.getD_eq_getElem?_getD, List.getElem?_eq_getElem hkl]
        exact List.getElem_mem hkl
      have hmore : Hid (fbs (us.take (k + 1)) = fbs (us.take k) ++ txt (fx (us.getD k 0) 4)) := Lib.hid (by rw [take_more us k 0 (by rw [Hn.out]; exact hlt), fbs_app, fbs_one])
      have hx4 := Hs.out _ hmem
      have hsl : Hid ((fbs (us.take k)).size ≤ 100000) := Lib.hid (by rw [fbs_size, List.length_take]; omega)
      obtain ⟨x, hx⟩ : ∃ x, us.getD k 0 = x := ⟨_, rfl⟩
      rw [hx] at hc hmore hx4
      obtain ⟨T, hT⟩ : ∃ T, fbs (us.take k) = T := ⟨_, rfl⟩
      rw [hT] at hb hmore hsl
      have hx4i : ¬ (4294967296 : Int) ≤ (x : Int) := by omega
      clear hx hT hmem hx4
      go_wp2_with fail
      clear hx4i
      go_loopw [26] (fun i wq => ∃ j : Nat, j ≤ 4 ∧ i = .int .i64 (j : Int) ∧ Hid (IsBd w.heap.size w.heap.size (T ++ txt (fx x j)) wq) ∧ Hid (Below w.heap.size w wq) ∧ w.heap.size ≤ wq.heap.size) (fun i _ => 4 - (intOf i).toNat)
      case atStart => exact ⟨0, by omega, rfl, Lib.hid (by rw [show txt (fx x 0) = ⟨#[]⟩ from rfl, bapp_nil]; exact hb.out), hw, hGs⟩
      case round =>
        obtain ⟨j, hj, rfl, hb, hw, hGs⟩ := hrel
        by_cases hlj : j < 4
        · have hby : Hid (((x : Nat) : Int) / 2 ^ (8 * j) % 256 = ((x / 256 ^ j % 256 : Nat) : Int)) := Lib.hid (shr_byte x j)
          have hln : (T ++ txt (fx x j)).size ≤ 200000 := by have := hsl.out; rw [bsize_app, txt_size, fx_length]; omega
          have HWB : Hid (∀ wq, w.heap.size ≤ wq.heap.size → IsBd w.heap.size w.heap.size (T ++ txt (fx x j)) wq → Calls Try.prog 43 #[.pointer (some ⟨w.heap.size, 0, none⟩), .int .u8 (((x : Nat) : Int) / 2 ^ (8 * j) % 256)] wq (WroteIs .nilIface w.heap.size w.heap.size (T ++ txt (fx x (j + 1))) wq)) := Lib.hid (fun wq hq hbq => by
            rw [hby.out, fx_succ, txt_app, ← bapp_assoc, ← push_txt]
            exact wb_any w.heap.size w.heap.size _ _ wq (Nat.mod_lt _ (by omega)) hbq (by omega) hq)
          clear hby hln
          go_wp2_with fail
          refine (HWB.out _ hGs hb.out).mono ?_
          rintro e w2 ⟨rfl, hb2, hb3⟩
          have hbd2 := Lib.hid hb2
          have hw2 := Lib.hid (hw.out.trans hb3)
          have hG2 : w.heap.size ≤ w2.heap.size := Nat.le_trans hGs hb3.size
          clear hb hw hb2 hb3 HWB
          go_wp2
          go_roundw
          case rel => first | exact ⟨j + 1, by omega, by go_num, hbd2, hw2, hG2⟩ | ((repeat apply Exists.intro); exact ⟨⟨j + 1, by omega, by go_num, hbd2, hw2, hG2⟩, rfl⟩)
          case measure => simp [intOf]; omega
        · obtain rfl : j = 4 := by omega
          have hbd2 : Hid (IsBd w.heap.size w.heap.size (fbs (us.take (k + 1))) _) := Lib.hid (by rw [hmore.out]; exact hb.out)
          clear hb hmore hsl hc
          go_wp2
          go_roundw
          case rel => first | exact ⟨k + 1, by omega, by go_num, hbd2, hw, hGs⟩ | ((repeat apply Exists.intro); exact ⟨⟨k + 1, by omega, by go_num, hbd2, hw, hGs⟩, rfl⟩)
          case measure => simp [intOf]; omega
    · obtain rfl : k = n := by omega
      have hbd : IsBd w.heap.size w.heap.size D wr := by
        have := hb.out
        rw [List.take_of_length_le (by rw [Hn.out]; omega), HD.out] at this
        exact this
      go_wp2_with fail
      refine (str_any w.heap.size w.heap.size D _ hbd hGs).mono ?_
      rintro e w1 ⟨rfl, _, hb1⟩
      have Hw1 := Lib.hid (hw.out.trans hb1)
      clear hb1 hbd hb hw
      go_wp2_with fail
      refine (HPT.out _ Hw1.out).mono ?_
      rintro e w2 ⟨rfl, g1⟩
      have R := Lib.hid g1
      clear g1
      go_wp2
      go_ret
      exact ⟨rfl, w1, Hw1.out, R.out⟩
set_option maxRecDepth 100000 in
set_option maxHeartbeats 2000000 in
theorem putints_big (pt : Option Addr) (num : Int) (zs : List Int) (a : Option Addr) (c : Nat) (Inv : World → World → Prop) (w : World) (hz : zs.length ≤ 5000) (hne : 0 < zs.length) (hr : IR w a zs) (HPT : Hid (PutTo pt num (ibs zs) Inv w)) :
    Calls Try.prog 15 #[.pointer pt, .int .i64 num, .slice a zs.length c] w (PutRes pt Inv w) := by
  have hsz := ibs_size zs
  have HPV : Hid (∀ (z : Int) (w : World), Calls Try.prog 40 #[.int .u64 (IntKind.u64.wrap z)] w (GaveText (txt (pv (un z))) w)) := Lib.hid (fun z w => by rw [un_wrap]; exact putv_any (un z) w (un_lt z))
  obtain ⟨D, hD⟩ : ∃ D, ibs zs = D := ⟨_, rfl⟩
  rw [hD] at HPT
  unfold PutTo at HPT
  have HD := Lib.hid hD
  have Hr := Lib.hid hr
  obtain ⟨n, hn⟩ : ∃ n, zs.length = n := ⟨_, rfl⟩
  rw [hn] at hz hne ⊢
  have Hn := Lib.hid hn
  clear hr hD hn hsz
  have hn0 : ((n : Int) == 0) = false := by simp; omega
  go_enter Try.func15, Try.ntmps15
  go_wp2_with fail
  have hbd := Lib.hid (bd_new w w.heap.size (Nat.le_refl _))
  have hbw : Hid (Below w.heap.size w (w.alloc (.cells #[.pointer none, .slice none 0 0] 81))) := Lib.hid ((Below.refl _ _).alloc (Nat.le_refl _) _)
  go_loopw [17] (fun i wr => ∃ k : Nat, k ≤ n ∧ i = .int .i64 (k : Int) ∧ Hid (IsBd w.heap.size w.heap.size (ibs (zs.take k)) wr) ∧ Hid (Below w.heap.size w wr) ∧ w.heap.size ≤ wr.heap.size) (fun i _ => n - (intOf i).toNat)
  case atStart => exact ⟨0, by omega, rfl, by simpa [ibs] using hbd, hbw, by simp⟩
  case round =>
    obtain ⟨k, hk, rfl, hb, hw, hGs⟩ := hrel
    by_cases hlt : k < n
    · have hwb : Below w.heap.size w wr := hw.out
      obtain ⟨ad, rfl, _, hc⟩ := (Hr.out.below hwb) k (by rw [Hn.out]; exact hlt)
      have hi0 : (0 : Int) ≤ (k : Int) := by omega
      have hi1 : (k : Int) < (n : Int) := by omega
      have hmore : Hid (ibs (zs.take (k + 1)) = ibs (zs.take k) ++ txt (pv (un (zs.getD k 0)))) := Lib.hid (by rw [take_more zs k 0 (by rw [Hn.out]; exact hlt), ibs_app, ibs_one])
      have hsl : Hid ((ibs (zs.take k)).size ≤ 100000 ∧ (txt (pv (un (zs.getD k 0)))).size ≤ 10) := Lib.hid ⟨by have := ibs_size (zs.take k); rw [List.length_take] at this; omega, by rw [txt_size]; exact pv_ten _ (un_lt _)⟩
      obtain ⟨x, hx⟩ : ∃ x, zs.getD k 0 = x := ⟨_, rfl⟩
      rw [hx] at hc hmore hsl
      clear hx hwb
      go_wp2_with fail
      refine (HPV.out x _).mono ?_
      rintro e w1 ⟨rfl, hb1⟩
      have hbd1 := bd_below hb.out hb1
      have hG1 : w.heap.size ≤ w1.heap.size := Nat.le_trans hGs hb1.size
      have hw1 := Lib.hid (hw.out.trans (hb1.mono hGs))
      go_wp2_with fail
      refine (ws_any w.heap.size w.heap.size _ _ _ hbd1 (by have := hsl.out; omega) hG1).mono ?_
      rintro e w2 ⟨rfl, hb2, hb3⟩
      have hbd2 : Hid (IsBd w.heap.size w.heap.size (ibs (zs.take (k + 1))) w2) := Lib.hid (by rw [hmore.out]; exact hb2)
      have hw2 := Lib.hid (hw1.out.trans hb3)
      have hG2 : w.heap.size ≤ w2.heap.size := Nat.le_trans hG1 hb3.size
      clear hb hw hw1 hbd1 hb1 hb2 hb3 hmore hsl hc
      go_wp2
      go_roundw
      case rel =>
        first | exact ⟨k + 1, by omega, by go_num, hbd2, hw2, hG2⟩ | ((repeat apply Exists.intro); exact ⟨⟨k + 1, by omega, by go_num, hbd2, hw2, hG2⟩, rfl⟩)
      case measure => simp [intOf]; omega
    · obtain rfl : k = n := by omega
      have hbd : IsBd w.heap.size w.heap.size D wr := by
        have := hb.out
        rw [List.take_of_length_le (by rw [Hn.out]; omega), HD.out] at this
        exact this
      go_wp2_with fail
      refine (str_any w.heap.size w.heap.size D _ hbd hGs).mono ?_
      rintro e w1 ⟨rfl, _, hb1⟩
      have Hw1 := Lib.hid (hw.out.trans hb1)
      clear hb1 hbd hb hw
      go_wp2_with fail
      refine (HPT.out _ Hw1.out).mono ?_
      rintro e w2 ⟨rfl, g1⟩
      have R := Lib.hid g1
      clear g1
      go_wp2
      go_ret
      exact ⟨rfl, w1, Hw1.out, R.out⟩
set_option maxRecDepth 100000 in
set_option maxHeartbeats 2000000 in
theorem putfloats_wide (B m : Nat) (st : Sta) (num : Int) (us : List Nat) (a : Option Addr) (c : Nat) (w : World) (hz : us.length ≤ 10000) (j : Nat) (hj : j < us.length) (hs : ∀ i, i < j → us.getD i 0 < 4294967296) (hw : 4294967296 ≤ us.getD j 0) (hr : UR w a us) (hB : B ≤ w.heap.size) (hst : St B m w st) :
    Calls Try.prog 19 #[.pointer (some ⟨m, 0, none⟩), .int .i64 num, .slice a us.length c] w (StIs B m none w) := by
  have HSt := Lib.hid hst
  have HW := Lib.hid hw
  have HBw := Lib.hid hB
  have Hml : Hid (m < w.heap.size) := Lib.hid (World.block_lt_of_cell? w _ hst.made)
  have Hr := Lib.hid hr
  have Hs := Lib.hid hs
  obtain ⟨n, hn⟩ : ∃ n, us.length = n := ⟨_, rfl⟩
  rw [hn] at hz hj ⊢
  have Hn := Lib.hid hn
  clear hr hn hs hst hw hB
  have hn0 : ((n : Int) == 0) = false := by simp; omega
  go_enter Try.func19, Try.ntmps19
  go_wp2_with fail
  have hbd := Lib.hid (bd_new w w.heap.size (Nat.le_refl _))
  have hbw : Hid (Below w.heap.size w (w.alloc (.cells #[.pointer none, .slice none 0 0] 81))) := Lib.hid ((Below.refl _ _).alloc (Nat.le_refl _) _)
  go_loopw [18] (fun i wr => ∃ k : Nat, k ≤ j ∧ i = .int .i64 (k : Int) ∧ Hid (IsBd w.heap.size w.heap.size (fbs (us.take k)) wr) ∧ Hid (Below w.heap.size w wr) ∧ w.heap.size ≤ wr.heap.size) (fun i _ => n - (intOf i).toNat)
  case atStart => exact ⟨0, by omega, rfl, by simpa [fbs] using hbd, hbw, by simp⟩
  case round =>
    obtain ⟨k, hk, rfl, hb, hw, hGs⟩ := hrel
    clear hbd hbw
    have hkn : k < n := by omega
    by_cases hlt : k < j
    · obtain ⟨ad, rfl, _, hc⟩ := (Hr.out.below hw.out) k (by rw [Hn.out]; exact hkn)
      have hi0 : (0 : Int) ≤ (k : Int) := by omega
      have hi1 : (k : Int) < (n : Int) := by omega
      have hmore : Hid (fbs (us.take (k + 1)) = fbs (us.take k) ++ txt (fx (us.getD k 0) 4)) := Lib.hid (by rw [take_more us k 0 (by rw [Hn.out]; exact hkn), fbs_app, fbs_one])
      have hx4 := Hs.out k hlt
      have hsl : Hid ((fbs (us.take k)).size ≤ 100000) := Lib.hid (by rw [fbs_size, List.length_take]; omega)
      obtain ⟨x, hx⟩ : ∃ x, us.getD k 0 = x := ⟨_, rfl⟩
      rw [hx] at hc hmore hx4
      obtain ⟨T, hT⟩ : ∃ T, fbs (us.take k) = T := ⟨_, rfl⟩
      rw [hT] at hb hmore hsl
      have hx4i : ¬ (4294967296 : Int) ≤ (x : Int) := by omega
      clear hx hT hx4
      go_wp2_with fail
      clear hx4i
      go_loopw [26] (fun i wq => ∃ q : Nat, q ≤ 4 ∧ i = .int .i64 (q : Int) ∧ Hid (IsBd w.heap.size w.heap.size (T ++ txt (fx x q)) wq) ∧ Hid (Below w.heap.size w wq) ∧ w.heap.size ≤ wq.heap.size) (fun i _ => 4 - (intOf i).toNat)
      case atStart => exact ⟨0, by omega, rfl, Lib.hid (by rw [show txt (fx x 0) = ⟨#[]⟩ from rfl, bapp_nil]; exact hb.out), hw, hGs⟩
      case round =>
        obtain ⟨q, hq4, rfl, hb, hw, hGs⟩ := hrel
        by_cases hlj : q < 4
        · have hby : Hid (((x : Nat) : Int) / 2 ^ (8 * q) % 256 = ((x / 256 ^ q % 256 : Nat) : Int)) := Lib.hid (shr_byte x q)
          have hln : (T ++ txt (fx x q)).size ≤ 200000 := by have := hsl.out; rw [bsize_app, txt_size, fx_length]; omega
          have HWB : Hid (∀ wq, w.heap.size ≤ wq.heap.size → IsBd w.heap.size w.heap.size (T ++ txt (fx x q)) wq → Calls Try.prog 43 #[.pointer (some ⟨w.heap.size, 0, none⟩), .int .u8 (((x : Nat) : Int) / 2 ^ (8 * q) % 256)] wq (WroteIs .nilIface w.heap.size w.heap.size (T ++ txt (fx x (q + 1))) wq)) := Lib.hid (fun wq hq hbq => by
            rw [hby.out, fx_succ, txt_app, ← bapp_assoc, ← push_txt]
            exact wb_any w.heap.size w.heap.size _ _ wq (Nat.mod_lt _ (by omega)) hbq (by omega) hq)
          clear hby hln
          go_wp2_with fail
          refine (HWB.out _ hGs hb.out).mono ?_
          rintro e w2 ⟨rfl, hb2, hb3⟩
          have hbd2 := Lib.hid hb2
          have hw2 := Lib.hid (hw.out.trans hb3)
          have hG2 : w.heap.size ≤ w2.heap.size := Nat.le_trans hGs hb3.size
          clear hb hw hb2 hb3 HWB
          go_wp2
          go_roundw
          case rel => first | exact ⟨q + 1, by omega, by go_num, hbd2, hw2, hG2⟩ | ((repeat apply Exists.intro); exact ⟨⟨q + 1, by omega, by go_num, hbd2, hw2, hG2⟩, rfl⟩)
          case measure => simp [intOf]; omega
        · obtain rfl : q = 4 := by omega
          have hbd2 : Hid (IsBd w.heap.size w.heap.size (fbs (us.take (k + 1))) _) := Lib.hid (by rw [hmore.out]; exact hb.out)
          clear hb hmore hsl hc
          go_wp2
          go_roundw
          case rel => first | exact ⟨k + 1, by omega, by go_num, hbd2, hw, hGs⟩ | ((repeat apply Exists.intro); exact ⟨⟨k + 1, by omega, by go_num, hbd2, hw, hGs⟩, rfl⟩)
          case measure => simp [intOf]; omega
    · obtain rfl : k = j := by omega
      obtain ⟨ad, rfl, _, hc⟩ := (Hr.out.below hw.out) k (by rw [Hn.out]; exact hkn)
      have hi0 : (0 : Int) ≤ (k : Int) := by omega
      have hi1 : (k : Int) < (n : Int) := by omega
      have hx4 := HW.out
      obtain ⟨x, hx⟩ : ∃ x, us.getD k 0 = x := ⟨_, rfl⟩
      rw [hx] at hc hx4
      have hx4i : (4294967296 : Int) ≤ (x : Int) := by omega
      have HS := Lib.hid (HSt.out.below hw.out)
      have Hw2 := Lib.hid (hw.out.mono HBw.out)
      have Hw3 := hw
      clear hx hx4 hb hw
      go_wp2_with fail
      refine (fail_any B m st _ HS.out).mono ?_
      rintro e w1 ⟨rfl, h1, b1, f1⟩
      have R := Lib.hid (And.intro h1 (And.intro (Hw2.out.trans b1) ((Fr.below Hw3.out Hml.out).trans f1)))
      clear h1 b1 f1 hx4i
      go_wp2
      go_ret
      exact ⟨rfl, R.out⟩
end Go.Proofs.Ytbkcklefkhlciaa
namespace Go.Proofs.Ytbkcklefkhlciaa
open Go.RowKit
set_option linter.unusedVariables false
set_option maxRecDepth 100000 in
theorem putuint_st (B m : Nat) (st : Sta) (num : Int) (v : Nat) (w : World) (hB : B ≤ w.heap.size) (h : St B m w st) (hf : Fit st) (hv : v < 18446744073709551616) :
    Calls Try.prog 10 #[.pointer (some ⟨m, 0, none⟩), .int .i64 num, .int .u64 (v : Int)] w (StIs B m (addS num st [fF num 0 v ⟨#[]⟩]) w) := by
  have H := Lib.hid (put_st B m st num 0 v ⟨#[]⟩ w hB h hf hv (.inl ⟨rfl, rfl⟩))
  obtain ⟨st', hst⟩ : ∃ s, addS num st [fF num 0 v ⟨#[]⟩] = s := ⟨_, rfl⟩
  rw [hst] at H ⊢
  have H' : Hid (Calls Try.prog 37 #[.pointer (some ⟨m, 0, none⟩), .agg #[.int .i64 num, .int .i64 0, .int .i64 0, .int .u64 (v : Int), .string ⟨#[]⟩]] w (StIs B m st' w)) := H
  clear H h hf hst
  go_enter Try.func10, Try.ntmps10
  go_wp2_with fail
  refine H'.out.mono ?_
  rintro e w1 ⟨rfl, h1⟩
  have R := Lib.hid h1
  clear h1
  go_wp2
  go_ret
  exact ⟨rfl, R.out⟩
/-- Of an empty list nothing is put. -/
theorem putints_nil (B m : Nat) (st : Sta) (num : Int) (a : Option Addr) (c : Nat) (w : World) (h : St B m w st) :
    Calls Try.prog 15 #[.pointer (some ⟨m, 0, none⟩), .int .i64 num, .slice a 0 c] w (StIs B m st w) := by
  have c0 := h.made
  have H := Lib.hid h
  clear h
  go_enter Try.func15, Try.ntmps15
  go_wp2_with fail
  refine (none_msg m _ c0).mono ?_
  rintro e w1 ⟨rfl, rfl⟩
  go_wp2
  go_ret
  exact ⟨rfl, H.out, Below.refl _ _, Fr.refl _ _⟩
theorem putflts_nil (B m : Nat) (st : Sta) (num : Int) (a : Option Addr) (c : Nat) (w : World) (h : St B m w st) :
    Calls Try.prog 19 #[.pointer (some ⟨m, 0, none⟩), .int .i64 num, .slice a 0 c] w (StIs B m st w) := by
  have c0 := h.made
  have H := Lib.hid h
  clear h
  go_enter Try.func19, Try.ntmps19
  go_wp2_with fail
  refine (none_msg m _ c0).mono ?_
  rintro e w1 ⟨rfl, rfl⟩
  go_wp2
  go_ret
  exact ⟨rfl, H.out, Below.refl _ _, Fr.refl _ _⟩
def iFs (num : Int) (zs : List Int) : List (Fd × ByteArray) := if zs.length = 0 then [] else [fF num 2 0 (ibs zs)]
def pFs (num : Int) (us : List Nat) : List (Fd × ByteArray) := if us.length = 0 then [] else [fF num 2 0 (fbs us)]
def sFs (num : Int) (ts : List ByteArray) : List (Fd × ByteArray) := ts.map (fF num 2 0)
theorem putints_st (B m : Nat) (st : Sta) (num : Int) (zs : List Int) (a : Option Addr) (c : Nat) (w : World) (hB : B ≤ w.heap.size) (h : St B m w st) (hf : Fit st) (hz : zs.length ≤ 5000) (hr : IR w a zs) :
    Calls Try.prog 15 #[.pointer (some ⟨m, 0, none⟩), .int .i64 num, .slice a zs.length c] w (StIs B m (addS num st (iFs num zs)) w) := by
  unfold iFs
  by_cases h0 : zs.length = 0
  · rw [if_pos h0, addS_nil, h0]
    exact putints_nil B m st num a c w h
  · rw [if_neg h0]
    have hd : (ibs zs).size ≤ 60000 := by have := ibs_size zs; omega
    refine (putints_big (some ⟨m, 0, none⟩) num zs a c (fun w1 w' => St B m w' (addS num st [fF num 2 0 (ibs zs)]) ∧ Below B w1 w' ∧ Fr m w1 w') w hz (by omega) hr (Lib.hid fun w1 hb => ?_)).mono ?_
    · exact (put_st B m st num 2 0 (ibs zs) w1 (by have := hb.size; omega) (h.below hb) hf (by omega) (.inr ⟨rfl, rfl, hd⟩)).mono (fun e w' h => h)
    · rintro e w' ⟨rfl, w1, hb, hm, hb2, hf2⟩
      exact ⟨rfl, hm, (hb.mono hB).trans hb2, (Fr.below hb (World.block_lt_of_cell? w _ h.made)).trans hf2⟩
/-- Is there a pattern that is none? -/
def wideB (us : List Nat) : Bool := us.any fun u => decide (4294967296 ≤ u)
def addP (num : Int) (st : Sta) (us : List Nat) : Sta := if wideB us then none else addS num st (pFs num us)
theorem wide_first (us : List Nat) (h : wideB us = true) : ∃ j, j < us.length ∧ (∀ i, i < j → us.getD i 0 < 4294967296) ∧ 4294967296 ≤ us.getD j 0 := by
  induction us with
  | nil => simp [wideB] at h
  | cons u r ih =>
    by_cases hu : 4294967296 ≤ u
    · exact ⟨0, by simp, fun i hi => by omega, by simpa using hu⟩
    · have h2 : wideB r = true := by unfold wideB at *; simpa [hu] using h
      obtain ⟨j, h3, h4, h5⟩ := ih h2
      refine ⟨j + 1, by simpa using h3, fun i hi => ?_, by simpa using h5⟩
      cases i with
      | zero => simp only [List.getD_cons_zero]; omega
      | succ i => simpa using h4 i (by omega)
theorem putflts_st (B m : Nat) (st : Sta) (num : Int) (us : List Nat) (a : Option Addr) (c : Nat) (w : World) (hB : B ≤ w.heap.size) (h : St B m w st) (hf : Fit st) (hz : us.length ≤ 10000) (hr : UR w a us) :
    Calls Try.prog 19 #[.pointer (some ⟨m, 0, none⟩), .int .i64 num, .slice a us.length c] w (StIs B m (addP num st us) w) := by
  unfold addP
  cases hw : wideB us with
  | true =>
    obtain ⟨j, h1, h2, h3⟩ := wide_first us hw
    exact putfloats_wide B m st num us a c w hz j h1 h2 h3 hr hB h
  | false =>
    rw [if_neg (by simp)]
    unfold pFs
    by_cases h0 : us.length = 0
    · rw [if_pos h0, addS_nil, h0]
      exact putflts_nil B m st num a c w h
    · rw [if_neg h0]
      have hd : (fbs us).size ≤ 60000 := by rw [fbs_size]; omega
      have hs : ∀ u ∈ us, u < 4294967296 := fun u hu => by
        unfold wideB at hw
        have := List.any_eq_false.1 hw u hu
        simp at this
        exact this
      refine (putfloats_big (some ⟨m, 0, none⟩) num us a c (fun w1 w' => St B m w' (addS num st [fF num 2 0 (fbs us)]) ∧ Below B w1 w' ∧ Fr m w1 w') w hz (by omega) hs hr (Lib.hid fun w1 hb => ?_)).mono ?_
      · exact (put_st B m st num 2 0 (fbs us) w1 (by have := hb.size; omega) (h.below hb) hf (by omega) (.inr ⟨rfl, rfl, hd⟩)).mono (fun e w' h => h)
      · rintro e w' ⟨rfl, w1, hb, hm, hb2, hf2⟩
        exact ⟨rfl, hm, (hb.mono hB).trans hb2, (Fr.below hb (World.block_lt_of_cell? w _ h.made)).trans hf2⟩
/-- The row at a, of texts, is none of the message's, and holds ts. -/
def TRA (m : Nat) (w : World) (a : Option Addr) (ts : List ByteArray) : Prop := ∀ i t, ts[i]? = some t → ∃ ad, a = some ad ∧ ad.block < w.heap.size ∧ Aw m w ad.block ∧ w.cell? (ad.add i) = some (.string t)
theorem TRA.fr {m : Nat} {w w' : World} {a : Option Addr} {ts : List ByteArray} (h : TRA m w a ts) (hf : Fr m w w') : TRA m w' a ts := by
  intro i t ht
  obtain ⟨ad, rfl, hlt, ha, hc⟩ := h i t ht
  obtain ⟨h1, h2⟩ := hf.keep _ hlt ha
  refine ⟨ad, rfl, Nat.lt_of_lt_of_le hlt hf.size, h2, ?_⟩
  rw [← hc]
  exact World.cell?_of_block (by rw [show (ad.add i).block = ad.block from by unfold Addr.add; split <;> rfl]; exact h1)
theorem sFs_app (num : Int) (l m : List ByteArray) : sFs num (l ++ m) = sFs num l ++ sFs num m := by unfold sFs; simp
theorem sFs_take (num : Int) (ts : List ByteArray) (k : Nat) (t : ByteArray) (h : ts[k]? = some t) : sFs num (ts.take (k + 1)) = sFs num (ts.take k) ++ [fF num 2 0 t] := by
  rw [List.take_add_one, h, sFs_app]; rfl
set_option maxRecDepth 100000 in
set_option maxHeartbeats 1000000 in
theorem puttext_st (B m : Nat) (st : Sta) (num : Int) (a : Option Addr) (c : Nat) (ts : List ByteArray) (w : World) (hB : B ≤ w.heap.size) (h : St B m w st) (hf : ∀ k, Fit (addS num st (sFs num (ts.take k)))) (hn : ts.length ≤ 5000) (hd : ∀ t ∈ ts, t.size ≤ 60000) (hr : TRA m w a ts) :
    Calls Try.prog 12 #[.pointer (some ⟨m, 0, none⟩), .int .i64 num, .slice a ts.length c] w (StIs B m (addS num st (sFs num ts)) w) := by
  have HP : Hid (∀ k t w1, ts[k]? = some t → B ≤ w1.heap.size → St B m w1 (addS num st (sFs num (ts.take k))) → Calls Try.prog 37 #[.pointer (some ⟨m, 0, none⟩), .agg #[.int .i64 num, .int .i64 2, .int .i64 0, .int .u64 0, .string t]] w1 (StIs B m (addS num st (sFs num (ts.take (k + 1)))) w1)) := Lib.hid (fun k t w1 ht hB1 hm1 => by
    have htz := hd t (List.mem_of_getElem? ht)
    have := put_st B m _ num 2 0 t w1 hB1 hm1 (hf k) (by omega) (.inr ⟨rfl, rfl, htz⟩)
    rw [sFs_take num ts k t ht, ← addS_app]
    exact this)
  have Hr := Lib.hid hr
  have H0 : Hid (St B m w (addS num st (sFs num (ts.take 0)))) := Lib.hid (by simpa [sFs, addS_nil] using h)
  obtain ⟨n, hn⟩ : ∃ n, ts.length = n := ⟨_, rfl⟩
  have HL : Hid (ts.take n = ts) := Lib.hid (by rw [← hn]; exact List.take_length)
  have hn1 : n ≤ 5000 := by omega
  rw [hn]
  have Hn := Lib.hid hn
  clear hr h hf hd hn
  go_enter Try.func12, Try.ntmps12
  go_wp2_with fail
  go_loopw [11] (fun i wr => ∃ k : Nat, k ≤ n ∧ i = .int .i64 (k : Int) ∧ Hid (St B m wr (addS num st (sFs num (ts.take k)))) ∧ Hid (Below B w wr) ∧ Hid (Fr m w wr)) (fun i _ => n - (intOf i).toNat)
  case atStart => exact ⟨0, by omega, rfl, H0, Lib.hid (Below.refl _ _), Lib.hid (Fr.refl _ _)⟩
  case round =>
    obtain ⟨k, hk, rfl, hm, hb, hfr⟩ := hrel
    clear H0
    by_cases hlt : k < n
    · obtain ⟨t, ht⟩ : ∃ t, ts[k]? = some t := ⟨_, List.getElem?_eq_getElem (by rw [Hn.out]; exact hlt)⟩
      obtain ⟨ad, rfl, _, _, hc⟩ := (Hr.out.fr hfr.out) k t ht
      have hi0 : (0 : Int) ≤ (k : Int) := by omega
      have hi1 : (k : Int) < (n : Int) := by omega
      have Ht := Lib.hid ht
      clear ht
      go_wp2_with fail
      refine (HP.out k t _ Ht.out (by have := hb.out.size; omega) hm.out).mono ?_
      rintro e w1 ⟨rfl, hm1, hb1, hf1⟩
      have Hm1 := Lib.hid hm1
      have Hb1 : Hid (Below B w w1) := Lib.hid (hb.out.trans hb1)
      have Hf1 : Hid (Fr m w w1) := Lib.hid (hfr.out.trans hf1)
      clear hm1 hb1 hf1 hm hb hfr
      go_wp2
      go_roundw
      case rel => first | exact ⟨k + 1, by omega, by go_num, Hm1, Hb1, Hf1⟩ | ((repeat apply Exists.intro); exact ⟨⟨k + 1, by omega, by go_num, Hm1, Hb1, Hf1⟩, rfl⟩)
      case measure => simp [intOf]; omega
    · obtain rfl : k = n := by omega
      have c0 := hm.out.made
      have HM : Hid (St B m wr (addS num st (sFs num ts))) := Lib.hid (by have := hm.out; rw [HL.out] at this; exact this)
      go_wp2_with fail
      refine (none_msg m _ c0).mono ?_
      rintro e w1 ⟨rfl, rfl⟩
      go_wp2
      go_ret
      exact ⟨rfl, HM.out, hb.out, hfr.out⟩
end Go.Proofs.Ytbkcklefkhlciaa
