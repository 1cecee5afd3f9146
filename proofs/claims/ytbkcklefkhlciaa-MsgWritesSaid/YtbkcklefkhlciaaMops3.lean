/-
  PutText of many, PutFloats; Uint and Text of a message.
-/
import Derived.Test.YtbkcklefkhlciaaMops2
import Derived.Test.YtbkcklefkhlciaaMflts
import Derived.Test.YtbkcklefkhlciaaMlastR
namespace Go.Proofs.Ytbkcklefkhlciaa
open Go.RowKit
set_option linter.unusedVariables false
/-- The row at a, of texts, lies below B and holds ts. -/
def TRB (B : Nat) (w : World) (a : Option Addr) (ts : List ByteArray) : Prop := ∀ i t, ts[i]? = some t → ∃ ad, a = some ad ∧ ad.block < B ∧ w.cell? (ad.add i) = some (.string t)
theorem TRB.below {B : Nat} {w w' : World} {a : Option Addr} {ts : List ByteArray} (h : TRB B w a ts) (hb : Below B w w') : TRB B w' a ts := by
  intro i t ht
  obtain ⟨ad, rfl, hlt, hc⟩ := h i t ht
  have hbk : (ad.add i).block = ad.block := by unfold Addr.add; split <;> rfl
  exact ⟨ad, rfl, hlt, (hb.cell (p := ad.add i) (by rw [hbk]; exact hlt)).trans hc⟩
theorem TR.up {w w' : World} {B : Nat} {a : Option Addr} {ts : List ByteArray} (h : TR w a ts) (hb : Below w.heap.size w w') (hB : w.heap.size ≤ B) : TRB B w' a ts := by
  intro i t ht
  obtain ⟨ad, rfl, hlt, hc⟩ := h.below hb i t ht
  obtain ⟨ad', e, hlt', _⟩ := h i t ht
  cases e
  exact ⟨ad, rfl, Nat.lt_of_lt_of_le hlt' hB, hc⟩
theorem tFs_app (num : Nat) (l m : List ByteArray) : tFs num (l ++ m) = tFs num l ++ tFs num m := by unfold tFs; simp
theorem szs_app (l m : List ByteArray) : szs (l ++ m) = szs l + szs m := by unfold szs; simp
theorem szs_mem {l : List ByteArray} {t : ByteArray} (h : t ∈ l) : t.size ≤ szs l := by
  induction l with
  | nil => simp at h
  | cons x r ih =>
    unfold szs at *
    simp only [List.map_cons, List.sum_cons]
    rcases List.mem_cons.1 h with rfl | h
    · omega
    · have := ih h; omega
theorem cat_tFs (num : Nat) (ts : List ByteArray) (h1 : 1 ≤ num) (h2 : num ≤ 536870911) (hd : szs ts ≤ 60000) : (cat (tFs num ts)).size ≤ 20 * ts.length + szs ts := by
  induction ts with
  | nil => exact Nat.le_refl _
  | cons t r ih =>
    have e : szs (t :: r) = t.size + szs r := by unfold szs; simp
    rw [e] at hd ⊢
    have h3 := ih (by omega)
    have h4 := size_t num t h1 h2 (by omega)
    show (cat (tF num t :: tFs num r)).size ≤ _
    simp only [cat, bsize_app, List.length_cons]
    omega
theorem szs_take (ts : List ByteArray) (k : Nat) : szs (ts.take k) ≤ szs ts := by
  have : szs ts = szs (ts.take k) + szs (ts.drop k) := by rw [← szs_app, List.take_append_drop]
  omega
set_option maxRecDepth 100000 in
set_option maxHeartbeats 1000000 in
theorem puttext_any (B m : Nat) (ps : List (Fd × ByteArray)) (num : Nat) (a : Option Addr) (c : Nat) (ts : List ByteArray) (w : World) (hB : B ≤ w.heap.size) (h : MsgP B m w ps 0) (hs : ps.length ≤ 1000 ∧ (cat ps).size ≤ 100000) (h1 : 1 ≤ num) (h2 : num ≤ 536870911) (hn : ts.length ≤ 1000) (hd : szs ts ≤ 60000) (hr : TRB B w a ts) :
    Calls Try.prog 12 #[.pointer (some ⟨m, 0, none⟩), .int .i64 (num : Int), .slice a ts.length c] w (PutMs B m (ps ++ tFs num ts) w) := by
  have HP : Hid (∀ k t w1, ts[k]? = some t → B ≤ w1.heap.size → MsgP B m w1 (ps ++ tFs num (ts.take k)) 0 → Calls Try.prog 37 #[.pointer (some ⟨m, 0, none⟩), .agg #[.int .i64 (num : Int), .int .i64 2, .int .i64 0, .int .u64 0, .string t]] w1 (PutMs B m (ps ++ tFs num (ts.take (k + 1))) w1)) := Lib.hid (fun k t w1 ht hB1 hm1 => by
    have htz := szs_mem (List.mem_of_getElem? ht)
    have hk := cat_tFs num (ts.take k) h1 h2 (by have := szs_take ts k; omega)
    have hkl : (ts.take k).length ≤ ts.length := by rw [List.length_take]; omega
    have hkz := szs_take ts k
    have := putp_any B m (ps ++ tFs num (ts.take k)) (tF num t).1 (tF num t).2 w1 hB1 hm1 (Lib.hid (puthid_t num t h1 h2 (by omega))) ⟨by rw [List.length_append]; unfold tFs; rw [List.length_map]; omega, by rw [cat_app, bsize_app]; omega⟩ (by have := size_t num t h1 h2 (by omega); omega)
    have e : ps ++ tFs num (ts.take (k + 1)) = ps ++ tFs num (ts.take k) ++ [tF num t] := by rw [List.take_add_one, ht, tFs_app, ← List.append_assoc]; rfl
    rw [e]; exact this)
  have Hr := Lib.hid hr
  have H0 : Hid (MsgP B m w (ps ++ tFs num (ts.take 0)) 0) := Lib.hid (by simpa [tFs] using h)
  obtain ⟨n, hn⟩ : ∃ n, ts.length = n := ⟨_, rfl⟩
  have HL : Hid (ts.take n = ts) := Lib.hid (by rw [← hn]; exact List.take_length)
  have hn1 : n ≤ 1000 := by omega
  rw [hn]
  have Hn := Lib.hid hn
  clear hr h hs hd hn h1 h2
  go_enter Try.func12, Try.ntmps12
  go_wp2_with fail
  go_loopw [11] (fun i wr => ∃ k : Nat, k ≤ n ∧ i = .int .i64 (k : Int) ∧ Hid (MsgP B m wr (ps ++ tFs num (ts.take k)) 0) ∧ Hid (Below B w wr)) (fun i _ => n - (intOf i).toNat)
  case atStart => exact ⟨0, by omega, rfl, H0, Lib.hid (Below.refl _ _)⟩
  case round =>
    obtain ⟨k, hk, rfl, hm, hb⟩ := hrel
    clear H0
    by_cases hlt : k < n
    · obtain ⟨t, ht⟩ : ∃ t, ts[k]? = some t := ⟨_, List.getElem?_eq_getElem (by rw [Hn.out]; exact hlt)⟩
      obtain ⟨ad, rfl, _, hc⟩ := (Hr.out.below hb.out) k t ht
      have hi0 : (0 : Int) ≤ (k : Int) := by omega
      have hi1 : (k : Int) < (n : Int) := by omega
      have Ht := Lib.hid ht
      clear ht
      go_wp2_with fail
      refine (HP.out k t _ Ht.out (by have := hb.out.size; omega) hm.out).mono ?_
      rintro e w1 ⟨rfl, hm1, hb1⟩
      have Hm1 := Lib.hid hm1
      have Hb1 : Hid (Below B w w1) := Lib.hid (hb.out.trans hb1)
      clear hm1 hb1 hm hb
      go_wp2
      go_roundw
      case rel => first | exact ⟨k + 1, by omega, by go_num, Hm1, Hb1⟩ | ((repeat apply Exists.intro); exact ⟨⟨k + 1, by omega, by go_num, Hm1, Hb1⟩, rfl⟩)
      case measure => simp [intOf]; omega
    · obtain rfl : k = n := by omega
      have c0 : wr.cell? ⟨m, 0, none⟩ = some (.bool true) := by obtain ⟨_, fv, ev, hb, _⟩ := hm.out; exact hb.cell 0
      have HM : Hid (MsgP B m wr (ps ++ tFs num ts) 0) := Lib.hid (by have := hm.out; rw [HL.out] at this; exact this)
      go_wp2_with fail
      refine (none_msg m _ c0).mono ?_
      rintro e w1 ⟨rfl, rfl⟩
      go_wp2
      go_ret
      exact ⟨rfl, HM.out, hb.out⟩
set_option maxRecDepth 100000 in
theorem putflts_none (B m : Nat) (ps : List (Fd × ByteArray)) (num : Int) (a : Option Addr) (c : Nat) (w : World) (h : MsgP B m w ps 0) :
    Calls Try.prog 19 #[.pointer (some ⟨m, 0, none⟩), .int .i64 num, .slice a 0 c] w (PutMs B m ps w) := by
  have c0 : w.cell? ⟨m, 0, none⟩ = some (.bool true) := by obtain ⟨_, fv, ev, hb, _⟩ := h; exact hb.cell 0
  have H := Lib.hid h
  clear h
  go_enter Try.func19, Try.ntmps19
  go_wp2_with fail
  refine (none_msg m _ c0).mono ?_
  rintro e w1 ⟨rfl, rfl⟩
  go_wp2
  go_ret
  exact ⟨rfl, H.out, Below.refl _ _⟩
theorem putflts_some (B m : Nat) (ps : List (Fd × ByteArray)) (num : Nat) (us : List Nat) (a : Option Addr) (c : Nat) (w : World) (hB : B ≤ w.heap.size) (h : MsgP B m w ps 0) (hs : Small ps) (h1 : 1 ≤ num) (h2 : num ≤ 536870911)
    (hz : us.length ≤ 1000) (hne : 0 < us.length) (hu : ∀ u ∈ us, u < 4294967296) (hr : UR w a us) :
    Calls Try.prog 19 #[.pointer (some ⟨m, 0, none⟩), .int .i64 (num : Int), .slice a us.length c] w (PutMs B m (ps ++ [tF num (fbs us)]) w) := by
  have hd : (fbs us).size ≤ 60000 := by rw [fbs_size]; omega
  refine (putfloats_core (some ⟨m, 0, none⟩) num us a c (fun w1 w' => MsgP B m w' (ps ++ [tF num (fbs us)]) 0 ∧ Below B w1 w') w hz hne hu hr (Lib.hid fun w1 hb => ?_)).mono ?_
  · exact (putp_any B m ps (tF num (fbs us)).1 (tF num (fbs us)).2 w1 (by have := hb.size; omega) (h.below hb) (Lib.hid (puthid_t num _ h1 h2 hd)) hs (by have := size_t num _ h1 h2 hd; omega)).mono (fun e w' h => h)
  · rintro e w' ⟨rfl, w1, hb, hm, hb2⟩
    exact ⟨rfl, hm, (hb.mono hB).trans hb2⟩
set_option maxRecDepth 100000 in
set_option maxHeartbeats 1000000 in
/-- The last number. -/
theorem uint_any (B m : Nat) (l : List (Fd × Nat)) (es : List Nat) (c : Int) (num : Int) (xs : List (LA es)) (hl : l.length ≤ 100000) (hxs : xs.map (·.1) = mtell num [0] 0 l) (w : World) (hm : IsMsg B m w l es c) (V : Int) (ok : Bool) (hV : ∃ a b d s, lcs xs = #[.int .i64 a, .int .i64 b, .int .i64 d, .int .u64 V, .string s]) (hok : lok xs = ok) :
    Calls Try.prog 24 #[.pointer (some ⟨m, 0, none⟩), .int .i64 num] w (GaveV (.tuple #[.int .u64 V, .bool ok]) w) := by
  have HL := last_any B m l es c num 0 xs hl hxs w hm
  obtain ⟨a, b, d, s, hcs⟩ := hV
  unfold lV at HL
  rw [hcs, hok] at HL
  obtain ⟨at_, hat⟩ : ∃ z, lat xs = z := ⟨_, rfl⟩
  rw [hat] at HL
  have H := Lib.hid HL
  clear HL hm hxs hcs hok hat
  go_enter Try.func24, Try.ntmps24
  go_wp2_with fail
  refine H.out.mono ?_
  rintro e w1 ⟨rfl, hb⟩
  have Hb := Lib.hid hb
  clear hb
  go_wp2
  go_ret2
  exact ⟨rfl, Hb.out.alloc Hb.out.size _⟩
set_option maxRecDepth 100000 in
set_option maxHeartbeats 1000000 in
/-- No text. -/
theorem text_none (B m : Nat) (l : List (Fd × Nat)) (es : List Nat) (c : Int) (num : Int) (hl : l.length ≤ 100000) (hxs : mtell num [2] 0 l = []) (w : World) (hm : IsMsg B m w l es c) :
    Calls Try.prog 27 #[.pointer (some ⟨m, 0, none⟩), .int .i64 num] w (GaveV (.tuple #[.string ⟨#[]⟩, .int .i64 0, .bool false]) w) := by
  have HL := last_any B m l es c num 2 [] hl (by rw [hxs]; rfl) w hm
  have e1 : lV (es := es) [] = .agg #[.int .i64 0, .int .i64 0, .int .i64 0, .int .u64 0, .string ⟨#[]⟩] := rfl
  have e2 : lat (es := es) [] = 0 := rfl
  have e3 : lok (es := es) [] = false := rfl
  rw [e1, e2, e3] at HL
  have H := Lib.hid HL
  clear HL e1 e2 e3 hm hxs
  go_enter Try.func27, Try.ntmps27
  go_wp2_with fail
  refine H.out.mono ?_
  rintro e w1 ⟨rfl, hb⟩
  have Hb := Lib.hid hb
  clear hb
  go_wp2
  go_ret3
  exact ⟨rfl, Hb.out.alloc Hb.out.size _⟩
/-! ### What is told of a message that is made of parts -/
theorem places_app (l m : List (Fd × ByteArray)) : ∀ k, places k (l ++ m) = places k l ++ places (k + (cat l).size) m := by
  induction l with
  | nil => intro k; simp only [List.nil_append, places, cat]; rfl
  | cons p r ih =>
    intro k
    simp only [List.cons_append, places, ih, cat, bsize_app, Nat.add_assoc]
theorem mtell_app (num : Int) (ks : List Int) (l m : List (Fd × Nat)) : ∀ k, mtell num ks k (l ++ m) = mtell num ks k l ++ mtell num ks (k + l.length) m := by
  induction l with
  | nil => intro k; rfl
  | cons p r ih =>
    intro k
    simp only [List.cons_append, mtell, ih, List.length_cons]
    rw [show k + 1 + r.length = k + (r.length + 1) from by omega]
    split <;> simp
theorem mtell_other (num : Int) (ks : List Int) (l : List (Fd × ByteArray)) (h : ∀ p ∈ l, (p.1.num : Int) ≠ num) : ∀ k j, mtell num ks k (places j l) = [] := by
  induction l with
  | nil => intro k j; rfl
  | cons p r ih =>
    intro k j
    simp only [places, mtell]
    rw [if_neg (fun e => h p (List.mem_cons_self) e.1)]
    exact ih (fun q hq => h q (List.mem_cons_of_mem _ hq)) _ _
theorem mtell_mem {num : Int} {ks : List Int} {x : Nat × (Fd × Nat)} : ∀ (l : List (Fd × Nat)) (k : Nat), x ∈ mtell num ks k l → ∃ j, x.1 = k + j ∧ l[j]? = some x.2 := by
  intro l
  induction l with
  | nil => intro k h; simp [mtell] at h
  | cons p r ih =>
    intro k h
    simp only [mtell] at h
    split at h
    · rcases List.mem_cons.1 h with rfl | h
      · exact ⟨0, rfl, rfl⟩
      · obtain ⟨j, e1, e2⟩ := ih (k + 1) h
        exact ⟨j + 1, by omega, e2⟩
    · obtain ⟨j, e1, e2⟩ := ih (k + 1) h
      exact ⟨j + 1, by omega, e2⟩
theorem sub_list {α : Type} {G : α → Prop} (l : List α) (h : ∀ x ∈ l, G x) : ∃ xs : List { x : α // G x }, xs.map (·.1) = l := by
  induction l with
  | nil => exact ⟨[], rfl⟩
  | cons x r ih =>
    obtain ⟨xs, hx⟩ := ih (fun y hy => h y (List.mem_cons_of_mem _ hy))
    exact ⟨⟨x, h x (List.mem_cons_self)⟩ :: xs, by simp [hx]⟩
theorem cat_take_le (l : List (Fd × ByteArray)) (k : Nat) : (cat (l.take k)).size ≤ (cat l).size := by
  have : (cat l).size = (cat (l.take k)).size + (cat (l.drop k)).size := by rw [← bsize_app, ← cat_app, List.take_append_drop]
  omega
/-- What last is told of a message made of parts. -/
theorem lg_all (num : Int) (ks : List Int) (ps : List (Fd × ByteArray)) (hd : ∀ p ∈ ps, p.1.data.size ≤ p.2.size) (hs : (cat ps).size ≤ 1000000000) : ∃ xs : List (LA (ends 0 ps)), xs.map (·.1) = mtell num ks 0 (places 0 ps) := by
  refine sub_list _ fun x hx => ?_
  obtain ⟨j, e1, e2⟩ := mtell_mem _ _ hx
  rw [Nat.zero_add] at e1
  have hj : j < ps.length := by
    have := (List.getElem?_eq_some_iff.1 e2).1
    rw [places_length] at this
    exact this
  obtain ⟨p, hp⟩ : ∃ p, ps[j]? = some p := ⟨_, List.getElem?_eq_getElem hj⟩
  have h3 := places_get ps 0 j p hp
  rw [h3] at e2
  have h4 : x.2.1 = p.1 := by have := Option.some.inj e2; rw [← this]
  have h5 := ends_get ps 0 j hj
  have h6 : (ends 0 ps).getD x.1 0 = 0 + (cat (ps.take (j + 1))).size := by rw [e1, List.getD_eq_getElem?_getD, h5]; rfl
  have h7 := cat_take_le ps (j + 1)
  have h8 : (cat (ps.take (j + 1))).size = (cat (ps.take j)).size + p.2.size := by rw [List.take_add_one, hp]; simp only [Option.toList_some, cat_snoc, bsize_app]
  have h9 := hd p (List.mem_of_getElem? hp)
  exact ⟨by rw [ends_length, e1]; exact hj, by rw [h6, h4]; omega, by rw [h6]; omega⟩
theorem lok_map {es : List Nat} {xs : List (LA es)} {L : List (Nat × (Fd × Nat))} (h : xs.map (·.1) = L) : lok xs = !L.isEmpty := by
  subst h
  unfold lok
  cases hx : xs.getLast? with
  | none => rw [List.getLast?_eq_none_iff] at hx; subst hx; rfl
  | some y =>
    cases xs with
    | nil => simp at hx
    | cons a r => rfl
theorem last_map {es : List Nat} {xs : List (LA es)} {L : List (Nat × (Fd × Nat))} (h : xs.map (·.1) = L) {y : Nat × (Fd × Nat)} (hy : L.getLast? = some y) : ∃ x : LA es, xs.getLast? = some x ∧ x.1 = y := by
  subst h
  rw [List.getLast?_map] at hy
  cases hx : xs.getLast? with
  | none => rw [hx] at hy; simp at hy
  | some x => rw [hx] at hy; exact ⟨x, rfl, by simpa using hy⟩
theorem tF_dat (num : Nat) (s : ByteArray) : (tF num s).1.data.size ≤ (tF num s).2.size := by
  have e : (tF num s).1.data = s := rfl
  rw [e]
  unfold tF; rw [txt_size]; unfold pput pbd
  rw [if_neg (by omega), if_pos rfl]
  simp only [List.length_append, dn_length]
  omega
theorem uF_dat (num v : Nat) : (uF num v).1.data.size ≤ (uF num v).2.size := by
  have e : (uF num v).1.data = ⟨#[]⟩ := rfl
  rw [e]
  exact Nat.zero_le _
theorem mtell_tFs (num : Nat) (ts : List ByteArray) : ∀ k j, (mtell (num : Int) [2] k (places j (tFs num ts))).map (fun x => x.2.1.data) = ts := by
  induction ts with
  | nil => intro k j; rfl
  | cons t r ih =>
    intro k j
    show (mtell (num : Int) [2] k (((tF num t).1, j) :: places (j + (tF num t).2.size) (tFs num r))).map _ = _
    simp only [mtell]
    rw [if_pos ⟨by simp only [tF], by simp only [tF]; decide⟩, List.map_cons, ih]
    rfl
end Go.Proofs.Ytbkcklefkhlciaa
