/-
  The writers of a number in groups of seven bits: pbuf's and the document's own. Each makes a text of the bytes that pv says; nothing that lay in memory before is changed.
-/
import Derived.Test.YtbkcklefkhlciaaRows
import Derived.Test.YtbkcklefkhlciaaPbMath
import Derived.WalkKit
import Derived.WalkSpells
import Derived.WalkLawsBesides
import Derived.Lib.Hide
import Derived.Laws.BytesArg
namespace Go.Proofs.Ytbkcklefkhlciaa
open Go.RowKit

theorem Try.infoU8 : (Try.prog.info? 5).map (fun i => (i.zero, i.size, i.bytes)) = some (some (.int .u8 0), 1, 1) := by kernel_rfl
/-- The slice value v holds the bytes xs in memory of the call's own, from block B on. -/
def OwnB (B : Nat) (w : World) (v : Value) (xs : List Nat) : Prop := w.ownsRow B 5 1 v xs.length (xs.map bv)
def GaveOwn (B : Nat) (xs : List Nat) (w : World) (e : Ending) (w' : World) : Prop := ∃ v', e = .returned v' ∧ OwnB B w' v' xs ∧ Below B w w'
theorem own_nil (B : Nat) (w : World) : OwnB B w (.slice none 0 0) [] := World.ownsRow_nil _ _ _ _

/-- One byte more behind the bytes xs. -/
theorem push_own {ops : Array Oper} {rest : List Oper} {o : Oper} {a : Act} {Q : Exit → Act → World → Prop} (hgd : o.guard = none) (s x : Operand)
    (ho : o.op = .call { callee := .builtin .append, args := #[s, x], argTypes := #[79, 79] }) (B : Nat) (v : Value) (xs : List Nat) (w : World) (b : Int) (n : Nat)
    (hs : a.eval s = v) (hown : OwnB B w v xs) (hx : a.eval x = .slice (some ⟨w.heap.size, 0, none⟩) 1 1) (hb : b = (n : Int)) (hB : B ≤ w.heap.size) (hlen : xs.length ≤ 140737488355000)
    (h : ∀ v' w', OwnB B w' v' (xs ++ [n]) → Below B w w' → wpList Try.prog ops Q rest (a.put o.dst v') w') :
    wpList Try.prog ops Q (o :: rest) a (w.alloc (.cells #[.int .u8 b] 5)) := by
  obtain ⟨i0, hi, hz0, hz1, hz2⟩ := info_parts Try.infoU8
  have hlt := hown.lt
  refine wpList_append_own _ hgd s x 79 ho B 5 i0 (.int .u8 0) 1 1 Try.underlying79 hi hz0 hz1 hz2 rfl (by decide) v xs.length (xs.map bv) hs (hown.alloc _) ⟨w.heap.size, 0, none⟩ 1 1 [.int .u8 b] hx rfl ?_ ?_ ?_ ?_ ?_ ?_
  · intro j u hj
    match j, hj with
    | 0, hj => simp at hj; subst hj; simp [Addr.add]
  · intro u hu; simp at hu; subst hu; rfl
  · unfold maxLen; omega
  · omega
  · simp; omega
  · intro v' w' hown' hg _
    refine h v' w' ?_ ?_
    · unfold OwnB
      have e : (xs ++ [n]).map bv = xs.map bv ++ [.int .u8 b] := by simp [bv, hb]
      rw [e, List.length_append]
      exact hown'
    · refine ((Below.refl B w).alloc hB _).grown hg (by simp; omega) ?_
      intro k hk
      exact (hlt k hk).1

set_option maxRecDepth 100000 in
set_option maxHeartbeats 400000 in
theorem appv_any (B : Nat) (v : Value) (xs : List Nat) (x : Nat) (w : World) (hB : B ≤ w.heap.size) (hown : OwnB B w v xs) (hx : x < 18446744073709551616) (hlen : xs.length ≤ 1000000) :
    Calls Try.prog 54 #[v, .int .u64 x] w (GaveOwn B (xs ++ pv x) w) := by
  have hpl := pv_ten x hx
  go_enter Try.func54, Try.ntmps54
  go_wp2
  go_loopw [0, 1] (fun s n wr => ∃ (ys : List Nat) (y : Nat), Hid (OwnB B wr s (xs ++ ys)) ∧ n = .int .u64 y ∧ y < 18446744073709551616 ∧ Hid (pv x = ys ++ pv y) ∧ Below B w wr) (fun _ n _ => (intOf n).toNat)
  case atStart => exact ⟨[], x, Lib.hid (by simpa using hown), rfl, hx, Lib.hid rfl, Below.refl _ _⟩
  case round =>
    obtain ⟨ys, y, ho, rfl, hy, hp, hb⟩ := hrel
    have hyl : ys.length ≤ 10 := by have := congrArg List.length hp.out; simp at this; omega
    by_cases hc : 128 ≤ y
    · have hby := Lib.hid (byte_more y)
      have hp' : Hid (pv x = (ys ++ [y % 128 + 128]) ++ pv (y / 128)) := Lib.hid (by rw [hp.out, pv_great y hc]; simp)
      clear hp
      go_wp2_with (at_builtin; refine push_own rfl (.tmp 9) (.tmp 13) rfl B _ _ _ _ _ rfl ho.out rfl hby.out ?c1 ?c2 ?_)
      case c1 => have := hb.size; omega
      case c2 => simp; omega
      intro v' w1 hown' hb'
      have ho' := Lib.hid hown'
      clear hown'
      have hb2 := hb.trans hb'
      clear hb hb' ho
      go_wp2
      go_roundw
      case rel => exact ⟨ys ++ [y % 128 + 128], y / 128, ho', by go_num, by omega, hp', hb2⟩
      case measure => simp [intOf]; omega
    · have hp' : Hid (pv x = ys ++ [y]) := Lib.hid (by rw [hp.out, pv_small y (by omega)])
      clear hp
      go_wp2_with (at_builtin; refine push_own rfl (.tmp 15) (.tmp 18) rfl B _ _ _ _ _ rfl ho.out rfl rfl ?d1 ?d2 ?_)
      case d1 => have := hb.size; omega
      case d2 => simp; omega
      intro v' w1 hown' hb'
      have ho' : Hid (OwnB B w1 v' (xs ++ pv x)) := Lib.hid (by rw [hp'.out]; exact hown')
      clear hown'
      have hb2 := hb.trans hb'
      clear hb hb' ho
      go_wp2
      go_ret
      exact ⟨v', rfl, ho'.out, hb2⟩

theorem own_bytes {B : Nat} {w : World} {v : Value} {xs : List Nat} (h : OwnB B w v xs) : (xs = [] ∧ v = .slice none 0 0) ∨ ∃ g cap, v = .slice (some ⟨g, 0, none⟩) xs.length cap ∧ B ≤ g ∧ g < w.heap.size ∧ ∀ i, i < xs.length → w.cell? ⟨g, i, none⟩ = some (.int .u8 ((xs.map Int.ofNat).getD i 0)) := by
  have h0 := h
  obtain ⟨hl, ⟨rfl, hn⟩ | ⟨g, cap, cur, rfl, hg, hh, hc, hm, hs, ht⟩⟩ := h
  · left; exact ⟨List.length_eq_zero_iff.1 hn, rfl⟩
  · right
    refine ⟨g, cap, rfl, hg, ?_, ?_⟩
    · exact (h0.lt g rfl).2
    · intro i hi
      have := World.ownsRow.cellAt h0 i (by omega)
      rw [this]
      simp [bv, hi]
theorem str_nums (xs : List Nat) : strOfNums (xs.map Int.ofNat) = txt xs := by
  unfold strOfNums txt
  congr 2
  rw [List.map_map]
  rfl
/-- Bytes of the call's own, made a text. -/
theorem conv_own {B : Nat} {w : World} {v : Value} {xs : List Nat} (h : OwnB B w v xs) : (convert 79 9 v).run Try.prog w = .ok (.string (txt xs)) w := by
  rcases own_bytes h with ⟨rfl, rfl⟩ | ⟨g, cap, rfl, _, _, hc⟩
  · exact run_convert_bytes_nil w 79 5 Try.underlying79 Try.underlying5 0 0 9 Try.underlying9
  · have := run_convert_bytes_arg w 79 5 Try.underlying79 Try.underlying5 g 0 xs.length cap (xs.map Int.ofNat) (by simp) (by simpa using hc) 9 Try.underlying9
    rw [str_nums] at this
    exact this

def GaveText (t : ByteArray) (w : World) (e : Ending) (w' : World) : Prop := e = .returned (.string t) ∧ Below w.heap.size w w'

set_option maxRecDepth 100000 in
set_option maxHeartbeats 400000 in
theorem putv_any (x : Nat) (w : World) (hx : x < 18446744073709551616) :
    Calls Try.prog 40 #[.int .u64 x] w (GaveText (txt (pv x)) w) := by
  go_enter Try.func40, Try.ntmps40
  go_wp2_with fail
  refine (appv_any w.heap.size _ [] x _ (Nat.le_refl _) (own_nil _ _) hx (by simp)).mono ?_
  rintro e w1 ⟨v', rfl, ho, hb⟩
  have hc := conv_own ho
  simp only [List.nil_append] at hc
  go_wp2
  go_ret
  exact ⟨rfl, hb⟩

set_option maxRecDepth 100000 in
set_option maxHeartbeats 400000 in
theorem refputv_any (x : Nat) (w : World) (hx : x < 18446744073709551616) :
    Calls Try.prog 16 #[.int .u64 x] w (GaveText (txt (pv x)) w) := by
  have hpl := pv_ten x hx
  obtain ⟨B, hB⟩ : ∃ B, Hid (B = w.heap.size) := ⟨_, Lib.hid rfl⟩
  go_enter Try.func16, Try.ntmps16
  go_wp2
  go_loopw [0, 3] (fun n s wr => ∃ (ys : List Nat) (y : Nat), Hid (OwnB B wr s ys) ∧ n = .int .u64 y ∧ y < 18446744073709551616 ∧ Hid (pv x = ys ++ pv y) ∧ Below B w wr) (fun n _ _ => (intOf n).toNat)
  case atStart => exact ⟨[], x, Lib.hid (own_nil _ _), rfl, hx, Lib.hid rfl, Below.refl _ _⟩
  case round =>
    obtain ⟨ys, y, ho, rfl, hy, hp, hb⟩ := hrel
    have hyl : ys.length ≤ 10 := by have := congrArg List.length hp.out; simp at this; omega
    have hbs : B ≤ wr.heap.size := by have := hb.size; have := hB.out; omega
    by_cases hc : 128 ≤ y
    · have hp' : Hid (pv x = (ys ++ [y % 128 + 128]) ++ pv (y / 128)) := Lib.hid (by rw [hp.out, pv_great y hc]; simp)
      clear hp
      go_wp2_with (at_builtin; refine push_own rfl (.tmp 6) (.tmp 11) rfl B _ _ _ _ (y % 128 + 128) rfl ho.out rfl ?c0 ?c1 ?c2 ?_)
      case c0 => omega
      case c1 => exact hbs
      case c2 => omega
      intro v' w1 hown' hb'
      have ho' := Lib.hid hown'
      clear hown'
      have hb2 := hb.trans hb'
      clear hb hb' ho
      go_wp2
      go_roundw
      case rel => exact ⟨ys ++ [y % 128 + 128], y / 128, ho', by go_num, by omega, hp', hb2⟩
      case measure => simp [intOf]; omega
    · have hp' : Hid (pv x = ys ++ [y]) := Lib.hid (by rw [hp.out, pv_small y (by omega)])
      clear hp
      go_wp2_with (at_builtin; refine push_own rfl (.tmp 15) (.tmp 18) rfl B _ _ _ _ _ rfl ho.out rfl rfl ?d1 ?d2 ?_)
      case d1 => exact hbs
      case d2 => omega
      intro v' w1 hown' hb'
      have hc2 := conv_own hown'
      rw [← hp'.out] at hc2
      have hb2 := hb.trans hb'
      rw [hB.out] at hb2
      clear hb hb' ho hown'
      go_wp2
      go_ret
      exact ⟨rfl, hb2⟩
end Go.Proofs.Ytbkcklefkhlciaa
