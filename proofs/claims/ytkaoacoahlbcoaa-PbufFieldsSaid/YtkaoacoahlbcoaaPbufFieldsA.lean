/-
  PbufFields' helpers: a field by value; what told hands back, as the walk needs it; a func value held against nil.
-/
import Derived.Test.YtkaoacoahlbcoaaToldF
import Derived.Test.YtkaoacoahlbcoaaFds
import Derived.Test.YtkaoacoahlbcoaaFieldsOk
namespace Go.Proofs.Ytkaoacoahlbcoaa
open Go.RowKit Go.ChangeShapes Go.WideShapes Go.Deep
section
variable {H : Type} {enc : TypeId × Value → H} {w : World} {base : Nat} {spare : Nat → Bool} {held : Bool}
theorem open_fd {v : Value} {d : DataW H} {p : List MemPlace} {r : Reach} {b0 : Nat} (hv : Value.okWide Try.prog w r b0 31 v) (h : DataW.Trod enc Try.prog w base spare held 31 v d p) :
    ∃ q : FdI, v = .agg #[.int .i64 q.num, .int .i64 q.kind, .int .i64 q.at_, .int .u64 q.val, .string q.data] ∧ q.ok := by
  obtain ⟨cs, rfl, hsz⟩ := okWide_struct Try.underlying31 hv
  obtain ⟨l⟩ := cs
  have h5 : Try.prog.cellsOf 31 = 5 := by kernel_rfl
  match l, hsz.trans h5 with
  | [c0, c1, c2, c3, c4], _ =>
    obtain ⟨fuel, hf⟩ := h
    obtain ⟨ys, n', _, _, _, hyl, hg⟩ := DataW.trod_struct Try.underlying31 hf
    have i1 : Try.prog.cellsOf 3 = 1 := by kernel_rfl
    have u1 : Try.prog.cellsOf 22 = 1 := by kernel_rfl
    have s1 : Try.prog.cellsOf 9 = 1 := by kernel_rfl
    have g0 := hg 0 _ rfl
    have g1 := hg 1 _ rfl
    have g2 := hg 2 _ rfl
    have g3 := hg 3 _ rfl
    have g4 := hg 4 _ rfl
    match ys, hyl with
    | [y0, y1, y2, y3, y4], _ =>
      obtain ⟨n0, e0, _, _⟩ := DataW.trod_int Try.underlying3 g0
      obtain ⟨n1, e1, _, _⟩ := DataW.trod_int Try.underlying3 g1
      obtain ⟨n2, e2, _, _⟩ := DataW.trod_int Try.underlying3 g2
      obtain ⟨n3, e3, _, w3⟩ := DataW.trod_int Try.underlying22 g3
      obtain ⟨s4, e4, _, w4⟩ := DataW.trod_string Try.underlying9 g4
      simp [Value.cells, i1, u1, s1] at e0 e1 e2 e3 e4
      subst e0 e1 e2 e3 e4
      have hw := wf_u64 w3
      refine ⟨⟨n0, n1, n2, n3.toNat, s4⟩, ?_, ⟨by show n3.toNat < _; omega, w4⟩⟩
      have e3 : ((n3.toNat : Nat) : Int) = n3 := by omega
      simp only [e3]
end
/-- The row at a holds the values xs. -/
def VHolds (w : World) (a : Option Addr) (xs : List Value) : Prop := ∀ (i : Nat) (u : Value), xs[i]? = some u → ∃ g, a = some ⟨g, 0, none⟩ ∧ g < w.heap.size ∧ w.cell? ⟨g, i, none⟩ = some u
theorem VHolds.below {w w' : World} {a : Option Addr} {xs : List Value} (h : VHolds w a xs) (hb : Below w.heap.size w w') : VHolds w' a xs := fun i u hu => by
  obtain ⟨g, ha, hg, hc⟩ := h i u hu
  exact ⟨g, ha, Nat.lt_of_lt_of_le hg hb.size, (hb.cell (p := ⟨g, i, none⟩) hg).trans hc⟩
theorem vholds_own {w : World} {b c n m : Nat} {t : TypeId} {a : Option Addr} {xs : List Value} (h : w.ownsRow b t m (.slice a n c) n xs) : VHolds w a xs := by
  intro i u hu
  obtain ⟨hi, hget⟩ := List.getElem?_eq_some_iff.1 hu
  have hl := h.1
  have hn : 0 < n := by
    rcases Nat.eq_zero_or_pos n with h0 | h0
    · rw [h0] at hl; omega
    · exact h0
  obtain ⟨g, cap, hv, _, hlt⟩ := h.form hn
  have hA : a = some ⟨g, 0, none⟩ := by injection hv
  subst hA
  refine ⟨g, rfl, hlt, ?_⟩
  rw [World.ownsRow.cellAt h i (by omega)]
  first | exact hu | (rw [← hget]; rfl) | trace_state
theorem flat_get {α : Type} (f : α → List Value) (m : Nat) (hf : ∀ x, (f x).length = m) : ∀ (l : List α) (i : Nat) (x : α) (j : Nat), l[i]? = some x → j < m → (l.flatMap f)[i * m + j]? = (f x)[j]? := by
  intro l
  induction l with
  | nil => intro i x j h; simp at h
  | cons q l ih =>
    intro i x j h hj
    rw [List.flatMap_cons]
    cases i with
    | zero =>
      simp only [List.getElem?_cons_zero, Option.some.injEq] at h
      subst h
      rw [Nat.zero_mul, Nat.zero_add, List.getElem?_append_left (by rw [hf]; exact hj)]
    | succ i =>
      rw [List.getElem?_cons_succ] at h
      have e : (i + 1) * m = i * m + m := Nat.succ_mul i m
      rw [List.getElem?_append_right (by rw [hf, e]; omega), hf, show (i + 1) * m + j - m = i * m + j from by rw [e]; omega]
      exact ih i x j h hj
/-- What told hands back, z elements. -/
def ToldIs (s : ByteArray) (z : Nat) (w : World) (e : Ending) (w' : World) : Prop :=
  ∃ a1 c1 a2 c2 xs, e = .returned (.tuple #[.slice a1 z c1, .slice a2 z c2]) ∧ xs <+: pall s ∧ xs.length = z ∧ VHolds w' a1 (xs.flatMap Pt.fL) ∧ VHolds w' a2 (xs.flatMap Pt.dL) ∧ Below w.heap.size w w'
theorem slice_of {W : World} {b : Nat} {e : TypeId} {s : Nat} {v : Value} {n : Nat} {xs : List Value} (h : W.ownsRow b e s v n xs) : ∃ a c, v = .slice a n c := by
  obtain ⟨hl, ⟨rfl, hn⟩ | ⟨g, cap, cur, rfl, _⟩⟩ := h
  · exact ⟨none, 0, by rw [hn]⟩
  · exact ⟨_, _, rfl⟩
theorem told_z (s : ByteArray) (stop : Int) (z : Nat) (h : (stop ≤ 0 ∧ z = (pall s).length) ∨ (0 < stop ∧ stop = (z : Int) ∧ z ≤ (pall s).length) ∨ (0 < stop ∧ ((pall s).length : Int) ≤ stop ∧ z = (pall s).length)) (w : World) (e : Ending) (w' : World) (ht : Tells s stop w e w') : ToldIs s z w e w' := by
  obtain ⟨v1, v2, xs, rfl, hx, h1, h2, hb⟩ := ht
  have hz : xs <+: pall s ∧ xs.length = z := by
    rcases hx with ⟨rfl, hx⟩ | ⟨hp, h0, hx⟩
    · exact ⟨List.prefix_refl _, by omega⟩
    · have := hp.length_le
      exact ⟨hp, by omega⟩
  obtain ⟨a1, c1, rfl⟩ := slice_of h1
  obtain ⟨a2, c2, rfl⟩ := slice_of h2
  obtain ⟨hp, hl⟩ := hz
  subst hl
  exact ⟨a1, c1, a2, c2, xs, rfl, hp, rfl, vholds_own h1, vholds_own h2, hb⟩
/-- The cells of the element i, as the walk spells them. -/
theorem told_at {w : World} {a1 a2 : Option Addr} {xs : List Pt} {i : Nat} {x : Pt} (h1 : VHolds w a1 (xs.flatMap Pt.fL)) (h2 : VHolds w a2 (xs.flatMap Pt.dL)) (hx : xs[i]? = some x) :
    ∃ g1 g2, a1 = some ⟨g1, 0, none⟩ ∧ a2 = some ⟨g2, 0, none⟩ ∧ g1 < w.heap.size ∧ g2 < w.heap.size ∧
      w.cell? ⟨g1, i * 5, none⟩ = some (.int .i64 x.n0) ∧ w.cell? ⟨g1, i * 5 + 1, none⟩ = some (.int .i64 x.n1) ∧ w.cell? ⟨g1, i * 5 + 2, none⟩ = some (.int .i64 x.n2) ∧ w.cell? ⟨g1, i * 5 + 3, none⟩ = some (.int .u64 x.n3) ∧ w.cell? ⟨g1, i * 5 + 4, none⟩ = some (.string x.n4) ∧
      w.cell? ⟨g2, i * 3, none⟩ = some (.int .i64 x.m0) ∧ w.cell? ⟨g2, i * 3 + 1, none⟩ = some (.int .i64 x.m1) := by
  have f := flat_get Pt.fL 5 (fun _ => rfl) xs i x
  have d := flat_get Pt.dL 3 (fun _ => rfl) xs i x
  obtain ⟨g1, rfl, hg1, c0⟩ := h1 _ _ (f 0 hx (by omega))
  obtain ⟨_, e1, _, c1⟩ := h1 _ _ (f 1 hx (by omega)); cases e1
  obtain ⟨_, e2, _, c2⟩ := h1 _ _ (f 2 hx (by omega)); cases e2
  obtain ⟨_, e3, _, c3⟩ := h1 _ _ (f 3 hx (by omega)); cases e3
  obtain ⟨_, e4, _, c4⟩ := h1 _ _ (f 4 hx (by omega)); cases e4
  obtain ⟨g2, rfl, hg2, d0⟩ := h2 _ _ (d 0 hx (by omega))
  obtain ⟨_, e5, _, d1⟩ := h2 _ _ (d 1 hx (by omega)); cases e5
  exact ⟨g1, g2, rfl, rfl, hg1, hg2, c0, c1, c2, c3, c4, d0, d1⟩
theorem run_equalIn_func_nil {P : Program} (d : Nat) (t : TypeId) (f : Fn) (xs ys : Array Value) (a b : Array TypeId) (c : Bool) (h : P.underlying t = some (.func a b c)) (w : World) : (Op.equalIn (d + 1) t (.func f xs ys) .nilFunc).run P w = .ok false w := by
  simp [Op.equalIn, run_underlying h]
def isFunc (x : Option TypeDesc) : Bool := match x with | some (.func ..) => true | _ => false
theorem run_eql_func_nil {P : Program} (t : TypeId) (f : Fn) (xs ys : Array Value) (h : isFunc (P.underlying t) = true) (w : World) : (binOp .eql t (.func f xs ys) .nilFunc).run P w = .ok (.bool false) w := by
  have ⟨a, b, c, h⟩ : ∃ a b c, P.underlying t = some (.func a b c) := by
    unfold isFunc at h
    split at h
    · exact ⟨_, _, _, by assumption⟩
    · cases h
  have e : (Op.equal t (.func f xs ys) .nilFunc).run P w = .ok false w := run_equalIn_func_nil 9999 t f xs ys a b c h w
  simp only [binOp]
  simp [e]
end Go.Proofs.Ytkaoacoahlbcoaa
