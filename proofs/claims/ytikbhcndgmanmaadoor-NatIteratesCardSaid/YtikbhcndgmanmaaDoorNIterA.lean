/-
  Lemmas for the walk of NatIterates.
-/
import Derived.Test.YtikbhcndgmanmaaDoorNSum
import Derived.Test.YtikbhcndgmanmaaDoorNShort
namespace Go.Proofs.YtikbhcndgmanmaaDoor
open Go.RowKit Go.Shelf
set_option linter.unusedVariables false
theorem hlv_get : ∀ (k N : Nat), k < (hlv N).length → (hlv N)[k]? = some (N / 2 ^ k) := by
  intro k
  induction k with
  | zero =>
    intro N h
    have h0 : N ≠ 0 := fun e => by rw [e, hlv_zero] at h; simp at h
    rw [hlv_pos h0]
    simp
  | succ k ih =>
    intro N h
    have h0 : N ≠ 0 := fun e => by rw [e, hlv_zero] at h; simp at h
    rw [hlv_pos h0] at h ⊢
    rw [List.getElem?_cons_succ, ih (N / 2) (by simpa using h), Nat.div_div_eq_div_mul, Nat.pow_succ, Nat.mul_comm]
/-- How many halves are asked. -/
def wnt (L stop : Int) : Int := if 0 < stop then (if stop < L then stop else L) else L
/-- The halves of N, in a row. -/
structure Hh (W : World) (a : Option Addr) (hs : List Hv) (N : Nat) : Prop where
  row : LR W a hs
  num : ∀ (k : Nat) (x : Hv), hs[k]? = some x → IsN W (hvV x) (N / 2 ^ k)
theorem Hh.below {W W' : World} {a : Option Addr} {hs : List Hv} {N : Nat} (h : Hh W a hs N) (hb : Below W.heap.size W W') : Hh W' a hs N :=
  ⟨h.row.below hb (Nat.le_refl _), fun k x e => (h.num k x e).below hb (Nat.le_refl _)⟩
theorem row_lr {W : World} {B : Nat} {v : Value} {hs : List Hv} (h : W.ownsRow B 30 1 v hs.length (hs.map hvS)) : ∃ a c, v = .slice a hs.length c ∧ LR W a hs := by
  rcases Nat.eq_zero_or_pos hs.length with h0 | h0
  · have : hs = [] := List.eq_nil_of_length_eq_zero h0
    subst this
    rcases h.2 with ⟨rfl, _⟩ | ⟨g, cap, cur, rfl, _⟩
    · exact ⟨_, _, rfl, fun i x hx => by simp at hx⟩
    · exact ⟨_, _, rfl, fun i x hx => by simp at hx⟩
  · obtain ⟨g, c, rfl, hc, hcell⟩ := row_form h h0
    refine ⟨_, _, rfl, fun i x hx => ?_⟩
    have h1 := hcell i (hvS x) (by rw [List.getElem?_map, hx]; rfl)
    have h2 := World.block_lt_of_cell? W ⟨g, i, none⟩ h1
    refine ⟨_, rfl, h2, ?_⟩
    have e : (⟨g, 0, none⟩ : Addr).add i = ⟨g, i, none⟩ := by simp [Addr.add]; exact fun h => h.symm
    rw [e]; exact h1
theorem halves_law (Bs N : Nat) (sa : Option Addr) (sn sc : Nat) (stop : Int) (w : World) (hB : Bs < w.heap.size) (hc : w.cell? ⟨Bs, 0, none⟩ = some (.slice sa sn sc)) (hN : IsN w (.agg #[.slice sa sn sc]) N) {WT : Int} (hW : wnt ((hlv N).length : Int) stop = WT) :
    Calls Tryd.prog 35 #[.func (.func 55) #[] #[.pointer (some ⟨Bs, 0, none⟩)], .int .i64 stop] w fun e W' =>
      ∃ (a : Option Addr) (c : Nat) (hs : List Hv), e = .returned (.slice a hs.length c) ∧ (hs.length : Int) = WT ∧ hs.length ≤ (hlv N).length ∧ Hh W' a hs N ∧ Below w.heap.size w W' :=
  (halves_all Bs N sa sn sc stop w hB hc hN).mono fun e W' ⟨v, hs, h1, h2, h3, h4, h5⟩ => by
    obtain ⟨a, c, rfl, hr⟩ := row_lr h3
    have hp : hs.map (·.2) <+: hlv N := by
      rcases h2 with ⟨h2, _⟩ | ⟨h2, _⟩
      · rw [h2]; exact List.prefix_refl _
      · exact h2
    have hle : hs.length ≤ (hlv N).length := by
      have := hp.length_le
      rwa [List.length_map] at this
    refine ⟨a, c, hs, h1, ?_, hle, ⟨hr, fun k x hx => ?_⟩, h5⟩
    · rw [← hW]
      unfold wnt
      rcases h2 with ⟨h2, h6⟩ | ⟨_, h6, h7⟩
      · have e : hs.length = (hlv N).length := by rw [← h2, List.length_map]
        rw [← e]
        split
        · rw [if_neg (by omega)]
        · rfl
      · rw [if_pos h6]
        split
        · exact h7
        · omega
    · have hk : k < hs.length := (List.getElem?_eq_some_iff.1 hx).1
      have h6 := hlv_get k N (by omega)
      obtain ⟨r, hr⟩ := hp
      rw [← hr, List.getElem?_append_left (by rw [List.length_map]; exact hk), List.getElem?_map, hx] at h6
      simp only [Option.map_some, Option.some.injEq] at h6
      have := h4 x (List.mem_of_getElem? hx)
      rwa [h6] at this
theorem hv_list : ∀ (xs : List Value) (ns : List Nat), xs.length = ns.length → (∀ (i : Nat) (x : Value), xs[i]? = some x → ∃ (a : Option Addr) (n c : Nat), x = .slice a n c) → ∃ L : List Hv, L.map hvS = xs ∧ L.map (·.2) = ns := by
  intro xs
  induction xs with
  | nil =>
    intro ns h _
    have : ns = [] := List.eq_nil_of_length_eq_zero h.symm
    subst this
    exact ⟨[], rfl, rfl⟩
  | cons x r ih =>
    intro ns h hf
    cases ns with
    | nil => simp at h
    | cons N s =>
      obtain ⟨L, h1, h2⟩ := ih s (by simpa using h) (fun i y e => hf (i + 1) y (by simpa using e))
      obtain ⟨a, n, c, rfl⟩ := hf 0 x rfl
      exact ⟨((a, n, c), N) :: L, by rw [List.map_cons, h1]; rfl, by rw [List.map_cons, h2]⟩
/-- What lies in memory throughout the walk: both rows, and their numbers. -/
structure Two (w W : World) (aa ab : Option Addr) (L : List Hv) (ys : List Value) (ns : List Nat) : Prop where
  bel : Below w.heap.size w W
  row : LR W aa L
  num : ∀ (k : Nat) (x : Hv) (N : Nat), L[k]? = some x → ns[k]? = some N → IsN W (hvV x) N
  doc : ∀ (k : Nat) (y : Value) (N : Nat), ys[k]? = some y → ns[k]? = some N → (∃ (p : Option Addr) (n c : Nat), y = .slice p n c) ∧ RN W y N ∧ ∃ ad, ab = some ad ∧ ad.block < W.heap.size ∧ W.cell? (ad.add k) = some y
theorem Two.below {w W W' : World} {aa ab : Option Addr} {L : List Hv} {ys : List Value} {ns : List Nat} (h : Two w W aa ab L ys ns) (hb : Below W.heap.size W W') : Two w W' aa ab L ys ns :=
  ⟨h.bel.trans (hb.mono h.bel.size), h.row.below hb (Nat.le_refl _), fun k x N e1 e2 => (h.num k x N e1 e2).below hb (Nat.le_refl _), fun k y N e1 e2 => by
    obtain ⟨h1, h2, ad, h3, h4, h5⟩ := h.doc k y N e1 e2
    exact ⟨h1, h2.below hb (Nat.le_refl _), ad, h3, Nat.lt_of_lt_of_le h4 hb.size, (hb.cell (by rw [add_block]; exact h4)).trans h5⟩⟩
theorem row_cells {W : World} {B : Nat} {e : TypeId} {v : Value} {xs : List Value} (h : W.ownsRow B e 1 v xs.length xs) : ∃ a c, v = .slice a xs.length c ∧ ∀ i x, xs[i]? = some x → ∃ ad, a = some ad ∧ ad.block < W.heap.size ∧ W.cell? (ad.add i) = some x := by
  rcases Nat.eq_zero_or_pos xs.length with h0 | h0
  · have : xs = [] := List.eq_nil_of_length_eq_zero h0
    subst this
    rcases h.2 with ⟨rfl, _⟩ | ⟨g, cap, cur, rfl, _⟩
    · exact ⟨_, _, rfl, fun i x hx => by simp at hx⟩
    · exact ⟨_, _, rfl, fun i x hx => by simp at hx⟩
  · obtain ⟨g, c, rfl, hc, hcell⟩ := row_form h h0
    refine ⟨_, _, rfl, fun i x hx => ?_⟩
    have h1 := hcell i x hx
    have e : (⟨g, 0, none⟩ : Addr).add i = ⟨g, i, none⟩ := by simp [Addr.add]; exact fun h => h.symm
    exact ⟨_, rfl, World.block_lt_of_cell? W ⟨g, i, none⟩ h1, by rw [e]; exact h1⟩
theorem two_of {w W : World} {va vb : Value} {xs ys : List Value} {ns : List Nat} (h : NS w W va vb xs ys ns ns) :
    ∃ (aa : Option Addr) (ca : Nat) (ab : Option Addr) (cb : Nat) (L : List Hv), va = .slice aa ns.length ca ∧ vb = .slice ab ns.length cb ∧ L.length = ns.length ∧ ys.length = ns.length ∧ L.map (·.2) = ns ∧ Two w W aa ab L ys ns := by
  obtain ⟨aa, ca, rfl, h1⟩ := row_cells h.oa
  obtain ⟨ab, cb, rfl, h2⟩ := row_cells h.ob
  have fm : ∀ (i : Nat) (x : Value), xs[i]? = some x → ∃ (a : Option Addr) (n c : Nat), x = .slice a n c := fun i x hx => by
    have hi : i < ns.length := by rw [← h.la]; exact (List.getElem?_eq_some_iff.1 hx).1
    exact (h.na i x _ hx (List.getElem?_eq_getElem hi)).1
  obtain ⟨L, h3, h4⟩ := hv_list xs ns h.la fm
  have hx : ∀ (k : Nat) (x : Hv), L[k]? = some x → xs[k]? = some (hvS x) := fun k x e => by rw [← h3, List.getElem?_map, e]; rfl
  refine ⟨aa, ca, ab, cb, L, by rw [h.la], by rw [h.lb], by rw [← h4, List.length_map], h.lb, h4, h.bel, fun k x e => h1 k _ (hx k x e), fun k x N e1 e2 => ?_, fun k y N e1 e2 => ?_⟩
  · exact (h.na k _ N (hx k x e1) e2).2.1
  · obtain ⟨h5, h6, _⟩ := h.nb k y N e1 e2
    exact ⟨h5, h6, h2 k y e1⟩
def tot (ns : List Nat) (k : Nat) : Nat := (ns.take k).sum
theorem tot_succ {ns : List Nat} {k N : Nat} (h : ns[k]? = some N) : tot ns (k + 1) = tot ns k + N := by
  unfold tot
  rw [List.take_add_one, h]
  simp
theorem tot_lt {ns : List Nat} (hb : ∀ N ∈ ns, N < 10000 ^ 250) (k : Nat) (hk : ns.length ≤ 20) : tot ns k < 10000 ^ 9000 := by
  have key : ∀ l : List Nat, (∀ N ∈ l, N < 10000 ^ 250) → l.sum ≤ l.length * 10000 ^ 250 := by
    intro l
    induction l with
    | nil => intro _; simp
    | cons x r ih =>
      intro h
      rw [List.sum_cons, List.length_cons, Nat.add_mul, Nat.one_mul]
      have := h x (by simp)
      have := ih (fun N hN => h N (by simp [hN]))
      omega
  have h1 := key (ns.take k) (fun N hN => hb N (List.mem_of_mem_take hN))
  have h2 : (ns.take k).length * 10000 ^ 250 < 10000 ^ 251 := by
    rw [Nat.pow_succ 10000 250, Nat.mul_comm]
    refine Nat.mul_lt_mul_of_pos_left ?_ (Nat.pow_pos (by decide))
    rw [List.length_take]; omega
  exact Nat.lt_of_le_of_lt h1 (pow_up 251 9000 h2 (by decide))
theorem tot_all (ns : List Nat) : tot ns ns.length = ns.sum := by unfold tot; rw [List.take_length]
theorem isLen_le {N L m : Nat} (h : IsLen N L) (hN : N < 2 ^ m) : L ≤ m := by
  rcases Nat.lt_or_ge m L with hlt | hge
  · exfalso
    have h1 := h.le (by omega)
    have h2 : 2 ^ m ≤ 2 ^ (L - 1) := Nat.pow_le_pow_right (by omega) (by omega)
    omega
  · exact hge
theorem w64_two {N : Nat} (j : Nat) (h : N < 18446744073709551616 ^ j) : N < 2 ^ (64 * j) := by
  rw [Nat.pow_mul]
  have e : (2 : Nat) ^ 64 = 18446744073709551616 := by decide
  rw [e]; exact h
end Go.Proofs.YtikbhcndgmanmaaDoor
