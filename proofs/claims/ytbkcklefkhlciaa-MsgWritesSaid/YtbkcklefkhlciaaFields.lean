/-
  What is told of a text, field by field; blocks known whole.
-/
import Derived.Test.YtbkcklefkhlciaaEach
import Derived.Test.YtbkcklefkhlciaaStill
import Derived.Maps.AppendAt
namespace Go.Proofs.Ytbkcklefkhlciaa
open Go.RowKit Go.Shelf
attribute [local go_sem] Oper.semAt_some

theorem Try.infoF : (Try.prog.info? 77).map (fun i => (i.zero, i.size, i.bytes)) = some (some (.agg #[.int .i64 0, .int .i64 0, .int .i64 0, .int .u64 0, .string ⟨#[]⟩]), 5, 48) := by kernel_rfl
set_option maxHeartbeats 1000000 in
theorem each_any (s : ByteArray) (w : World) :
    Calls Try.prog 52 #[.string s] w fun e w' => e = .returned (.func (.func 61) #[] #[.pointer (some ⟨w.heap.size, 0, none⟩)]) ∧ w.alloc (.cells #[.string s] 9) = w' := by
  go_enter Try.func52, Try.ntmps52
  go_wp2
  go_ret
  exact ⟨rfl, rfl⟩
theorem each_stops (n : Nat) (hn : 1 ≤ n) (Bs : Nat) (s : ByteArray) (hs : s.size ≤ 1000000) (w : World) (hB : Bs < w.heap.size) (hc : w.cell? ⟨Bs, 0, none⟩ = some (.string s)) :
    SeqStopsK Fence.wide n Try.prog 61 #[.pointer (some ⟨Bs, 0, none⟩)] Pt.args (KeepCell Bs) (fun ys => ys = pall s) (fun pre => pre <+: pall s) s.size w := fun l J Jx W hW hJ _ hY h0 => by
  have hc' := (hW.cell (p := ⟨Bs, 0, none⟩) (by simpa using hB)).trans hc
  exact each1_in n hn l Bs W.heap.size s hs J Jx hJ hY W hc' h0
def fdC (p : Fd × Nat) : List Value := [.int .i64 p.1.num, .int .i64 p.1.kind, .int .i64 (p.2 : Int), .int .u64 p.1.val, .string p.1.data]
def fdsC (l : List (Fd × Nat)) : List Value := l.flatMap fdC
theorem fdsC_snoc (l : List (Fd × Nat)) (p : Fd × Nat) : fdsC (l ++ [p]) = fdsC l ++ fdC p := by simp [fdsC]
def Pt.pair (p : Fd × Nat) : Pt := .ok p.1 p.2
/-- What is told of a text: fields, and behind them, maybe, what is wrong. -/
theorem pfrom_shape (s : ByteArray) : ∀ (f k : Nat), s.size - k ≤ f → ∃ l : List (Fd × Nat), pfrom s k = l.map Pt.pair ∨ ∃ q, pfrom s k = l.map Pt.pair ++ [.bad 9 q] := by
  intro f
  induction f with
  | zero => intro k h; exact ⟨[], .inl (by rw [pfrom_end s k (by omega)]; rfl)⟩
  | succ f ih =>
    intro k h
    by_cases hk : k < s.size
    · cases hp : pget (s.extract k s.size) with
      | none => exact ⟨[], .inr ⟨k, by rw [pfrom_bad s k hk hp]; rfl⟩⟩
      | some p =>
        obtain ⟨fd, n⟩ := p
        have hn := pget_size _ hp
        rw [extract_size] at hn
        obtain ⟨l, hl | ⟨q, hl⟩⟩ := ih (k + n) (by omega)
        · exact ⟨(fd, k) :: l, .inl (by rw [pfrom_ok s k hk hp, hl]; rfl)⟩
        · exact ⟨(fd, k) :: l, .inr ⟨q, by rw [pfrom_ok s k hk hp, hl]; rfl⟩⟩
    · exact ⟨[], .inl (by rw [pfrom_end s k (by omega)]; rfl)⟩
theorem pall_shape (s : ByteArray) : ∃ l : List (Fd × Nat), pall s = l.map Pt.pair ∨ ∃ c q, pall s = l.map Pt.pair ++ [.bad c q] := by
  unfold pall
  by_cases h : 60000 < s.size
  · rw [if_pos h]; exact ⟨[], .inr ⟨1, 0, rfl⟩⟩
  · rw [if_neg h]
    obtain ⟨l, hl | ⟨q, hl⟩⟩ := pfrom_shape s s.size 0 (by omega)
    · exact ⟨l, .inl hl⟩
    · exact ⟨l, .inr ⟨9, q, hl⟩⟩
/-- The fields in front, and what is wrong behind them. -/
theorem bad_last (s : ByteArray) (l : List (Fd × Nat)) (c q : Nat) (h : l.map Pt.pair ++ [.bad c q] <+: pall s) : pall s = l.map Pt.pair ++ [.bad c q] := by
  obtain ⟨l', hl | ⟨c', q', hl⟩⟩ := pall_shape s
  · rw [hl] at h
    have : Pt.bad c q ∈ l'.map Pt.pair := h.subset (by simp)
    obtain ⟨p, _, hp⟩ := List.mem_map.1 this
    cases hp
  · rw [hl] at h ⊢
    obtain ⟨t, ht⟩ := h
    rcases List.eq_nil_or_concat t with rfl | ⟨t', x, rfl⟩
    · rw [List.append_nil] at ht; exact ht.symm
    · rw [List.concat_eq_append, ← List.append_assoc] at ht
      have h2 := List.append_inj_left' ht rfl
      have : Pt.bad c q ∈ l'.map Pt.pair := by rw [← h2]; simp
      obtain ⟨p, _, hp⟩ := List.mem_map.1 this
      cases hp
def Pt.fV : Pt → Value
  | .ok f k => fdV f k
  | .bad _ _ => zeroV
def Pt.dV : Pt → Value
  | .ok _ _ => diagV 0 0
  | .bad c k => diagV ((c + 1 : Nat) : Int) k
def Pt.fC : Pt → Array Value
  | .ok f k => #[.int .i64 f.num, .int .i64 f.kind, .int .i64 (k : Int), .int .u64 f.val, .string f.data]
  | .bad _ _ => #[.int .i64 0, .int .i64 0, .int .i64 0, .int .u64 0, .string ⟨#[]⟩]
def Pt.dC : Pt → Array Value
  | .ok _ _ => #[.int .i64 0, .int .i64 0, .string ⟨#[]⟩]
  | .bad c k => #[.int .i64 ((c + 1 : Nat) : Int), .int .i64 (k : Int), .string ⟨#[]⟩]
/-- The block g is just the cells cs. -/
def Blk (W : World) (g : Nat) (t : TypeId) (cs : Array Value) : Prop := W.heap[g]? = some (.cells cs t (0, 0))
section
variable {w w' : World} {g : Nat} {t : TypeId} {cs : Array Value}
theorem Blk.lt (h : Blk w g t cs) : g < w.heap.size := (Array.getElem?_eq_some_iff.1 h).1
theorem Blk.cell (h : Blk w g t cs) (i : Nat) : w.cell? ⟨g, i, none⟩ = cs[i]? := cell_of_row w g i cs t (0, 0) h
theorem Blk.frozen (h : Blk w g t cs) (i : Nat) : w.frozen? ⟨g, i, none⟩ = false := by
  unfold Blk at h
  simp [World.frozen?, h]
theorem Blk.new (w : World) (t : TypeId) (cs : Array Value) : Blk (w.alloc (.cells cs t)) w.heap.size t cs := World.alloc_heap_new w _
theorem Blk.kept {row : Option Nat} (h : Blk w g t cs) (hb : w.grownBy w' row) (hg : some g ≠ row) : Blk w' g t cs := (hb.block g h.lt hg).trans h
theorem Blk.alloc (h : Blk w g t cs) (o : Obj) : Blk (w.alloc o) g t cs := h.kept (World.grownBy_alloc w o none) (by simp)
theorem Blk.far (h : Blk w g t cs) {p : Addr} (hp : g ≠ p.block) (u : Value) : Blk (w.setCell p u) g t cs := (Below.heap_setCell w p u g hp).trans h
theorem Blk.set_ (h : Blk w g t cs) (i : Nat) (u : Value) : Blk (w.setCell ⟨g, i, none⟩ u) g t (cs.setIfInBounds i u) := by
  unfold Blk at h ⊢
  simp [World.setCell, Array.getElem?_modify, h]
theorem Blk.below {B : Nat} (h : Blk w g t cs) (hb : Below B w w') (hg : g < B) : Blk w' g t cs := (hb.block g hg).trans h
theorem blk_own {β : Type} (g : Nat) (t : TypeId) (cs : Array Value) : Own (fun (_ : β) W => Blk W g t cs) := fun s X Y row h hg hrow => h.kept hg (fun e => by
  obtain ⟨o, ho, hc⟩ := hrow g e.symm
  rw [show X.heap[g]? = _ from h] at ho; cases ho; cases hc)
end
theorem blk_app {W w3 : World} {g : Nat} {t E : TypeId} {cs : Array Value} {n0 size k : Nat} {v : Value} {xs : List Value} {tmp : Obj} (h : Blk W g t cs) (hte : t ≠ E) (hrow : W.ownsRow n0 E size v k xs) (hg : (W.alloc tmp).grownBy w3 v.ownBlock) (B : Nat) (hne : g ≠ B) (u : Value) : Blk (w3.setCell ⟨B, 0, none⟩ u) g t cs := by
  refine ((h.alloc tmp).kept hg ?_).far (p := ⟨B, 0, none⟩) hne u
  rcases hrow.2 with ⟨rfl, _⟩ | ⟨g', cap, cur, rfl, _, hgb, _⟩
  · simp [Value.ownBlock]
  · intro e'
    obtain rfl : g = g' := by simpa [Value.ownBlock] using e'
    have := (show W.heap[g]? = _ from h).symm.trans hgb
    simp at this
    exact hte this.2
theorem Blk.putD {W : World} {g : Nat} {t : TypeId} {cs : Array Value} {D : Nat} {o o' : Obj} (h : Blk W g t cs) (hD : W.heap[D]? = some o) (ho : o.isCells = false) : Blk (W.putObj D o') g t cs := h.kept (grownBy_putObj' W D o') (fun e => by
  cases e
  rw [show W.heap[g]? = _ from h] at hD
  cases hD
  cases ho)
theorem own_set {W : World} {b : Nat} {e : TypeId} {z : Nat} {v : Value} {n : Nat} {xs : List Value} (h : W.ownsRow b e z v n xs) {g : Nat} {t : TypeId} {cs : Array Value} (hg : Blk W g t cs) (hte : t ≠ e) (i : Nat) (u : Value) : (W.setCell ⟨g, i, none⟩ u).ownsRow b e z v n xs := by
  have hgr : W.grownBy (W.setCell ⟨g, i, none⟩ u) (some g) := ⟨rfl, rfl, rfl, by simp, fun k _ hk => Below.heap_setCell _ _ _ k (fun e => hk (by rw [e]))⟩
  refine h.kept hgr ?_
  rcases h.2 with ⟨rfl, _⟩ | ⟨g', cap, cur, rfl, _, hgb, _⟩
  · exact .inl rfl
  · refine .inr fun e' => ?_
    obtain rfl : g' = g := by simpa [Value.ownBlock] using e'
    have := (show W.heap[g']? = _ from hg).symm.trans hgb
    simp at this
    exact hte this.2
end Go.Proofs.Ytbkcklefkhlciaa
