/-
  pbuf.Fields: all fields of a text, or what is wrong.
-/
import Derived.Test.YtkaoacoahlbcoaaEach
import Derived.Test.YtkaoacoahlbcoaaStill
import Derived.Maps.AppendAt
namespace Go.Proofs.Ytkaoacoahlbcoaa
open Go.RowKit Go.Shelf
attribute [local go_sem] Oper.semAt_some

theorem Try.infoF : (Try.prog.info? 31).map (fun i => (i.zero, i.size, i.bytes)) = some (some (.agg #[.int .i64 0, .int .i64 0, .int .i64 0, .int .u64 0, .string ⟨#[]⟩]), 5, 48) := by kernel_rfl
set_option maxHeartbeats 1000000 in
theorem each_any (s : ByteArray) (w : World) :
    Calls Try.prog 23 #[.string s] w fun e w' => e = .returned (.func (.func 31) #[] #[.pointer (some ⟨w.heap.size, 0, none⟩)]) ∧ w.alloc (.cells #[.string s] 9) = w' := by
  go_enter Try.func23, Try.ntmps23
  go_wp2
  go_ret
  exact ⟨rfl, rfl⟩
theorem each_stops (n : Nat) (hn : 1 ≤ n) (Bs : Nat) (s : ByteArray) (hs : s.size ≤ 1000000) (w : World) (hB : Bs < w.heap.size) (hc : w.cell? ⟨Bs, 0, none⟩ = some (.string s)) :
    SeqStopsK Fence.wide n Try.prog 31 #[.pointer (some ⟨Bs, 0, none⟩)] Pt.args (KeepCell Bs) (fun ys => ys = pall s) (fun pre => pre <+: pall s) s.size w := fun l J Jx W hW hJ _ hY h0 => by
  have hc' := (hW.cell (p := ⟨Bs, 0, none⟩) (by simpa using hB)).trans hc
  exact each1_in n hn l Bs W.heap.size s hs J Jx hJ hY W hc' h0
def fdC (p : Fd × Nat) : List Value := [.int .i64 p.1.num, .int .i64 p.1.kind, .int .i64 (p.2 : Int), .int .u64 p.1.val, .string p.1.data]
def fdsC (l : List (Fd × Nat)) : List Value := l.flatMap fdC
theorem fdsC_snoc (l : List (Fd × Nat)) (p : Fd × Nat) : fdsC (l ++ [p]) = fdsC l ++ fdC p := by simp [fdsC]
def Pt.pair (p : Fd × Nat) : Pt := .ok p.1 p.2
/-- What is told of a text: fields, and behind them, maybe, what is wrong. -/
theorem pfrom_shape (s : ByteArray) : ∀ (f k : Nat), s.size - k ≤ f → ∃ l : List (Fd × Nat), pfrom s k = l.map Pt.pair ∨ ∃ q, pfrom s k = l.map Pt.pair ++ [.bad 9 q] := by
  intro f
  induction f with
  | zero => intro k h; exact ⟨[], .inl (by rw [pfrom_end s k (by omega)]; rfl)⟩
  | succ f ih =>
    intro k h
    by_cases hk : k < s.size
    · cases hp : pget (s.extract k s.size) with
      | none => exact ⟨[], .inr ⟨k, by rw [pfrom_bad s k hk hp]; rfl⟩⟩
      | some p =>
        obtain ⟨fd, n⟩ := p
        have hn := pget_size _ hp
        rw [extract_size] at hn
        obtain ⟨l, hl | ⟨q, hl⟩⟩ := ih (k + n) (by omega)
        · exact ⟨(fd, k) :: l, .inl (by rw [pfrom_ok s k hk hp, hl]; rfl)⟩
        · exact ⟨(fd, k) :: l, .inr ⟨q, by rw [pfrom_ok s k hk hp, hl]; rfl⟩⟩
    · exact ⟨[], .inl (by rw [pfrom_end s k (by omega)]; rfl)⟩
theorem pall_shape (s : ByteArray) : ∃ l : List (Fd × Nat), pall s = l.map Pt.pair ∨ ∃ c q, pall s = l.map Pt.pair ++ [.bad c q] := by
  unfold pall
  by_cases h : 60000 < s.size
  · rw [if_pos h]; exact ⟨[], .inr ⟨1, 0, rfl⟩⟩
  · rw [if_neg h]
    obtain ⟨l, hl | ⟨q, hl⟩⟩ := pfrom_shape s s.size 0 (by omega)
    · exact ⟨l, .inl hl⟩
    · exact ⟨l, .inr ⟨9, q, hl⟩⟩
/-- The fields in front, and what is wrong behind them. -/
theorem bad_last (s : ByteArray) (l : List (Fd × Nat)) (c q : Nat) (h : l.map Pt.pair ++ [.bad c q] <+: pall s) : pall s = l.map Pt.pair ++ [.bad c q] := by
  obtain ⟨l', hl | ⟨c', q', hl⟩⟩ := pall_shape s
  · rw [hl] at h
    have : Pt.bad c q ∈ l'.map Pt.pair := h.subset (by simp)
    obtain ⟨p, _, hp⟩ := List.mem_map.1 this
    cases hp
  · rw [hl] at h ⊢
    obtain ⟨t, ht⟩ := h
    rcases List.eq_nil_or_concat t with rfl | ⟨t', x, rfl⟩
    · rw [List.append_nil] at ht; exact ht.symm
    · rw [List.concat_eq_append, ← List.append_assoc] at ht
      have h2 := List.append_inj_left' ht rfl
      have : Pt.bad c q ∈ l'.map Pt.pair := by rw [← h2]; simp
      obtain ⟨p, _, hp⟩ := List.mem_map.1 this
      cases hp
def Pt.fV : Pt → Value
  | .ok f k => fdV f k
  | .bad _ _ => zeroV
def Pt.dV : Pt → Value
  | .ok _ _ => diagV 0 0
  | .bad c k => diagV ((c + 1 : Nat) : Int) k
def Pt.fC : Pt → Array Value
  | .ok f k => #[.int .i64 f.num, .int .i64 f.kind, .int .i64 (k : Int), .int .u64 f.val, .string f.data]
  | .bad _ _ => #[.int .i64 0, .int .i64 0, .int .i64 0, .int .u64 0, .string ⟨#[]⟩]
def Pt.dC : Pt → Array Value
  | .ok _ _ => #[.int .i64 0, .int .i64 0, .string ⟨#[]⟩]
  | .bad c k => #[.int .i64 ((c + 1 : Nat) : Int), .int .i64 (k : Int), .string ⟨#[]⟩]
/-- The block g is just the cells cs. -/
def Blk (W : World) (g : Nat) (t : TypeId) (cs : Array Value) : Prop := W.heap[g]? = some (.cells cs t (0, 0))
section
variable {w w' : World} {g : Nat} {t : TypeId} {cs : Array Value}
theorem Blk.lt (h : Blk w g t cs) : g < w.heap.size := (Array.getElem?_eq_some_iff.1 h).1
theorem Blk.cell (h : Blk w g t cs) (i : Nat) : w.cell? ⟨g, i, none⟩ = cs[i]? := cell_of_row w g i cs t (0, 0) h
theorem Blk.frozen (h : Blk w g t cs) (i : Nat) : w.frozen? ⟨g, i, none⟩ = false := by
  unfold Blk at h
  simp [World.frozen?, h]
theorem Blk.new (w : World) (t : TypeId) (cs : Array Value) : Blk (w.alloc (.cells cs t)) w.heap.size t cs := World.alloc_heap_new w _
theorem Blk.kept {row : Option Nat} (h : Blk w g t cs) (hb : w.grownBy w' row) (hg : some g ≠ row) : Blk w' g t cs := (hb.block g h.lt hg).trans h
theorem Blk.alloc (h : Blk w g t cs) (o : Obj) : Blk (w.alloc o) g t cs := h.kept (World.grownBy_alloc w o none) (by simp)
theorem Blk.far (h : Blk w g t cs) {p : Addr} (hp : g ≠ p.block) (u : Value) : Blk (w.setCell p u) g t cs := (Below.heap_setCell w p u g hp).trans h
theorem Blk.set_ (h : Blk w g t cs) (i : Nat) (u : Value) : Blk (w.setCell ⟨g, i, none⟩ u) g t (cs.setIfInBounds i u) := by
  unfold Blk at h ⊢
  simp [World.setCell, Array.getElem?_modify, h]
theorem Blk.below {B : Nat} (h : Blk w g t cs) (hb : Below B w w') (hg : g < B) : Blk w' g t cs := (hb.block g hg).trans h
theorem blk_own {β : Type} (g : Nat) (t : TypeId) (cs : Array Value) : Own (fun (_ : β) W => Blk W g t cs) := fun s X Y row h hg hrow => h.kept hg (fun e => by
  obtain ⟨o, ho, hc⟩ := hrow g e.symm
  rw [show X.heap[g]? = _ from h] at ho; cases ho; cases hc)
end
def FieldsIs (s : ByteArray) (w : World) (e : Ending) (w' : World) : Prop :=
  ((∃ (l : List (Fd × Nat)) (v : Value), pall s = l.map Pt.pair ∧ e = .returned (.tuple #[v, diagV 0 0]) ∧ w'.ownsRow w.heap.size 31 5 v l.length (fdsC l)) ∨
    (∃ (l : List (Fd × Nat)) (c q : Nat), pall s = l.map Pt.pair ++ [.bad c q] ∧ e = .returned (.tuple #[.slice none 0 0, diagV ((c + 1 : Nat) : Int) q]))) ∧ Below w.heap.size w w'
theorem blk_app {W w3 : World} {g : Nat} {t E : TypeId} {cs : Array Value} {n0 size k : Nat} {v : Value} {xs : List Value} {tmp : Obj} (h : Blk W g t cs) (hte : t ≠ E) (hrow : W.ownsRow n0 E size v k xs) (hg : (W.alloc tmp).grownBy w3 v.ownBlock) (B : Nat) (hne : g ≠ B) (u : Value) : Blk (w3.setCell ⟨B, 0, none⟩ u) g t cs := by
  refine ((h.alloc tmp).kept hg ?_).far (p := ⟨B, 0, none⟩) hne u
  rcases hrow.2 with ⟨rfl, _⟩ | ⟨g', cap, cur, rfl, _, hgb, _⟩
  · simp [Value.ownBlock]
  · intro e'
    obtain rfl : g = g' := by simpa [Value.ownBlock] using e'
    have := (show W.heap[g]? = _ from h).symm.trans hgb
    simp at this
    exact hte this.2
/-- Between two rounds. -/
structure FldI (s : ByteArray) (w : World) (pre : List Pt) (W : World) : Prop where
  all : ∃ l : List (Fd × Nat), pre = l.map Pt.pair
  row : ∃ (l : List (Fd × Nat)) (v : Value), pre = l.map Pt.pair ∧ Boxed W (w.heap.size + 2) 37 v ∧ W.ownsRow w.heap.size 31 5 v l.length (fdsC l)
  r1 : Boxed W w.heap.size 37 (.slice none 0 0)
  r2 : Blk W (w.heap.size + 1) 39 #[.int .i64 0, .int .i64 0, .string ⟨#[]⟩]
  bs : Blk W (w.heap.size + 1 + 1 + 1) 9 #[.string s]
  below : Below w.heap.size w W
theorem fldI_own (s : ByteArray) (w : World) (B : Nat) (hB : w.heap.size ≤ B) : OwnFrom B (FldI s w) := by
  intro pre W W' row h hg hr
  have hno : ∀ {n : Nat} {t : TypeId} {v : Value}, Boxed W n t v → some n ≠ row := fun {n t v} hb e => by
    obtain ⟨_, o, ho, hc⟩ := hr n e.symm
    rw [show W.heap[n]? = _ from hb] at ho; cases ho; cases hc
  obtain ⟨l, v, h1, h2, h3⟩ := h.row
  refine ⟨h.all, ⟨l, v, h1, h2.kept hg (hno h2), h3.kept hg ?_⟩, h.r1.kept hg (hno h.r1), blk_own _ _ _ () W W' row h.r2 hg (fun r e => (hr r e).2), blk_own _ _ _ () W W' row h.bs hg (fun r e => (hr r e).2), h.below.grown hg h.below.size (fun k e => Nat.le_trans hB (hr k e).1)⟩
  rcases h3.2 with ⟨rfl, _⟩ | ⟨g, cap, cur, rfl, _, hgb, _⟩
  · exact .inl rfl
  · refine .inr fun e' => ?_
    obtain ⟨_, o, ho, hc⟩ := hr g (by simpa [Value.ownBlock] using e'.symm)
    rw [hgb] at ho; cases ho; cases hc
def badOps : Array Oper := #[{ dst := some 14, op := Op.load 39 (Operand.tmp 6), type := 39, pos := "pbuf.go:102", after := #[{ on := 1, ground := Ground.gcOnly Departure.lateStores }], guard := none },
  { dst := none, op := Op.store 37 (Operand.tmp 2) (Operand.const (Value.slice none 0 0)), type := 0, pos := "pbuf.go:102", after := #[{ on := 0, ground := Ground.textOnly Departure.lateStores }], guard := none },
  { dst := none, op := Op.store 39 (Operand.tmp 3) (Operand.tmp 14), type := 0, pos := "pbuf.go:102", after := #[{ on := 0, ground := Ground.data }, { on := 1, ground := Ground.chain }, { on := 0, ground := Ground.phase }, { on := 1, ground := Ground.phase }], guard := none }]
theorem bad_still : ∀ (i : Nat) (o : Oper), badOps[i]? = some o → Still Try.prog o := by
  intro i o h
  match i, h with
  | 0, h => exact still_at _ rfl h (still_load rfl)
  | 1, h => exact still_at _ rfl h (still_store rfl)
  | 2, h => exact still_at _ rfl h (still_store rfl)
  | n + 3, h => exact absurd h (by simp [badOps])
set_option maxRecDepth 100000 in
set_option maxHeartbeats 1000000 in
theorem bad_round (F : Fence) (m : Nat) (Q : Exit → Act → World → Prop) (W : World) (R1 R2 Bw : Nat) (c k : Int) (t0 t1 t4 t5 t7 t8 t9 t10 t11 t12 t13 t15 t16 t17 t18 t19 t20 : Value)
    (h1 : Blk W R1 37 #[.slice none 0 0]) (h2 : Blk W R2 39 #[.int .i64 0, .int .i64 0, .string ⟨#[]⟩]) (h3 : Blk W Bw 39 #[.int .i64 c, .int .i64 k, .string ⟨#[]⟩]) (n1 : R1 ≠ R2) (n2 : Bw ≠ R1)
    (hQ : Q .normal { tmps := #[t0, t1, .pointer (some ⟨R1, 0, none⟩), .pointer (some ⟨R2, 0, none⟩), t4, t5, .pointer (some ⟨Bw, 0, none⟩), t7, t8, t9, t10, t11, t12, t13, .agg #[.int .i64 c, .int .i64 k, .string ⟨#[]⟩], t15, t16, t17, t18, t19, t20], defers := [] } ((((W.drew.setCell ⟨R1, 0, none⟩ (.slice none 0 0)).setCell ⟨R2, 0, none⟩ (.int .i64 c)).setCell ⟨R2, 1, none⟩ (.int .i64 k)).setCell ⟨R2, 2, none⟩ (.string ⟨#[]⟩))) :
    (Code.region 6 badOps true).wpIn F m Try.prog Q { tmps := #[t0, t1, .pointer (some ⟨R1, 0, none⟩), .pointer (some ⟨R2, 0, none⟩), t4, t5, .pointer (some ⟨Bw, 0, none⟩), t7, t8, t9, t10, t11, t12, t13, undef, t15, t16, t17, t18, t19, t20], defers := [] } W := by
  refine wpIn_still 2 (fun _ => True) (by kernel_rfl) bad_still ?_
  have d1 : Blk W.drew R1 37 #[.slice none 0 0] := h1
  have d2 : Blk W.drew R2 39 #[.int .i64 0, .int .i64 0, .string ⟨#[]⟩] := h2
  have d3 : Blk W.drew Bw 39 #[.int .i64 c, .int .i64 k, .string ⟨#[]⟩] := h3
  change AnyG _ _ _ _ _ _ 3 (Array.replicate 3 false) _ W.drew
  revert d1 d2 d3 hQ
  generalize W.drew = W
  clear h1 h2 h3
  intro hQ d1 d2 d3
  have e1 := d1.cell 0; have e1f := d1.frozen 0
  have e30 := d3.cell 0; have e31 := d3.cell 1; have e32 := d3.cell 2
  have s2 := d2.far (p := ⟨R1, 0, none⟩) (fun e => n1 e.symm) (.slice none 0 0)
  have s3 := d3.far (p := ⟨R1, 0, none⟩) n2 (.slice none 0 0)
  have g20 := s2.cell 0; have g21 := s2.cell 1; have g22 := s2.cell 2
  have g2f0 := s2.frozen 0; have g2f1 := s2.frozen 1; have g2f2 := s2.frozen 2
  have g30 := s3.cell 0; have g31 := s3.cell 1; have g32 := s3.cell 2
  simp only [List.getElem?_toArray, List.getElem?_cons_zero, List.getElem?_cons_succ] at e1 e30 e31 e32 g20 g21 g22 g30 g31 g32
  have fin : ∀ (l : Array Bool), Region.ready .any badOps l = [2] → Region.ready .any badOps (l.setIfInBounds 2 true) = [] →
      AnyG Try.prog .any badOps (fun e a w => e = Exit.normal ∧ Q Exit.normal a w) 2 (fun _ => True) 1 l { tmps := #[t0, t1, .pointer (some ⟨R1, 0, none⟩), .pointer (some ⟨R2, 0, none⟩), t4, t5, .pointer (some ⟨Bw, 0, none⟩), t7, t8, t9, t10, t11, t12, t13, .agg #[.int .i64 c, .int .i64 k, .string ⟨#[]⟩], t15, t16, t17, t18, t19, t20], defers := [] } (W.setCell ⟨R1, 0, none⟩ (.slice none 0 0)) := by
    intro l r2 r0
    refine anyG_one (i := 2) (o := { dst := none, op := Op.store 39 (Operand.tmp 3) (Operand.tmp 14), type := 0, pos := "pbuf.go:102", after := #[{ on := 0, ground := Ground.data }, { on := 1, ground := Ground.chain }, { on := 0, ground := Ground.phase }, { on := 1, ground := Ground.phase }], guard := none }) r2 rfl rfl fun K hK => ?_
    go_simp
    refine hK _ _ (fun _ => trivial) ?_
    exact anyG_done r0 ⟨rfl, hQ⟩ _
  refine anyG_two (i := 0) (j := 1) (o := { dst := some 14, op := Op.load 39 (Operand.tmp 6), type := 39, pos := "pbuf.go:102", after := #[{ on := 1, ground := Ground.gcOnly Departure.lateStores }], guard := none }) (u := { dst := none, op := Op.store 37 (Operand.tmp 2) (Operand.const (Value.slice none 0 0)), type := 0, pos := "pbuf.go:102", after := #[{ on := 0, ground := Ground.textOnly Departure.lateStores }], guard := none }) (by kernel_rfl) rfl rfl rfl rfl (fun K hK => ?_) (fun K hK => ?_)
  · go_simp
    refine hK _ _ (fun _ => trivial) ?_
    try simp only [Act.put, List.setIfInBounds_toArray, List.set_cons_zero, List.set_cons_succ]
    refine anyG_one (i := 1) (o := { dst := none, op := Op.store 37 (Operand.tmp 2) (Operand.const (Value.slice none 0 0)), type := 0, pos := "pbuf.go:102", after := #[{ on := 0, ground := Ground.textOnly Departure.lateStores }], guard := none }) (by kernel_rfl) rfl rfl fun K hK => ?_
    go_simp
    refine hK _ _ (fun _ => trivial) ?_
    exact fin _ (by kernel_rfl) (by kernel_rfl)
  · go_simp
    refine hK _ _ (fun _ => trivial) ?_
    try simp only [Act.put, List.setIfInBounds_toArray, List.set_cons_zero, List.set_cons_succ]
    refine anyG_one (i := 0) (o := { dst := some 14, op := Op.load 39 (Operand.tmp 6), type := 39, pos := "pbuf.go:102", after := #[{ on := 1, ground := Ground.gcOnly Departure.lateStores }], guard := none }) (by kernel_rfl) rfl rfl fun K hK => ?_
    go_simp
    refine hK _ _ (fun _ => trivial) ?_
    exact fin _ (by kernel_rfl) (by kernel_rfl)
theorem Blk.putD {W : World} {g : Nat} {t : TypeId} {cs : Array Value} {D : Nat} {o o' : Obj} (h : Blk W g t cs) (hD : W.heap[D]? = some o) (ho : o.isCells = false) : Blk (W.putObj D o') g t cs := h.kept (grownBy_putObj' W D o') (fun e => by
  cases e
  rw [show W.heap[g]? = _ from h] at hD
  cases hD
  cases ho)
theorem own_set {W : World} {b : Nat} {e : TypeId} {z : Nat} {v : Value} {n : Nat} {xs : List Value} (h : W.ownsRow b e z v n xs) {g : Nat} {t : TypeId} {cs : Array Value} (hg : Blk W g t cs) (hte : t ≠ e) (i : Nat) (u : Value) : (W.setCell ⟨g, i, none⟩ u).ownsRow b e z v n xs := by
  have hgr : W.grownBy (W.setCell ⟨g, i, none⟩ u) (some g) := ⟨rfl, rfl, rfl, by simp, fun k _ hk => Below.heap_setCell _ _ _ k (fun e => hk (by rw [e]))⟩
  refine h.kept hgr ?_
  rcases h.2 with ⟨rfl, _⟩ | ⟨g', cap, cur, rfl, _, hgb, _⟩
  · exact .inl rfl
  · refine .inr fun e' => ?_
    obtain rfl : g' = g := by simpa [Value.ownBlock] using e'
    have := (show W.heap[g']? = _ from hg).symm.trans hgb
    simp at this
    exact hte this.2
theorem results_fields (V : World) (R1 R2 n vc : Nat) (va : Option Addr) (c k : Int) (tmps : Array Value) (h2 : tmps.getD 2 undef = .pointer (some ⟨R1, 0, none⟩)) (h3 : tmps.getD 3 undef = .pointer (some ⟨R2, 0, none⟩))
    (p1 : Blk V R1 37 #[.slice va n vc]) (p2 : Blk V R2 39 #[.int .i64 c, .int .i64 k, .string ⟨#[]⟩]) :
    (results Try.f19 tmps).run Try.prog V = .ok (.tuple #[.slice va n vc, .agg #[.int .i64 c, .int .i64 k, .string ⟨#[]⟩]]) V := by
  have c1 := p1.cell 0
  have g20 := p2.cell 0; have g21 := p2.cell 1; have g22 := p2.cell 2
  simp only [List.getElem?_toArray, List.getElem?_cons_zero, List.getElem?_cons_succ] at c1 g20 g21 g22
  simp only [Array.getD_eq_getD_getElem?] at h2 h3
  simp [results, Try.f19, go_sem, h2, h3, c1, g20, g21, g22]
set_option maxRecDepth 100000 in
set_option maxHeartbeats 4000000 in
theorem fields_in (n : Nat) (hn : 4 ≤ n) (s : ByteArray) (hs : s.size ≤ 1000000) (w : World) :
    CallsIn Fence.wide n Try.prog 19 #[.string s] w (FieldsIs s w) := by
  have h1 : 1 ≤ n := by omega
  refine callsIn_of_wp_marks Try.func19 rfl trivial ?_ rfl
  simp only [Try.ntmps19, List.size_toArray, List.length_cons, List.length_nil, Nat.reduceAdd, Nat.reduceSub, Array.replicate_succ, Array.replicate_zero, List.push_toArray, List.append_toArray, List.nil_append, List.cons_append]
  gi_wp2_with fail
  refine ⟨trivial, (callsIn_wide.2 (each_any s _)).mono ?_⟩
  rintro e w' ⟨rfl, rfl⟩
  gi_wp2_with fail
  have bR1 := Boxed.new w 37 (.slice none 0 0)
  have bR2 := Blk.new (w.alloc (.cells #[.slice none 0 0] 37)) 39 #[.int .i64 0, .int .i64 0, .string ⟨#[]⟩]
  have bO := Boxed.new ((w.alloc (.cells #[.slice none 0 0] 37)).alloc (.cells #[.int .i64 0, .int .i64 0, .string ⟨#[]⟩] 39)) 37 (.slice none 0 0)
  have bS := Boxed.new (((w.alloc (.cells #[.slice none 0 0] 37)).alloc (.cells #[.int .i64 0, .int .i64 0, .string ⟨#[]⟩] 39)).alloc (.cells #[.slice none 0 0] 37)) 9 (.string s)
  replace bR1 := ((bR1.alloc (.cells #[.int .i64 0, .int .i64 0, .string ⟨#[]⟩] 39)).alloc (.cells #[.slice none 0 0] 37)).alloc (.cells #[.string s] 9)
  replace bR2 := (bR2.alloc (.cells #[.slice none 0 0] 37)).alloc (.cells #[.string s] 9)
  replace bO := bO.alloc (.cells #[.string s] 9)
  simp only [World.size_alloc] at bR2 bO bS
  have hB0 : Below w.heap.size w ((((w.alloc (.cells #[.slice none 0 0] 37)).alloc (.cells #[.int .i64 0, .int .i64 0, .string ⟨#[]⟩] 39)).alloc (.cells #[.slice none 0 0] 37)).alloc (.cells #[.string s] 9)) := ((((Below.refl _ w).alloc (Nat.le_refl _) _).alloc (by simp) _).alloc (by simp; omega) _).alloc (by simp; omega) _
  have hsz : ((((w.alloc (.cells #[.slice none 0 0] 37)).alloc (.cells #[.int .i64 0, .int .i64 0, .string ⟨#[]⟩] 39)).alloc (.cells #[.slice none 0 0] 37)).alloc (.cells #[.string s] 9)).heap.size = w.heap.size + 4 := by simp
  obtain ⟨W0, hW0⟩ : ∃ W0, (((w.alloc (.cells #[.slice none 0 0] 37)).alloc (.cells #[.int .i64 0, .int .i64 0, .string ⟨#[]⟩] 39)).alloc (.cells #[.slice none 0 0] 37)).alloc (.cells #[.string s] 9) = W0 := ⟨_, rfl⟩
  rw [hW0] at bR1 bR2 bO bS hB0 hsz ⊢
  clear hW0
  have hI0 : FldI s w [] W0 := ⟨⟨[], rfl⟩, ⟨[], _, rfl, bO, World.ownsRow_nil _ _ _ _⟩, bR1, bR2, bS, hB0⟩
  refine wpIn_rangeFunc_ownH rfl h1 (gf := 31) (lb := #[.pointer (some ⟨w.heap.size + 1 + 1 + 1, 0, none⟩)]) rfl trivial (enters_of Try.func31 (by kernel_rfl) rfl)
    (each_stops (n - 1) (by omega) (w.heap.size + 1 + 1 + 1) s hs W0 (by omega) bS.cell) KeepCell.trans (fun W l' o o' _ h hc hw => KeepCell.b (n := 0) W l' o o' (by omega) h hc hw) (Below.refl _ _) (fun x => by cases x <;> rfl)
    (fun pre W => FldI s w pre W)
    (fun c pre W => c = .ret ∧ (∃ (l : List (Fd × Nat)) (c q : Nat), pre = l.map Pt.pair ++ [.bad c q] ∧ Blk W (w.heap.size + 1) 39 #[.int .i64 ((c + 1 : Nat) : Int), .int .i64 (q : Int), .string ⟨#[]⟩]) ∧ Boxed W w.heap.size 37 (.slice none 0 0) ∧ Below w.heap.size w W)
    (fldI_own s w _ (by omega))
    (fun c => ?ix)
    hI0
    (fun x a' W => ∃ Bf Bw, w.heap.size + 3 ≤ Bf ∧ w.heap.size + 3 ≤ Bw ∧ Blk W Bf 31 x.fC ∧ Blk W Bw 39 x.dC ∧ a' = { tmps := #[.string s, undef, .pointer (some ⟨w.heap.size, 0, none⟩), .pointer (some ⟨w.heap.size + 1, 0, none⟩), .pointer (some ⟨w.heap.size + 1 + 1, 0, none⟩), .pointer (some ⟨Bf, 0, none⟩), .pointer (some ⟨Bw, 0, none⟩), .string s, .func (.func 31) #[] #[.pointer (some ⟨w.heap.size + 1 + 1 + 1, 0, none⟩)], x.fV, x.dV, undef, undef, undef, undef, undef, undef, undef, undef, undef, undef], defers := [] })
    (fun x a' _ X Y row hs hg hr => by
      obtain ⟨Bf, Bw, h1, h2, h3, h4, h5⟩ := hs
      exact ⟨Bf, Bw, h1, h2, blk_own _ _ _ () X Y row h3 hg (fun r e => (hr r e).2), blk_own _ _ _ () X Y row h4 hg (fun r e => (hr r e).2), h5⟩)
    ?assign ?body ?done ?stop
  case ix =>
    intro pre X Y row h hg hr
    obtain ⟨h1, ⟨l, c, q, h2, h4⟩, h5, h6⟩ := h
    refine ⟨h1, ⟨l, c, q, h2, blk_own _ _ _ () X Y row h4 hg (fun r e => (hr r e).2)⟩, h5.kept hg ?_, h6.grown hg h6.size (fun k e => by have := (hr k e).1; omega)⟩
    intro e
    obtain ⟨_, o, ho, hc⟩ := hr _ e.symm
    rw [show X.heap[w.heap.size]? = _ from h5] at ho; cases ho; cases hc
  case assign =>
    rintro l pre x W K hI hK
    have hbw := hI.below
    have hlt := hbw.size
    obtain ⟨l0, v0, _, hbO, _⟩ := hI.row
    have hlt2 := hbO.lt
    cases x with
    | ok f k =>
      dsimp only [Pt.args, fdV, zeroV, diagV, Pt.fV, Pt.dV, Pt.fC, Pt.dC] at hK ⊢
      gi_wp2
      refine hK _ _ (((KeepsOthers.alloc _ _).trans (KeepsOthers.alloc _ _)).from _) ((KeepCell.alloc _ _).trans (KeepCell.alloc _ _)) ((fldI_own s w _ (Nat.le_refl _)).alloc _ ((fldI_own s w _ (Nat.le_refl _)).alloc _ hI)) ⟨W.heap.size, W.heap.size + 1, by omega, by omega, (Blk.new W _ _).alloc _, ?_, rfl⟩
      have := Blk.new (W.alloc (.cells #[.int .i64 f.num, .int .i64 f.kind, .int .i64 (k : Int), .int .u64 f.val, .string f.data] 31)) 39 #[.int .i64 0, .int .i64 0, .string ⟨#[]⟩]
      rwa [World.size_alloc] at this
    | bad c k =>
      dsimp only [Pt.args, fdV, zeroV, diagV, Pt.fV, Pt.dV, Pt.fC, Pt.dC] at hK ⊢
      gi_wp2
      refine hK _ _ (((KeepsOthers.alloc _ _).trans (KeepsOthers.alloc _ _)).from _) ((KeepCell.alloc _ _).trans (KeepCell.alloc _ _)) ((fldI_own s w _ (Nat.le_refl _)).alloc _ ((fldI_own s w _ (Nat.le_refl _)).alloc _ hI)) ⟨W.heap.size, W.heap.size + 1, by omega, by omega, (Blk.new W _ _).alloc _, ?_, rfl⟩
      have := Blk.new (W.alloc (.cells #[.int .i64 0, .int .i64 0, .int .i64 0, .int .u64 0, .string ⟨#[]⟩] 31)) 39 #[.int .i64 ((c + 1 : Nat) : Int), .int .i64 (k : Int), .string ⟨#[]⟩]
      rwa [World.size_alloc] at this
  case body =>
    rintro l pre x a' W hl ⟨rr, hrr⟩ hI ⟨Bf, Bw, hBf, hBw, bF, bW, rfl⟩ hlt
    obtain ⟨l0, v0, hl0, hbO, hown⟩ := hI.row
    obtain ⟨i0, hi, hz0, hz1, hz2⟩ := info_parts Try.infoF
    have hl0l : l0.length < 1000000 := by have := congrArg List.length hl0; simp at this; omega
    have cO := hbO.cell
    have fO := hbO.frozen
    cases x with
    | ok f k =>
      dsimp only [Pt.args, fdV, zeroV, diagV, Pt.fV, Pt.dV, Pt.fC, Pt.dC] at bF bW ⊢
      have f0 := bF.cell 0; have f1 := bF.cell 1; have f2 := bF.cell 2; have f3 := bF.cell 3; have f4 := bF.cell 4
      have w0 := bW.cell 0
      simp only [List.getElem?_toArray, List.getElem?_cons_zero, List.getElem?_cons_succ] at f0 f1 f2 f3 f4 w0
      have Hown := Lib.hid hown; have HbO := Lib.hid hbO; have HbF := Lib.hid bF; have HbW := Lib.hid bW; have HI := Lib.hid hI; have Hl0 := Lib.hid hl0; have Hrr := Lib.hid hrr
      clear hown hbO bF bW hI hl0 hrr
      gi_wp2_with (gi_at_builtin; refine wpListIn_append_own _ rfl (.tmp 15) (.tmp 17) 37 rfl w.heap.size 31 i0 (.agg #[.int .i64 0, .int .i64 0, .int .i64 0, .int .u64 0, .string ⟨#[]⟩]) 5 48 Try.underlying37 hi hz0 hz1 hz2 rfl (by decide) v0 l0.length (fdsC l0) rfl (Hown.out.alloc _) ⟨W.heap.size, 0, none⟩ 1 1 (fdC (f, k)) rfl rfl ?c1 ?c2 ?c3 ?c4 ?c5 ?_)
      case c1 => exact World.news_of_block (World.alloc_heap_new W _)
      case c2 => intro u hu; simp [fdC] at hu; rcases hu with rfl | rfl | rfl | rfl | rfl <;> rfl
      case c3 => unfold maxLen; omega
      case c4 => omega
      case c5 => have := HI.out.below.size; simp; omega
      intro v' w3 hown' hg3 _
      obtain ⟨bO1, bO2, hown3, hko, hbl⟩ := HbO.out.appended (by decide) Hown.out HI.out.below.size (by omega) hown' hg3
      have cO3 := bO1.cell
      have fO3 := bO1.frozen
      have Hown3 := Lib.hid hown3; have HbO2 := Lib.hid bO2; have Hko := Lib.hid hko; have Hbl := Lib.hid hbl
      have Hr1 := Lib.hid (blk_app (cs := #[.slice none 0 0]) HI.out.r1 (by decide) Hown.out hg3 (w.heap.size + 1 + 1) (by omega) v')
      have Hr2 := Lib.hid (blk_app HI.out.r2 (by decide) Hown.out hg3 (w.heap.size + 1 + 1) (by omega) v')
      have Hbs := Lib.hid (blk_app HI.out.bs (by decide) Hown.out hg3 (w.heap.size + 1 + 1) (by omega) v')
      obtain ⟨gv, cv, hvv⟩ := ownsRow_succ hown'
      subst hvv
      clear hown' hg3 bO1 bO2 hown3 hko hbl
      gi_wp2
      refine ⟨Hko.out.from _, ?_, ?_⟩
      · intro u hu
        have e1 : W.cell? ⟨w.heap.size + 1 + 1 + 1, 0, none⟩ = some (.string s) := HI.out.bs.cell 0
        rw [e1] at hu
        cases hu
        exact Hbs.out.cell 0
      · have e1 : pre ++ [Pt.ok f k] = (l0 ++ [(f, k)]).map Pt.pair := by rw [Hl0.out]; simp [Pt.pair]
        refine ⟨⟨_, e1⟩, ⟨_, _, e1, HbO2.out, ?_⟩, Hr1.out, Hr2.out, Hbs.out, HI.out.below.trans Hbl.out⟩
        have e2 : (l0 ++ [(f, k)]).length = l0.length + 1 := by simp
        rw [fdsC_snoc, e2]
        exact Hown3.out
    | bad c k =>
      dsimp only [Pt.args, fdV, zeroV, diagV, Pt.fV, Pt.dV, Pt.fC, Pt.dC] at bF bW ⊢
      obtain ⟨C, hC⟩ : ∃ C : Int, ((c + 1 : Nat) : Int) = C := ⟨_, rfl⟩
      have hC1 : 1 ≤ C := by omega
      rw [hC] at bW ⊢
      have w0 := bW.cell 0
      simp only [List.getElem?_toArray, List.getElem?_cons_zero, List.getElem?_cons_succ] at w0
      have hcb : (C != 0) = true := by simp; omega
      have r1 : Blk W w.heap.size 37 #[.slice none 0 0] := hI.r1
      have hlt2 := hbO.lt
      have HbW := Lib.hid bW; have HI := Lib.hid hI; have Hl0 := Lib.hid hl0; have Hr1 := Lib.hid r1; have HC := Lib.hid hC
      clear hown hbO bF bW hI hl0 hrr r1 hC cO fO
      gi_wp2_with fail
      refine bad_round _ _ _ W w.heap.size (w.heap.size + 1) Bw C (k : Int) _ _ _ _ _ _ _ _ _ _ _ _ _ _ _ _ _ Hr1.out HI.out.r2 HbW.out (by omega) (by omega) ?_
      have q1 : Blk (W.drew.setCell ⟨w.heap.size, 0, none⟩ (.slice none 0 0)) w.heap.size 37 #[.slice none 0 0] := Blk.set_ (w := W.drew) Hr1.out 0 _
      have q2 : Blk (W.drew.setCell ⟨w.heap.size, 0, none⟩ (.slice none 0 0)) (w.heap.size + 1) 39 #[.int .i64 0, .int .i64 0, .string ⟨#[]⟩] := Blk.far (w := W.drew) HI.out.r2 (p := ⟨w.heap.size, 0, none⟩) (by simp) _
      have q3 := Lib.hid (((q2.set_ 0 (.int .i64 C)).set_ 1 (.int .i64 (k : Int))).set_ 2 (.string ⟨#[]⟩))
      have q4 := Lib.hid (((q1.far (p := ⟨w.heap.size + 1, 0, none⟩) (by simp) (.int .i64 C)).far (p := ⟨w.heap.size + 1, 1, none⟩) (by simp) (.int .i64 (k : Int))).far (p := ⟨w.heap.size + 1, 2, none⟩) (by simp) (.string ⟨#[]⟩))
      have q5 : Below w.heap.size w ((((W.drew.setCell ⟨w.heap.size, 0, none⟩ (.slice none 0 0)).setCell ⟨w.heap.size + 1, 0, none⟩ (.int .i64 C)).setCell ⟨w.heap.size + 1, 1, none⟩ (.int .i64 (k : Int))).setCell ⟨w.heap.size + 1, 2, none⟩ (.string ⟨#[]⟩)) :=
        (((HI.out.below.drew.setCell (p := ⟨w.heap.size, 0, none⟩) (by simp) _).setCell (p := ⟨w.heap.size + 1, 0, none⟩) (by simp) _).setCell (p := ⟨w.heap.size + 1, 1, none⟩) (by simp) _).setCell (p := ⟨w.heap.size + 1, 2, none⟩) (by simp) _
      have q6 : KeepsOthers W ((((W.drew.setCell ⟨w.heap.size, 0, none⟩ (.slice none 0 0)).setCell ⟨w.heap.size + 1, 0, none⟩ (.int .i64 C)).setCell ⟨w.heap.size + 1, 1, none⟩ (.int .i64 (k : Int))).setCell ⟨w.heap.size + 1, 2, none⟩ (.string ⟨#[]⟩)) :=
        ((((show KeepsOthers W W.drew from ⟨Nat.le_refl _, fun _ _ h _ => h⟩).trans (KeepsOthers.setCell _ _ _)).trans (KeepsOthers.setCell _ _ _)).trans (KeepsOthers.setCell _ _ _)).trans (KeepsOthers.setCell _ _ _)
      have Q5 := Lib.hid q5; have Q6 := Lib.hid q6
      clear q1 q2 q5 q6
      gi_wp2
      refine ⟨Q6.out.from _, rfl, ⟨l0, c, k, by rw [Hl0.out], ?_⟩, q4.out, Q5.out⟩
      rw [HC.out]
      exact q3.out
  case done =>
    rintro D ys W hD hys hI hK
    obtain ⟨l0, v0, hl0, hbO, hown⟩ := hI.row
    obtain ⟨va, vc, hvv⟩ : ∃ va vc, v0 = .slice va l0.length vc := by
      rcases hown.2 with ⟨rfl, h0⟩ | ⟨g, cap, cur, rfl, _⟩
      · exact ⟨none, 0, by rw [h0]⟩
      · exact ⟨_, _, rfl⟩
    subst hvv
    have cO := hbO.cell
    have r1 : Blk W w.heap.size 37 #[.slice none 0 0] := hI.r1
    have c1 := r1.cell 0; have f1 := r1.frozen 0
    simp only [List.getElem?_toArray, List.getElem?_cons_zero, List.getElem?_cons_succ] at c1
    have s2 := hI.r2.far (p := ⟨w.heap.size, 0, none⟩) (by simp) (.slice va l0.length vc)
    have g20 := s2.cell 0; have g21 := s2.cell 1; have g22 := s2.cell 2
    have g2f0 := s2.frozen 0; have g2f1 := s2.frozen 1; have g2f2 := s2.frozen 2
    simp only [List.getElem?_toArray, List.getElem?_cons_zero, List.getElem?_cons_succ] at g20 g21 g22
    have Hown := Lib.hid hown; have HI := Lib.hid hI; have Hl0 := Lib.hid hl0; have Hys := Lib.hid hys; have HK := Lib.hid hK
    clear hown hbO hI hl0 r1 hys hK
    have p1 := Lib.hid ((((Blk.set_ (w := W) (g := w.heap.size) (t := 37) (cs := #[.slice none 0 0]) HI.out.r1 0 (.slice va l0.length vc)).far (p := ⟨w.heap.size + 1, 0, none⟩) (by simp) (.int .i64 0)).far (p := ⟨w.heap.size + 1, 1, none⟩) (by simp) (.int .i64 0)).far (p := ⟨w.heap.size + 1, 2, none⟩) (by simp) (.string ⟨#[]⟩))
    have p2 := Lib.hid (((s2.set_ 0 (.int .i64 0)).set_ 1 (.int .i64 0)).set_ 2 (.string ⟨#[]⟩))
    have hDe : ((((W.setCell ⟨w.heap.size, 0, none⟩ (.slice va l0.length vc)).setCell ⟨w.heap.size + 1, 0, none⟩ (.int .i64 0)).setCell ⟨w.heap.size + 1, 1, none⟩ (.int .i64 0)).setCell ⟨w.heap.size + 1, 2, none⟩ (.string ⟨#[]⟩)).heap[D]? = some (.deferred (some [])) :=
      (Below.heap_setCell _ ⟨w.heap.size + 1, 2, none⟩ _ D (by simp; omega)).trans ((Below.heap_setCell _ ⟨w.heap.size + 1, 1, none⟩ _ D (by simp; omega)).trans ((Below.heap_setCell _ ⟨w.heap.size + 1, 0, none⟩ _ D (by simp; omega)).trans ((Below.heap_setCell _ ⟨w.heap.size, 0, none⟩ _ D (by simp; omega)).trans HK.out)))
    have hbel : Below w.heap.size w ((((W.setCell ⟨w.heap.size, 0, none⟩ (.slice va l0.length vc)).setCell ⟨w.heap.size + 1, 0, none⟩ (.int .i64 0)).setCell ⟨w.heap.size + 1, 1, none⟩ (.int .i64 0)).setCell ⟨w.heap.size + 1, 2, none⟩ (.string ⟨#[]⟩)) :=
      (((HI.out.below.setCell (p := ⟨w.heap.size, 0, none⟩) (by simp) _).setCell (p := ⟨w.heap.size + 1, 0, none⟩) (by simp) _).setCell (p := ⟨w.heap.size + 1, 1, none⟩) (by simp) _).setCell (p := ⟨w.heap.size + 1, 2, none⟩) (by simp) _
    have ho1 := own_set Hown.out (cs := #[.slice none 0 0]) (t := 37) HI.out.r1 (by decide) 0 (.slice va l0.length vc)
    have ho2 := own_set ho1 s2 (by decide) 0 (.int .i64 0)
    have ho3 := own_set ho2 (s2.set_ 0 (.int .i64 0)) (by decide) 1 (.int .i64 0)
    have ho4 := Lib.hid (own_set ho3 ((s2.set_ 0 (.int .i64 0)).set_ 1 (.int .i64 0)) (by decide) 2 (.string ⟨#[]⟩))
    have HDe := Lib.hid hDe; have Hbel := Lib.hid hbel
    clear s2 hDe hbel ho1 ho2 ho3
    gi_wp2
    refine ⟨by simp, .inl ⟨_, _, rfl, run_takeDeferred HDe.out, ?_⟩⟩
    refine ⟨_, results_fields _ w.heap.size (w.heap.size + 1) l0.length vc va 0 0 _ rfl rfl (p1.out.putD HDe.out rfl) (p2.out.putD HDe.out rfl), .inl ⟨l0, .slice va l0.length vc, by rw [← Hys.out, Hl0.out], rfl, ?_⟩, Hbel.out.trans (belowK_b (w := w) (Nat.le_refl _) _ D _ _ (by omega) HDe.out rfl rfl)⟩
    exact ownsRow_putObj ho4.out _ HDe.out rfl
  case stop =>
    rintro D c pre W hD hpre ⟨rfl, ⟨l0, c0, q0, hl0, hr2⟩, hr1, hbel⟩ hK
    have r1 : Blk W w.heap.size 37 #[.slice none 0 0] := hr1
    have Hr1 := Lib.hid r1; have Hr2 := Lib.hid hr2; have Hb := Lib.hid hbel; have Hl0 := Lib.hid hl0; have Hp := Lib.hid hpre; have HK := Lib.hid hK
    clear r1 hr1 hr2 hbel hl0 hpre hK
    gi_wp2
    refine ⟨by simp, .inl ⟨_, _, rfl, run_takeDeferred HK.out, ?_⟩⟩
    refine ⟨_, results_fields _ w.heap.size (w.heap.size + 1) 0 0 none _ _ _ rfl rfl (Hr1.out.putD HK.out rfl) (Hr2.out.putD HK.out rfl), .inr ⟨l0, c0, q0, bad_last s l0 c0 q0 (by rw [← Hl0.out]; exact Hp.out), rfl⟩, Hb.out.trans (belowK_b (w := w) (Nat.le_refl _) _ D _ _ (by omega) HK.out rfl rfl)⟩
theorem fields_any (s : ByteArray) (hs : s.size ≤ 1000000) (w : World) : Calls Try.prog 19 #[.string s] w (FieldsIs s w) :=
  callsIn_wide.1 (fields_in 4 (Nat.le_refl _) s hs w)
end Go.Proofs.Ytkaoacoahlbcoaa
