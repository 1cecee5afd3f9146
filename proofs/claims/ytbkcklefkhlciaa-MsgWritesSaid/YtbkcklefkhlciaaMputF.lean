/-
  put: which blocks it leaves as they were: all but the message's own.
-/
import Derived.Test.YtbkcklefkhlciaaMputA
import Derived.Maps.AppendAt
namespace Go.Proofs.Ytbkcklefkhlciaa
open Go.RowKit
set_option linter.unusedVariables false
theorem wp_append_at {P : Program} (w : World) {o : Oper} {a : Act} {K : Act → World → Prop} {Q : Exit → Act → World → Prop} (s x : Operand) (t : TypeId)
    (ho : o.op = .call { callee := .builtin .append, args := #[s, x], argTypes := #[t, t] })
    (base : Nat) (e : TypeId) (i : TypeInfo) (z : Value) (size bytes : Nat) (ht : P.underlying t = some (.slice e)) (hi : P.info? e = some i) (hz : i.zero = some z)
    (hsize : i.size = size) (hby : i.bytes = bytes) (hzs : z.cells.size = size) (hsz : 0 < size)
    (v : Value) (n : Nat) (xs : List Value) (hs : a.eval s = v) (hown : w.ownsRow base e size v n xs)
    (ad : Addr) (m c : Nat) (news : List Value) (hx : a.eval x = .slice (some ad) m c) (hl : news.length = m * size) (hnews : ∀ j u, news[j]? = some u → w.cell? (ad.add j) = some u) (h1 : ∀ u ∈ news, u.oneCell' = true)
    (h63 : n + m ≤ maxLen) (hbytes : (n + m) * bytes ≤ 140737488355328) (hbase : base ≤ w.heap.size)
    (h : ∀ v' w', w'.ownsRow base e size v' (n + m) (xs ++ news) → w.grownBy w' v.ownBlock → (v' = .slice none 0 0 ↔ v = .slice none 0 0 ∧ m = 0) → (v'.ownBlock = v.ownBlock ∨ v'.ownBlock = some w.heap.size) → K (a.put o.dst v') w') : o.wp P a w K Q := by
  obtain ⟨v', w', hr, h2, h3, h4, h5⟩ := run_append_own_at (P := P) w base t o.type e i z size bytes ht hi hz hsize hby hzs hsz v n xs hown ad m c news hl hnews h1 h63 hbytes hbase
  unfold Oper.wp execOp
  simp only [ho, resolve, invoke, builtin, Sem.run_bind, Sem.run_pure, Result.andThen_ok, List.map_toArray, List.map_cons, List.map_nil, hs, hx, hr]
  exact h v' w' h2 h3 h4 h5
/-- Block g is none of the message m's. -/
def Aw (m : Nat) (W : World) (g : Nat) : Prop := g ≠ m ∧ (∀ v, W.cell? ⟨m, 1, none⟩ = some v → v.ownBlock ≠ some g) ∧ (∀ v, W.cell? ⟨m, 2, none⟩ = some v → v.ownBlock ≠ some g)
/-- What lay there and is none of the message m's stays, and stays none of them. -/
structure Fr (m : Nat) (w w' : World) : Prop where
  size : w.heap.size ≤ w'.heap.size
  keep : ∀ g, g < w.heap.size → Aw m w g → w'.heap[g]? = w.heap[g]? ∧ Aw m w' g
theorem Fr.refl (m : Nat) (w : World) : Fr m w w := ⟨Nat.le_refl _, fun g _ h => ⟨rfl, h⟩⟩
theorem Fr.trans {m : Nat} {a b c : World} (h : Fr m a b) (k : Fr m b c) : Fr m a c :=
  ⟨Nat.le_trans h.size k.size, fun g hg ha => by
    obtain ⟨h1, h2⟩ := h.keep g hg ha
    obtain ⟨k1, k2⟩ := k.keep g (Nat.lt_of_lt_of_le hg h.size) h2
    exact ⟨k1.trans h1, k2⟩⟩
theorem Fr.below {m : Nat} {w w' : World} (hb : Below w.heap.size w w') (hm : m < w.heap.size) : Fr m w w' :=
  ⟨hb.size, fun g hg ⟨h1, h2, h3⟩ => ⟨hb.block g hg, h1, fun v hv => h2 v (by rw [← hv]; exact (hb.cell (p := ⟨m, 1, none⟩) hm).symm), fun v hv => h3 v (by rw [← hv]; exact (hb.cell (p := ⟨m, 2, none⟩) hm).symm)⟩⟩
theorem Fr.far {m : Nat} {w W : World} (h : Fr m w W) (p : Addr) (u : Value) (h1 : w.heap.size ≤ p.block) (h2 : p.block ≠ m) : Fr m w (W.setCell p u) :=
  ⟨by simpa using h.size, fun g hg ha => by
    obtain ⟨k1, k2, k3, k4⟩ := h.keep g hg ha
    refine ⟨(Below.heap_setCell W p u g (by omega)).trans k1, k2, fun v hv => k3 v ?_, fun v hv => k4 v ?_⟩
    · rw [World.cell?_setCell_other _ _ _ _ (fun e => h2 (by rw [e]))] at hv; exact hv
    · rw [World.cell?_setCell_other _ _ _ _ (fun e => h2 (by rw [e]))] at hv; exact hv⟩
theorem fr_one {m : Nat} {W w4 : World} {fv ev x0 c nv : Value} {tmp : Obj} {T : TypeId} (hM : Blk W m T #[x0, fv, ev, c]) (gr : (W.drew.alloc tmp).grownBy w4 fv.ownBlock) (hne : fv.ownBlock ≠ some m) (hat : nv.ownBlock = fv.ownBlock ∨ nv.ownBlock = some (W.drew.alloc tmp).heap.size) : Fr m W (w4.setCell ⟨m, 1, none⟩ nv) := by
  have hm : m < W.heap.size := hM.lt
  have hM4 : Blk w4 m T #[x0, fv, ev, c] := ((show Blk W.drew m T _ from hM).alloc tmp).kept gr (fun e => hne e.symm)
  have hM5 := hM4.set_ 1 nv
  refine ⟨by have := gr.size; simp at *; omega, fun g hg ⟨h1, h2, h3⟩ => ?_⟩
  have h2' := h2 fv (hM.cell 1)
  have h3' := h3 ev (hM.cell 2)
  refine ⟨?_, h1, fun v hv => ?_, fun v hv => ?_⟩
  · have e1 := gr.block g (by simp; omega) (fun e => h2' e.symm)
    have e2 : (W.drew.alloc tmp).heap[g]? = W.heap[g]? := (World.grownBy_alloc W.drew tmp none).block g hg (by simp)
    exact ((Below.heap_setCell w4 ⟨m, 1, none⟩ nv g h1).trans e1).trans e2
  · have e : (w4.setCell ⟨m, 1, none⟩ nv).cell? ⟨m, 1, none⟩ = some nv := hM5.cell 1
    rw [e] at hv
    cases hv
    rcases hat with ha | ha
    · rw [ha]; exact h2'
    · rw [ha]; intro e; simp at e; omega
  · have e : (w4.setCell ⟨m, 1, none⟩ nv).cell? ⟨m, 2, none⟩ = some ev := hM5.cell 2
    rw [e] at hv
    cases hv
    exact h3'
theorem fr_two {m : Nat} {W w4 : World} {fv ev x0 c nv : Value} {tmp : Obj} {T : TypeId} (hM : Blk W m T #[x0, fv, ev, c]) (gr : (W.drew.alloc tmp).grownBy w4 ev.ownBlock) (hne : ev.ownBlock ≠ some m) (hat : nv.ownBlock = ev.ownBlock ∨ nv.ownBlock = some (W.drew.alloc tmp).heap.size) : Fr m W (w4.setCell ⟨m, 2, none⟩ nv) := by
  have hm : m < W.heap.size := hM.lt
  have hM4 : Blk w4 m T #[x0, fv, ev, c] := ((show Blk W.drew m T _ from hM).alloc tmp).kept gr (fun e => hne e.symm)
  have hM5 := hM4.set_ 2 nv
  refine ⟨by have := gr.size; simp at *; omega, fun g hg ⟨h1, h2, h3⟩ => ?_⟩
  have h2' := h2 fv (hM.cell 1)
  have h3' := h3 ev (hM.cell 2)
  refine ⟨?_, h1, fun v hv => ?_, fun v hv => ?_⟩
  · have e1 := gr.block g (by simp; omega) (fun e => h3' e.symm)
    have e2 : (W.drew.alloc tmp).heap[g]? = W.heap[g]? := (World.grownBy_alloc W.drew tmp none).block g hg (by simp)
    exact ((Below.heap_setCell w4 ⟨m, 2, none⟩ nv g h1).trans e1).trans e2
  · have e : (w4.setCell ⟨m, 2, none⟩ nv).cell? ⟨m, 1, none⟩ = some fv := hM5.cell 1
    rw [e] at hv
    cases hv
    exact h2'
  · have e : (w4.setCell ⟨m, 2, none⟩ nv).cell? ⟨m, 2, none⟩ = some nv := hM5.cell 2
    rw [e] at hv
    cases hv
    rcases hat with ha | ha
    · rw [ha]; exact h3'
    · rw [ha]; intro e; simp at e; omega
theorem step_fd_at {ops : Array Oper} {o : Oper} {a : Act} {K : Act → World → Prop} {Q : Exit → Act → World → Prop} {E : Prop} (hgd : o.guard = none) (s x : Operand)
    (ho : o.op = .call { callee := .builtin .append, args := #[s, x], argTypes := #[73, 73] }) (B : Nat) (W : World) (v : Value) (l : List (Fd × Nat)) (p : Fd × Nat) (cs : Array Value) (hcs : cs.toList = fdC p)
    (hs : a.eval s = v) (hown : W.ownsRow B 77 5 v l.length (fdsC l)) (hB : B ≤ W.heap.size) (g : Nat) (hgW : W.heap.size = g) (hx : a.eval x = .slice (some ⟨g, 0, none⟩) 1 1) (hlen : l.length ≤ 1000000)
    (m : Nat) (t : TypeId) (ms : Array Value) (k : Nat) (u : Value) (hm : Blk W m t ms) (hk : ms[k]? = some u) (hne : v.ownBlock ≠ some m)
    (h : ∀ va vn vc W', W'.ownsRow B 77 5 (.slice va vn vc) (l ++ [p]).length (fdsC (l ++ [p])) → (W.alloc (.cells cs 77)).grownBy W' v.ownBlock → ((Value.slice va vn vc).ownBlock = v.ownBlock ∨ (Value.slice va vn vc).ownBlock = some (W.alloc (.cells cs 77)).heap.size) → W'.cell? ⟨m, k, none⟩ = some u → W'.frozen? ⟨m, k, none⟩ = false → K (a.put o.dst (.slice va vn vc)) W') :
    if Region.wanted o (yielded ops a.tmps) = true then Oper.wp Try.prog o a (W.alloc (.cells cs 77)) K Q else E := by
  have hw : Region.wanted o (yielded ops a.tmps) = true := by simp [Region.wanted, hgd]
  rw [if_pos hw]
  obtain ⟨i0, hi, hz0, hz1, hz2⟩ := info_parts Try.infoF
  subst hgW
  have hc : ∀ j, (W.alloc (.cells cs 77)).cell? ⟨W.heap.size, j, none⟩ = cs[j]? := fun j => (Blk.new W 77 cs).cell j
  have hB' : B ≤ (W.alloc (.cells cs 77)).heap.size := by simp; omega
  refine wp_append_at _ s x 73 ho B 77 i0 (.agg #[.int .i64 0, .int .i64 0, .int .i64 0, .int .u64 0, .string ⟨#[]⟩]) 5 48 Try.underlying73 hi hz0 hz1 hz2 rfl (by decide) v l.length _ hs (hown.alloc _) ⟨W.heap.size, 0, none⟩ 1 1 (fdC p) hx rfl ?_ ?_ ?_ ?_ hB' ?_
  · intro j u hj
    have e : (⟨W.heap.size, 0, none⟩ : Addr).add j = ⟨W.heap.size, j, none⟩ := by unfold Addr.add; split <;> simp_all
    rw [e, hc, ← hj, ← hcs, Array.getElem?_toList]
  · intro u hu; unfold fdC at hu; simp at hu; rcases hu with rfl | rfl | rfl | rfl | rfl <;> rfl
  · unfold maxLen; omega
  · omega
  · intro v' W' hown' hg _ hat
    have hm' : Blk W' m t ms := (hm.alloc _).kept hg (fun e => hne e.symm)
    obtain ⟨va, vn, vc, rfl⟩ := slice_of hown'
    refine h va vn vc W' ?_ hg hat ((hm'.cell k).trans hk) (hm'.frozen k)
    rw [fdsC_snoc, List.length_append]
    exact hown'
theorem step_iv_at {ops : Array Oper} {o : Oper} {a : Act} {K : Act → World → Prop} {Q : Exit → Act → World → Prop} {E : Prop} (hgd : o.guard = none) (s x : Operand)
    (ho : o.op = .call { callee := .builtin .append, args := #[s, x], argTypes := #[27, 27] }) (B : Nat) (W : World) (v : Value) (l : List Nat) (p : Nat) (z : Int) (hz : z = (p : Int))
    (hs : a.eval s = v) (hown : W.ownsRow B 3 1 v l.length (l.map iv)) (hB : B ≤ W.heap.size) (g : Nat) (hgW : W.heap.size = g) (hx : a.eval x = .slice (some ⟨g, 0, none⟩) 1 1) (hlen : l.length ≤ 1000000)
    (m : Nat) (t : TypeId) (ms : Array Value) (k : Nat) (u : Value) (hm : Blk W m t ms) (hk : ms[k]? = some u) (hne : v.ownBlock ≠ some m)
    (h : ∀ va vn vc W', W'.ownsRow B 3 1 (.slice va vn vc) (l ++ [p]).length ((l ++ [p]).map iv) → (W.alloc (.cells #[.int .i64 z] 3)).grownBy W' v.ownBlock → ((Value.slice va vn vc).ownBlock = v.ownBlock ∨ (Value.slice va vn vc).ownBlock = some (W.alloc (.cells #[.int .i64 z] 3)).heap.size) → W'.cell? ⟨m, k, none⟩ = some u → W'.frozen? ⟨m, k, none⟩ = false → K (a.put o.dst (.slice va vn vc)) W') :
    if Region.wanted o (yielded ops a.tmps) = true then Oper.wp Try.prog o a (W.alloc (.cells #[.int .i64 z] 3)) K Q else E := by
  have hw : Region.wanted o (yielded ops a.tmps) = true := by simp [Region.wanted, hgd]
  rw [if_pos hw]
  obtain ⟨i0, hi, hz0, hz1, hz2⟩ := info_parts Try.infoI
  subst hgW
  have hc : ∀ j, (W.alloc (.cells #[.int .i64 z] 3)).cell? ⟨W.heap.size, j, none⟩ = (#[.int .i64 z] : Array Value)[j]? := fun j => (Blk.new W 3 _).cell j
  have hB' : B ≤ (W.alloc (.cells #[.int .i64 z] 3)).heap.size := by simp; omega
  refine wp_append_at _ s x 27 ho B 3 i0 (.int .i64 0) 1 8 Try.underlying27 hi hz0 hz1 hz2 rfl (by decide) v l.length _ hs (hown.alloc _) ⟨W.heap.size, 0, none⟩ 1 1 [.int .i64 z] hx rfl ?_ ?_ ?_ ?_ hB' ?_
  · intro j u hj
    have e : (⟨W.heap.size, 0, none⟩ : Addr).add j = ⟨W.heap.size, j, none⟩ := by unfold Addr.add; split <;> simp_all
    rw [e, hc, ← hj, ← Array.getElem?_toList]
  · intro u hu; simp at hu; subst hu; rfl
  · unfold maxLen; omega
  · omega
  · intro v' W' hown' hg _ hat
    have hm' : Blk W' m t ms := (hm.alloc _).kept hg (fun e => hne e.symm)
    obtain ⟨va, vn, vc, rfl⟩ := slice_of hown'
    refine h va vn vc W' ?_ hg hat ((hm'.cell k).trans hk) (hm'.frozen k)
    have e : (l ++ [p]).map iv = l.map iv ++ [.int .i64 z] := by simp [iv, hz]
    rw [e, List.length_append]
    exact hown'
set_option maxRecDepth 100000 in
set_option maxHeartbeats 4000000 in
theorem put_good2 (B m : Nat) (l : List (Fd × Nat)) (es : List Nat) (p : Fd) (tl : ByteArray) (w : World) (hB : B ≤ w.heap.size) (h : IsMsg B m w l es 0) (HP : Hid (PutHid p tl))
    (hl : l.length ≤ 100000) (hes : es.length ≤ 100000) (hlast : lastOf es ≤ 1000000000) (htl0 : tl.size ≤ 1000000) :
    Calls Try.prog 37 #[.pointer (some ⟨m, 0, none⟩), .agg #[.int .i64 p.num, .int .i64 p.kind, .int .i64 0, .int .u64 p.val, .string p.data]] w (fun e w' => PutIn B m l es p tl.size w e w' ∧ Fr m w w') := by
  obtain ⟨hBm, fv, ev, hb, hf, he⟩ := h
  unfold PutHid at HP
  obtain ⟨num, hnum⟩ : ∃ x : Int, (p.num : Int) = x := ⟨_, rfl⟩
  obtain ⟨kind, hkind⟩ : ∃ x : Int, (p.kind : Int) = x := ⟨_, rfl⟩
  obtain ⟨val, hval⟩ : ∃ x : Int, (p.val : Int) = x := ⟨_, rfl⟩
  obtain ⟨data, hdata⟩ : ∃ x, p.data = x := ⟨_, rfl⟩
  obtain ⟨tz, htz⟩ : ∃ tz : Nat, tl.size = tz := ⟨_, rfl⟩
  rw [htz]
  have htz1 : tz ≤ 1000000 := by omega
  rw [hnum, hkind, hval, hdata] at HP
  rw [hnum, hkind, hval, hdata]
  have Htz := Lib.hid htz
  have Hs := Lib.hid (And.intro hnum (And.intro hkind (And.intro hval hdata)))
  clear hnum hkind hval hdata htz
  have c3 : w.cell? ⟨m, 3, none⟩ = some (.int .i64 0) := hb.cell 3
  go_enter Try.func37, Try.ntmps37
  obtain ⟨g, hg⟩ : ∃ g, w.heap.size = g := ⟨_, rfl⟩
  have hmg : m < g := by have := hb.lt; omega
  go_wp2_with fail
  refine (none_msg m _ (((hb.alloc _).cell 0).trans rfl)).mono ?_
  rintro e w1 ⟨rfl, rfl⟩
  go_wp2_with fail
  refine (HP.out _ _).mono ?_
  rintro e w1 ⟨rfl, hb1⟩
  obtain ⟨hbx, hbw, hlt⟩ := fbox hb1
  rw [hg] at hbx hlt hbw
  have hb2 : Blk w1 m 75 _ := hb.below hbw hmg
  have hf2 := hf.kept (grown_below hbw (Nat.le_of_eq hg)) (by cases fv.ownBlock <;> simp)
  have he2 := he.kept (grown_below hbw (Nat.le_of_eq hg)) (by cases ev.ownBlock <;> simp)
  obtain ⟨ae, ce, rfl⟩ : ∃ a c, ev = .slice a es.length c := by
    rcases he2.2 with ⟨rfl, hn⟩ | ⟨g, cap, cur, rfl, _⟩
    · exact ⟨none, 0, by rw [hn]⟩
    · exact ⟨_, _, rfl⟩
  obtain ⟨n, hn⟩ : ∃ n, es.length = n := ⟨_, rfl⟩
  have hn1 : n ≤ 100000 := by omega
  have Hn := Lib.hid hn
  rw [hn] at hb2 he2 hb he
  have c0 := hb2.cell 0; have c1 := hb2.cell 1; have c2 := hb2.cell 2; have c3 := hb2.cell 3
  simp only [List.getElem?_toArray, List.getElem?_cons_zero, List.getElem?_cons_succ] at c0 c1 c2 c3
  have Hb := Lib.hid hb; have Hb2 := Lib.hid hb2; have Hf2 := Lib.hid hf2; have He2 := Lib.hid he2; have Hbx := Lib.hid hbx
  have Hgw : Hid (Below B w w1) := Lib.hid (hbw.mono (by omega))
  have Hq : Hid (Fr m w w1) := Lib.hid (Fr.below (by rw [hg]; exact hbw) (by omega))
  have hBg : B ≤ w1.heap.size := by omega
  have Hvg : Hid (fv.ownBlock ≠ some g) := Lib.hid (fun e => by have := (hf.lt _ e).2; omega)
  have Hvi : Hid ((Value.slice ae n ce).ownBlock ≠ some g) := Lib.hid (fun e => by have := (he.lt _ e).2; omega)
  clear hb hb2 hf he hf2 he2 hbx hb1 hbw hn hes
  by_cases hes0 : n = 0
  · subst hes0
    have hes0 : es = [] := List.length_eq_zero_iff.1 Hn.out
    have hlast0 : Hid (lastOf es = 0) := Lib.hid (by rw [hes0]; rfl)
    clear hes0
    go_wp2_with fail
    have he' : w1.ownsRow B 3 1 (.slice ae 0 ce) es.length (es.map iv) := by rw [Hn.out]; exact He2.out
    have hBg0 := hBg
    clear hBg
    have hM := Hb2; have hF := Hf2; have hE := Lib.hid he'; have hX := Hbx; have hG := Hgw; have hQ := Hq
    have hBg := hBg0
    clear hBg0
    clear Hb2 Hf2 He2 Hbx Hgw Hq he' c0 c1 c2 c3
    revert hM hF hE hX hG hQ hBg
    generalize w1 = W
    intro hM hF hE hX hG hQ hBg
    have nx1 := own_ne hF.out hM.out (by decide)
    have hF3 := Lib.hid (World.ownsRow.drew hF.out)
    have hM3 : Hid (Blk W.drew m 75 _) := Lib.hid (show Blk W m _ _ from hM.out)
    have hBg' : B ≤ W.drew.heap.size := hBg
    have al1 : ∀ o, (W.alloc o).cell? ⟨m, 1, none⟩ = some fv := fun o => (hM.out.alloc o).cell 1
    have c1 : W.cell? ⟨m, 1, none⟩ = some fv := hM.out.cell 1
    have x0 : W.cell? ⟨g, 0, none⟩ = some (.int .i64 num) := hX.out.cell 0
    have x1 : W.cell? ⟨g, 1, none⟩ = some (.int .i64 kind) := hX.out.cell 1
    have x2 : W.cell? ⟨g, 2, none⟩ = some (.int .i64 0) := hX.out.cell 2
    have x3 : W.cell? ⟨g, 3, none⟩ = some (.int .u64 val) := hX.out.cell 3
    have x4 : W.cell? ⟨g, 4, none⟩ = some (.string data) := hX.out.cell 4
    have nx3 := own_ne2 hE.out hF.out (by decide)
    have Hcs : Hid ((#[.int .i64 num, .int .i64 kind, .int .i64 0, .int .u64 val, .string data] : Array Value).toList = fdC (p, lastOf es)) := Lib.hid (by
      obtain ⟨h1, h2, h3, h4⟩ := Hs.out
      unfold fdC; simp only; rw [h1, h2, h3, h4]; (rw [hlast0.out]) <;> rfl)
    go_region_law (first
      | (refine step_fd_at (by rfl) (.tmp 50) (.tmp 52) (by rfl) B _ _ l (p, lastOf es) _ Hcs.out (by rfl) hF3.out hBg' _ rfl (by rfl) (by omega) m 75 _ 1 _ hM3.out rfl nx1 ?_; intro va vn vc w4 own4 gr4 at4 d1 df1))
    all_goals
      have hm4 : Blk w4 m 75 _ := (hM3.out.alloc _).kept gr4 (fun e => nx1 e.symm)
      have hb4 : Blk w4 g 77 _ := ((show Blk W.drew g _ _ from hX.out).alloc _).kept gr4 (fun e => Hvg.out e.symm)
      have he4 := (World.ownsRow.kept (World.ownsRow.alloc (World.ownsRow.drew hE.out) _) gr4 nx3)
      have hlo4 : Below B w w4 := hG.out.trans (((((Below.refl B W).drew).alloc hBg' _).grown gr4 (by simp; omega) (fun k hk => (hF.out.lt k hk).1)))
      have M5 : Hid (Blk (w4.setCell ⟨m, 1, none⟩ (.slice va vn vc)) m 75 #[.bool true, .slice va vn vc, .slice ae 0 ce, .int .i64 0]) := Lib.hid (hm4.set_ 1 (.slice va vn vc))
      have X5 : Hid (Blk (w4.setCell ⟨m, 1, none⟩ (.slice va vn vc)) g 77 #[.int .i64 num, .int .i64 kind, .int .i64 0, .int .u64 val, .string data]) := Lib.hid (hb4.far (p := ⟨m, 1, none⟩) (by simp; omega) _)
      have F5 := Lib.hid (own_set own4 hm4 (by decide) 1 (.slice va vn vc))
      have E5 := Lib.hid (own_set he4 hm4 (by decide) 1 (.slice va vn vc))
      have G5 := Lib.hid (hlo4.setCell (p := ⟨m, 1, none⟩) hBm (.slice va vn vc))
      have Q5 : Hid (Fr m w (w4.setCell ⟨m, 1, none⟩ (.slice va vn vc))) := Lib.hid (hQ.out.trans (fr_one hM.out gr4 nx1 at4))
      have B5 : B ≤ (w4.setCell ⟨m, 1, none⟩ (.slice va vn vc)).heap.size := by have := hlo4.size; simp; omega
      clear hm4 hb4 he4 hlo4 own4 gr4 at4 d1 df1 hQ
      revert M5 X5 F5 E5 G5 Q5 B5
      generalize w4.setCell ⟨m, 1, none⟩ (.slice va vn vc) = W5
      intro M5 X5 F5 E5 G5 Q5 B5
      clear al1 c1 x0 x1 x2 x3 x4
      have ny1 := own_ne E5.out M5.out (by decide)
      have ny3 := own_ne2 F5.out E5.out (by decide)
      have E6 := Lib.hid (World.ownsRow.drew E5.out)
      have M6 : Hid (Blk W5.drew m 75 _) := Lib.hid (show Blk W5 m _ _ from M5.out)
      have B6 : B ≤ W5.drew.heap.size := B5
      have al2 : ∀ o, (W5.alloc o).cell? ⟨m, 2, none⟩ = some (.slice ae 0 ce) := fun o => (M5.out.alloc o).cell 2
      have c2 : W5.cell? ⟨m, 2, none⟩ = some (.slice ae 0 ce) := M5.out.cell 2
      have x2 : W5.cell? ⟨g, 2, none⟩ = some (.int .i64 0) := X5.out.cell 2
      have al3 : ∀ o, (W5.alloc o).cell? ⟨g, 2, none⟩ = some (.int .i64 0) := fun o => (X5.out.alloc o).cell 2
      go_wp2_with fail
      go_region_law (first
        | (refine step_iv_at (by rfl) (.tmp 60) (.tmp 66) (by rfl) B _ _ es (lastOf es + tz) _ (by rw [hlast0.out, Htz.out, IntWalk.i64_in _ ⟨by omega, by omega⟩]; omega) (by rfl) E6.out B6 _ rfl (by rfl) (by rw [Hn.out]; omega) m 75 _ 2 _ M6.out rfl ny1 ?_; intro ua un uc w7 own7 gr7 at7 d2 df2))
      all_goals
        have hm7 : Blk w7 m 75 _ := (M6.out.alloc _).kept gr7 (fun e => ny1 e.symm)
        have hf7 := (World.ownsRow.kept (World.ownsRow.alloc (World.ownsRow.drew F5.out) _) gr7 ny3)
        have hlo7 : Below B w w7 := G5.out.trans (((((Below.refl B W5).drew).alloc B6 _).grown gr7 (by simp; omega) (fun k hk => (E5.out.lt k hk).1)))
        have R : Hid (PutIn B m l es p tz w (.returned (.pointer (some ⟨m, 0, none⟩))) (w7.setCell ⟨m, 2, none⟩ (.slice ua un uc)) ∧ Fr m w (w7.setCell ⟨m, 2, none⟩ (.slice ua un uc))) := Lib.hid
          ⟨⟨rfl, ⟨hBm, .slice va vn vc, .slice ua un uc, hm7.set_ 2 (.slice ua un uc), own_set hf7 hm7 (by decide) 2 (.slice ua un uc), own_set own7 hm7 (by decide) 2 (.slice ua un uc)⟩, hlo7.setCell (p := ⟨m, 2, none⟩) hBm (.slice ua un uc)⟩, Q5.out.trans (fr_two M5.out gr7 ny1 at7)⟩
        clear hm7 hf7 hlo7 own7 gr7 at7
        go_wp2
        go_ret
        exact R.out
  · obtain ⟨k, rfl⟩ : ∃ k, n = k + 1 := ⟨n - 1, by omega⟩
    obtain ⟨ge, rfl, hge, hce⟩ : ∃ ge, ae = some ⟨ge, 0, none⟩ ∧ B ≤ ge ∧ w1.cell? ⟨ge, k, none⟩ = some (.int .i64 (lastOf es : Nat)) := by
      have h0 := He2.out
      obtain ⟨hl0, ⟨h1, h2⟩ | ⟨g0, cap, cur, h1, h2, h3, h4, h5, h6, h7⟩⟩ := h0
      · omega
      · cases h1
        refine ⟨g0, rfl, h2, ?_⟩
        have hk : (es.map iv)[k]? = some (iv (lastOf es)) := by
          have hlen := Hn.out
          rw [List.getElem?_map]
          have : es[k]? = some (lastOf es) := by
            unfold lastOf
            rw [List.getLastD_eq_getLast?, List.getLast?_eq_getElem?, Hn.out]
            simp only [Nat.add_sub_cancel]
            rw [List.getElem?_eq_getElem (by omega)]
            rfl
          rw [this]; rfl
        have h8 := (World.ownsRow.cells He2.out (g := g0) rfl k _ hk)
        have h9 : (⟨g0, 0, none⟩ : Addr).add k = ⟨g0, k, none⟩ := by unfold Addr.add; split <;> simp_all
        rw [h9] at h8
        exact h8
    have ix0 : (0 : Int) ≤ (k : Int) := by omega
    have ix1 : ((k : Nat) : Int) < ((k + 1 : Nat) : Int) := by omega
    have xg2 : w1.cell? ⟨g, 2, none⟩ = some (.int .i64 0) := Hbx.out.cell 2
    have fg2 : w1.frozen? ⟨g, 2, none⟩ = false := Hbx.out.frozen 2
    obtain ⟨lz, hlz⟩ : ∃ lz : Nat, lastOf es = lz := ⟨_, rfl⟩
    rw [hlz] at hce hlast
    have Hlz := Lib.hid hlz
    clear hlz
    go_wp2_with fail
    have hM := Lib.hid (Hb2.out.far (p := ⟨g, 2, none⟩) (by simp; omega) (.int .i64 (lz : Int)))
    have hF := Lib.hid (World.ownsRow.kept Hf2.out (grownBy_setAt w1 ⟨g, 2, none⟩ (.int .i64 (lz : Int))) (.inr Hvg.out))
    have he' : w1.ownsRow B 3 1 (.slice (some ⟨ge, 0, none⟩) (k + 1) ce) es.length (es.map iv) := by rw [Hn.out]; exact He2.out
    have hE := Lib.hid (World.ownsRow.kept he' (grownBy_setAt w1 ⟨g, 2, none⟩ (.int .i64 (lz : Int))) (.inr Hvi.out))
    have hX : Hid (Blk (w1.setCell ⟨g, 2, none⟩ (.int .i64 (lz : Int))) g 77 #[.int .i64 num, .int .i64 kind, .int .i64 (lz : Int), .int .u64 val, .string data]) := Lib.hid (Hbx.out.set_ 2 _)
    have hG := Lib.hid (Hgw.out.setCell (p := ⟨g, 2, none⟩) (by simp; omega) (.int .i64 (lz : Int)))
    have hQ := Lib.hid (Hq.out.far ⟨g, 2, none⟩ (.int .i64 (lz : Int)) (Nat.le_of_eq hg) (by simp; omega))
    have hBg2 : B ≤ (w1.setCell ⟨g, 2, none⟩ (.int .i64 (lz : Int))).heap.size := by simp; omega
    clear Hb2 Hf2 He2 Hbx Hgw Hq he' c0 c1 c2 c3 hce fg2 xg2 hBg
    have hBg := hBg2
    clear hBg2
    revert hM hF hE hX hG hQ hBg
    generalize w1.setCell ⟨g, 2, none⟩ (.int .i64 (lz : Int)) = W
    intro hM hF hE hX hG hQ hBg
    have nx1 := own_ne hF.out hM.out (by decide)
    have hF3 := Lib.hid (World.ownsRow.drew hF.out)
    have hM3 : Hid (Blk W.drew m 75 _) := Lib.hid (show Blk W m _ _ from hM.out)
    have hBg' : B ≤ W.drew.heap.size := hBg
    have al1 : ∀ o, (W.alloc o).cell? ⟨m, 1, none⟩ = some fv := fun o => (hM.out.alloc o).cell 1
    have c1 : W.cell? ⟨m, 1, none⟩ = some fv := hM.out.cell 1
    have x0 : W.cell? ⟨g, 0, none⟩ = some (.int .i64 num) := hX.out.cell 0
    have x1 : W.cell? ⟨g, 1, none⟩ = some (.int .i64 kind) := hX.out.cell 1
    have x2 : W.cell? ⟨g, 2, none⟩ = some (.int .i64 (lz : Int)) := hX.out.cell 2
    have x3 : W.cell? ⟨g, 3, none⟩ = some (.int .u64 val) := hX.out.cell 3
    have x4 : W.cell? ⟨g, 4, none⟩ = some (.string data) := hX.out.cell 4
    have nx3 := own_ne2 hE.out hF.out (by decide)
    have Hcs : Hid ((#[.int .i64 num, .int .i64 kind, .int .i64 (lz : Int), .int .u64 val, .string data] : Array Value).toList = fdC (p, lastOf es)) := Lib.hid (by
      obtain ⟨h1, h2, h3, h4⟩ := Hs.out
      unfold fdC; simp only; rw [h1, h2, h3, h4]; (rw [Hlz.out]) <;> rfl)
    go_region_law (first
      | (refine step_fd_at (by rfl) (.tmp 50) (.tmp 52) (by rfl) B _ _ l (p, lastOf es) _ Hcs.out (by rfl) hF3.out hBg' _ rfl (by rfl) (by omega) m 75 _ 1 _ hM3.out rfl nx1 ?_; intro va vn vc w4 own4 gr4 at4 d1 df1))
    all_goals
      have hm4 : Blk w4 m 75 _ := (hM3.out.alloc _).kept gr4 (fun e => nx1 e.symm)
      have hb4 : Blk w4 g 77 _ := ((show Blk W.drew g _ _ from hX.out).alloc _).kept gr4 (fun e => Hvg.out e.symm)
      have he4 := (World.ownsRow.kept (World.ownsRow.alloc (World.ownsRow.drew hE.out) _) gr4 nx3)
      have hlo4 : Below B w w4 := hG.out.trans (((((Below.refl B W).drew).alloc hBg' _).grown gr4 (by simp; omega) (fun k hk => (hF.out.lt k hk).1)))
      have M5 : Hid (Blk (w4.setCell ⟨m, 1, none⟩ (.slice va vn vc)) m 75 #[.bool true, .slice va vn vc, .slice (some ⟨ge, 0, none⟩) (k + 1) ce, .int .i64 0]) := Lib.hid (hm4.set_ 1 (.slice va vn vc))
      have X5 : Hid (Blk (w4.setCell ⟨m, 1, none⟩ (.slice va vn vc)) g 77 #[.int .i64 num, .int .i64 kind, .int .i64 (lz : Int), .int .u64 val, .string data]) := Lib.hid (hb4.far (p := ⟨m, 1, none⟩) (by simp; omega) _)
      have F5 := Lib.hid (own_set own4 hm4 (by decide) 1 (.slice va vn vc))
      have E5 := Lib.hid (own_set he4 hm4 (by decide) 1 (.slice va vn vc))
      have G5 := Lib.hid (hlo4.setCell (p := ⟨m, 1, none⟩) hBm (.slice va vn vc))
      have Q5 : Hid (Fr m w (w4.setCell ⟨m, 1, none⟩ (.slice va vn vc))) := Lib.hid (hQ.out.trans (fr_one hM.out gr4 nx1 at4))
      have B5 : B ≤ (w4.setCell ⟨m, 1, none⟩ (.slice va vn vc)).heap.size := by have := hlo4.size; simp; omega
      clear hm4 hb4 he4 hlo4 own4 gr4 at4 d1 df1 hQ
      revert M5 X5 F5 E5 G5 Q5 B5
      generalize w4.setCell ⟨m, 1, none⟩ (.slice va vn vc) = W5
      intro M5 X5 F5 E5 G5 Q5 B5
      clear al1 c1 x0 x1 x2 x3 x4
      have ny1 := own_ne E5.out M5.out (by decide)
      have ny3 := own_ne2 F5.out E5.out (by decide)
      have E6 := Lib.hid (World.ownsRow.drew E5.out)
      have M6 : Hid (Blk W5.drew m 75 _) := Lib.hid (show Blk W5 m _ _ from M5.out)
      have B6 : B ≤ W5.drew.heap.size := B5
      have al2 : ∀ o, (W5.alloc o).cell? ⟨m, 2, none⟩ = some (.slice (some ⟨ge, 0, none⟩) (k + 1) ce) := fun o => (M5.out.alloc o).cell 2
      have c2 : W5.cell? ⟨m, 2, none⟩ = some (.slice (some ⟨ge, 0, none⟩) (k + 1) ce) := M5.out.cell 2
      have x2 : W5.cell? ⟨g, 2, none⟩ = some (.int .i64 (lz : Int)) := X5.out.cell 2
      have al3 : ∀ o, (W5.alloc o).cell? ⟨g, 2, none⟩ = some (.int .i64 (lz : Int)) := fun o => (X5.out.alloc o).cell 2
      go_wp2_with fail
      go_region_law (first
        | (refine step_iv_at (by rfl) (.tmp 60) (.tmp 66) (by rfl) B _ _ es (lastOf es + tz) _ (by rw [Hlz.out, Htz.out, IntWalk.i64_in _ ⟨by omega, by omega⟩]; omega) (by rfl) E6.out B6 _ rfl (by rfl) (by rw [Hn.out]; omega) m 75 _ 2 _ M6.out rfl ny1 ?_; intro ua un uc w7 own7 gr7 at7 d2 df2))
      all_goals
        have hm7 : Blk w7 m 75 _ := (M6.out.alloc _).kept gr7 (fun e => ny1 e.symm)
        have hf7 := (World.ownsRow.kept (World.ownsRow.alloc (World.ownsRow.drew F5.out) _) gr7 ny3)
        have hlo7 : Below B w w7 := G5.out.trans (((((Below.refl B W5).drew).alloc B6 _).grown gr7 (by simp; omega) (fun k hk => (E5.out.lt k hk).1)))
        have R : Hid (PutIn B m l es p tz w (.returned (.pointer (some ⟨m, 0, none⟩))) (w7.setCell ⟨m, 2, none⟩ (.slice ua un uc)) ∧ Fr m w (w7.setCell ⟨m, 2, none⟩ (.slice ua un uc))) := Lib.hid
          ⟨⟨rfl, ⟨hBm, .slice va vn vc, .slice ua un uc, hm7.set_ 2 (.slice ua un uc), own_set hf7 hm7 (by decide) 2 (.slice ua un uc), own_set own7 hm7 (by decide) 2 (.slice ua un uc)⟩, hlo7.setCell (p := ⟨m, 2, none⟩) hBm (.slice ua un uc)⟩, Q5.out.trans (fr_two M5.out gr7 ny1 at7)⟩
        clear hm7 hf7 hlo7 own7 gr7 at7
        go_wp2
        go_ret
        exact R.out
end Go.Proofs.Ytbkcklefkhlciaa
