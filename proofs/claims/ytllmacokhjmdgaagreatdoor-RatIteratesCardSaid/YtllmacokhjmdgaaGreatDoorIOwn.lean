/-
 Law 2: a row of the call's own, of fractions, in which no number lies: what is appended leaves every number as it was.
-/
import Derived.Test.YtllmacokhjmdgaaGreatDoorIRow
namespace Go.Proofs.YtllmacokhjmdgaaGreatDoor
open Go.RowKit Go.Shelf
set_option linter.unusedVariables false
/-- No cell of the row's block is a number. -/
def NoI (W : World) (v : Value) : Prop := ∀ g, v.ownBlock = some g → ∃ cur fr, W.heap[g]? = some (.cells cur 28 fr) ∧ ∀ u ∈ cur.toList, ∀ q z, u ≠ Value.int q z
theorem noI_nil (W : World) : NoI W (.slice none 0 0) := fun g h => by cases h
theorem NoI.below {W W' : World} {v : Value} {B : Nat} (h : NoI W v) (hb : Below B W W') (hB : W.heap.size ≤ B) : NoI W' v := fun g hg => by
 obtain ⟨cur, fr, h1, h2⟩ := h g hg
 exact ⟨cur, fr, (hb.block g (Nat.lt_of_lt_of_le (Array.getElem?_eq_some_iff.1 h1).1 hB)).trans h1, h2⟩
theorem NoI.far {W : World} {v : Value} {b : Nat} {t : TypeId} {cs : Array Value} (h : NoI W v) (hk : Blk W b t cs) (hte : t ≠ 28) (i : Nat) (y : Value) : NoI (W.setCell ⟨b, i, none⟩ y) v := fun g hg => by
 obtain ⟨cur, fr, h1, h2⟩ := h g hg
 have hne : g ≠ b := fun e => by
  subst e
  rw [show W.heap[g]? = _ from hk] at h1
  cases h1
  exact hte rfl
 exact ⟨cur, fr, (Below.heap_setCell W ⟨b, i, none⟩ y g hne).trans h1, h2⟩
theorem int_grown {W W' : World} {v : Value} {a : Addr} {q : IntKind} {z : Int} (hg : W.grownBy W' v.ownBlock) (hn : NoI W v) (hl : a.block < W.heap.size) (hc : W.cell? a = some (.int q z)) : W'.cell? a = some (.int q z) := by
 by_cases e : some a.block = v.ownBlock
 · exfalso
   obtain ⟨cur, fr, h1, h2⟩ := hn a.block e.symm
   unfold World.cell? at hc
   rw [h1] at hc
   simp only at hc
   split at hc
   · cases hc
   · exact h2 _ (List.mem_of_getElem? (by rw [← Array.getElem?_toList] at hc; exact hc)) _ _ rfl
 · exact (World.cell?_of_block (hg.block _ hl e)).trans hc
theorem isN_app {W W' : World} {v u : Value} {N : Nat} (h : IsN W u N) (hg : W.grownBy W' v.ownBlock) (hn : NoI W v) : IsN W' u N := by
 obtain ⟨a, c, us, rfl, h2, h3, h4⟩ := h
 refine ⟨a, c, us, rfl, h2, fun j hj => ?_, h4⟩
 obtain ⟨ad, rfl, hlt, hc⟩ := h3 j hj
 exact ⟨ad, rfl, Nat.lt_of_lt_of_le hlt hg.size, int_grown hg hn (by rw [add_block]; exact hlt) hc⟩
theorem isR_app {W W' : World} {v u : Value} {x : Rat} (h : IsR W u x) (hg : W.grownBy W' v.ownBlock) (hn : NoI W v) : IsR W' u x := by
 obtain ⟨p, n, c, p', n', c', rfl, h1, h2⟩ := h
 exact ⟨p, n, c, p', n', c', rfl, isN_app h1 hg hn, isN_app h2 hg hn⟩
theorem rn_app {W W' : World} {v u : Value} {N : Nat} (h : RN W u N) (hg : W.grownBy W' v.ownBlock) (hn : NoI W v) : RN W' u N := by
 obtain ⟨ds, ⟨a, c, rfl, hc, hr, hz⟩, hd⟩ := h
 refine ⟨ds, ⟨a, c, rfl, hc, fun j hj => ?_, hz⟩, hd⟩
 obtain ⟨ad, rfl, hlt, hc⟩ := hr j hj
 exact ⟨ad, rfl, Nat.lt_of_lt_of_le hlt hg.size, int_grown hg hn (by rw [add_block]; exact hlt) hc⟩
theorem rq_app {W W' : World} {v u : Value} {x : Rat} (h : RQ W u x) (hg : W.grownBy W' v.ownBlock) (hn : NoI W v) : RQ W' u x := by
 obtain ⟨p, n, c, p', n', c', rfl, h1, h2⟩ := h
 exact ⟨p, n, c, p', n', c', rfl, rn_app h1 hg hn, rn_app h2 hg hn⟩
theorem zcells_no (k : Nat) : ∀ u ∈ (Builtin.zeroCells #[.bool false, .slice none 0 0, .slice none 0 0] k).toList, ∀ q z, u ≠ Value.int q z := by
 intro u hu q z
 unfold Builtin.zeroCells at hu
 rw [Array.toList_map, List.mem_map] at hu
 obtain ⟨i, _, rfl⟩ := hu
 have h3 : i % (#[Value.bool false, .slice none 0 0, .slice none 0 0] : Array Value).size < 3 := Nat.mod_lt _ (by decide)
 generalize i % (#[Value.bool false, .slice none 0 0, .slice none 0 0] : Array Value).size = j at h3
 match j, h3 with
 | 0, _ => simp
 | 1, _ => simp
 | 2, _ => simp
theorem append_no {w : World} {i : TypeInfo} (hi : Tryz.prog.info? 28 = some i) (hz : i.zero = some (.agg #[.bool false, .slice none 0 0, .slice none 0 0])) (hs : i.size = 3) (hby : i.bytes = 56) {base : Nat} {v : Value} {n : Nat} {xs : List Value} (hown : w.ownsRow base 28 3 v n xs) (hno : NoI w v) (hxs : ∀ u ∈ xs, ∀ q z, u ≠ Value.int q z)
 {ty : TypeId} {a : Addr} {c : Nat} {news : List Value} (hl : news.length = 3) (hnews : ∀ j u, news[j]? = some u → w.cell? (a.add j) = some u) (h1 : ∀ u ∈ news, u.oneCell' = true) (hin : ∀ u ∈ news, ∀ q z, u ≠ Value.int q z) (hn : n ≤ 1000000)
 {v' : Value} {w' : World} (hr : (Builtin.append_ #[65, 65] ty #[v, .slice (some a) 1 c]).run Tryz.prog w = .ok v' w') : NoI w' v' := by
 have fresh : ∀ (l : List Value) (k : Nat) (n' c' : Nat), (∀ u ∈ l, ∀ q z, u ≠ Value.int q z) → ∀ cs : Array Value, cs.toList = l ++ (Builtin.zeroCells #[.bool false, .slice none 0 0, .slice none 0 0] k).toList → NoI (w.drew.alloc (.cells cs 28)) (.slice (some ⟨w.heap.size, 0, none⟩) n' c') := by
  intro l k n' c' hl cs hcs g hg
  obtain rfl : w.heap.size = g := by simpa [Value.ownBlock] using hg
  refine ⟨_, _, heap_alloc_new w.drew _, fun u hu => ?_⟩
  rw [hcs] at hu
  rcases List.mem_append.1 hu with h | h
  · exact hl u h
  · exact zcells_no k u h
 rcases hown.2 with ⟨rfl, rfl⟩ | ⟨g, cap, cur, rfl, hbg, hg, hnc, hcm, hcs, htake⟩
 · rw [run_append_nil (P := Tryz.prog) w 65 ty 28 i _ Tryz.underlying65 hi hz a 1 c news (by rw [hl, hs]) hnews (by omega) (by omega) (by rw [hby]; omega)] at hr
   cases hr
   exact fresh news _ _ _ hin _ (by rw [Array.toList_append]; rfl)
 · by_cases hroom : n + 1 ≤ cap
   · have hfit : n * i.size + news.length ≤ cur.size := by rw [hl, hcs, hs]; omega
     rw [run_append_room (P := Tryz.prog) w 65 ty 28 i Tryz.underlying65 hi g n cap cur hg a 1 c news (by rw [hl, hs]) hnews h1 hroom hfit] at hr
     cases hr
     intro g' hg'
     obtain rfl : g = g' := by simpa [Value.ownBlock] using hg'
     refine ⟨_, _, setRow_heap w g cur _ 28 _ hg, fun u hu => ?_⟩
     obtain ⟨cur0, fr0, h5, h6⟩ := hno g rfl
     rw [hg] at h5
     cases h5
     rcases List.mem_append.1 (by simpa using hu : u ∈ (cur.toList.take (n * i.size) ++ news) ++ cur.toList.drop (n * i.size + news.length)) with h | h
     · rcases List.mem_append.1 h with h | h
       · exact h6 u (List.mem_of_mem_take h)
       · exact hin u h
     · exact h6 u (List.mem_of_mem_drop h)
   · have holds : ∀ j u, xs[j]? = some u → w.cell? ((⟨g, 0, none⟩ : Addr).add j) = some u := hown.cells (g := g) rfl
     rw [run_append_grow (P := Tryz.prog) w 65 ty 28 i _ Tryz.underlying65 hi hz ⟨g, 0, none⟩ n cap xs (by rw [hown.1, hs]) holds a 1 c news (by rw [hl, hs]) hnews (by omega) (by omega) (growslice_fits (by omega) (by rw [hby]; omega))] at hr
     cases hr
     refine fresh (xs ++ news) _ _ _ (fun u hu => ?_) _ (by rw [Array.toList_append, Array.toList_append]; rfl)
     rcases List.mem_append.1 hu with h | h
     · exact hxs u h
     · exact hin u h
theorem evs_no (l : List Ev) : ∀ u ∈ evs l, ∀ q z, u ≠ Value.int q z := by
 intro u hu q z
 unfold evs at hu
 rw [List.mem_flatMap] at hu
 obtain ⟨e, _, he⟩ := hu
 simp [Ev.cells] at he
 rcases he with rfl | rfl | rfl <;> simp
/-- A fraction is appended to the row. -/
theorem push_no {ops : Array Oper} {rest : List Oper} {o : Oper} {a : Act} {Q : Exit → Act → World → Prop} (hgd : o.guard = none) (s x : Operand)
 (ho : o.op = .call { callee := .builtin .append, args := #[s, x], argTypes := #[65, 65] }) (B : Nat) (W : World) (v : Value) (l : List Ev) (p : Ev) (cs : Array Value) (hcs : cs.toList = p.cells)
 (hs : a.eval s = v) (hown : W.ownsRow B 28 3 v l.length (evs l)) (hno : NoI W v) (hB : B ≤ W.heap.size) (g : Nat) (hgW : W.heap.size = g) (hx : a.eval x = .slice (some ⟨g, 0, none⟩) 1 1) (hlen : l.length ≤ 1000000)
 (h : ∀ v' W', W'.ownsRow B 28 3 v' (l ++ [p]).length (evs (l ++ [p])) → NoI W' v' → (W.alloc (.cells cs 28)).grownBy W' v.ownBlock → Below B W W' → wpList Tryz.prog ops Q rest (a.put o.dst v') W') :
 wpList Tryz.prog ops Q (o :: rest) a (W.alloc (.cells cs 28)) := by
 obtain ⟨i0, hi, hz0, hz1, hz2⟩ := info_parts Tryz.infoRat
 subst hgW
 have hl := hown.lt
 have hc : ∀ j, (W.alloc (.cells cs 28)).cell? ⟨W.heap.size, j, none⟩ = cs[j]? := fun j => (Blk.new W 28 cs).cell j
 have hB' : B ≤ (W.alloc (.cells cs 28)).heap.size := by simp; omega
 have hnews : ∀ j u, p.cells[j]? = some u → (W.alloc (.cells cs 28)).cell? ((⟨W.heap.size, 0, none⟩ : Addr).add j) = some u := by
  intro j u hj
  have e : (⟨W.heap.size, 0, none⟩ : Addr).add j = ⟨W.heap.size, j, none⟩ := by unfold Addr.add; split <;> simp_all
  rw [e, hc, ← hj, ← hcs, Array.getElem?_toList]
 have hone : ∀ u ∈ p.cells, u.oneCell' = true := by intro u hu; simp [Ev.cells] at hu; rcases hu with rfl | rfl | rfl <;> rfl
 have hown1 := hown.alloc (.cells cs 28)
 have hno1 : NoI (W.alloc (.cells cs 28)) v := hno.below ((Below.refl _ W).alloc (Nat.le_refl _) _) (Nat.le_refl _)
 refine wpList_plain hgd fun K hK => ?_
 obtain ⟨v', w', hr, h2, h3, h4, h5⟩ := run_append_own_at (P := Tryz.prog) _ B 65 o.type 28 i0 _ 3 56 Tryz.underlying65 hi hz0 hz1 hz2 rfl (by decide) v l.length _ hown1 ⟨W.heap.size, 0, none⟩ 1 1 p.cells rfl hnews hone (by unfold maxLen; omega) (by omega) hB'
 have h6 := append_no hi hz0 hz1 hz2 hown1 hno1 (evs_no l) rfl hnews hone (by intro u hu q z; simp [Ev.cells] at hu; rcases hu with rfl | rfl | rfl <;> simp) hlen hr
 unfold Oper.wp execOp
 simp only [ho, resolve, invoke, builtin, Sem.run_bind, Sem.run_pure, Result.andThen_ok, List.map_toArray, List.map_cons, List.map_nil, hs, hx, hr]
 refine hK _ _ (h v' w' ?_ h6 h3 (((Below.refl B W).alloc hB _).grown h3 hB' (fun k hk => (hl k hk).1)))
 rw [evs_snoc, List.length_append]
 exact h2
end Go.Proofs.YtllmacokhjmdgaaGreatDoor
