/-
  Law 7: the cutter puts a token behind those that it has.
-/
import Derived.Test.YtkebjllehegjlaaGreatDoorXc
import Derived.Laws.AppendOwn
import Derived.OwnWalk
import Derived.WalkMore
import Derived.BigQuiet
namespace Go.Proofs.YtkebjllehegjlaaGreatDoor
open Go.RowKit Go.Shelf
set_option linter.unusedVariables false
theorem Tryz.infoTok : (Tryz.prog.info? 33).map (fun i => (i.zero, i.size, i.bytes)) = some (some (.agg #[.int .i64 0, .int .i64 0, .string ⟨#[]⟩, .string ⟨#[]⟩, .slice none 0 0, .bool false]), 6, 80) := by kernel_rfl
theorem slice_of {W : World} {b : Nat} {e : TypeId} {s : Nat} {v : Value} {n : Nat} {xs : List Value} (h : W.ownsRow b e s v n xs) : ∃ a m c, v = .slice a m c := by
  obtain ⟨hl, ⟨rfl, hn⟩ | ⟨g, cap, cur, rfl, _⟩⟩ := h
  · exact ⟨none, 0, 0, rfl⟩
  · exact ⟨_, _, _, rfl⟩
/-- A token's cells. -/
def tkC (K A : Int) (nm tx : ByteArray) (a : Option Addr) (l c : Nat) (em : Bool) : List Value := [.int .i64 K, .int .i64 A, .string nm, .string tx, .slice a l c, .bool em]
/-- One token more, at a step of a region that draws its order. -/
theorem step_push_tok {ops : Array Oper} {o : Oper} {a : Act} {Kp : Act → World → Prop} {Q : Exit → Act → World → Prop} {E : Prop} (hgd : o.guard = none) (s x : Operand)
    (ho : o.op = .call { callee := .builtin .append, args := #[s, x], argTypes := #[24, 24] }) (B : Nat) (W : World) (v : Value) (n : Nat) (xs : List Value) (K A : Int) (nm tx : ByteArray) (aa : Option Addr) (al ac : Nat) (em : Bool) (cs : Array Value) (hcs : cs.toList = tkC K A nm tx aa al ac em)
    (hs : a.eval s = v) (hown : W.ownsRow B 33 6 v n xs) (hB : B ≤ W.heap.size) (g : Nat) (hgW : W.heap.size = g) (hx : a.eval x = .slice (some ⟨g, 0, none⟩) 1 1) (hlen : n ≤ 1000000)
    (m : Nat) (t : TypeId) (ms : Array Value) (k : Nat) (u : Value) (hm : Blk W m t ms) (hk : ms[k]? = some u) (hne : v.ownBlock ≠ some m)
    (h : ∀ va vn vc W', W'.ownsRow B 33 6 (.slice va vn vc) (n + 1) (xs ++ tkC K A nm tx aa al ac em) → (W.alloc (.cells cs 33)).grownBy W' v.ownBlock → W'.cell? ⟨m, k, none⟩ = some u → W'.frozen? ⟨m, k, none⟩ = false → Kp (a.put o.dst (.slice va vn vc)) W') :
    if Region.wanted o (yielded ops a.tmps) = true then Oper.wp Tryz.prog o a (W.alloc (.cells cs 33)) Kp Q else E := by
  have hw : Region.wanted o (yielded ops a.tmps) = true := by simp [Region.wanted, hgd]
  rw [if_pos hw]
  obtain ⟨i0, hi, hz0, hz1, hz2⟩ := info_parts Tryz.infoTok
  subst hgW
  have hc : ∀ j, (W.alloc (.cells cs 33)).cell? ⟨W.heap.size, j, none⟩ = cs[j]? := fun j => (Blk.new W 33 cs).cell j
  have hB' : B ≤ (W.alloc (.cells cs 33)).heap.size := by simp; omega
  refine wp_append_own _ s x 24 ho B 33 i0 (.agg #[.int .i64 0, .int .i64 0, .string ⟨#[]⟩, .string ⟨#[]⟩, .slice none 0 0, .bool false]) 6 80 Tryz.underlying24 hi hz0 hz1 hz2 rfl (by decide) v n xs hs (hown.alloc _) ⟨W.heap.size, 0, none⟩ 1 1 (tkC K A nm tx aa al ac em) hx rfl ?_ ?_ ?_ ?_ hB' ?_
  · intro j u hj
    have e : (⟨W.heap.size, 0, none⟩ : Addr).add j = ⟨W.heap.size, j, none⟩ := by unfold Addr.add; split <;> simp_all
    rw [e, hc, ← hj, ← hcs, Array.getElem?_toList]
  · intro u hu; unfold tkC at hu; simp at hu; rcases hu with rfl | rfl | rfl | rfl | rfl | rfl <;> rfl
  · unfold maxLen; omega
  · omega
  · intro v' W' hown' hg _
    have hm' : Blk W' m t ms := (hm.alloc _).kept hg (fun e => hne e.symm)
    obtain ⟨va, vn, vc, rfl⟩ := slice_of hown'
    exact h va vn vc W' hown' hg ((hm'.cell k).trans hk) (hm'.frozen k)
/-- The tokens' row: of the call's own from B on, and not where the cutter lies. -/
structure Row (B b : Nat) (W : World) (tk : Value) (n : Nat) (xs : List Value) : Prop where
  own : W.ownsRow B 33 6 tk n xs
  ne : tk.ownBlock ≠ some b
theorem Row.kept {B b n : Nat} {W W' : World} {tk : Value} {xs : List Value} (h : Row B b W tk n xs) (hg : W.grownBy W' (some b)) : Row B b W' tk n xs := ⟨h.own.kept hg (.inr h.ne), h.ne⟩
/-- What put leaves: one token more, and all else where it was. -/
structure Put (B b : Nat) (s : ByteArray) (k : Nat) (tk : Value) (x : Int) (n : Nat) (xs : List Value) (W w' : World) : Prop where
  os : w'.os = W.os
  tape : w'.tape = W.tape
  output : w'.output = W.output
  size : W.heap.size ≤ w'.heap.size
  far : ∀ g, g < W.heap.size → g ≠ b → tk.ownBlock ≠ some g → w'.heap[g]? = W.heap[g]?
  toks : ∃ tk', Blk w' b 45 #[.string s, .int .i64 (k : Int), tk', .int .i64 x] ∧ Row B b w' tk' (n + 1) xs
set_option maxRecDepth 100000 in
set_option maxHeartbeats 4000000 in
theorem putt_any {w W : World} {b k : Nat} {s : ByteArray} {tk : Value} {x : Int} (h : Cu w b s k tk x W) (K A : Int) (nm tx : ByteArray) (aa : Option Addr) (al ac : Nat) (em : Bool) (hc : K ≠ 3 ∨ tx.toList.isEmpty = false) (B n : Nat) (xs : List Value) (hr : Row B b W tk n xs) (hB : B ≤ W.heap.size) (hn : n ≤ 1000000) :
    Calls Tryz.prog 35 #[.pointer (some ⟨b, 0, none⟩), .agg #[.int .i64 K, .int .i64 A, .string nm, .string tx, .slice aa al ac, .bool em]] W fun e w' => e = .returned (.bool true) ∧ Put B b s k tk x n (xs ++ tkC K A nm tx aa al ac em) W w' := by
  have hbl := h.box.lt
  have hrl := hr.own.lt
  have key : ∀ (v' : Value) (D W' : World), D.heap.size = W.heap.size + 1 → (∀ g, g < W.heap.size → D.heap[g]? = W.heap[g]?) → D.os = W.os → D.tape = W.tape → D.output = W.output → W'.ownsRow B 33 6 v' (n + 1) (xs ++ tkC K A nm tx aa al ac em) → (D.alloc (.cells #[.int .i64 K, .int .i64 A, .string nm, .string tx, .slice aa al ac, .bool em] 33)).grownBy W' tk.ownBlock → Put B b s k tk x n (xs ++ tkC K A nm tx aa al ac em) W (W'.setCell ⟨b, 2, none⟩ v') := by
    intro v' D W' hD hDg d1 d2 d3 hown hg
    have hfar : ∀ g, g < W.heap.size → tk.ownBlock ≠ some g → W'.heap[g]? = W.heap[g]? := fun g hgl hne => by
      rw [hg.block g (by simp; omega) (fun e => hne e.symm), Lib.alloc_old D _ g (by omega)]
      exact hDg g hgl
    have hb4 : Blk W' b 45 #[.string s, .int .i64 (k : Int), tk, .int .i64 x] := (hfar b hbl hr.ne).trans h.box
    have hne' : v'.ownBlock ≠ some b := by
      intro e
      obtain ⟨_, ⟨rfl, _⟩ | ⟨g, cap, cur, rfl, _, hgb, _⟩⟩ := hown
      · cases e
      · have e2 : g = b := by injection e
        rw [e2] at hgb
        rw [show W'.heap[b]? = _ from hb4] at hgb
        injection hgb with hgb
        injection hgb with _ hgt _
        exact absurd hgt (by decide)
    refine ⟨hg.os.trans d1, hg.tape.trans d2, hg.output.trans d3, ?_, ?_, v', hb4.set_ 2 v', ⟨hown.kept (grown_set (grown_self W' (some b)) 2 v') (.inr hne'), hne'⟩⟩
    · rw [World.size_setCell]
      have := hg.size
      simp at this
      omega
    · intro g hgl h1 h2
      exact (Below.heap_setCell W' ⟨b, 2, none⟩ v' g h1).trans (hfar g hgl h2)
  have HK := Lib.hid key
  have HO := Lib.hid hr.own
  have c2 := h.c2
  have HH := Lib.hid h
  have bx := Blk.new W 33 #[.int .i64 K, .int .i64 A, .string nm, .string tx, .slice aa al ac, .bool em]
  have Hbx := Lib.hid bx
  have q0 := bx.cell 0; have q1 := bx.cell 1; have q2 := bx.cell 2; have q3 := bx.cell 3; have q4 := bx.cell 4; have q5 := bx.cell 5
  simp only [List.getElem?_toArray, List.getElem?_cons_zero, List.getElem?_cons_succ] at q0 q1 q2 q3 q4 q5
  have c2a := (h.below ((Below.refl _ _).alloc (Nat.le_refl _) (.cells #[.int .i64 K, .int .i64 A, .string nm, .string tx, .slice aa al ac, .bool em] 33))).c2
  have f2a := (h.below ((Below.refl _ _).alloc (Nat.le_refl _) (.cells #[.int .i64 K, .int .i64 A, .string nm, .string tx, .slice aa al ac, .bool em] 33))).f 2
  have hne := hr.ne
  have hBd : B ≤ ((W.alloc (.cells #[.int .i64 K, .int .i64 A, .string nm, .string tx, .slice aa al ac, .bool em] 33)).drew).heap.size := by simp; omega
  have HOd : Hid (((W.alloc (.cells #[.int .i64 K, .int .i64 A, .string nm, .string tx, .slice aa al ac, .bool em] 33)).drew).ownsRow B 33 6 tk n xs) := Lib.hid (hr.own.alloc _).drew
  have HM : Hid (Blk (W.alloc (.cells #[.int .i64 K, .int .i64 A, .string nm, .string tx, .slice aa al ac, .bool em] 33)).drew b 45 #[.string s, .int .i64 (k : Int), tk, .int .i64 x]) := Lib.hid (h.box.alloc _)
  have al0 : ∀ o, ((W.alloc (.cells #[.int .i64 K, .int .i64 A, .string nm, .string tx, .slice aa al ac, .bool em] 33)).alloc o).cell? ⟨b, 2, none⟩ = some tk := fun o => ((h.box.alloc _).alloc o).cell 2
  have ax0 : ∀ o, ((W.alloc (.cells #[.int .i64 K, .int .i64 A, .string nm, .string tx, .slice aa al ac, .bool em] 33)).alloc o).cell? ⟨W.heap.size, 0, none⟩ = some (.int .i64 K) := fun o => (bx.alloc o).cell 0
  have ax1 : ∀ o, ((W.alloc (.cells #[.int .i64 K, .int .i64 A, .string nm, .string tx, .slice aa al ac, .bool em] 33)).alloc o).cell? ⟨W.heap.size, 1, none⟩ = some (.int .i64 A) := fun o => (bx.alloc o).cell 1
  have ax2 : ∀ o, ((W.alloc (.cells #[.int .i64 K, .int .i64 A, .string nm, .string tx, .slice aa al ac, .bool em] 33)).alloc o).cell? ⟨W.heap.size, 2, none⟩ = some (.string nm) := fun o => (bx.alloc o).cell 2
  have ax3 : ∀ o, ((W.alloc (.cells #[.int .i64 K, .int .i64 A, .string nm, .string tx, .slice aa al ac, .bool em] 33)).alloc o).cell? ⟨W.heap.size, 3, none⟩ = some (.string tx) := fun o => (bx.alloc o).cell 3
  have ax4 : ∀ o, ((W.alloc (.cells #[.int .i64 K, .int .i64 A, .string nm, .string tx, .slice aa al ac, .bool em] 33)).alloc o).cell? ⟨W.heap.size, 4, none⟩ = some (.slice aa al ac) := fun o => (bx.alloc o).cell 4
  have ax5 : ∀ o, ((W.alloc (.cells #[.int .i64 K, .int .i64 A, .string nm, .string tx, .slice aa al ac, .bool em] 33)).alloc o).cell? ⟨W.heap.size, 5, none⟩ = some (.bool em) := fun o => (bx.alloc o).cell 5
  have HEnd : Hid (∀ v4 w4, w4.ownsRow B 33 6 v4 (n + 1) (xs ++ tkC K A nm tx aa al ac em) → (((W.alloc (.cells #[.int .i64 K, .int .i64 A, .string nm, .string tx, .slice aa al ac, .bool em] 33)).drew).alloc (.cells #[.int .i64 K, .int .i64 A, .string nm, .string tx, .slice aa al ac, .bool em] 33)).grownBy w4 tk.ownBlock → Put B b s k tk x n (xs ++ tkC K A nm tx aa al ac em) W (w4.setCell ⟨b, 2, none⟩ v4)) := Lib.hid (fun v4 w4 h1 h2 => key v4 ((W.alloc (.cells #[.int .i64 K, .int .i64 A, .string nm, .string tx, .slice aa al ac, .bool em] 33)).drew) w4 (by simp) (fun g hgl => Lib.alloc_old W _ g hgl) rfl rfl rfl h1 h2)
  clear key HK HH
  go_enter Tryz.func35, Tryz.ntmps35
  by_cases hK : K = 3
  · subst hK
    have hge := hc.resolve_left (fun h => h rfl)
    go_wp2_with fail
    go_region_law (first
      | (refine step_push_tok (by rfl) (.tmp 17) (.tmp 19) (by rfl) B _ tk n xs 3 A nm tx aa al ac em _ (by rfl) (by rfl) HOd.out hBd (W.heap.size + 1) (by simp) (by rfl) hn b 45 _ 2 _ HM.out rfl hne ?_; intro va vn vc w4 own4 b4 d1 df1))
    all_goals
      have HE := Lib.hid (HEnd.out _ _ own4 b4)
      clear own4 b4
      go_wp2_with fail
      go_ret
      exact ⟨rfl, HE.out⟩
  · have hge : (K == 3) = false := by simpa using hK
    go_wp2_with fail
    go_region_law (first
      | (refine step_push_tok (by rfl) (.tmp 17) (.tmp 19) (by rfl) B _ tk n xs K A nm tx aa al ac em _ (by rfl) (by rfl) HOd.out hBd (W.heap.size + 1) (by simp) (by rfl) hn b 45 _ 2 _ HM.out rfl hne ?_; intro va vn vc w4 own4 b4 d1 df1))
    all_goals
      have HE := Lib.hid (HEnd.out _ _ own4 b4)
      clear own4 b4
      go_wp2_with fail
      go_ret
      exact ⟨rfl, HE.out⟩
end Go.Proofs.YtkebjllehegjlaaGreatDoor
