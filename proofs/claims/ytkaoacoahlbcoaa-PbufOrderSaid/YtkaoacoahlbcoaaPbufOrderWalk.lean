/-
  The walk of PbufOrder: for every two texts it returns true, and leaves what lay in memory as it was.
-/
import Derived.Test.YtkaoacoahlbcoaaAlive10
import Derived.Test.YtkaoacoahlbcoaaFieldsOk
namespace Go.Proofs.Ytkaoacoahlbcoaa
open Go.RowKit
theorem bcell {W w1 : World} (hb : Below W.heap.size W w1) : (∀ b o, b < W.heap.size → w1.cell? ⟨b, o, none⟩ = W.cell? ⟨b, o, none⟩) ∧ (∀ b o, b < W.heap.size → w1.frozen? ⟨b, o, none⟩ = W.frozen? ⟨b, o, none⟩) :=
  ⟨fun b o h => hb.cell (p := ⟨b, o, none⟩) h, fun b o h => hb.frozen (p := ⟨b, o, none⟩) h⟩
def dC (c q : Int) : Array Value := #[.int .i64 c, .int .i64 q, .string ⟨#[]⟩]
theorem box_cells {W w1 : World} (c q : Int) (h : Below (W.heap.size + 1) (W.alloc (.cells (dC c q) 39)) w1) : w1.cell? ⟨W.heap.size, 0, none⟩ = some (.int .i64 c) ∧ w1.cell? ⟨W.heap.size, 1, none⟩ = some (.int .i64 q) := by
  have hb := (Blk.new W 39 (dC c q)).below h (by omega)
  have h0 := hb.cell 0; have h1 := hb.cell 1
  exact ⟨h0, h1⟩
set_option maxRecDepth 100000 in
set_option maxHeartbeats 4000000 in
theorem pbufOrder.walk (a0 : ByteArray) (a1 : ByteArray) (w0 : a0.size ≤ maxLen) (w1 : a1.size ≤ maxLen) (w : World) :
    Calls Try.prog 6 #[.string a0, .string a1] w fun e w' => e = .returned (.bool true) ∧ Below w.heap.size w w' := by
  unfold maxLen at w0 w1
  by_cases h0 : 1000 < a0.size
  · go_enter Try.func6, Try.ntmps6
    go_wp2_with fail
    refine (alive_any _).mono ?_
    rintro e w1 ⟨rfl, hb⟩
    go_wp2
    go_ret
    exact ⟨rfl, hb⟩
  · by_cases h1 : 1000 < a1.size
    · go_enter Try.func6, Try.ntmps6
      go_wp2_with fail
      refine (alive_any _).mono ?_
      rintro e w1 ⟨rfl, hb⟩
      go_wp2
      go_ret
      exact ⟨rfl, hb⟩
    · have hadd : ∀ wx, (Op.stringOp .add a0 a1).run Try.prog wx = .ok (.string (a0 ++ a1)) wx := fun wx => run_string_add_sum wx _ _ (by omega)
      have hsz : (a0 ++ a1).size = a0.size + a1.size := by simp
      have Hsz : Hid ((a0 ++ a1).size ≤ 1000000) := Lib.hid (by omega)
      obtain ⟨la, ha | ⟨ca, qa, ha⟩⟩ := pall_shape a0
      · have happ := pall_app a0 a1 la (by omega) ha
        obtain ⟨lb, hb | ⟨cb, qb, hb⟩⟩ := pall_shape a1
        · -- both are whole
          have e3 : pall (a0 ++ a1) = (la ++ lb.map (fun p => (p.1, a0.size + p.2))).map Pt.pair := by
            rw [happ, hb, List.map_append, List.map_map, List.map_map]; rfl
          obtain ⟨ln, hln⟩ : ∃ ln, la ++ lb.map (fun p => (p.1, a0.size + p.2)) = ln := ⟨_, rfl⟩
          have hlen : ln.length = la.length + lb.length := by rw [← hln]; simp
          rw [hln] at e3
          have HA := Lib.hid (fun w => fields_ok a0 (by omega) la ha w)
          have HB := Lib.hid (fun w => fields_ok a1 (by omega) lb hb w)
          have HN := Lib.hid (fun w => fields_ok (a0 ++ a1) Hsz.out ln e3 w)
          have Hln := Lib.hid hln; have Hlen := Lib.hid hlen
          have hla1 : la.length ≤ 1000 := by have := (pall_len a0 (by omega)).1; rw [ha] at this; simp at this; omega
          have hlb1 : lb.length ≤ 1000 := by have := (pall_len a1 (by omega)).1; rw [hb] at this; simp at this; omega
          have hpl : ∀ p ∈ lb, p.2 < 1000 := fun p hp => by
            have := (pall_len a1 (by omega)).2 (.ok p.1 p.2) (by rw [hb]; exact List.mem_map.2 ⟨p, hp, rfl⟩)
            simp only [Pt.pl] at this
            omega
          have Hpl := Lib.hid hpl
          clear ha hb happ e3 hln hsz hlen hpl
          go_enter Try.func6, Try.ntmps6
          go_wp2_with fail
          refine (alive_any _).mono ?_
          rintro e w1 ⟨rfl, b1⟩
          go_wp2_with fail
          refine (HA.out _).mono ?_
          rintro e w2 ⟨xa, na, rfl, fa, b2⟩
          go_wp2_with fail
          refine (HB.out _).mono ?_
          rintro e w3 ⟨xb, nb, rfl, fb, b3⟩
          have b3' : Below (w2.heap.size + 1) (w2.alloc (.cells (dC 0 0) 39)) w3 := by have := b3; rw [World.size_alloc] at this; exact this
          obtain ⟨d30, d31⟩ := box_cells 0 0 b3'
          have k3 : Below w2.heap.size w2 w3 := ((Below.refl _ _).alloc (Nat.le_refl _) _).trans (b3'.mono (by omega))
          have z3 : w2.heap.size < w3.heap.size := by have := b3'.size; simp at this; omega
          have fa3 := Lib.hid (fa.below k3)
          have c2 := b1.trans (b2.mono b1.size)
          have c3 := c2.trans (k3.mono c2.size)
          have Fb := Lib.hid fb
          have FB3 := Lib.hid b3'
          clear fa b1 b2 b3 b3' k3 c2 fb
          go_wp2_with fail
          refine (HN.out _).mono ?_
          rintro e w4 ⟨xn, nn, rfl, fn, b4⟩
          have b4' : Below (w3.heap.size + 1) (w3.alloc (.cells (dC 0 0) 39)) w4 := by have := b4; rw [World.size_alloc] at this; exact this
          obtain ⟨e40, e41⟩ := box_cells 0 0 b4'
          have k4 : Below w3.heap.size w3 w4 := ((Below.refl _ _).alloc (Nat.le_refl _) _).trans (b4'.mono (by omega))
          have z4 : w3.heap.size < w4.heap.size := by have := b4'.size; simp at this; omega
          have d40 : w4.cell? ⟨w2.heap.size, 0, none⟩ = some (.int .i64 0) := ((bcell k4).1 _ _ z3).trans d30
          have fa4 := Lib.hid (fa3.out.below k4)
          have fb4 := Lib.hid (Fb.out.below k4)
          have c4 := c3.trans (k4.mono c3.size)
          have Fn := Lib.hid fn
          rw [Hlen.out]
          clear b4 b4' k4 c3 fn fa3 Fb FB3 d30 d31
          go_wp2_with fail
          go_loopw [11] (fun i wr => ∃ j : Nat, i = .int .i64 (j : Int) ∧ j ≤ la.length + lb.length ∧ Below w4.heap.size w4 wr) (fun i _ => (la.length + lb.length) - (intOf i).toNat)
          case atStart => exact ⟨0, rfl, by omega, (Below.refl _ _).alloc (Nat.le_refl _) _⟩
          case round =>
            obtain ⟨j, rfl, hj, hbr⟩ := hrel
            by_cases hlt : j < la.length + lb.length
            · obtain ⟨p, hp⟩ : ∃ p, ln[j]? = some p := ⟨_, List.getElem?_eq_getElem (by rw [Hlen.out]; exact hlt)⟩
              obtain ⟨gn, hxn, hgn, hcn⟩ := (Fn.out.below hbr) j p hp
              subst hxn
              obtain ⟨f, k⟩ := p
              have n0 := hcn 0 _ rfl; have n1 := hcn 1 _ rfl; have n2 := hcn 2 _ rfl; have n3 := hcn 3 _ rfl; have n4 := hcn 4 _ rfl
              simp only [Nat.add_zero] at n0
              by_cases hja : j < la.length
              · have hpa : la[j]? = some (f, k) := by rw [← hp, ← Hln.out, List.getElem?_append_left hja]
                obtain ⟨ga, hxa, hga, hca⟩ := (fa4.out.below hbr) j (f, k) hpa
                subst hxa
                have m0 := hca 0 _ rfl; have m1 := hca 1 _ rfl; have m2 := hca 2 _ rfl; have m3 := hca 3 _ rfl; have m4 := hca 4 _ rfl
                simp only [Nat.add_zero] at m0
                have Hp := Lib.hid hp
                clear hcn hca hp hpa
                go_wp2
                go_quiet (fail)
                go_wp2
                go_roundw
                case rel => first | exact ⟨j + 1, by go_num, by omega, below_drewN (hbr.alloc hbr.size _) _⟩ | ((repeat apply Exists.intro); exact ⟨⟨j + 1, by go_num, by omega, below_drewN (hbr.alloc hbr.size _) _⟩, rfl⟩)
                case measure => simp [intOf]; omega
              · have hq : (lb.map (fun p : Fd × Nat => (p.1, a0.size + p.2)))[j - la.length]? = some (f, k) := by rw [← hp, ← Hln.out, List.getElem?_append_right (by omega)]
                rw [List.getElem?_map, Option.map_eq_some_iff] at hq
                obtain ⟨⟨f', k'⟩, hq1, hq2⟩ := hq
                simp only [Prod.mk.injEq] at hq2
                obtain ⟨rfl, rfl⟩ := hq2
                obtain ⟨gb, hxb, hgb, hcb⟩ := (fb4.out.below hbr) (j - la.length) (f', k') hq1
                subst hxb
                have m0 := hcb 0 _ rfl; have m1 := hcb 1 _ rfl; have m2 := hcb 2 _ rfl; have m3 := hcb 3 _ rfl; have m4 := hcb 4 _ rfl
                simp only [Nat.add_zero] at m0
                have hk' : k' < 1000 := Hpl.out (f', k') (List.mem_of_getElem? hq1)
                obtain ⟨i, hi⟩ : ∃ i, j - la.length = i := ⟨_, rfl⟩
                rw [hi] at m0 m1 m2 m3 m4
                have hji : (j : Int) - (la.length : Int) = (i : Int) := by omega
                have hi2 : i < lb.length := by omega
                have hi3 : (i : Int) < (lb.length : Int) := by omega
                have e2 : ((a0.size + k' : Nat) : Int) = (k' : Int) + (a0.size : Int) := by omega
                have n2' : wr.cell? ⟨gn, j * 5 + 2, none⟩ = some (.int .i64 ((k' : Int) + (a0.size : Int))) := by rw [n2]; exact congrArg (fun x => some (Value.int .i64 x)) e2
                clear hcn hcb hp hq1 hi n2 e2
                go_wp2
                go_quiet (fail)
                go_wp2
                go_roundw
                case rel => first | exact ⟨j + 1, by go_num, by omega, below_drewN (hbr.alloc hbr.size _) _⟩ | ((repeat apply Exists.intro); exact ⟨⟨j + 1, by go_num, by omega, below_drewN (hbr.alloc hbr.size _) _⟩, rfl⟩)
                case measure => simp [intOf]; omega
            · go_wp2
              go_ret
              exact ⟨rfl, c4.trans (hbr.mono c4.size)⟩
        · -- the second text is spoilt
          have hbad : pall (a0 ++ a1) = (la ++ lb.map (fun p => (p.1, a0.size + p.2))).map Pt.pair ++ [.bad cb (a0.size + qb)] := by
            rw [happ, hb, List.map_append, List.map_append, List.map_map, List.map_map, List.append_assoc]; rfl
          obtain ⟨C, hC⟩ : ∃ C : Int, ((cb + 1 : Nat) : Int) = C := ⟨_, rfl⟩
          obtain ⟨Q, hQ⟩ : ∃ Q : Int, (qb : Int) = Q := ⟨_, rfl⟩
          have HA := Lib.hid (fun w => fields_ok a0 (by omega) la ha w)
          have HB := Lib.hid (fun w => fields_bad a1 (by omega) lb cb qb C Q hb hC hQ w)
          have HN := Lib.hid (fun w => fields_bad (a0 ++ a1) Hsz.out _ cb (a0.size + qb) C (Q + a0.size) hbad hC (by rw [← hQ]; simp; omega) w)
          have hC1 : 1 ≤ C := by omega
          have hC2 : (C != 0) = true := by simp; omega
          clear hC hsz
          have hQ0 : 0 ≤ Q := by omega
          have hQ1 : Q ≤ 1000 := by
            have := (pall_len a1 (by omega)).2 (.bad cb qb) (by rw [hb]; simp)
            simp only [Pt.pl] at this
            omega
          clear ha hb happ hbad hQ
          go_enter Try.func6, Try.ntmps6
          go_wp2_with fail
          refine (alive_any _).mono ?_
          rintro e w1 ⟨rfl, b1⟩
          go_wp2_with fail
          refine (HA.out _).mono ?_
          rintro e w2 ⟨xa, na, rfl, fa, b2⟩
          go_wp2_with fail
          refine (HB.out _).mono ?_
          rintro e w3 ⟨rfl, b3⟩
          have b3' : Below (w2.heap.size + 1) (w2.alloc (.cells (dC 0 0) 39)) w3 := by have := b3; rw [World.size_alloc] at this; exact this
          obtain ⟨d30, d31⟩ := box_cells 0 0 b3'
          have k3 : Below w2.heap.size w2 w3 := ((Below.refl _ _).alloc (Nat.le_refl _) _).trans (b3'.mono (by omega))
          have z3 : w2.heap.size < w3.heap.size := by have := b3'.size; simp at this; omega
          have c2 := b1.trans (b2.mono b1.size)
          have c3 := c2.trans (k3.mono c2.size)
          clear fa b1 b2 b3 b3' k3 c2
          go_wp2_with fail
          refine (HN.out _).mono ?_
          rintro e w4 ⟨rfl, b4⟩
          have b4' : Below (w3.heap.size + 1) (w3.alloc (.cells (dC C Q) 39)) w4 := by have := b4; rw [World.size_alloc] at this; exact this
          obtain ⟨e40, e41⟩ := box_cells C Q b4'
          have k4 : Below w3.heap.size w3 w4 := ((Below.refl _ _).alloc (Nat.le_refl _) _).trans (b4'.mono (by omega))
          have z4 : w3.heap.size < w4.heap.size := by have := b4'.size; simp at this; omega
          have c4 := c3.trans (k4.mono c3.size)
          clear b4 b4' k4 c3 d30 d31
          go_wp2
          go_ret
          exact ⟨rfl, c4.alloc c4.size _⟩
      · -- the first text is spoilt
        obtain ⟨C, hC⟩ : ∃ C : Int, ((ca + 1 : Nat) : Int) = C := ⟨_, rfl⟩
        obtain ⟨Q, hQ⟩ : ∃ Q : Int, (qa : Int) = Q := ⟨_, rfl⟩
        have HA := Lib.hid (fun w => fields_bad a0 (by omega) la ca qa C Q ha hC hQ w)
        have hC1 : 1 ≤ C := by omega
        have hC2 : (C != 0) = true := by simp; omega
        have HB := Lib.hid (fun w => fields_any a1 (by omega) w)
        clear ha hC hQ
        go_enter Try.func6, Try.ntmps6
        go_wp2_with fail
        refine (alive_any _).mono ?_
        rintro e w1 ⟨rfl, b1⟩
        go_wp2_with fail
        refine (HA.out _).mono ?_
        rintro e w2 ⟨rfl, b2⟩
        have c2 := b1.trans (b2.mono b1.size)
        clear b1 b2
        go_wp2_with fail
        refine (HB.out _).mono ?_
        rintro e w3 ⟨hres, b3⟩
        have b3' : Below (w2.heap.size + 1) (w2.alloc (.cells (dC C Q) 39)) w3 := by have := b3; rw [World.size_alloc] at this; exact this
        obtain ⟨d30, d31⟩ := box_cells C Q b3'
        have k3 : Below w2.heap.size w2 w3 := ((Below.refl _ _).alloc (Nat.le_refl _) _).trans (b3'.mono (by omega))
        have z3 : w2.heap.size < w3.heap.size := by have := b3'.size; simp at this; omega
        have c3 := c2.trans (k3.mono c2.size)
        clear b3 b3' k3 c2
        rcases hres with ⟨l, v, h1, rfl, h2⟩ | ⟨l, c, q, h1, rfl⟩
        · clear h1 h2
          unfold diagV
          go_wp2
          go_ret
          exact ⟨rfl, c3.alloc c3.size _⟩
        · clear h1
          unfold diagV
          go_wp2
          go_ret
          exact ⟨rfl, c3.alloc c3.size _⟩
end Go.Proofs.Ytkaoacoahlbcoaa
