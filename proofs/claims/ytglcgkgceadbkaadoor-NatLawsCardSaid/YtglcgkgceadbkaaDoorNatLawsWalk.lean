/-
  The walk of NatLaws: for every input it returns true, and leaves what lay in memory as it was.
-/
import Derived.Test.YtglcgkgceadbkaaDoorNLawsA
namespace Go.Proofs.YtglcgkgceadbkaaDoor
open Go.RowKit
set_option linter.unusedVariables false
set_option maxRecDepth 100000 in
set_option maxHeartbeats 4000000 in
theorem natLaws.good0 (s t u : ByteArray) (hwf : WF s) (hwt : WF t) (hwu : WF u) (hs1 : s.size ≤ 200) (ht1 : t.size ≤ 200) (hu1 : u.size ≤ 200) (hB0 : dv t.data.toList = 0) (w : World) (htab : Tab w) :
    Calls Tryd.prog 3 #[.string s, .string t, .string u] w fun e w' => e = .returned (.bool true) ∧ Below w.heap.size w w' := by
  have HAl := Lib.hid (alive_any w htab)
  have HTab := Lib.hid htab
  obtain ⟨sz, hsz⟩ : ∃ sz, s.size = sz := ⟨_, rfl⟩
  have c1 : decide ((200 : Int) < (sz : Int)) = false := by simp; omega
  obtain ⟨tz, htz⟩ : ∃ tz, t.size = tz := ⟨_, rfl⟩
  have c2 : decide ((200 : Int) < (tz : Int)) = false := by simp; omega
  obtain ⟨uz, huz⟩ : ∃ uz, u.size = uz := ⟨_, rfl⟩
  have c3 : decide ((200 : Int) < (uz : Int)) = false := by simp; omega
  have LBo := lb_all 18446744073709551616 (by omega) (small200 hwf hs1) (small200 hwt ht1) (small200 hwu hu1)
  have HPs : Hid (∀ bx l W, At w bx l W → Calls Tryd.prog 5 #[.string s] W fun e w' => ∃ x y z, e = .returned (.tuple #[.agg #[.slice x y z], .int .i64 0]) ∧ At w bx ((.agg #[.slice x y z], dv s.data.toList) :: l) w') := Lib.hid (fun bx l W h => h.parse s hwf hs1)
  have HPt : Hid (∀ bx l W, At w bx l W → Calls Tryd.prog 5 #[.string t] W fun e w' => ∃ x y z, e = .returned (.tuple #[.agg #[.slice x y z], .int .i64 0]) ∧ At w bx ((.agg #[.slice x y z], dv t.data.toList) :: l) w') := Lib.hid (fun bx l W h => h.parse t hwt ht1)
  have HPu : Hid (∀ bx l W, At w bx l W → Calls Tryd.prog 5 #[.string u] W fun e w' => ∃ x y z, e = .returned (.tuple #[.agg #[.slice x y z], .int .i64 0]) ∧ At w bx ((.agg #[.slice x y z], dv u.data.toList) :: l) w') := Lib.hid (fun bx l W h => h.parse u hwu hu1)
  obtain ⟨A, hA⟩ : ∃ A, dv s.data.toList = A := ⟨_, rfl⟩
  rw [hA] at HPs LBo
  obtain ⟨B, hB⟩ : ∃ B, dv t.data.toList = B := ⟨_, rfl⟩
  rw [hB] at HPt LBo hB0
  obtain ⟨C, hC⟩ : ∃ C, dv u.data.toList = C := ⟨_, rfl⟩
  rw [hC] at HPu LBo
  have HLB := Lib.hid LBo
  subst hB0
  clear hwf hwt hwu htab hs1 ht1 hu1 LBo hA hC
  clear hB
  go_enter Tryd.func3, Tryd.ntmps3
  go_wp2_with fail
  refine HAl.out.mono ?_
  rintro e w1 ⟨rfl, hb1⟩
  have V1 := (At.refl w).below hb1
  clear hb1 HAl
  go_wp2_with fail
  refine (HPs.out _ _ _ V1).mono ?_
  rintro e w2 ⟨xa, ya, za, rfl, V2⟩
  replace V2 := V2.alloc (.slice xa ya za)
  obtain ⟨ba, hba⟩ : ∃ ba, w2.heap.size = ba := ⟨_, rfl⟩
  obtain ⟨W2, hW2⟩ : ∃ W2, w2.alloc (.cells #[.slice xa ya za] 25) = W2 := ⟨_, rfl⟩
  rw [hW2, hba] at V2
  have HW2 := Lib.hid hW2
  have Hba := Lib.hid hba
  clear V1 hW2 hba
  go_wp2_with fail
  rw [HW2.out, Hba.out]
  refine (HPt.out _ _ _ V2).mono ?_
  rintro e w3 ⟨xb, yb, zb, rfl, V3⟩
  replace V3 := V3.alloc (.slice xb yb zb)
  obtain ⟨bb, hbb⟩ : ∃ bb, w3.heap.size = bb := ⟨_, rfl⟩
  obtain ⟨W3, hW3⟩ : ∃ W3, w3.alloc (.cells #[.slice xb yb zb] 25) = W3 := ⟨_, rfl⟩
  rw [hW3, hbb] at V3
  have HW3 := Lib.hid hW3
  have Hbb := Lib.hid hbb
  clear V2 hW3 hbb
  go_wp2_with fail
  rw [HW3.out, Hbb.out]
  refine (HPu.out _ _ _ V3).mono ?_
  rintro e w4 ⟨xc, yc, zc, rfl, V4⟩
  replace V4 := V4.alloc (.slice xc yc zc)
  have qa := V4.cell 2 rfl
  have qb := V4.cell 1 rfl
  obtain ⟨bc, hbc⟩ : ∃ bc, w4.heap.size = bc := ⟨_, rfl⟩
  obtain ⟨W4, hW4⟩ : ∃ W4, w4.alloc (.cells #[.slice xc yc zc] 25) = W4 := ⟨_, rfl⟩
  rw [hW4, hbc] at V4
  have HW4 := Lib.hid hW4
  have Hbc := Lib.hid hbc
  clear V3 hW4 hbc
  go_wp2_with fail
  rw [HW4.out, Hbc.out]
  refine (V4.dvm0 2 1 rfl rfl).mono ?_
  rintro e w5 ⟨rfl, V5⟩
  replace V5 := (V5.alloc (.slice none 0 0)).alloc (.slice none 0 0)
  rw [World.size_alloc] at V5
  obtain ⟨bq, hbq⟩ : ∃ bq, w5.heap.size = bq := ⟨_, rfl⟩
  obtain ⟨W5, hW5⟩ : ∃ W5, (w5.alloc (.cells #[.slice none 0 0] 25)).alloc (.cells #[.slice none 0 0] 25) = W5 := ⟨_, rfl⟩
  rw [hW5, hbq] at V5
  have HW5 := Lib.hid hW5
  have Hbq := Lib.hid hbq
  clear V4 hW5 hbq qa qb
  go_upto_region 10 with fail
  rw [HW5.out, Hbq.out]
  go_cut [17, 18] from 69 to 77 (fun d is wx => ∃ (bd : Nat) (xd : Option Addr) (yd zd : Nat) (vs : Value), d = .pointer (some ⟨bd, 0, none⟩) ∧ is = .bool true ∧ Hid (At w ((bd, .slice xd yd zd) :: [(bq + 1, .slice none 0 0), (bq, .slice none 0 0), (bc, .slice xc yc zc), (bb, .slice xb yb zb), (ba, .slice xa ya za)]) ((.agg #[.slice xd yd zd], A) :: (vs, A + 0) :: [(.agg #[.slice xc yc zc], C), (.agg #[.slice xb yb zb], 0), (.agg #[.slice xa ya za], A)]) wx))
  case first =>
    have V5d := V5.drew
    clear V5
    go_wp2_with fail
    refine wp_region_held_drew (S := (fun w' => w'.cell? ⟨ba, 0, none⟩ = some (.slice xa ya za) ∧ w'.cell? ⟨bb, 0, none⟩ = some (.slice xb yb zb))) (by kernel_rfl) ?_ (fun hHeld => ?_)
    · exact ⟨V5d.cell 4 rfl, V5d.cell 3 rfl⟩
    refine wpAnyH_take (i := 0) (oi := { dst := some 70, op := Op.load 25 (Operand.tmp 7), type := 25, pos := "law.go:175", after := #[], guard := none }) (v := ?_) rfl (by kernel_rfl) (by kernel_rfl) (by kernel_rfl) (fun _ _ _ h => h) (Or.inl ⟨by rfl, ?_⟩) (by assumption) ?_
    rotate_left
    · intro w hSw; (try dsimp only at hSw); go_simp; (try with_reducible rfl)
    try simp only [Act.put, List.setIfInBounds_toArray, List.set_cons_zero, List.set_cons_succ]
    refine wpAnyH_take (i := 1) (oi := { dst := some 71, op := Op.load 25 (Operand.tmp 9), type := 25, pos := "law.go:175", after := #[], guard := none }) (v := ?_) rfl (by kernel_rfl) (by kernel_rfl) (by kernel_rfl) (fun _ _ _ h => h) (Or.inl ⟨by rfl, ?_⟩) (by assumption) ?_
    rotate_left
    · intro w hSw; (try dsimp only at hSw); go_simp; (try with_reducible rfl)
    try simp only [Act.put, List.setIfInBounds_toArray, List.set_cons_zero, List.set_cons_succ]
    refine wpAnyH_take (i := 3) (oi := { dst := some 73, op := Op.load 25 (Operand.tmp 9), type := 25, pos := "law.go:175", after := #[], guard := none }) (v := ?_) rfl (by kernel_rfl) (by kernel_rfl) (by kernel_rfl) (fun _ _ _ h => h) (Or.inl ⟨by rfl, ?_⟩) (by assumption) ?_
    rotate_left
    · intro w hSw; (try dsimp only at hSw); go_simp; (try with_reducible rfl)
    try simp only [Act.put, List.setIfInBounds_toArray, List.set_cons_zero, List.set_cons_succ]
    refine wpAnyH_ready (rs := [2, 8]) (by kernel_rfl) (by simp) ?_
    refine (AllReadyH.cons (o := { dst := some 72, op := Op.call { callee := Callee.value (Operand.func 11), args := #[Operand.tmp 70, Operand.tmp 71], argTypes := #[25, 25] }, type := 25, pos := "law.go:175", after := #[{ on := 0, ground := Ground.data }, { on := 1, ground := Ground.data }], guard := none }) rfl (fun K hK => ?_) (AllReadyH.cons (o := { dst := some 17, op := Op.alloc 25, type := 0, pos := "law.go:175", after := #[], guard := none }) rfl (fun K hK => ?_) AllReadyH.nil))
    · go_simp
      go_at_call 11; refine (V5d.add 2 1 rfl rfl HLB.out.ab).mono ?_; rintro e ws ⟨xs, ys, zs, rfl, R2⟩
      refine hK.out _ _ ?_ (fun hHeld => ?_)
      · exact ⟨R2.cell 4 rfl, R2.cell 3 rfl⟩
      clear hK K
      try simp only [Act.put, List.setIfInBounds_toArray, List.set_cons_zero, List.set_cons_succ]
      refine wpAnyH_ready (rs := [4, 8]) (by kernel_rfl) (by simp) ?_
      refine (AllReadyH.cons (o := { dst := some 74, op := Op.call { callee := Callee.value (Operand.func 10), args := #[Operand.tmp 72, Operand.tmp 73], argTypes := #[25, 25] }, type := 34, pos := "law.go:175", after := #[{ on := 2, ground := Ground.data }, { on := 3, ground := Ground.data }, { on := 2, ground := Ground.chain }], guard := none }) rfl (fun K hK => ?_) (AllReadyH.cons (o := { dst := some 17, op := Op.alloc 25, type := 0, pos := "law.go:175", after := #[], guard := none }) rfl (fun K hK => ?_) AllReadyH.nil))
      · go_simp
        go_at_call 10; refine (R2.sub 0 2 rfl rfl HLB.out.le HLB.out.sub).mono ?_; rintro e wd ⟨xd, yd, zd, rfl, R2_4⟩
        refine hK.out _ _ ?_ (fun hHeld => ?_)
        · exact ⟨R2_4.cell 4 rfl, R2_4.cell 3 rfl⟩
        clear hK K
        try simp only [Act.put, List.setIfInBounds_toArray, List.set_cons_zero, List.set_cons_succ]
        refine wpAnyH_take (i := 5) (oi := { dst := some 69, op := Op.move (Operand.tmp 74), type := 34, pos := "law.go:175", after := #[{ on := 4, ground := Ground.data }], guard := none }) (v := ?_) rfl (by kernel_rfl) (by kernel_rfl) (by kernel_rfl) (fun _ _ _ h => h) (Or.inl ⟨by rfl, ?_⟩) (by assumption) ?_
        rotate_left
        · intro w hSw; (try dsimp only at hSw); go_simp; (try with_reducible rfl)
        try simp only [Act.put, List.setIfInBounds_toArray, List.set_cons_zero, List.set_cons_succ]
        refine wpAnyH_take (i := 6) (oi := { dst := some 75, op := Op.extract (Operand.tmp 69) 0, type := 25, pos := "law.go:175", after := #[{ on := 5, ground := Ground.data }], guard := none }) (v := ?_) rfl (by kernel_rfl) (by kernel_rfl) (by kernel_rfl) (fun _ _ _ h => h) (Or.inl ⟨by rfl, ?_⟩) (by assumption) ?_
        rotate_left
        · intro w hSw; (try dsimp only at hSw); go_simp; (try with_reducible rfl)
        try simp only [Act.put, List.setIfInBounds_toArray, List.set_cons_zero, List.set_cons_succ]
        refine wpAnyH_take (i := 7) (oi := { dst := some 76, op := Op.extract (Operand.tmp 69) 1, type := 4, pos := "law.go:175", after := #[{ on := 5, ground := Ground.data }, { on := 9, ground := Ground.gcOnly Departure.lateStores }], guard := none }) (v := ?_) rfl (by kernel_rfl) (by kernel_rfl) (by kernel_rfl) (fun _ _ _ h => h) (Or.inl ⟨by rfl, ?_⟩) (by assumption) ?_
        rotate_left
        · intro w hSw; (try dsimp only at hSw); go_simp; (try with_reducible rfl)
        try simp only [Act.put, List.setIfInBounds_toArray, List.set_cons_zero, List.set_cons_succ]
        refine wpAnyH_ready (rs := [8]) (by kernel_rfl) (by simp) ?_
        refine (AllReadyH.cons (o := { dst := some 17, op := Op.alloc 25, type := 0, pos := "law.go:175", after := #[], guard := none }) rfl (fun K hK => ?_) AllReadyH.nil)
        have R2_4_8 := R2_4.alloc (.slice none 0 0)
        go_wp2_with fail
        refine hK.out _ _ ?_ (fun hHeld => ?_)
        · exact ⟨R2_4_8.cell 5 rfl, R2_4_8.cell 4 rfl⟩
        clear hK K
        try simp only [Act.put, List.setIfInBounds_toArray, List.set_cons_zero, List.set_cons_succ]
        refine wpAnyH_ready (rs := [9]) (by kernel_rfl) (by simp) ?_
        refine (AllReadyH.cons (o := { dst := none, op := Op.store 25 (Operand.tmp 17) (Operand.tmp 75), type := 0, pos := "law.go:175", after := #[{ on := 8, ground := Ground.data }, { on := 6, ground := Ground.data }, { on := 4, ground := Ground.chain }, { on := 0, ground := Ground.phase }, { on := 1, ground := Ground.phase }, { on := 2, ground := Ground.phase }, { on := 3, ground := Ground.phase }, { on := 4, ground := Ground.phase }, { on := 5, ground := Ground.phase }, { on := 6, ground := Ground.phase }, { on := 7, ground := Ground.textOnly Departure.lateStores }, { on := 8, ground := Ground.phase }], guard := none }) rfl (fun K hK => ?_) AllReadyH.nil)
        have R2_4_8_9 := R2_4_8.set (.slice xd yd zd)
        refine if_wanted rfl ?_
        refine wp_store_box (Operand.tmp 17) (Operand.tmp 75) rfl rfl _ (.slice none 0 0) rfl rfl (R2_4_8.box 0 _ _ rfl).1 ?_
        refine hK.out _ _ ?_ (fun hHeld => ?_)
        · exact ⟨R2_4_8_9.cell 5 rfl, R2_4_8_9.cell 4 rfl⟩
        clear hK K
        try simp only [Act.put, List.setIfInBounds_toArray, List.set_cons_zero, List.set_cons_succ]
        refine wpAnyH_take (i := 10) (oi := { dst := some 18, op := Op.assign (Operand.tmp 76), type := 4, pos := "law.go:175", after := #[{ on := 7, ground := Ground.data }, { on := 9, ground := Ground.chain }, { on := 0, ground := Ground.phase }, { on := 1, ground := Ground.phase }, { on := 2, ground := Ground.phase }, { on := 3, ground := Ground.phase }, { on := 4, ground := Ground.phase }, { on := 5, ground := Ground.phase }, { on := 6, ground := Ground.phase }, { on := 7, ground := Ground.phase }, { on := 8, ground := Ground.phase }, { on := 9, ground := Ground.phase }], guard := none }) (v := ?_) rfl (by kernel_rfl) (by kernel_rfl) (by kernel_rfl) (fun _ _ _ h => h) (Or.inl ⟨by rfl, ?_⟩) (by assumption) ?_
        rotate_left
        · intro w hSw; (try dsimp only at hSw); go_simp; (try with_reducible rfl)
        try simp only [Act.put, List.setIfInBounds_toArray, List.set_cons_zero, List.set_cons_succ]
        refine wpAnyH_done (by kernel_rfl) ?_ _
        have HR := Lib.hid R2_4_8_9
        clear V5d R2 R2_4 R2_4_8 R2_4_8_9
        go_wp2_with fail
        go_meet
        case rel => exact ⟨_, _, _, _, _, rfl, rfl, HR⟩
      · have R2_8 := R2.alloc (.slice none 0 0)
        go_wp2_with fail
        refine hK.out _ _ ?_ (fun hHeld => ?_)
        · exact ⟨R2_8.cell 5 rfl, R2_8.cell 4 rfl⟩
        clear hK K
        try simp only [Act.put, List.setIfInBounds_toArray, List.set_cons_zero, List.set_cons_succ]
        refine wpAnyH_ready (rs := [4]) (by kernel_rfl) (by simp) ?_
        refine (AllReadyH.cons (o := { dst := some 74, op := Op.call { callee := Callee.value (Operand.func 10), args := #[Operand.tmp 72, Operand.tmp 73], argTypes := #[25, 25] }, type := 34, pos := "law.go:175", after := #[{ on := 2, ground := Ground.data }, { on := 3, ground := Ground.data }, { on := 2, ground := Ground.chain }], guard := none }) rfl (fun K hK => ?_) AllReadyH.nil)
        go_simp
        go_at_call 10; refine (R2_8.sub 0 2 rfl rfl HLB.out.le HLB.out.sub).mono ?_; rintro e wd ⟨xd, yd, zd, rfl, R2_8_4⟩
        refine hK.out _ _ ?_ (fun hHeld => ?_)
        · exact ⟨R2_8_4.cell 5 rfl, R2_8_4.cell 4 rfl⟩
        clear hK K
        try simp only [Act.put, List.setIfInBounds_toArray, List.set_cons_zero, List.set_cons_succ]
        refine wpAnyH_take (i := 5) (oi := { dst := some 69, op := Op.move (Operand.tmp 74), type := 34, pos := "law.go:175", after := #[{ on := 4, ground := Ground.data }], guard := none }) (v := ?_) rfl (by kernel_rfl) (by kernel_rfl) (by kernel_rfl) (fun _ _ _ h => h) (Or.inl ⟨by rfl, ?_⟩) (by assumption) ?_
        rotate_left
        · intro w hSw; (try dsimp only at hSw); go_simp; (try with_reducible rfl)
        try simp only [Act.put, List.setIfInBounds_toArray, List.set_cons_zero, List.set_cons_succ]
        refine wpAnyH_take (i := 6) (oi := { dst := some 75, op := Op.extract (Operand.tmp 69) 0, type := 25, pos := "law.go:175", after := #[{ on := 5, ground := Ground.data }], guard := none }) (v := ?_) rfl (by kernel_rfl) (by kernel_rfl) (by kernel_rfl) (fun _ _ _ h => h) (Or.inl ⟨by rfl, ?_⟩) (by assumption) ?_
        rotate_left
        · intro w hSw; (try dsimp only at hSw); go_simp; (try with_reducible rfl)
        try simp only [Act.put, List.setIfInBounds_toArray, List.set_cons_zero, List.set_cons_succ]
        refine wpAnyH_take (i := 7) (oi := { dst := some 76, op := Op.extract (Operand.tmp 69) 1, type := 4, pos := "law.go:175", after := #[{ on := 5, ground := Ground.data }, { on := 9, ground := Ground.gcOnly Departure.lateStores }], guard := none }) (v := ?_) rfl (by kernel_rfl) (by kernel_rfl) (by kernel_rfl) (fun _ _ _ h => h) (Or.inl ⟨by rfl, ?_⟩) (by assumption) ?_
        rotate_left
        · intro w hSw; (try dsimp only at hSw); go_simp; (try with_reducible rfl)
        try simp only [Act.put, List.setIfInBounds_toArray, List.set_cons_zero, List.set_cons_succ]
        refine wpAnyH_ready (rs := [9]) (by kernel_rfl) (by simp) ?_
        refine (AllReadyH.cons (o := { dst := none, op := Op.store 25 (Operand.tmp 17) (Operand.tmp 75), type := 0, pos := "law.go:175", after := #[{ on := 8, ground := Ground.data }, { on := 6, ground := Ground.data }, { on := 4, ground := Ground.chain }, { on := 0, ground := Ground.phase }, { on := 1, ground := Ground.phase }, { on := 2, ground := Ground.phase }, { on := 3, ground := Ground.phase }, { on := 4, ground := Ground.phase }, { on := 5, ground := Ground.phase }, { on := 6, ground := Ground.phase }, { on := 7, ground := Ground.textOnly Departure.lateStores }, { on := 8, ground := Ground.phase }], guard := none }) rfl (fun K hK => ?_) AllReadyH.nil)
        have R2_8_4_9 := R2_8_4.set (.slice xd yd zd)
        refine if_wanted rfl ?_
        refine wp_store_box (Operand.tmp 17) (Operand.tmp 75) rfl rfl _ (.slice none 0 0) rfl rfl (R2_8_4.box 0 _ _ rfl).1 ?_
        refine hK.out _ _ ?_ (fun hHeld => ?_)
        · exact ⟨R2_8_4_9.cell 5 rfl, R2_8_4_9.cell 4 rfl⟩
        clear hK K
        try simp only [Act.put, List.setIfInBounds_toArray, List.set_cons_zero, List.set_cons_succ]
        refine wpAnyH_take (i := 10) (oi := { dst := some 18, op := Op.assign (Operand.tmp 76), type := 4, pos := "law.go:175", after := #[{ on := 7, ground := Ground.data }, { on := 9, ground := Ground.chain }, { on := 0, ground := Ground.phase }, { on := 1, ground := Ground.phase }, { on := 2, ground := Ground.phase }, { on := 3, ground := Ground.phase }, { on := 4, ground := Ground.phase }, { on := 5, ground := Ground.phase }, { on := 6, ground := Ground.phase }, { on := 7, ground := Ground.phase }, { on := 8, ground := Ground.phase }, { on := 9, ground := Ground.phase }], guard := none }) (v := ?_) rfl (by kernel_rfl) (by kernel_rfl) (by kernel_rfl) (fun _ _ _ h => h) (Or.inl ⟨by rfl, ?_⟩) (by assumption) ?_
        rotate_left
        · intro w hSw; (try dsimp only at hSw); go_simp; (try with_reducible rfl)
        try simp only [Act.put, List.setIfInBounds_toArray, List.set_cons_zero, List.set_cons_succ]
        refine wpAnyH_done (by kernel_rfl) ?_ _
        have HR := Lib.hid R2_8_4_9
        clear V5d R2 R2_8 R2_8_4 R2_8_4_9
        go_wp2_with fail
        go_meet
        case rel => exact ⟨_, _, _, _, _, rfl, rfl, HR⟩
    · have R8 := V5d.alloc (.slice none 0 0)
      go_wp2_with fail
      refine hK.out _ _ ?_ (fun hHeld => ?_)
      · exact ⟨R8.cell 5 rfl, R8.cell 4 rfl⟩
      clear hK K
      try simp only [Act.put, List.setIfInBounds_toArray, List.set_cons_zero, List.set_cons_succ]
      refine wpAnyH_ready (rs := [2]) (by kernel_rfl) (by simp) ?_
      refine (AllReadyH.cons (o := { dst := some 72, op := Op.call { callee := Callee.value (Operand.func 11), args := #[Operand.tmp 70, Operand.tmp 71], argTypes := #[25, 25] }, type := 25, pos := "law.go:175", after := #[{ on := 0, ground := Ground.data }, { on := 1, ground := Ground.data }], guard := none }) rfl (fun K hK => ?_) AllReadyH.nil)
      go_simp
      go_at_call 11; refine (R8.add 2 1 rfl rfl HLB.out.ab).mono ?_; rintro e ws ⟨xs, ys, zs, rfl, R8_2⟩
      refine hK.out _ _ ?_ (fun hHeld => ?_)
      · exact ⟨R8_2.cell 5 rfl, R8_2.cell 4 rfl⟩
      clear hK K
      try simp only [Act.put, List.setIfInBounds_toArray, List.set_cons_zero, List.set_cons_succ]
      refine wpAnyH_ready (rs := [4]) (by kernel_rfl) (by simp) ?_
      refine (AllReadyH.cons (o := { dst := some 74, op := Op.call { callee := Callee.value (Operand.func 10), args := #[Operand.tmp 72, Operand.tmp 73], argTypes := #[25, 25] }, type := 34, pos := "law.go:175", after := #[{ on := 2, ground := Ground.data }, { on := 3, ground := Ground.data }, { on := 2, ground := Ground.chain }], guard := none }) rfl (fun K hK => ?_) AllReadyH.nil)
      go_simp
      go_at_call 10; refine (R8_2.sub 0 2 rfl rfl HLB.out.le HLB.out.sub).mono ?_; rintro e wd ⟨xd, yd, zd, rfl, R8_2_4⟩
      refine hK.out _ _ ?_ (fun hHeld => ?_)
      · exact ⟨R8_2_4.cell 5 rfl, R8_2_4.cell 4 rfl⟩
      clear hK K
      try simp only [Act.put, List.setIfInBounds_toArray, List.set_cons_zero, List.set_cons_succ]
      refine wpAnyH_take (i := 5) (oi := { dst := some 69, op := Op.move (Operand.tmp 74), type := 34, pos := "law.go:175", after := #[{ on := 4, ground := Ground.data }], guard := none }) (v := ?_) rfl (by kernel_rfl) (by kernel_rfl) (by kernel_rfl) (fun _ _ _ h => h) (Or.inl ⟨by rfl, ?_⟩) (by assumption) ?_
      rotate_left
      · intro w hSw; (try dsimp only at hSw); go_simp; (try with_reducible rfl)
      try simp only [Act.put, List.setIfInBounds_toArray, List.set_cons_zero, List.set_cons_succ]
      refine wpAnyH_take (i := 6) (oi := { dst := some 75, op := Op.extract (Operand.tmp 69) 0, type := 25, pos := "law.go:175", after := #[{ on := 5, ground := Ground.data }], guard := none }) (v := ?_) rfl (by kernel_rfl) (by kernel_rfl) (by kernel_rfl) (fun _ _ _ h => h) (Or.inl ⟨by rfl, ?_⟩) (by assumption) ?_
      rotate_left
      · intro w hSw; (try dsimp only at hSw); go_simp; (try with_reducible rfl)
      try simp only [Act.put, List.setIfInBounds_toArray, List.set_cons_zero, List.set_cons_succ]
      refine wpAnyH_take (i := 7) (oi := { dst := some 76, op := Op.extract (Operand.tmp 69) 1, type := 4, pos := "law.go:175", after := #[{ on := 5, ground := Ground.data }, { on := 9, ground := Ground.gcOnly Departure.lateStores }], guard := none }) (v := ?_) rfl (by kernel_rfl) (by kernel_rfl) (by kernel_rfl) (fun _ _ _ h => h) (Or.inl ⟨by rfl, ?_⟩) (by assumption) ?_
      rotate_left
      · intro w hSw; (try dsimp only at hSw); go_simp; (try with_reducible rfl)
      try simp only [Act.put, List.setIfInBounds_toArray, List.set_cons_zero, List.set_cons_succ]
      refine wpAnyH_ready (rs := [9]) (by kernel_rfl) (by simp) ?_
      refine (AllReadyH.cons (o := { dst := none, op := Op.store 25 (Operand.tmp 17) (Operand.tmp 75), type := 0, pos := "law.go:175", after := #[{ on := 8, ground := Ground.data }, { on := 6, ground := Ground.data }, { on := 4, ground := Ground.chain }, { on := 0, ground := Ground.phase }, { on := 1, ground := Ground.phase }, { on := 2, ground := Ground.phase }, { on := 3, ground := Ground.phase }, { on := 4, ground := Ground.phase }, { on := 5, ground := Ground.phase }, { on := 6, ground := Ground.phase }, { on := 7, ground := Ground.textOnly Departure.lateStores }, { on := 8, ground := Ground.phase }], guard := none }) rfl (fun K hK => ?_) AllReadyH.nil)
      have R8_2_4_9 := R8_2_4.set (.slice xd yd zd)
      refine if_wanted rfl ?_
      refine wp_store_box (Operand.tmp 17) (Operand.tmp 75) rfl rfl _ (.slice none 0 0) rfl rfl (R8_2_4.box 0 _ _ rfl).1 ?_
      refine hK.out _ _ ?_ (fun hHeld => ?_)
      · exact ⟨R8_2_4_9.cell 5 rfl, R8_2_4_9.cell 4 rfl⟩
      clear hK K
      try simp only [Act.put, List.setIfInBounds_toArray, List.set_cons_zero, List.set_cons_succ]
      refine wpAnyH_take (i := 10) (oi := { dst := some 18, op := Op.assign (Operand.tmp 76), type := 4, pos := "law.go:175", after := #[{ on := 7, ground := Ground.data }, { on := 9, ground := Ground.chain }, { on := 0, ground := Ground.phase }, { on := 1, ground := Ground.phase }, { on := 2, ground := Ground.phase }, { on := 3, ground := Ground.phase }, { on := 4, ground := Ground.phase }, { on := 5, ground := Ground.phase }, { on := 6, ground := Ground.phase }, { on := 7, ground := Ground.phase }, { on := 8, ground := Ground.phase }, { on := 9, ground := Ground.phase }], guard := none }) (v := ?_) rfl (by kernel_rfl) (by kernel_rfl) (by kernel_rfl) (fun _ _ _ h => h) (Or.inl ⟨by rfl, ?_⟩) (by assumption) ?_
      rotate_left
      · intro w hSw; (try dsimp only at hSw); go_simp; (try with_reducible rfl)
      try simp only [Act.put, List.setIfInBounds_toArray, List.set_cons_zero, List.set_cons_succ]
      refine wpAnyH_done (by kernel_rfl) ?_ _
      have HR := Lib.hid R8_2_4_9
      clear V5d R8 R8_2 R8_2_4 R8_2_4_9
      go_wp2_with fail
      go_meet
      case rel => exact ⟨_, _, _, _, _, rfl, rfl, HR⟩
  case rest =>
    obtain ⟨bd, xd, yd, zd, vs, rfl, rfl, HR⟩ := hcut
    have V0 := HR.out.drew
    clear HR V5
    go_wp2_with fail
    have HS : Hid (∀ l W, At w ((bd, .slice xd yd zd) :: [(bq + 1, .slice none 0 0), (bq, .slice none 0 0), (bc, .slice xc yc zc), (bb, .slice xb yb zb), (ba, .slice xa ya za)]) l W → W.cell? ⟨ba, 0, none⟩ = some (.slice xa ya za) ∧ W.cell? ⟨bb, 0, none⟩ = some (.slice xb yb zb) ∧ W.cell? ⟨bc, 0, none⟩ = some (.slice xc yc zc) ∧ W.cell? ⟨bd, 0, none⟩ = some (.slice xd yd zd)) := Lib.hid (fun l W h => ⟨h.cell 5 rfl, h.cell 4 rfl, h.cell 3 rfl, h.cell 0 rfl⟩)
    refine wp_region_held_drew (S := (fun w' => w'.cell? ⟨ba, 0, none⟩ = some (.slice xa ya za) ∧ w'.cell? ⟨bb, 0, none⟩ = some (.slice xb yb zb) ∧ w'.cell? ⟨bc, 0, none⟩ = some (.slice xc yc zc) ∧ w'.cell? ⟨bd, 0, none⟩ = some (.slice xd yd zd))) (by kernel_rfl) ?_ (fun hHeld => ?_)
    · exact HS.out _ _ V0
    refine wpAnyH_take (i := 0) (oi := { dst := some 77, op := Op.move (Operand.tmp 13), type := 31, pos := "law.go:176", after := #[], guard := none }) (v := ?_) rfl (by kernel_rfl) (by kernel_rfl) (by kernel_rfl) (fun _ _ _ h => h) (Or.inl ⟨by rfl, ?_⟩) (by assumption) ?_
    rotate_left
    · intro w hSw; (try dsimp only at hSw); go_simp; (try with_reducible rfl)
    try simp only [Act.put, List.setIfInBounds_toArray, List.set_cons_zero, List.set_cons_succ]
    refine wpAnyH_take (i := 1) (oi := { dst := some 78, op := Op.load 25 (Operand.tmp 7), type := 25, pos := "law.go:176", after := #[], guard := none }) (v := ?_) rfl (by kernel_rfl) (by kernel_rfl) (by kernel_rfl) (fun _ _ _ h => h) (Or.inl ⟨by rfl, ?_⟩) (by assumption) ?_
    rotate_left
    · intro w hSw; (try dsimp only at hSw); go_simp; (try with_reducible rfl)
    try simp only [Act.put, List.setIfInBounds_toArray, List.set_cons_zero, List.set_cons_succ]
    refine wpAnyH_take (i := 2) (oi := { dst := some 79, op := Op.load 25 (Operand.tmp 9), type := 25, pos := "law.go:176", after := #[], guard := none }) (v := ?_) rfl (by kernel_rfl) (by kernel_rfl) (by kernel_rfl) (fun _ _ _ h => h) (Or.inl ⟨by rfl, ?_⟩) (by assumption) ?_
    rotate_left
    · intro w hSw; (try dsimp only at hSw); go_simp; (try with_reducible rfl)
    try simp only [Act.put, List.setIfInBounds_toArray, List.set_cons_zero, List.set_cons_succ]
    refine wpAnyH_take (i := 4) (oi := { dst := some 81, op := Op.load 25 (Operand.tmp 9), type := 25, pos := "law.go:176", after := #[], guard := none }) (v := ?_) rfl (by kernel_rfl) (by kernel_rfl) (by kernel_rfl) (fun _ _ _ h => h) (Or.inl ⟨by rfl, ?_⟩) (by assumption) ?_
    rotate_left
    · intro w hSw; (try dsimp only at hSw); go_simp; (try with_reducible rfl)
    try simp only [Act.put, List.setIfInBounds_toArray, List.set_cons_zero, List.set_cons_succ]
    refine wpAnyH_take (i := 5) (oi := { dst := some 82, op := Op.load 25 (Operand.tmp 7), type := 25, pos := "law.go:176", after := #[], guard := none }) (v := ?_) rfl (by kernel_rfl) (by kernel_rfl) (by kernel_rfl) (fun _ _ _ h => h) (Or.inl ⟨by rfl, ?_⟩) (by assumption) ?_
    rotate_left
    · intro w hSw; (try dsimp only at hSw); go_simp; (try with_reducible rfl)
    try simp only [Act.put, List.setIfInBounds_toArray, List.set_cons_zero, List.set_cons_succ]
    refine wpAnyH_ready (rs := [3]) (by kernel_rfl) (by simp) ?_
    refine AllReadyH.cons (o := { dst := some 80, op := Op.call { callee := Callee.value (Operand.func 11), args := #[Operand.tmp 78, Operand.tmp 79], argTypes := #[25, 25] }, type := 25, pos := "law.go:176", after := #[{ on := 1, ground := Ground.data }, { on := 2, ground := Ground.data }], guard := none }) rfl (fun K hK => ?_) AllReadyH.nil
    go_simp
    go_at_call 11; refine (V0.add 4 3 rfl rfl HLB.out.ab).mono ?_; rintro e wa3 ⟨x3, y3, z3, rfl, V3⟩; clear V0
    refine hK.out _ _ ?_ (fun hHeld => ?_)
    · exact HS.out _ _ ‹_›
    clear hK K
    try simp only [Act.put, List.setIfInBounds_toArray, List.set_cons_zero, List.set_cons_succ]
    refine wpAnyH_ready (rs := [6]) (by kernel_rfl) (by simp) ?_
    refine AllReadyH.cons (o := { dst := some 83, op := Op.call { callee := Callee.value (Operand.func 11), args := #[Operand.tmp 81, Operand.tmp 82], argTypes := #[25, 25] }, type := 25, pos := "law.go:176", after := #[{ on := 4, ground := Ground.data }, { on := 5, ground := Ground.data }, { on := 3, ground := Ground.chain }], guard := none }) rfl (fun K hK => ?_) AllReadyH.nil
    go_simp
    go_at_call 11; refine (V3.add 4 5 rfl rfl HLB.out.ba).mono ?_; rintro e wa6 ⟨x6, y6, z6, rfl, V6⟩; clear V3
    refine hK.out _ _ ?_ (fun hHeld => ?_)
    · exact HS.out _ _ ‹_›
    clear hK K
    try simp only [Act.put, List.setIfInBounds_toArray, List.set_cons_zero, List.set_cons_succ]
    refine wpAnyH_ready (rs := [7]) (by kernel_rfl) (by simp) ?_
    refine AllReadyH.cons (o := { dst := some 84, op := Op.call { callee := Callee.value (Operand.tmp 77), args := #[Operand.tmp 80, Operand.tmp 83], argTypes := #[25, 25] }, type := 4, pos := "law.go:176", after := #[{ on := 0, ground := Ground.data }, { on := 3, ground := Ground.data }, { on := 6, ground := Ground.data }, { on := 6, ground := Ground.chain }], guard := none }) rfl (fun K hK => ?_) AllReadyH.nil
    go_simp
    go_at_call 6; refine (V6.eq 1 0 rfl rfl HTab.out).mono ?_; rintro e wa7 ⟨rfl, V7⟩; clear V6
    refine hK.out _ _ ?_ (fun hHeld => ?_)
    · exact HS.out _ _ ‹_›
    clear hK K
    try simp only [Act.put, List.setIfInBounds_toArray, List.set_cons_zero, List.set_cons_succ]
    refine wpAnyH_take (i := 8) (oi := { dst := some 85, op := Op.move (Operand.tmp 84), type := 4, pos := "law.go:176", after := #[{ on := 7, ground := Ground.data }, { on := 7, ground := Ground.chain }], guard := none }) (v := ?_) rfl (by kernel_rfl) (by kernel_rfl) (by kernel_rfl) (fun _ _ _ h => h) (Or.inl ⟨by rfl, ?_⟩) (by assumption) ?_
    rotate_left
    · intro w hSw; (try dsimp only at hSw); go_simp; (try with_reducible rfl)
    try simp only [Act.put, List.setIfInBounds_toArray, List.set_cons_zero, List.set_cons_succ]
    refine wpAnyH_take (i := 9) (oi := { dst := some 86, op := Op.move (Operand.tmp 13), type := 31, pos := "law.go:176", after := #[{ on := 8, ground := Ground.guard }], guard := some (8, true) }) (v := ?_) rfl (by kernel_rfl) (by kernel_rfl) (by kernel_rfl) (fun _ _ _ h => h) (Or.inl ⟨by rfl, ?_⟩) (by assumption) ?_
    rotate_left
    · intro w hSw; (try dsimp only at hSw); go_simp; (try with_reducible rfl)
    try simp only [Act.put, List.setIfInBounds_toArray, List.set_cons_zero, List.set_cons_succ]
    refine wpAnyH_take (i := 10) (oi := { dst := some 87, op := Op.load 25 (Operand.tmp 7), type := 25, pos := "law.go:176", after := #[{ on := 8, ground := Ground.guard }], guard := some (8, true) }) (v := ?_) rfl (by kernel_rfl) (by kernel_rfl) (by kernel_rfl) (fun _ _ _ h => h) (Or.inl ⟨by rfl, ?_⟩) (by assumption) ?_
    rotate_left
    · intro w hSw; (try dsimp only at hSw); go_simp; (try with_reducible rfl)
    try simp only [Act.put, List.setIfInBounds_toArray, List.set_cons_zero, List.set_cons_succ]
    refine wpAnyH_take (i := 11) (oi := { dst := some 88, op := Op.load 25 (Operand.tmp 9), type := 25, pos := "law.go:176", after := #[{ on := 8, ground := Ground.guard }], guard := some (8, true) }) (v := ?_) rfl (by kernel_rfl) (by kernel_rfl) (by kernel_rfl) (fun _ _ _ h => h) (Or.inl ⟨by rfl, ?_⟩) (by assumption) ?_
    rotate_left
    · intro w hSw; (try dsimp only at hSw); go_simp; (try with_reducible rfl)
    try simp only [Act.put, List.setIfInBounds_toArray, List.set_cons_zero, List.set_cons_succ]
    refine wpAnyH_take (i := 12) (oi := { dst := some 89, op := Op.load 25 (Operand.tmp 11), type := 25, pos := "law.go:176", after := #[{ on := 8, ground := Ground.guard }], guard := some (8, true) }) (v := ?_) rfl (by kernel_rfl) (by kernel_rfl) (by kernel_rfl) (fun _ _ _ h => h) (Or.inl ⟨by rfl, ?_⟩) (by assumption) ?_
    rotate_left
    · intro w hSw; (try dsimp only at hSw); go_simp; (try with_reducible rfl)
    try simp only [Act.put, List.setIfInBounds_toArray, List.set_cons_zero, List.set_cons_succ]
    refine wpAnyH_take (i := 15) (oi := { dst := some 92, op := Op.load 25 (Operand.tmp 7), type := 25, pos := "law.go:176", after := #[{ on := 8, ground := Ground.guard }], guard := some (8, true) }) (v := ?_) rfl (by kernel_rfl) (by kernel_rfl) (by kernel_rfl) (fun _ _ _ h => h) (Or.inl ⟨by rfl, ?_⟩) (by assumption) ?_
    rotate_left
    · intro w hSw; (try dsimp only at hSw); go_simp; (try with_reducible rfl)
    try simp only [Act.put, List.setIfInBounds_toArray, List.set_cons_zero, List.set_cons_succ]
    refine wpAnyH_take (i := 16) (oi := { dst := some 93, op := Op.load 25 (Operand.tmp 9), type := 25, pos := "law.go:176", after := #[{ on := 8, ground := Ground.guard }], guard := some (8, true) }) (v := ?_) rfl (by kernel_rfl) (by kernel_rfl) (by kernel_rfl) (fun _ _ _ h => h) (Or.inl ⟨by rfl, ?_⟩) (by assumption) ?_
    rotate_left
    · intro w hSw; (try dsimp only at hSw); go_simp; (try with_reducible rfl)
    try simp only [Act.put, List.setIfInBounds_toArray, List.set_cons_zero, List.set_cons_succ]
    refine wpAnyH_take (i := 18) (oi := { dst := some 95, op := Op.load 25 (Operand.tmp 7), type := 25, pos := "law.go:176", after := #[{ on := 8, ground := Ground.guard }], guard := some (8, true) }) (v := ?_) rfl (by kernel_rfl) (by kernel_rfl) (by kernel_rfl) (fun _ _ _ h => h) (Or.inl ⟨by rfl, ?_⟩) (by assumption) ?_
    rotate_left
    · intro w hSw; (try dsimp only at hSw); go_simp; (try with_reducible rfl)
    try simp only [Act.put, List.setIfInBounds_toArray, List.set_cons_zero, List.set_cons_succ]
    refine wpAnyH_take (i := 19) (oi := { dst := some 96, op := Op.load 25 (Operand.tmp 11), type := 25, pos := "law.go:176", after := #[{ on := 8, ground := Ground.guard }], guard := some (8, true) }) (v := ?_) rfl (by kernel_rfl) (by kernel_rfl) (by kernel_rfl) (fun _ _ _ h => h) (Or.inl ⟨by rfl, ?_⟩) (by assumption) ?_
    rotate_left
    · intro w hSw; (try dsimp only at hSw); go_simp; (try with_reducible rfl)
    try simp only [Act.put, List.setIfInBounds_toArray, List.set_cons_zero, List.set_cons_succ]
    refine wpAnyH_ready (rs := [13]) (by kernel_rfl) (by simp) ?_
    refine AllReadyH.cons (o := { dst := some 90, op := Op.call { callee := Callee.value (Operand.func 11), args := #[Operand.tmp 88, Operand.tmp 89], argTypes := #[25, 25] }, type := 25, pos := "law.go:176", after := #[{ on := 11, ground := Ground.data }, { on := 12, ground := Ground.data }, { on := 8, ground := Ground.chain }, { on := 8, ground := Ground.guard }], guard := some (8, true) }) rfl (fun K hK => ?_) AllReadyH.nil
    go_simp
    go_at_call 11; refine (V7.add 5 4 rfl rfl HLB.out.bc).mono ?_; rintro e wa13 ⟨x13, y13, z13, rfl, V13⟩; clear V7
    refine hK.out _ _ ?_ (fun hHeld => ?_)
    · exact HS.out _ _ ‹_›
    clear hK K
    try simp only [Act.put, List.setIfInBounds_toArray, List.set_cons_zero, List.set_cons_succ]
    refine wpAnyH_ready (rs := [14]) (by kernel_rfl) (by simp) ?_
    refine AllReadyH.cons (o := { dst := some 91, op := Op.call { callee := Callee.value (Operand.func 12), args := #[Operand.tmp 87, Operand.tmp 90], argTypes := #[25, 25] }, type := 25, pos := "law.go:176", after := #[{ on := 10, ground := Ground.data }, { on := 13, ground := Ground.data }, { on := 13, ground := Ground.chain }, { on := 8, ground := Ground.guard }], guard := some (8, true) }) rfl (fun K hK => ?_) AllReadyH.nil
    go_simp
    go_at_call 12; refine (V13.mul 7 0 rfl rfl HLB.out.abc).mono ?_; rintro e wa14 ⟨x14, y14, z14, rfl, V14⟩; clear V13
    refine hK.out _ _ ?_ (fun hHeld => ?_)
    · exact HS.out _ _ ‹_›
    clear hK K
    try simp only [Act.put, List.setIfInBounds_toArray, List.set_cons_zero, List.set_cons_succ]
    refine wpAnyH_ready (rs := [17]) (by kernel_rfl) (by simp) ?_
    refine AllReadyH.cons (o := { dst := some 94, op := Op.call { callee := Callee.value (Operand.func 12), args := #[Operand.tmp 92, Operand.tmp 93], argTypes := #[25, 25] }, type := 25, pos := "law.go:176", after := #[{ on := 15, ground := Ground.data }, { on := 16, ground := Ground.data }, { on := 14, ground := Ground.chain }, { on := 8, ground := Ground.guard }], guard := some (8, true) }) rfl (fun K hK => ?_) AllReadyH.nil
    go_simp
    go_at_call 12; refine (V14.mul 8 7 rfl rfl HLB.out.mab).mono ?_; rintro e wa17 ⟨x17, y17, z17, rfl, V17⟩; clear V14
    refine hK.out _ _ ?_ (fun hHeld => ?_)
    · exact HS.out _ _ ‹_›
    clear hK K
    try simp only [Act.put, List.setIfInBounds_toArray, List.set_cons_zero, List.set_cons_succ]
    refine wpAnyH_ready (rs := [20]) (by kernel_rfl) (by simp) ?_
    refine AllReadyH.cons (o := { dst := some 97, op := Op.call { callee := Callee.value (Operand.func 12), args := #[Operand.tmp 95, Operand.tmp 96], argTypes := #[25, 25] }, type := 25, pos := "law.go:176", after := #[{ on := 18, ground := Ground.data }, { on := 19, ground := Ground.data }, { on := 17, ground := Ground.chain }, { on := 8, ground := Ground.guard }], guard := some (8, true) }) rfl (fun K hK => ?_) AllReadyH.nil
    go_simp
    go_at_call 12; refine (V17.mul 9 7 rfl rfl HLB.out.mac).mono ?_; rintro e wa20 ⟨x20, y20, z20, rfl, V20⟩; clear V17
    refine hK.out _ _ ?_ (fun hHeld => ?_)
    · exact HS.out _ _ ‹_›
    clear hK K
    try simp only [Act.put, List.setIfInBounds_toArray, List.set_cons_zero, List.set_cons_succ]
    refine wpAnyH_ready (rs := [21]) (by kernel_rfl) (by simp) ?_
    refine AllReadyH.cons (o := { dst := some 98, op := Op.call { callee := Callee.value (Operand.func 11), args := #[Operand.tmp 94, Operand.tmp 97], argTypes := #[25, 25] }, type := 25, pos := "law.go:176", after := #[{ on := 17, ground := Ground.data }, { on := 20, ground := Ground.data }, { on := 20, ground := Ground.chain }, { on := 8, ground := Ground.guard }], guard := some (8, true) }) rfl (fun K hK => ?_) AllReadyH.nil
    go_simp
    go_at_call 11; refine (V20.add 1 0 rfl rfl HLB.out.sum).mono ?_; rintro e wa21 ⟨x21, y21, z21, rfl, V21⟩; clear V20
    refine hK.out _ _ ?_ (fun hHeld => ?_)
    · exact HS.out _ _ ‹_›
    clear hK K
    try simp only [Act.put, List.setIfInBounds_toArray, List.set_cons_zero, List.set_cons_succ]
    refine wpAnyH_ready (rs := [22]) (by kernel_rfl) (by simp) ?_
    refine AllReadyH.cons (o := { dst := some 99, op := Op.call { callee := Callee.value (Operand.tmp 86), args := #[Operand.tmp 91, Operand.tmp 98], argTypes := #[25, 25] }, type := 4, pos := "law.go:176", after := #[{ on := 9, ground := Ground.data }, { on := 14, ground := Ground.data }, { on := 21, ground := Ground.data }, { on := 21, ground := Ground.chain }, { on := 8, ground := Ground.guard }], guard := some (8, true) }) rfl (fun K hK => ?_) AllReadyH.nil
    go_simp
    go_at_call 6; refine (V21.eq 3 0 rfl rfl HTab.out).mono ?_; rintro e wa22 ⟨rfl, V22⟩; clear V21
    refine hK.out _ _ ?_ (fun hHeld => ?_)
    · exact HS.out _ _ ‹_›
    clear hK K
    try simp only [Act.put, List.setIfInBounds_toArray, List.set_cons_zero, List.set_cons_succ]
    refine wpAnyH_take (i := 23) (oi := { dst := some 100, op := Op.pick (Operand.tmp 85) (Operand.tmp 99) (Operand.const (Value.bool false)), type := 4, pos := "law.go:176", after := #[{ on := 8, ground := Ground.data }, { on := 22, ground := Ground.data }], guard := none }) (v := ?_) rfl (by kernel_rfl) (by kernel_rfl) (by kernel_rfl) (fun _ _ _ h => h) (Or.inl ⟨by rfl, ?_⟩) (by assumption) ?_
    rotate_left
    · intro w hSw; (try dsimp only at hSw); go_simp; (try with_reducible rfl)
    try simp only [Act.put, List.setIfInBounds_toArray, List.set_cons_zero, List.set_cons_succ]
    refine wpAnyH_take (i := 24) (oi := { dst := some 101, op := Op.move (Operand.tmp 100), type := 4, pos := "law.go:176", after := #[{ on := 23, ground := Ground.data }, { on := 22, ground := Ground.chain }], guard := none }) (v := ?_) rfl (by kernel_rfl) (by kernel_rfl) (by kernel_rfl) (fun _ _ _ h => h) (Or.inl ⟨by rfl, ?_⟩) (by assumption) ?_
    rotate_left
    · intro w hSw; (try dsimp only at hSw); go_simp; (try with_reducible rfl)
    try simp only [Act.put, List.setIfInBounds_toArray, List.set_cons_zero, List.set_cons_succ]
    refine wpAnyH_take (i := 25) (oi := { dst := some 102, op := Op.move (Operand.tmp 13), type := 31, pos := "law.go:176", after := #[{ on := 24, ground := Ground.guard }], guard := some (24, true) }) (v := ?_) rfl (by kernel_rfl) (by kernel_rfl) (by kernel_rfl) (fun _ _ _ h => h) (Or.inl ⟨by rfl, ?_⟩) (by assumption) ?_
    rotate_left
    · intro w hSw; (try dsimp only at hSw); go_simp; (try with_reducible rfl)
    try simp only [Act.put, List.setIfInBounds_toArray, List.set_cons_zero, List.set_cons_succ]
    refine wpAnyH_take (i := 26) (oi := { dst := some 103, op := Op.load 25 (Operand.tmp 7), type := 25, pos := "law.go:176", after := #[{ on := 24, ground := Ground.guard }], guard := some (24, true) }) (v := ?_) rfl (by kernel_rfl) (by kernel_rfl) (by kernel_rfl) (fun _ _ _ h => h) (Or.inl ⟨by rfl, ?_⟩) (by assumption) ?_
    rotate_left
    · intro w hSw; (try dsimp only at hSw); go_simp; (try with_reducible rfl)
    try simp only [Act.put, List.setIfInBounds_toArray, List.set_cons_zero, List.set_cons_succ]
    refine wpAnyH_take (i := 27) (oi := { dst := some 104, op := Op.load 25 (Operand.tmp 9), type := 25, pos := "law.go:176", after := #[{ on := 24, ground := Ground.guard }], guard := some (24, true) }) (v := ?_) rfl (by kernel_rfl) (by kernel_rfl) (by kernel_rfl) (fun _ _ _ h => h) (Or.inl ⟨by rfl, ?_⟩) (by assumption) ?_
    rotate_left
    · intro w hSw; (try dsimp only at hSw); go_simp; (try with_reducible rfl)
    try simp only [Act.put, List.setIfInBounds_toArray, List.set_cons_zero, List.set_cons_succ]
    refine wpAnyH_take (i := 29) (oi := { dst := some 106, op := Op.load 25 (Operand.tmp 11), type := 25, pos := "law.go:176", after := #[{ on := 24, ground := Ground.guard }], guard := some (24, true) }) (v := ?_) rfl (by kernel_rfl) (by kernel_rfl) (by kernel_rfl) (fun _ _ _ h => h) (Or.inl ⟨by rfl, ?_⟩) (by assumption) ?_
    rotate_left
    · intro w hSw; (try dsimp only at hSw); go_simp; (try with_reducible rfl)
    try simp only [Act.put, List.setIfInBounds_toArray, List.set_cons_zero, List.set_cons_succ]
    refine wpAnyH_take (i := 31) (oi := { dst := some 108, op := Op.load 25 (Operand.tmp 7), type := 25, pos := "law.go:176", after := #[{ on := 24, ground := Ground.guard }], guard := some (24, true) }) (v := ?_) rfl (by kernel_rfl) (by kernel_rfl) (by kernel_rfl) (fun _ _ _ h => h) (Or.inl ⟨by rfl, ?_⟩) (by assumption) ?_
    rotate_left
    · intro w hSw; (try dsimp only at hSw); go_simp; (try with_reducible rfl)
    try simp only [Act.put, List.setIfInBounds_toArray, List.set_cons_zero, List.set_cons_succ]
    refine wpAnyH_take (i := 32) (oi := { dst := some 109, op := Op.load 25 (Operand.tmp 9), type := 25, pos := "law.go:176", after := #[{ on := 24, ground := Ground.guard }], guard := some (24, true) }) (v := ?_) rfl (by kernel_rfl) (by kernel_rfl) (by kernel_rfl) (fun _ _ _ h => h) (Or.inl ⟨by rfl, ?_⟩) (by assumption) ?_
    rotate_left
    · intro w hSw; (try dsimp only at hSw); go_simp; (try with_reducible rfl)
    try simp only [Act.put, List.setIfInBounds_toArray, List.set_cons_zero, List.set_cons_succ]
    refine wpAnyH_take (i := 33) (oi := { dst := some 110, op := Op.load 25 (Operand.tmp 11), type := 25, pos := "law.go:176", after := #[{ on := 24, ground := Ground.guard }], guard := some (24, true) }) (v := ?_) rfl (by kernel_rfl) (by kernel_rfl) (by kernel_rfl) (fun _ _ _ h => h) (Or.inl ⟨by rfl, ?_⟩) (by assumption) ?_
    rotate_left
    · intro w hSw; (try dsimp only at hSw); go_simp; (try with_reducible rfl)
    try simp only [Act.put, List.setIfInBounds_toArray, List.set_cons_zero, List.set_cons_succ]
    refine wpAnyH_ready (rs := [28]) (by kernel_rfl) (by simp) ?_
    refine AllReadyH.cons (o := { dst := some 105, op := Op.call { callee := Callee.value (Operand.func 12), args := #[Operand.tmp 103, Operand.tmp 104], argTypes := #[25, 25] }, type := 25, pos := "law.go:176", after := #[{ on := 26, ground := Ground.data }, { on := 27, ground := Ground.data }, { on := 24, ground := Ground.chain }, { on := 24, ground := Ground.guard }], guard := some (24, true) }) rfl (fun K hK => ?_) AllReadyH.nil
    go_simp
    go_at_call 12; refine (V22.mul 11 10 rfl rfl HLB.out.mab).mono ?_; rintro e wa28 ⟨x28, y28, z28, rfl, V28⟩; clear V22
    refine hK.out _ _ ?_ (fun hHeld => ?_)
    · exact HS.out _ _ ‹_›
    clear hK K
    try simp only [Act.put, List.setIfInBounds_toArray, List.set_cons_zero, List.set_cons_succ]
    refine wpAnyH_ready (rs := [30]) (by kernel_rfl) (by simp) ?_
    refine AllReadyH.cons (o := { dst := some 107, op := Op.call { callee := Callee.value (Operand.func 12), args := #[Operand.tmp 105, Operand.tmp 106], argTypes := #[25, 25] }, type := 25, pos := "law.go:176", after := #[{ on := 28, ground := Ground.data }, { on := 29, ground := Ground.data }, { on := 28, ground := Ground.chain }, { on := 24, ground := Ground.guard }], guard := some (24, true) }) rfl (fun K hK => ?_) AllReadyH.nil
    go_simp
    go_at_call 12; refine (V28.mul 0 10 rfl rfl HLB.out.m3).mono ?_; rintro e wa30 ⟨x30, y30, z30, rfl, V30⟩; clear V28
    refine hK.out _ _ ?_ (fun hHeld => ?_)
    · exact HS.out _ _ ‹_›
    clear hK K
    try simp only [Act.put, List.setIfInBounds_toArray, List.set_cons_zero, List.set_cons_succ]
    refine wpAnyH_ready (rs := [34]) (by kernel_rfl) (by simp) ?_
    refine AllReadyH.cons (o := { dst := some 111, op := Op.call { callee := Callee.value (Operand.func 12), args := #[Operand.tmp 109, Operand.tmp 110], argTypes := #[25, 25] }, type := 25, pos := "law.go:176", after := #[{ on := 32, ground := Ground.data }, { on := 33, ground := Ground.data }, { on := 30, ground := Ground.chain }, { on := 24, ground := Ground.guard }], guard := some (24, true) }) rfl (fun K hK => ?_) AllReadyH.nil
    go_simp
    go_at_call 12; refine (V30.mul 12 11 rfl rfl HLB.out.mbc).mono ?_; rintro e wa34 ⟨x34, y34, z34, rfl, V34⟩; clear V30
    refine hK.out _ _ ?_ (fun hHeld => ?_)
    · exact HS.out _ _ ‹_›
    clear hK K
    try simp only [Act.put, List.setIfInBounds_toArray, List.set_cons_zero, List.set_cons_succ]
    refine wpAnyH_ready (rs := [35]) (by kernel_rfl) (by simp) ?_
    refine AllReadyH.cons (o := { dst := some 112, op := Op.call { callee := Callee.value (Operand.func 12), args := #[Operand.tmp 108, Operand.tmp 111], argTypes := #[25, 25] }, type := 25, pos := "law.go:176", after := #[{ on := 31, ground := Ground.data }, { on := 34, ground := Ground.data }, { on := 34, ground := Ground.chain }, { on := 24, ground := Ground.guard }], guard := some (24, true) }) rfl (fun K hK => ?_) AllReadyH.nil
    go_simp
    go_at_call 12; refine (V34.mul 14 0 rfl rfl HLB.out.m3').mono ?_; rintro e wa35 ⟨x35, y35, z35, rfl, V35⟩; clear V34
    refine hK.out _ _ ?_ (fun hHeld => ?_)
    · exact HS.out _ _ ‹_›
    clear hK K
    try simp only [Act.put, List.setIfInBounds_toArray, List.set_cons_zero, List.set_cons_succ]
    refine wpAnyH_ready (rs := [36]) (by kernel_rfl) (by simp) ?_
    refine AllReadyH.cons (o := { dst := some 113, op := Op.call { callee := Callee.value (Operand.tmp 102), args := #[Operand.tmp 107, Operand.tmp 112], argTypes := #[25, 25] }, type := 4, pos := "law.go:176", after := #[{ on := 25, ground := Ground.data }, { on := 30, ground := Ground.data }, { on := 35, ground := Ground.data }, { on := 35, ground := Ground.chain }, { on := 24, ground := Ground.guard }], guard := some (24, true) }) rfl (fun K hK => ?_) AllReadyH.nil
    go_simp
    go_at_call 6; refine (V35.eq 2 0 rfl rfl HTab.out).mono ?_; rintro e wa36 ⟨rfl, V36⟩; clear V35
    refine hK.out _ _ ?_ (fun hHeld => ?_)
    · exact HS.out _ _ ‹_›
    clear hK K
    try simp only [Act.put, List.setIfInBounds_toArray, List.set_cons_zero, List.set_cons_succ]
    refine wpAnyH_take (i := 37) (oi := { dst := some 114, op := Op.pick (Operand.tmp 101) (Operand.tmp 113) (Operand.const (Value.bool false)), type := 4, pos := "law.go:176", after := #[{ on := 24, ground := Ground.data }, { on := 36, ground := Ground.data }], guard := none }) (v := ?_) rfl (by kernel_rfl) (by kernel_rfl) (by kernel_rfl) (fun _ _ _ h => h) (Or.inl ⟨by rfl, ?_⟩) (by assumption) ?_
    rotate_left
    · intro w hSw; (try dsimp only at hSw); go_simp; (try with_reducible rfl)
    try simp only [Act.put, List.setIfInBounds_toArray, List.set_cons_zero, List.set_cons_succ]
    refine wpAnyH_take (i := 38) (oi := { dst := some 115, op := Op.move (Operand.tmp 114), type := 4, pos := "law.go:176", after := #[{ on := 37, ground := Ground.data }, { on := 36, ground := Ground.chain }], guard := none }) (v := ?_) rfl (by kernel_rfl) (by kernel_rfl) (by kernel_rfl) (fun _ _ _ h => h) (Or.inl ⟨by rfl, ?_⟩) (by assumption) ?_
    rotate_left
    · intro w hSw; (try dsimp only at hSw); go_simp; (try with_reducible rfl)
    try simp only [Act.put, List.setIfInBounds_toArray, List.set_cons_zero, List.set_cons_succ]
    refine wpAnyH_take (i := 39) (oi := { dst := some 116, op := Op.move (Operand.tmp 18), type := 4, pos := "law.go:176", after := #[{ on := 38, ground := Ground.guard }], guard := some (38, true) }) (v := ?_) rfl (by kernel_rfl) (by kernel_rfl) (by kernel_rfl) (fun _ _ _ h => h) (Or.inl ⟨by rfl, ?_⟩) (by assumption) ?_
    rotate_left
    · intro w hSw; (try dsimp only at hSw); go_simp; (try with_reducible rfl)
    try simp only [Act.put, List.setIfInBounds_toArray, List.set_cons_zero, List.set_cons_succ]
    refine wpAnyH_take (i := 40) (oi := { dst := some 117, op := Op.pick (Operand.tmp 115) (Operand.tmp 116) (Operand.const (Value.bool false)), type := 4, pos := "law.go:176", after := #[{ on := 38, ground := Ground.data }, { on := 39, ground := Ground.data }], guard := none }) (v := ?_) rfl (by kernel_rfl) (by kernel_rfl) (by kernel_rfl) (fun _ _ _ h => h) (Or.inl ⟨by rfl, ?_⟩) (by assumption) ?_
    rotate_left
    · intro w hSw; (try dsimp only at hSw); go_simp; (try with_reducible rfl)
    try simp only [Act.put, List.setIfInBounds_toArray, List.set_cons_zero, List.set_cons_succ]
    refine wpAnyH_take (i := 41) (oi := { dst := some 118, op := Op.move (Operand.tmp 117), type := 4, pos := "law.go:176", after := #[{ on := 40, ground := Ground.data }, { on := 38, ground := Ground.chain }], guard := none }) (v := ?_) rfl (by kernel_rfl) (by kernel_rfl) (by kernel_rfl) (fun _ _ _ h => h) (Or.inl ⟨by rfl, ?_⟩) (by assumption) ?_
    rotate_left
    · intro w hSw; (try dsimp only at hSw); go_simp; (try with_reducible rfl)
    try simp only [Act.put, List.setIfInBounds_toArray, List.set_cons_zero, List.set_cons_succ]
    refine wpAnyH_take (i := 42) (oi := { dst := some 119, op := Op.move (Operand.tmp 13), type := 31, pos := "law.go:176", after := #[{ on := 41, ground := Ground.guard }], guard := some (41, true) }) (v := ?_) rfl (by kernel_rfl) (by kernel_rfl) (by kernel_rfl) (fun _ _ _ h => h) (Or.inl ⟨by rfl, ?_⟩) (by assumption) ?_
    rotate_left
    · intro w hSw; (try dsimp only at hSw); go_simp; (try with_reducible rfl)
    try simp only [Act.put, List.setIfInBounds_toArray, List.set_cons_zero, List.set_cons_succ]
    refine wpAnyH_take (i := 43) (oi := { dst := some 120, op := Op.load 25 (Operand.tmp 17), type := 25, pos := "law.go:176", after := #[{ on := 41, ground := Ground.guard }], guard := some (41, true) }) (v := ?_) rfl (by kernel_rfl) (by kernel_rfl) (by kernel_rfl) (fun _ _ _ h => h) (Or.inl ⟨by rfl, ?_⟩) (by assumption) ?_
    rotate_left
    · intro w hSw; (try dsimp only at hSw); go_simp; (try with_reducible rfl)
    try simp only [Act.put, List.setIfInBounds_toArray, List.set_cons_zero, List.set_cons_succ]
    refine wpAnyH_take (i := 44) (oi := { dst := some 121, op := Op.load 25 (Operand.tmp 7), type := 25, pos := "law.go:176", after := #[{ on := 41, ground := Ground.guard }], guard := some (41, true) }) (v := ?_) rfl (by kernel_rfl) (by kernel_rfl) (by kernel_rfl) (fun _ _ _ h => h) (Or.inl ⟨by rfl, ?_⟩) (by assumption) ?_
    rotate_left
    · intro w hSw; (try dsimp only at hSw); go_simp; (try with_reducible rfl)
    try simp only [Act.put, List.setIfInBounds_toArray, List.set_cons_zero, List.set_cons_succ]
    refine wpAnyH_ready (rs := [45]) (by kernel_rfl) (by simp) ?_
    refine AllReadyH.cons (o := { dst := some 122, op := Op.call { callee := Callee.value (Operand.tmp 119), args := #[Operand.tmp 120, Operand.tmp 121], argTypes := #[25, 25] }, type := 4, pos := "law.go:176", after := #[{ on := 42, ground := Ground.data }, { on := 43, ground := Ground.data }, { on := 44, ground := Ground.data }, { on := 41, ground := Ground.chain }, { on := 41, ground := Ground.guard }], guard := some (41, true) }) rfl (fun K hK => ?_) AllReadyH.nil
    go_simp
    go_at_call 6; refine (V36.eq 11 15 rfl rfl HTab.out).mono ?_; rintro e wa45 ⟨rfl, V45⟩; clear V36
    refine hK.out _ _ ?_ (fun hHeld => ?_)
    · exact HS.out _ _ ‹_›
    clear hK K
    try simp only [Act.put, List.setIfInBounds_toArray, List.set_cons_zero, List.set_cons_succ]
    refine wpAnyH_take (i := 46) (oi := { dst := some 123, op := Op.pick (Operand.tmp 118) (Operand.tmp 122) (Operand.const (Value.bool false)), type := 4, pos := "law.go:176", after := #[{ on := 41, ground := Ground.data }, { on := 45, ground := Ground.data }], guard := none }) (v := ?_) rfl (by kernel_rfl) (by kernel_rfl) (by kernel_rfl) (fun _ _ _ h => h) (Or.inl ⟨by rfl, ?_⟩) (by assumption) ?_
    rotate_left
    · intro w hSw; (try dsimp only at hSw); go_simp; (try with_reducible rfl)
    try simp only [Act.put, List.setIfInBounds_toArray, List.set_cons_zero, List.set_cons_succ]
    refine wpAnyH_take (i := 47) (oi := { dst := some 124, op := Op.move (Operand.tmp 123), type := 4, pos := "law.go:176", after := #[{ on := 46, ground := Ground.data }, { on := 45, ground := Ground.chain }], guard := none }) (v := ?_) rfl (by kernel_rfl) (by kernel_rfl) (by kernel_rfl) (fun _ _ _ h => h) (Or.inl ⟨by rfl, ?_⟩) (by assumption) ?_
    rotate_left
    · intro w hSw; (try dsimp only at hSw); go_simp; (try with_reducible rfl)
    try simp only [Act.put, List.setIfInBounds_toArray, List.set_cons_zero, List.set_cons_succ]
    refine wpAnyH_take (i := 48) (oi := { dst := some 125, op := Op.move (Operand.tmp 16), type := 4, pos := "law.go:176", after := #[{ on := 47, ground := Ground.guard }], guard := some (47, true) }) (v := ?_) rfl (by kernel_rfl) (by kernel_rfl) (by kernel_rfl) (fun _ _ _ h => h) (Or.inl ⟨by rfl, ?_⟩) (by assumption) ?_
    rotate_left
    · intro w hSw; (try dsimp only at hSw); go_simp; (try with_reducible rfl)
    try simp only [Act.put, List.setIfInBounds_toArray, List.set_cons_zero, List.set_cons_succ]
    refine wpAnyH_take (i := 49) (oi := { dst := some 126, op := Op.load 25 (Operand.tmp 9), type := 25, pos := "law.go:176", after := #[{ on := 47, ground := Ground.guard }], guard := some (47, true) }) (v := ?_) rfl (by kernel_rfl) (by kernel_rfl) (by kernel_rfl) (fun _ _ _ h => h) (Or.inl ⟨by rfl, ?_⟩) (by assumption) ?_
    rotate_left
    · intro w hSw; (try dsimp only at hSw); go_simp; (try with_reducible rfl)
    try simp only [Act.put, List.setIfInBounds_toArray, List.set_cons_zero, List.set_cons_succ]
    refine wpAnyH_ready (rs := [50]) (by kernel_rfl) (by simp) ?_
    refine AllReadyH.cons (o := { dst := some 127, op := Op.call { callee := Callee.value (Operand.func 13), args := #[Operand.tmp 126], argTypes := #[25] }, type := 4, pos := "law.go:176", after := #[{ on := 49, ground := Ground.data }, { on := 47, ground := Ground.chain }, { on := 47, ground := Ground.guard }], guard := some (47, true) }) rfl (fun K hK => ?_) AllReadyH.nil
    go_simp
    go_at_call 13; refine (V45.zero 14 rfl).mono ?_; rintro e wa50 ⟨rfl, V50⟩; clear V45
    refine hK.out _ _ ?_ (fun hHeld => ?_)
    · exact HS.out _ _ ‹_›
    clear hK K
    try simp only [Act.put, List.setIfInBounds_toArray, List.set_cons_zero, List.set_cons_succ]
    refine wpAnyH_take (i := 51) (oi := { dst := some 128, op := Op.unOp UnOp.not 4 (Operand.tmp 127), type := 4, pos := "law.go:176", after := #[{ on := 50, ground := Ground.data }, { on := 47, ground := Ground.guard }], guard := some (47, true) }) (v := ?_) rfl (by kernel_rfl) (by kernel_rfl) (by kernel_rfl) (fun _ _ _ h => h) (Or.inl ⟨by rfl, ?_⟩) (by assumption) ?_
    rotate_left
    · intro w hSw; (try dsimp only at hSw); go_simp; (try with_reducible rfl)
    try simp only [Act.put, List.setIfInBounds_toArray, List.set_cons_zero, List.set_cons_succ]
    refine wpAnyH_take (i := 52) (oi := { dst := some 129, op := Op.binOp BinOp.eql 4 (Operand.tmp 125) (Operand.tmp 128) 4, type := 4, pos := "law.go:176", after := #[{ on := 48, ground := Ground.data }, { on := 51, ground := Ground.data }, { on := 47, ground := Ground.guard }], guard := some (47, true) }) (v := ?_) rfl (by kernel_rfl) (by kernel_rfl) (by kernel_rfl) (fun _ _ _ h => h) (Or.inl ⟨by rfl, ?_⟩) (by assumption) ?_
    rotate_left
    · intro w hSw; (try dsimp only at hSw); go_simp; (try with_reducible rfl)
    try simp only [Act.put, List.setIfInBounds_toArray, List.set_cons_zero, List.set_cons_succ]
    refine wpAnyH_take (i := 53) (oi := { dst := some 130, op := Op.pick (Operand.tmp 124) (Operand.tmp 129) (Operand.const (Value.bool false)), type := 4, pos := "law.go:176", after := #[{ on := 47, ground := Ground.data }, { on := 52, ground := Ground.data }], guard := none }) (v := ?_) rfl (by kernel_rfl) (by kernel_rfl) (by kernel_rfl) (fun _ _ _ h => h) (Or.inl ⟨by rfl, ?_⟩) (by assumption) ?_
    rotate_left
    · intro w hSw; (try dsimp only at hSw); go_simp; (try with_reducible rfl)
    try simp only [Act.put, List.setIfInBounds_toArray, List.set_cons_zero, List.set_cons_succ]
    refine wpAnyH_take (i := 54) (oi := { dst := some 131, op := Op.move (Operand.tmp 130), type := 4, pos := "law.go:176", after := #[{ on := 53, ground := Ground.data }, { on := 50, ground := Ground.chain }], guard := none }) (v := ?_) rfl (by kernel_rfl) (by kernel_rfl) (by kernel_rfl) (fun _ _ _ h => h) (Or.inl ⟨by rfl, ?_⟩) (by assumption) ?_
    rotate_left
    · intro w hSw; (try dsimp only at hSw); go_simp; (try with_reducible rfl)
    try simp only [Act.put, List.setIfInBounds_toArray, List.set_cons_zero, List.set_cons_succ]
    refine wpAnyH_take (i := 55) (oi := { dst := some 132, op := Op.move (Operand.tmp 16), type := 4, pos := "law.go:176", after := #[{ on := 54, ground := Ground.guard }], guard := some (54, true) }) (v := ?_) rfl (by kernel_rfl) (by kernel_rfl) (by kernel_rfl) (fun _ _ _ h => h) (Or.inl ⟨by rfl, ?_⟩) (by assumption) ?_
    rotate_left
    · intro w hSw; (try dsimp only at hSw); go_simp; (try with_reducible rfl)
    try simp only [Act.put, List.setIfInBounds_toArray, List.set_cons_zero, List.set_cons_succ]
    refine wpAnyH_take (i := 56) (oi := { dst := some 133, op := Op.unOp UnOp.not 4 (Operand.tmp 132), type := 4, pos := "law.go:176", after := #[{ on := 55, ground := Ground.data }, { on := 54, ground := Ground.guard }], guard := some (54, true) }) (v := ?_) rfl (by kernel_rfl) (by kernel_rfl) (by kernel_rfl) (fun _ _ _ h => h) (Or.inl ⟨by rfl, ?_⟩) (by assumption) ?_
    rotate_left
    · intro w hSw; (try dsimp only at hSw); go_simp; (try with_reducible rfl)
    try simp only [Act.put, List.setIfInBounds_toArray, List.set_cons_zero, List.set_cons_succ]
    refine wpAnyH_take (i := 57) (oi := { dst := some 134, op := Op.move (Operand.tmp 133), type := 4, pos := "law.go:176", after := #[{ on := 56, ground := Ground.data }, { on := 54, ground := Ground.chain }, { on := 54, ground := Ground.guard }], guard := some (54, true) }) (v := ?_) rfl (by kernel_rfl) (by kernel_rfl) (by kernel_rfl) (fun _ _ _ h => h) (Or.inl ⟨by rfl, ?_⟩) (by assumption) ?_
    rotate_left
    · intro w hSw; (try dsimp only at hSw); go_simp; (try with_reducible rfl)
    try simp only [Act.put, List.setIfInBounds_toArray, List.set_cons_zero, List.set_cons_succ]
    refine wpAnyH_take (i := 58) (oi := { dst := some 135, op := Op.move (Operand.tmp 13), type := 31, pos := "law.go:176", after := #[{ on := 57, ground := Ground.guard }], guard := some (57, false) }) (v := undef) rfl (by kernel_rfl) (by kernel_rfl) (by kernel_rfl) (fun _ _ _ h => h) (Or.inr ⟨by rfl, rfl⟩) (by assumption) ?_
    try simp only [Act.put, List.setIfInBounds_toArray, List.set_cons_zero, List.set_cons_succ]
    refine wpAnyH_take (i := 59) (oi := { dst := some 136, op := Op.load 25 (Operand.tmp 14), type := 25, pos := "law.go:176", after := #[{ on := 57, ground := Ground.guard }], guard := some (57, false) }) (v := undef) rfl (by kernel_rfl) (by kernel_rfl) (by kernel_rfl) (fun _ _ _ h => h) (Or.inr ⟨by rfl, rfl⟩) (by assumption) ?_
    try simp only [Act.put, List.setIfInBounds_toArray, List.set_cons_zero, List.set_cons_succ]
    refine wpAnyH_take (i := 60) (oi := { dst := some 137, op := Op.load 25 (Operand.tmp 9), type := 25, pos := "law.go:176", after := #[{ on := 57, ground := Ground.guard }], guard := some (57, false) }) (v := undef) rfl (by kernel_rfl) (by kernel_rfl) (by kernel_rfl) (fun _ _ _ h => h) (Or.inr ⟨by rfl, rfl⟩) (by assumption) ?_
    try simp only [Act.put, List.setIfInBounds_toArray, List.set_cons_zero, List.set_cons_succ]
    refine wpAnyH_take (i := 61) (oi := { dst := some 138, op := Op.call { callee := Callee.value (Operand.func 12), args := #[Operand.tmp 136, Operand.tmp 137], argTypes := #[25, 25] }, type := 25, pos := "law.go:176", after := #[{ on := 59, ground := Ground.data }, { on := 60, ground := Ground.data }, { on := 57, ground := Ground.chain }, { on := 57, ground := Ground.guard }], guard := some (57, false) }) (v := undef) rfl (by kernel_rfl) (by kernel_rfl) (by kernel_rfl) (fun _ _ _ h => h) (Or.inr ⟨by rfl, rfl⟩) (by assumption) ?_
    try simp only [Act.put, List.setIfInBounds_toArray, List.set_cons_zero, List.set_cons_succ]
    refine wpAnyH_take (i := 62) (oi := { dst := some 139, op := Op.load 25 (Operand.tmp 15), type := 25, pos := "law.go:176", after := #[{ on := 57, ground := Ground.guard }], guard := some (57, false) }) (v := undef) rfl (by kernel_rfl) (by kernel_rfl) (by kernel_rfl) (fun _ _ _ h => h) (Or.inr ⟨by rfl, rfl⟩) (by assumption) ?_
    try simp only [Act.put, List.setIfInBounds_toArray, List.set_cons_zero, List.set_cons_succ]
    refine wpAnyH_take (i := 63) (oi := { dst := some 140, op := Op.call { callee := Callee.value (Operand.func 11), args := #[Operand.tmp 138, Operand.tmp 139], argTypes := #[25, 25] }, type := 25, pos := "law.go:176", after := #[{ on := 61, ground := Ground.data }, { on := 62, ground := Ground.data }, { on := 61, ground := Ground.chain }, { on := 57, ground := Ground.guard }], guard := some (57, false) }) (v := undef) rfl (by kernel_rfl) (by kernel_rfl) (by kernel_rfl) (fun _ _ _ h => h) (Or.inr ⟨by rfl, rfl⟩) (by assumption) ?_
    try simp only [Act.put, List.setIfInBounds_toArray, List.set_cons_zero, List.set_cons_succ]
    refine wpAnyH_take (i := 64) (oi := { dst := some 141, op := Op.load 25 (Operand.tmp 7), type := 25, pos := "law.go:176", after := #[{ on := 57, ground := Ground.guard }], guard := some (57, false) }) (v := undef) rfl (by kernel_rfl) (by kernel_rfl) (by kernel_rfl) (fun _ _ _ h => h) (Or.inr ⟨by rfl, rfl⟩) (by assumption) ?_
    try simp only [Act.put, List.setIfInBounds_toArray, List.set_cons_zero, List.set_cons_succ]
    refine wpAnyH_take (i := 65) (oi := { dst := some 142, op := Op.call { callee := Callee.value (Operand.tmp 135), args := #[Operand.tmp 140, Operand.tmp 141], argTypes := #[25, 25] }, type := 4, pos := "law.go:176", after := #[{ on := 58, ground := Ground.data }, { on := 63, ground := Ground.data }, { on := 64, ground := Ground.data }, { on := 63, ground := Ground.chain }, { on := 57, ground := Ground.guard }], guard := some (57, false) }) (v := undef) rfl (by kernel_rfl) (by kernel_rfl) (by kernel_rfl) (fun _ _ _ h => h) (Or.inr ⟨by rfl, rfl⟩) (by assumption) ?_
    try simp only [Act.put, List.setIfInBounds_toArray, List.set_cons_zero, List.set_cons_succ]
    refine wpAnyH_take (i := 66) (oi := { dst := some 143, op := Op.move (Operand.tmp 142), type := 4, pos := "law.go:176", after := #[{ on := 65, ground := Ground.data }, { on := 65, ground := Ground.chain }, { on := 57, ground := Ground.guard }], guard := some (57, false) }) (v := undef) rfl (by kernel_rfl) (by kernel_rfl) (by kernel_rfl) (fun _ _ _ h => h) (Or.inr ⟨by rfl, rfl⟩) (by assumption) ?_
    try simp only [Act.put, List.setIfInBounds_toArray, List.set_cons_zero, List.set_cons_succ]
    refine wpAnyH_take (i := 67) (oi := { dst := some 144, op := Op.load 25 (Operand.tmp 15), type := 25, pos := "law.go:176", after := #[{ on := 66, ground := Ground.guard }], guard := some (66, true) }) (v := undef) rfl (by kernel_rfl) (by kernel_rfl) (by kernel_rfl) (fun _ _ _ h => h) (Or.inr ⟨by rfl, rfl⟩) (by assumption) ?_
    try simp only [Act.put, List.setIfInBounds_toArray, List.set_cons_zero, List.set_cons_succ]
    refine wpAnyH_take (i := 68) (oi := { dst := some 145, op := Op.load 25 (Operand.tmp 9), type := 25, pos := "law.go:176", after := #[{ on := 66, ground := Ground.guard }], guard := some (66, true) }) (v := undef) rfl (by kernel_rfl) (by kernel_rfl) (by kernel_rfl) (fun _ _ _ h => h) (Or.inr ⟨by rfl, rfl⟩) (by assumption) ?_
    try simp only [Act.put, List.setIfInBounds_toArray, List.set_cons_zero, List.set_cons_succ]
    refine wpAnyH_take (i := 69) (oi := { dst := some 146, op := Op.call { callee := Callee.value (Operand.func 7), args := #[Operand.tmp 144, Operand.tmp 145], argTypes := #[25, 25] }, type := 3, pos := "law.go:176", after := #[{ on := 67, ground := Ground.data }, { on := 68, ground := Ground.data }, { on := 66, ground := Ground.chain }, { on := 66, ground := Ground.guard }], guard := some (66, true) }) (v := undef) rfl (by kernel_rfl) (by kernel_rfl) (by kernel_rfl) (fun _ _ _ h => h) (Or.inr ⟨by rfl, rfl⟩) (by assumption) ?_
    try simp only [Act.put, List.setIfInBounds_toArray, List.set_cons_zero, List.set_cons_succ]
    refine wpAnyH_take (i := 70) (oi := { dst := some 147, op := Op.binOp BinOp.lss 3 (Operand.tmp 146) (Operand.const (Value.int IntKind.i64 0)) 3, type := 4, pos := "law.go:176", after := #[{ on := 69, ground := Ground.data }, { on := 66, ground := Ground.guard }], guard := some (66, true) }) (v := undef) rfl (by kernel_rfl) (by kernel_rfl) (by kernel_rfl) (fun _ _ _ h => h) (Or.inr ⟨by rfl, rfl⟩) (by assumption) ?_
    try simp only [Act.put, List.setIfInBounds_toArray, List.set_cons_zero, List.set_cons_succ]
    refine wpAnyH_take (i := 71) (oi := { dst := some 148, op := Op.pick (Operand.tmp 143) (Operand.tmp 147) (Operand.const (Value.bool false)), type := 4, pos := "law.go:176", after := #[{ on := 66, ground := Ground.data }, { on := 70, ground := Ground.data }, { on := 57, ground := Ground.guard }], guard := some (57, false) }) (v := undef) rfl (by kernel_rfl) (by kernel_rfl) (by kernel_rfl) (fun _ _ _ h => h) (Or.inr ⟨by rfl, rfl⟩) (by assumption) ?_
    try simp only [Act.put, List.setIfInBounds_toArray, List.set_cons_zero, List.set_cons_succ]
    refine wpAnyH_take (i := 72) (oi := { dst := some 149, op := Op.pick (Operand.tmp 134) (Operand.const (Value.bool true)) (Operand.tmp 148), type := 4, pos := "law.go:176", after := #[{ on := 57, ground := Ground.data }, { on := 71, ground := Ground.data }, { on := 54, ground := Ground.guard }], guard := some (54, true) }) (v := ?_) rfl (by kernel_rfl) (by kernel_rfl) (by kernel_rfl) (fun _ _ _ h => h) (Or.inl ⟨by rfl, ?_⟩) (by assumption) ?_
    rotate_left
    · intro w hSw; (try dsimp only at hSw); go_simp; (try with_reducible rfl)
    try simp only [Act.put, List.setIfInBounds_toArray, List.set_cons_zero, List.set_cons_succ]
    refine wpAnyH_take (i := 73) (oi := { dst := some 150, op := Op.pick (Operand.tmp 131) (Operand.tmp 149) (Operand.const (Value.bool false)), type := 4, pos := "law.go:176", after := #[{ on := 54, ground := Ground.data }, { on := 72, ground := Ground.data }], guard := none }) (v := ?_) rfl (by kernel_rfl) (by kernel_rfl) (by kernel_rfl) (fun _ _ _ h => h) (Or.inl ⟨by rfl, ?_⟩) (by assumption) ?_
    rotate_left
    · intro w hSw; (try dsimp only at hSw); go_simp; (try with_reducible rfl)
    try simp only [Act.put, List.setIfInBounds_toArray, List.set_cons_zero, List.set_cons_succ]
    refine wpAnyH_take (i := 74) (oi := { dst := some 6, op := Op.assign (Operand.tmp 150), type := 4, pos := "law.go:176", after := #[{ on := 73, ground := Ground.data }, { on := 69, ground := Ground.chain }, { on := 0, ground := Ground.phase }, { on := 1, ground := Ground.phase }, { on := 2, ground := Ground.phase }, { on := 3, ground := Ground.phase }, { on := 4, ground := Ground.phase }, { on := 5, ground := Ground.phase }, { on := 6, ground := Ground.phase }, { on := 7, ground := Ground.phase }, { on := 8, ground := Ground.phase }, { on := 9, ground := Ground.phase }, { on := 10, ground := Ground.phase }, { on := 11, ground := Ground.phase }, { on := 12, ground := Ground.phase }, { on := 13, ground := Ground.phase }, { on := 14, ground := Ground.phase }, { on := 15, ground := Ground.phase }, { on := 16, ground := Ground.phase }, { on := 17, ground := Ground.phase }, { on := 18, ground := Ground.phase }, { on := 19, ground := Ground.phase }, { on := 20, ground := Ground.phase }, { on := 21, ground := Ground.phase }, { on := 22, ground := Ground.phase }, { on := 23, ground := Ground.phase }, { on := 24, ground := Ground.phase }, { on := 25, ground := Ground.phase }, { on := 26, ground := Ground.phase }, { on := 27, ground := Ground.phase }, { on := 28, ground := Ground.phase }, { on := 29, ground := Ground.phase }, { on := 30, ground := Ground.phase }, { on := 31, ground := Ground.phase }, { on := 32, ground := Ground.phase }, { on := 33, ground := Ground.phase }, { on := 34, ground := Ground.phase }, { on := 35, ground := Ground.phase }, { on := 36, ground := Ground.phase }, { on := 37, ground := Ground.phase }, { on := 38, ground := Ground.phase }, { on := 39, ground := Ground.phase }, { on := 40, ground := Ground.phase }, { on := 41, ground := Ground.phase }, { on := 42, ground := Ground.phase }, { on := 43, ground := Ground.phase }, { on := 44, ground := Ground.phase }, { on := 45, ground := Ground.phase }, { on := 46, ground := Ground.phase }, { on := 47, ground := Ground.phase }, { on := 48, ground := Ground.phase }, { on := 49, ground := Ground.phase }, { on := 50, ground := Ground.phase }, { on := 51, ground := Ground.phase }, { on := 52, ground := Ground.phase }, { on := 53, ground := Ground.phase }, { on := 54, ground := Ground.phase }, { on := 55, ground := Ground.phase }, { on := 56, ground := Ground.phase }, { on := 57, ground := Ground.phase }, { on := 58, ground := Ground.phase }, { on := 59, ground := Ground.phase }, { on := 60, ground := Ground.phase }, { on := 61, ground := Ground.phase }, { on := 62, ground := Ground.phase }, { on := 63, ground := Ground.phase }, { on := 64, ground := Ground.phase }, { on := 65, ground := Ground.phase }, { on := 66, ground := Ground.phase }, { on := 67, ground := Ground.phase }, { on := 68, ground := Ground.phase }, { on := 69, ground := Ground.phase }, { on := 70, ground := Ground.phase }, { on := 71, ground := Ground.phase }, { on := 72, ground := Ground.phase }, { on := 73, ground := Ground.phase }], guard := none }) (v := ?_) rfl (by kernel_rfl) (by kernel_rfl) (by kernel_rfl) (fun _ _ _ h => h) (Or.inl ⟨by rfl, ?_⟩) (by assumption) ?_
    rotate_left
    · intro w hSw; (try dsimp only at hSw); go_simp; (try with_reducible rfl)
    try simp only [Act.put, List.setIfInBounds_toArray, List.set_cons_zero, List.set_cons_succ]
    refine wpAnyH_done (by kernel_rfl) ?_ _
    have HV := Lib.hid V50
    clear V50
    go_wp2_with fail
    go_ret
    exact ⟨rfl, HV.out.bel⟩
set_option maxRecDepth 100000 in
set_option maxHeartbeats 4000000 in
theorem natLaws.walk (s t u : ByteArray) (hs : s.size ≤ maxLen) (ht : t.size ≤ maxLen) (hu : u.size ≤ maxLen) (w : World) (htab : Tab w) :
    Calls Tryd.prog 3 #[.string s, .string t, .string u] w fun e w' => e = .returned (.bool true) ∧ Below w.heap.size w w' := by
  have HAl := Lib.hid (alive_any w htab)
  by_cases c1 : (200 : Int) < (s.size : Int)
  · go_enter Tryd.func3, Tryd.ntmps3
    go_wp2_with fail
    refine HAl.out.mono ?_
    rintro e w1 ⟨rfl, hb1⟩
    go_wp2_with fail
    go_ret
    exact ⟨rfl, hb1⟩
  by_cases c2 : (200 : Int) < (t.size : Int)
  · go_enter Tryd.func3, Tryd.ntmps3
    go_wp2_with fail
    refine HAl.out.mono ?_
    rintro e w1 ⟨rfl, hb1⟩
    go_wp2_with fail
    go_ret
    exact ⟨rfl, hb1⟩
  by_cases c3 : (200 : Int) < (u.size : Int)
  · go_enter Tryd.func3, Tryd.ntmps3
    go_wp2_with fail
    refine HAl.out.mono ?_
    rintro e w1 ⟨rfl, hb1⟩
    go_wp2_with fail
    go_ret
    exact ⟨rfl, hb1⟩
  have hs1 : s.size ≤ 200 := by omega
  have ht1 : t.size ≤ 200 := by omega
  have hu1 : u.size ≤ 200 := by omega
  by_cases hwf : WF s
  rotate_left
  · go_enter Tryd.func3, Tryd.ntmps3
    go_wp2_with fail
    refine HAl.out.mono ?_
    rintro e w1 ⟨rfl, hb1⟩
    have V1 := Lib.hid ((At.refl w).below hb1)
    clear hb1 HAl
    go_wp2_with fail
    refine (parse_bad s _ hs hwf).mono ?_
    rintro e w2 ⟨rfl, hb⟩
    have V2 := Lib.hid ((V1.out.below hb).alloc (.slice none 0 0))
    clear hb V1
    go_wp2_with fail
    refine (parse_some t _ ht).mono ?_
    rintro e w3 ⟨x3, y3, z3, c3, rfl, hb⟩
    have V3 := Lib.hid ((V2.out.below hb).alloc (.slice x3 y3 z3))
    clear hb V2
    go_wp2_with fail
    refine (parse_some u _ hu).mono ?_
    rintro e w4 ⟨x4, y4, z4, c4, rfl, hb⟩
    have V4 := Lib.hid ((V3.out.below hb).alloc (.slice x4 y4 z4))
    clear hb V3
    go_wp2_with fail
    go_ret
    exact ⟨rfl, V4.out.bel⟩
  by_cases hwt : WF t
  rotate_left
  · go_enter Tryd.func3, Tryd.ntmps3
    go_wp2_with fail
    refine HAl.out.mono ?_
    rintro e w1 ⟨rfl, hb1⟩
    have V1 := Lib.hid ((At.refl w).below hb1)
    clear hb1 HAl
    go_wp2_with fail
    refine (parse_ok s _ hwf (by omega)).mono ?_
    rintro e w2 ⟨x2, y2, z2, rfl, _, hb⟩
    have V2 := Lib.hid ((V1.out.below hb).alloc (.slice x2 y2 z2))
    clear hb V1
    go_wp2_with fail
    refine (parse_bad t _ ht hwt).mono ?_
    rintro e w3 ⟨rfl, hb⟩
    have V3 := Lib.hid ((V2.out.below hb).alloc (.slice none 0 0))
    clear hb V2
    go_wp2_with fail
    refine (parse_some u _ hu).mono ?_
    rintro e w4 ⟨x4, y4, z4, c4, rfl, hb⟩
    have V4 := Lib.hid ((V3.out.below hb).alloc (.slice x4 y4 z4))
    clear hb V3
    go_wp2_with fail
    go_ret
    exact ⟨rfl, V4.out.bel⟩
  by_cases hwu : WF u
  rotate_left
  · go_enter Tryd.func3, Tryd.ntmps3
    go_wp2_with fail
    refine HAl.out.mono ?_
    rintro e w1 ⟨rfl, hb1⟩
    have V1 := Lib.hid ((At.refl w).below hb1)
    clear hb1 HAl
    go_wp2_with fail
    refine (parse_ok s _ hwf (by omega)).mono ?_
    rintro e w2 ⟨x2, y2, z2, rfl, _, hb⟩
    have V2 := Lib.hid ((V1.out.below hb).alloc (.slice x2 y2 z2))
    clear hb V1
    go_wp2_with fail
    refine (parse_ok t _ hwt (by omega)).mono ?_
    rintro e w3 ⟨x3, y3, z3, rfl, _, hb⟩
    have V3 := Lib.hid ((V2.out.below hb).alloc (.slice x3 y3 z3))
    clear hb V2
    go_wp2_with fail
    refine (parse_bad u _ hu hwu).mono ?_
    rintro e w4 ⟨rfl, hb⟩
    have V4 := Lib.hid ((V3.out.below hb).alloc (.slice none 0 0))
    clear hb V3
    go_wp2_with fail
    go_ret
    exact ⟨rfl, V4.out.bel⟩
  by_cases hB0 : dv t.data.toList = 0
  · exact natLaws.good0 s t u hwf hwt hwu hs1 ht1 hu1 hB0 w htab
  · exact natLaws.good1 s t u hwf hwt hwu hs1 ht1 hu1 hB0 w htab
end Go.Proofs.YtglcgkgceadbkaaDoor
