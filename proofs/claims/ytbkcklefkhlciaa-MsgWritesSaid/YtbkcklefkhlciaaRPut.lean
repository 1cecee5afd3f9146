/-
  The document's own bytes of a field.
-/
import Derived.Test.YtbkcklefkhlciaaPut3
import Derived.Test.YtbkcklefkhlciaaCat
import Derived.Deep.RegionHeld3
namespace Go.Proofs.Ytbkcklefkhlciaa
open Go.RowKit
set_option linter.unusedVariables false
set_option maxRecDepth 100000 in
set_option maxHeartbeats 400000 in
theorem rlittle_any (v : Nat) (n : Nat) (w : World) (hv : v < 18446744073709551616) (hn : n ≤ 8) :
    Calls Try.prog 20 #[.int .u64 v, .int .i64 n] w (GaveText (txt (fx v n)) w) := by
  obtain ⟨B, hB⟩ : ∃ B, Hid (B = w.heap.size) := ⟨_, Lib.hid rfl⟩
  go_enter Try.func20, Try.ntmps20
  go_wp2
  go_loopw [0, 5, 6] (fun x s i wr => ∃ (k y : Nat), i = .int .i64 (k : Int) ∧ k ≤ n ∧ x = .int .u64 (y : Int) ∧ Hid (y = v / 256 ^ k) ∧ y < 18446744073709551616 ∧ Hid (OwnB B wr s (fx v k)) ∧ Below w.heap.size w wr) (fun _ _ i _ => n - (intOf i).toNat)
  case atStart => exact ⟨0, v, rfl, by omega, rfl, Lib.hid (by simp), hv, Lib.hid (own_nil _ _), Below.refl _ _⟩
  case round =>
    obtain ⟨k, y, rfl, hk, rfl, hy, hy64, ho, hb⟩ := hrel
    have hbs : B ≤ wr.heap.size := by have := hb.size; have := hB.out; omega
    by_cases hlt : k < n
    · have hby : Hid ((y : Int) % 256 = ((v / 256 ^ k % 256 : Nat) : Int)) := Lib.hid (by rw [← hy.out]; rfl)
      have hy' : Hid (y / 256 = v / 256 ^ (k + 1)) := Lib.hid (by rw [hy.out, Nat.div_div_eq_div_mul, Nat.pow_succ])
      have hln := fx_length v k
      clear hy
      go_wp2_with (at_builtin; refine push_own rfl (.tmp 12) (.tmp 15) rfl B _ _ _ _ _ rfl ho.out rfl hby.out ?c1 ?c2 ?_)
      case c1 => exact hbs
      case c2 => rw [hln]; omega
      intro v' w4 hown' hb'
      have ho' : Hid (OwnB B w4 v' (fx v (k + 1))) := Lib.hid (by rw [fx_succ]; exact hown')
      have hb2 : Below w.heap.size w w4 := by have := hb'; rw [hB.out] at this; exact hb.trans this
      clear hown' hb hb' ho hln
      go_wp2
      go_roundw
      case rel => exact ⟨k + 1, y / 256, by go_num, by omega, by go_num, hy', by omega, ho', hb2⟩
      case measure => simp [intOf]; omega
    · have hkn : k = n := by omega
      subst hkn
      have hc := conv_own ho.out
      go_wp2
      go_ret
      exact ⟨rfl, hb⟩
def RPutIs (num kind : Int) (val : Nat) (d : ByteArray) (w : World) (e : Ending) (w' : World) : Prop :=
  ((May num kind val d ∧ e = .returned (.tuple #[.string (txt (pput num.toNat kind.toNat val d)), .int .i64 0])) ∨
   (¬ May num kind val d ∧ e = .returned (.tuple #[.string ⟨#[]⟩, .int .i64 1]))) ∧ Below w.heap.size w w'
set_option maxRecDepth 100000 in
set_option maxHeartbeats 2000000 in
theorem rput_no (num kind at_ : Int) (val : Nat) (d : ByteArray) (w : World) (hv : val < 18446744073709551616) (hd : d.size ≤ maxLen) (h : ¬ May num kind val d) :
    Calls Try.prog 22 #[fV num kind at_ val d] w (GavePut ⟨#[]⟩ 1 w) := by
  unfold maxLen at hd
  unfold fV
  obtain ⟨V, hV⟩ : ∃ V : Int, (val : Int) = V := ⟨_, rfl⟩
  rw [hV]
  have hV0 : 0 ≤ V := by omega
  have hem : Hid (d.size ≠ 0 → (!d.toList.isEmpty) = true ∧ ¬ d.toList = []) := Lib.hid (fun h4 => by
    have h5 : ¬ d.toList = [] := fun h => h4 (by rw [ByteArray.toList_eq] at h; exact (List.length_eq_zero_iff.2 h))
    exact ⟨by cases hl : d.toList with | nil => exact absurd hl h5 | cons _ _ => rfl, h5⟩)
  by_cases h1 : num < 1
  · clear h hv hV
    go_enter Try.func22, Try.ntmps22
    go_wp2
    go_ret2
    exact ⟨rfl, (Below.refl _ _).alloc (Nat.le_refl _) _⟩
  · by_cases h2 : 536870911 < num
    · clear h hv hV
      go_enter Try.func22, Try.ntmps22
      go_wp2
      go_ret2
      exact ⟨rfl, (Below.refl _ _).alloc (Nat.le_refl _) _⟩
    · by_cases h3 : kind = 2
      · by_cases h4 : V = 0
        · have h5 : 60000 < d.size := by unfold May at h; omega
          have h7 : decide (60000 < (d.size : Int)) = true := by simp; omega
          subst h3 h4
          clear h hv hV
          go_enter Try.func22, Try.ntmps22
          go_wp2
          go_ret2
          exact ⟨rfl, (Below.refl _ _).alloc (Nat.le_refl _) _⟩
        · have h5 : (V == 0) = false := by simpa using h4
          have h6 : (V != 0) = true := by simpa using h4
          subst h3
          clear h hv hV h4
          go_enter Try.func22, Try.ntmps22
          go_wp2
          go_ret2
          exact ⟨rfl, (Below.refl _ _).alloc (Nat.le_refl _) _⟩
      · by_cases h4 : kind = 0 ∨ kind = 1 ∨ kind = 5
        · by_cases h5 : kind = 5 ∧ 4294967296 ≤ V
          · obtain ⟨h5, h6⟩ := h5
            subst h5
            clear h hv hV h4 h3
            go_enter Try.func22, Try.ntmps22
            go_wp2
            go_ret2
            exact ⟨rfl, (Below.refl _ _).alloc (Nat.le_refl _) _⟩
          · have h6 : d.size ≠ 0 := fun h0 => h (by unfold May; omega)
            obtain ⟨h7, h8⟩ := hem.out h6
            have h9 : kind = 5 → V < 4294967296 := by omega
            rcases h4 with rfl | rfl | rfl
            all_goals
              first | (have h10 := h9 rfl) | skip
              clear h hv hV h9 h5
              go_enter Try.func22, Try.ntmps22
              go_wp2
              go_ret2
              exact ⟨rfl, (Below.refl _ _).alloc (Nat.le_refl _) _⟩
        · have e0 : (kind == 0) = false := by simp; omega
          have e1 : (kind == 1) = false := by simp; omega
          have e2 : (kind == 2) = false := by simp; omega
          have e5 : (kind == 5) = false := by simp; omega
          have f0 : (kind != 0) = true := by simp; omega
          have f1 : (kind != 1) = true := by simp; omega
          have f2 : (kind != 2) = true := by simp; omega
          have f5 : (kind != 5) = true := by simp; omega
          clear h hv hV h4 h3
          go_enter Try.func22, Try.ntmps22
          go_wp2
          go_ret2
          exact ⟨rfl, (Below.refl _ _).alloc (Nat.le_refl _) _⟩
/-- What a tag's number is, as the document's own text reckons it. -/
theorem rtag_num (num : Int) (k : Nat) (h1 : 1 ≤ num) (h2 : num ≤ 536870911) (hk : k < 8) : num * 8 + (k : Int) = ((num.toNat * 8 + k : Nat) : Int) := by omega
theorem txt_pv_size (v : Nat) (h : v < 18446744073709551616) : (txt (pv v)).size ≤ 10 := by rw [txt_size]; exact pv_ten v h
set_option maxRecDepth 100000 in
set_option maxHeartbeats 1000000 in
theorem rput_varint (num at_ : Int) (val : Nat) (w : World) (hv : val < 18446744073709551616) (h : May num 0 val ⟨#[]⟩) :
    Calls Try.prog 22 #[fV num 0 at_ val ⟨#[]⟩] w (GavePut (txt (pput num.toNat 0 val ⟨#[]⟩)) 0 w) := by
  have h1 : 1 ≤ num := h.1
  have h2 : num ≤ 536870911 := h.2.1
  obtain ⟨T, hT⟩ : ∃ T : Nat, num.toNat * 8 + 0 = T := ⟨_, rfl⟩
  have ht := rtag_num num 0 h1 h2 (by omega)
  rw [hT] at ht
  have hT1 : T < 18446744073709551616 := by omega
  obtain ⟨P1, hP1⟩ : ∃ P, txt (pv T) = P := ⟨_, rfl⟩
  obtain ⟨P2, hP2⟩ : ∃ P, txt (pv val) = P := ⟨_, rfl⟩
  have hs1 : P1.size ≤ 10 := by rw [← hP1]; exact txt_pv_size T hT1
  have hs2 : P2.size ≤ 10 := by rw [← hP2, txt_size]; exact pv_ten val hv
  have HP : Hid (txt (pput num.toNat 0 val ⟨#[]⟩) = P1 ++ P2) := Lib.hid (by unfold pput pbd; rw [hT, txt_app, hP1]; simp only [show ¬ (1 = 0) from by omega, show ¬ (1 = 2) from by omega, show ¬ (1 = 5) from by omega, show ¬ (5 = 0) from by omega, show ¬ (5 = 2) from by omega, if_true, if_false]; rw [hP2])
  have H1 := Lib.hid (fun w => refputv_any T w hT1)
  rw [hP1] at H1
  have H2 := Lib.hid (fun w => refputv_any val w hv)
  rw [hP2] at H2
  have hvb : 0 = 5 → val < 4294967296 := by have := h.2.2; omega
  obtain ⟨V, hV⟩ : ∃ V : Int, (val : Int) = V := ⟨_, rfl⟩
  rw [hV] at H2
  unfold fV
  rw [hV]
  have hV0 : 0 ≤ V := by omega
  have hV5 : 0 = 5 → V < 4294967296 := by omega
  first | (have hV6 := hV5 rfl) | skip
  have Ht : num * 8 + 0 = (T : Int) := ht
  clear h hT hP1 hP2 hv hT1 hV hV5 hvb ht
  go_enter Try.func22, Try.ntmps22
  go_wp2_with fail
  refine (H1.out _).mono ?_
  rintro e w1 ⟨rfl, b1⟩
  obtain ⟨k1, b1, z1⟩ := fbox b1
  obtain ⟨c0, c1, c2, c3, c4⟩ := fcells k1
  go_wp2_with fail
  refine (H2.out _).mono ?_
  rintro e w2 ⟨rfl, b2⟩
  go_wp2
  go_ret2
  exact ⟨by rw [HP.out]; rfl, b1.trans (b2.mono b1.size)⟩
set_option maxRecDepth 100000 in
set_option maxHeartbeats 1000000 in
theorem rput_eight (num at_ : Int) (val : Nat) (w : World) (hv : val < 18446744073709551616) (h : May num 1 val ⟨#[]⟩) :
    Calls Try.prog 22 #[fV num 1 at_ val ⟨#[]⟩] w (GavePut (txt (pput num.toNat 1 val ⟨#[]⟩)) 0 w) := by
  have h1 : 1 ≤ num := h.1
  have h2 : num ≤ 536870911 := h.2.1
  obtain ⟨T, hT⟩ : ∃ T : Nat, num.toNat * 8 + 1 = T := ⟨_, rfl⟩
  have ht := rtag_num num 1 h1 h2 (by omega)
  rw [hT] at ht
  have hT1 : T < 18446744073709551616 := by omega
  obtain ⟨P1, hP1⟩ : ∃ P, txt (pv T) = P := ⟨_, rfl⟩
  obtain ⟨P2, hP2⟩ : ∃ P, txt (fx val 8) = P := ⟨_, rfl⟩
  have hs1 : P1.size ≤ 10 := by rw [← hP1]; exact txt_pv_size T hT1
  have hs2 : P2.size ≤ 10 := by rw [← hP2, txt_size]; rw [fx_length]; omega
  have HP : Hid (txt (pput num.toNat 1 val ⟨#[]⟩) = P1 ++ P2) := Lib.hid (by unfold pput pbd; rw [hT, txt_app, hP1]; simp only [show ¬ (1 = 0) from by omega, show ¬ (1 = 2) from by omega, show ¬ (1 = 5) from by omega, show ¬ (5 = 0) from by omega, show ¬ (5 = 2) from by omega, if_true, if_false]; rw [hP2])
  have H1 := Lib.hid (fun w => refputv_any T w hT1)
  rw [hP1] at H1
  have H2 := Lib.hid (fun w => rlittle_any val 8 w hv (by omega))
  rw [hP2] at H2
  have hvb : 1 = 5 → val < 4294967296 := by have := h.2.2; omega
  obtain ⟨V, hV⟩ : ∃ V : Int, (val : Int) = V := ⟨_, rfl⟩
  rw [hV] at H2
  unfold fV
  rw [hV]
  have hV0 : 0 ≤ V := by omega
  have hV5 : 1 = 5 → V < 4294967296 := by omega
  first | (have hV6 := hV5 rfl) | skip
  have Ht : num * 8 + 1 = (T : Int) := ht
  clear h hT hP1 hP2 hv hT1 hV hV5 hvb ht
  go_enter Try.func22, Try.ntmps22
  go_wp2_with fail
  refine (H1.out _).mono ?_
  rintro e w1 ⟨rfl, b1⟩
  obtain ⟨k1, b1, z1⟩ := fbox b1
  obtain ⟨c0, c1, c2, c3, c4⟩ := fcells k1
  go_wp2_with fail
  refine (H2.out _).mono ?_
  rintro e w2 ⟨rfl, b2⟩
  go_wp2
  go_ret2
  exact ⟨by rw [HP.out]; rfl, b1.trans (b2.mono b1.size)⟩
set_option maxRecDepth 100000 in
set_option maxHeartbeats 1000000 in
theorem rput_four (num at_ : Int) (val : Nat) (w : World) (hv : val < 18446744073709551616) (h : May num 5 val ⟨#[]⟩) :
    Calls Try.prog 22 #[fV num 5 at_ val ⟨#[]⟩] w (GavePut (txt (pput num.toNat 5 val ⟨#[]⟩)) 0 w) := by
  have h1 : 1 ≤ num := h.1
  have h2 : num ≤ 536870911 := h.2.1
  obtain ⟨T, hT⟩ : ∃ T : Nat, num.toNat * 8 + 5 = T := ⟨_, rfl⟩
  have ht := rtag_num num 5 h1 h2 (by omega)
  rw [hT] at ht
  have hT1 : T < 18446744073709551616 := by omega
  obtain ⟨P1, hP1⟩ : ∃ P, txt (pv T) = P := ⟨_, rfl⟩
  obtain ⟨P2, hP2⟩ : ∃ P, txt (fx val 4) = P := ⟨_, rfl⟩
  have hs1 : P1.size ≤ 10 := by rw [← hP1]; exact txt_pv_size T hT1
  have hs2 : P2.size ≤ 10 := by rw [← hP2, txt_size]; rw [fx_length]; omega
  have HP : Hid (txt (pput num.toNat 5 val ⟨#[]⟩) = P1 ++ P2) := Lib.hid (by unfold pput pbd; rw [hT, txt_app, hP1]; simp only [show ¬ (1 = 0) from by omega, show ¬ (1 = 2) from by omega, show ¬ (1 = 5) from by omega, show ¬ (5 = 0) from by omega, show ¬ (5 = 2) from by omega, if_true, if_false]; rw [hP2])
  have H1 := Lib.hid (fun w => refputv_any T w hT1)
  rw [hP1] at H1
  have H2 := Lib.hid (fun w => rlittle_any val 4 w hv (by omega))
  rw [hP2] at H2
  have hvb : 5 = 5 → val < 4294967296 := by have := h.2.2; omega
  obtain ⟨V, hV⟩ : ∃ V : Int, (val : Int) = V := ⟨_, rfl⟩
  rw [hV] at H2
  unfold fV
  rw [hV]
  have hV0 : 0 ≤ V := by omega
  have hV5 : 5 = 5 → V < 4294967296 := by omega
  first | (have hV6 := hV5 rfl) | skip
  have Ht : num * 8 + 5 = (T : Int) := ht
  clear h hT hP1 hP2 hv hT1 hV hV5 hvb ht
  go_enter Try.func22, Try.ntmps22
  go_wp2_with fail
  refine (H1.out _).mono ?_
  rintro e w1 ⟨rfl, b1⟩
  obtain ⟨k1, b1, z1⟩ := fbox b1
  obtain ⟨c0, c1, c2, c3, c4⟩ := fcells k1
  go_wp2_with fail
  refine (H2.out _).mono ?_
  rintro e w2 ⟨rfl, b2⟩
  go_wp2
  go_ret2
  exact ⟨by rw [HP.out]; rfl, b1.trans (b2.mono b1.size)⟩
set_option maxRecDepth 100000 in
set_option maxHeartbeats 1000000 in
theorem rput_bytes (num at_ : Int) (d : ByteArray) (w : World) (h : May num 2 (0 : Nat) d) :
    Calls Try.prog 22 #[fV num 2 at_ 0 d] w (GavePut (txt (pput num.toNat 2 0 d)) 0 w) := by
  have h1 : 1 ≤ num := h.1
  have h2 : num ≤ 536870911 := h.2.1
  have hd : d.size ≤ 60000 := by have := h.2.2; omega
  obtain ⟨T, hT⟩ : ∃ T : Nat, num.toNat * 8 + 2 = T := ⟨_, rfl⟩
  have ht := rtag_num num 2 h1 h2 (by omega)
  rw [hT] at ht
  have hT1 : T < 18446744073709551616 := by omega
  obtain ⟨n, hn⟩ : ∃ n, d.size = n := ⟨_, rfl⟩
  have hn64 : n < 18446744073709551616 := by omega
  obtain ⟨P1, hP1⟩ : ∃ P, txt (pv T) = P := ⟨_, rfl⟩
  obtain ⟨P2, hP2⟩ : ∃ P, txt (pv n) = P := ⟨_, rfl⟩
  have hs1 : P1.size ≤ 10 := by rw [← hP1]; exact txt_pv_size T hT1
  have hs2 : P2.size ≤ 10 := by rw [← hP2]; exact txt_pv_size n hn64
  have HP : Hid (txt (pput num.toNat 2 0 d) = P1 ++ P2 ++ d) := Lib.hid (by
    have e : pput num.toNat 2 0 d = pv T ++ (pv n ++ dn d) := by unfold pput pbd; rw [hT, ← hn]; rfl
    rw [e, txt_app, txt_app, hP1, hP2, txt_dn, bapp_assoc])
  have H1 := Lib.hid (fun w => refputv_any T w hT1)
  rw [hP1] at H1
  have H2 : Hid (∀ w, Calls Try.prog 16 #[.int .u64 (IntKind.u64.wrap (n : Int))] w (GaveText P2 w)) := Lib.hid (fun w => by rw [wrapu64 n hn64, ← hP2]; exact refputv_any n w hn64)
  unfold fV
  have Ht : num * 8 + 2 = (T : Int) := ht
  have Hn := Lib.hid hn
  have h7 : decide (60000 < (d.size : Int)) = false := by simp; omega
  clear h hT hP1 hP2 hT1 ht hn hn64
  go_enter Try.func22, Try.ntmps22
  go_wp2_with fail
  refine (H1.out _).mono ?_
  rintro e w1 ⟨rfl, b1⟩
  obtain ⟨k1, b1, z1⟩ := fbox b1
  obtain ⟨c0, c1, c2, c3, c4⟩ := fcells k1
  go_wp2_with fail
  clear c0 c1 c2 c3
  have hn := Hn.out
  have HN : Hid (∀ w3, Below w1.drew.heap.size w1.drew w3 → w3.cell? ⟨w.heap.size, 4, none⟩ = some (.string d) ∧ Hid (Below w1.heap.size w1 w3)) := Lib.hid (fun w3 b => by
    have b' : Below w1.heap.size w1 w3 := (Below.drew (Below.refl _ _)).trans b
    exact ⟨(k1.below b' (by omega)).cell 4, Lib.hid b'⟩)
  have hrun1 : ∀ wx, (Op.stringOp .add P1 P2).run Try.prog wx = .ok (.string (P1 ++ P2)) wx := fun wx => run_string_add_sum wx _ _ (by omega)
  have hrun2 : ∀ wx, (Op.stringOp .add (P1 ++ P2) d).run Try.prog wx = .ok (.string (P1 ++ P2 ++ d)) wx := fun wx => run_string_add_sum wx _ _ (by rw [bsize_app]; omega)
  go_region_held3 (fun w' => w'.cell? ⟨w.heap.size, 4, none⟩ = some (.string d))
    (first | exact c4' | go_keep)
    (first
      | (go_at_call 16; refine (H2.out _).mono ?_; rintro e w3 ⟨rfl, b3⟩; obtain ⟨c4', hb3⟩ := HN.out w3 b3; clear b3))
  go_wp2
  go_ret2
  exact ⟨by rw [HP.out]; rfl, b1.trans (hb3.out.mono b1.size)⟩
theorem rput_any (num kind at_ : Int) (val : Nat) (d : ByteArray) (w : World) (hv : val < 18446744073709551616) (hd : d.size ≤ maxLen) :
    Calls Try.prog 22 #[.agg #[.int .i64 num, .int .i64 kind, .int .i64 at_, .int .u64 val, .string d]] w (RPutIs num kind val d w) := by
  by_cases hm : May num kind val d
  · have fin : ∀ e w', GavePut (txt (pput num.toNat kind.toNat val d)) 0 w e w' → RPutIs num kind val d w e w' := fun e w' h => ⟨.inl ⟨hm, h.1⟩, h.2⟩
    obtain ⟨h1, h2, h3⟩ := id hm
    rcases h3 with ⟨rfl, hz⟩ | ⟨rfl, hz⟩ | ⟨rfl, hz, _⟩ | ⟨rfl, rfl, _⟩
    · obtain rfl := size_zero _ hz
      exact (rput_varint num at_ val w hv hm).mono fin
    · obtain rfl := size_zero _ hz
      exact (rput_eight num at_ val w hv hm).mono fin
    · obtain rfl := size_zero _ hz
      exact (rput_four num at_ val w hv hm).mono fin
    · exact (rput_bytes num at_ d w hm).mono fin
  · exact (rput_no num kind at_ val d w hv hd hm).mono fun e w' h => ⟨.inr ⟨hm, h.1⟩, h.2⟩
end Go.Proofs.Ytbkcklefkhlciaa
