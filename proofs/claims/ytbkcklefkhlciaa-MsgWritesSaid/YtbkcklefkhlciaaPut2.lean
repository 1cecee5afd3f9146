/-
  pbuf.Put: the bytes of a field.
-/
import Derived.Test.YtbkcklefkhlciaaPut
import Derived.Test.YtbkcklefkhlciaaFields
import Derived.Deep.RegionHeld3
namespace Go.Proofs.Ytbkcklefkhlciaa
open Go.RowKit
def GavePut (t : ByteArray) (c : Int) (w : World) (e : Ending) (w' : World) : Prop := e = .returned (.tuple #[.string t, .int .i64 c]) ∧ Below w.heap.size w w'
set_option maxRecDepth 100000 in
set_option maxHeartbeats 1000000 in
theorem put_no (num kind at_ : Int) (val : Nat) (d : ByteArray) (w : World) (hv : val < 18446744073709551616) (hd : d.size ≤ maxLen) (h : ¬ May num kind val d) :
    Calls Try.prog 44 #[fV num kind at_ val d] w (GavePut ⟨#[]⟩ 1 w) := by
  have HM := Lib.hid (fun w => mayput_any num kind at_ val d w hv hd)
  have hb := mayB_no h
  rw [hb] at HM
  unfold fV at HM ⊢
  clear hb h hv hd
  go_enter Try.func44, Try.ntmps44
  go_wp2_with fail
  refine (HM.out _).mono ?_
  rintro e w1 ⟨rfl, b1⟩
  go_wp2
  go_ret2
  exact ⟨rfl, ((Below.refl _ _).alloc (Nat.le_refl _) _).trans (b1.mono (by simp))⟩

theorem fcells {w : World} {g : Nat} {t : TypeId} {a b c d e : Value} (h : Blk w g t #[a, b, c, d, e]) : w.cell? ⟨g, 0, none⟩ = some a ∧ w.cell? ⟨g, 1, none⟩ = some b ∧ w.cell? ⟨g, 2, none⟩ = some c ∧ w.cell? ⟨g, 3, none⟩ = some d ∧ w.cell? ⟨g, 4, none⟩ = some e :=
  ⟨h.cell 0, h.cell 1, h.cell 2, h.cell 3, h.cell 4⟩
theorem fbox {W w1 : World} {t : TypeId} {cs : Array Value} (h : Below (W.alloc (.cells cs t)).heap.size (W.alloc (.cells cs t)) w1) : Blk w1 W.heap.size t cs ∧ Below W.heap.size W w1 ∧ W.heap.size < w1.heap.size := by
  have hs := h.size
  simp only [World.size_alloc] at hs
  exact ⟨(Blk.new W t cs).below h (by simp), ((Below.refl _ _).alloc (Nat.le_refl _) _).trans (h.mono (by simp)), by omega⟩
theorem shr_byte (v k : Nat) : (v : Int) / 2 ^ (8 * k) % 256 = ((v / 256 ^ k % 256 : Nat) : Int) := by
  have h2 : (2 : Int) ^ (8 * k) = ((256 ^ k : Nat) : Int) := by
    rw [show (256 : Nat) ^ k = 2 ^ (8 * k) from by rw [Nat.pow_mul], Int.natCast_pow]; rfl
  rw [h2]; rfl
theorem fx_succ (v k : Nat) : fx v (k + 1) = fx v k ++ [v / 256 ^ k % 256] := rfl
/-- What a tag's number is. -/
theorem tag_num (num : Int) (k : Nat) (h1 : 1 ≤ num) (h2 : num ≤ 536870911) (hk : k < 8) : bits .or .u64 (num * 8) (k : Int) = ((num.toNat * 8 + k : Nat) : Int) := by
  obtain ⟨n, rfl⟩ : ∃ n : Nat, num = (n : Int) := ⟨num.toNat, by omega⟩
  have e : ((n : Int) * 8) = ((n * 8 : Nat) : Int) := by omega
  rw [e, u64_or_nat _ _ (by omega) (by omega), Int.toNat_natCast, nat_join 3 _ _ (by simp) (by simpa using hk)]
set_option maxRecDepth 100000 in
set_option maxHeartbeats 1000000 in
theorem put_varint (num at_ : Int) (val : Nat) (w : World) (hv : val < 18446744073709551616) (h : May num 0 val ⟨#[]⟩) :
    Calls Try.prog 44 #[fV num 0 at_ val ⟨#[]⟩] w (GavePut (txt (pput num.toNat 0 val ⟨#[]⟩)) 0 w) := by
  have h1 : 1 ≤ num := h.1
  have h2 : num ≤ 536870911 := h.2.1
  have HM := Lib.hid (fun w => mayput_any num 0 at_ val ⟨#[]⟩ w hv (by first | (unfold maxLen; decide) | (unfold maxLen; omega)))
  have hb := mayB_yes h
  rw [hb] at HM
  obtain ⟨T, hT⟩ : ∃ T : Nat, num.toNat * 8 + 0 = T := ⟨_, rfl⟩
  have ht := tag_num num 0 h1 h2 (by omega)
  rw [hT] at ht
  have hT1 : T < 18446744073709551616 := by omega
  have hTl := pv_ten T hT1
  have HT := Lib.hid ht
  unfold fV at HM ⊢
  clear hb h ht
  have HP : Hid (pput num.toNat 0 val ⟨#[]⟩ = pv T ++ pv val) := Lib.hid (by unfold pput pbd; rw [hT]; rfl)
  clear hT
  go_enter Try.func44, Try.ntmps44
  go_wp2_with fail
  refine (HM.out _).mono ?_
  rintro e w1 ⟨rfl, b1⟩
  obtain ⟨k1, b1, z1⟩ := fbox b1
  obtain ⟨c0, c1, c2, c3, c4⟩ := fcells k1
  go_wp2_with fail
  have ht : bits .or .u64 (num * 8) 0 = (T : Int) := HT.out
  rw [ht]
  clear ht
  refine (appv_any w1.heap.size _ [] T _ (Nat.le_refl _) (own_nil _ _) hT1 (by simp)).mono ?_
  rintro e w2 ⟨v2, rfl, o2, b2⟩
  have k2 := k1.below b2 z1
  clear c0 c1 c2 c3 c4
  obtain ⟨c0, c1, c2, c3, c4⟩ := fcells k2
  have Ho := Lib.hid o2
  clear o2
  go_wp2_with fail
  refine (appv_any w1.heap.size _ ([] ++ pv T) val _ b2.size Ho.out hv (by simp; omega)).mono ?_
  rintro e w3 ⟨v3, rfl, o3, b3⟩
  have hc := conv_own o3
  simp only [List.nil_append] at hc
  rw [← HP.out] at hc
  go_wp2
  go_ret2
  exact ⟨rfl, b1.trans ((b2.trans b3).mono b1.size)⟩
set_option maxRecDepth 100000 in
set_option maxHeartbeats 1000000 in
theorem put_four (num at_ : Int) (val : Nat) (w : World) (hv : val < 18446744073709551616) (h : May num 5 val ⟨#[]⟩) :
    Calls Try.prog 44 #[fV num 5 at_ val ⟨#[]⟩] w (GavePut (txt (pput num.toNat 5 val ⟨#[]⟩)) 0 w) := by
  have h1 : 1 ≤ num := h.1
  have h2 : num ≤ 536870911 := h.2.1
  have HM := Lib.hid (fun w => mayput_any num 5 at_ val ⟨#[]⟩ w hv (by first | (unfold maxLen; decide) | (unfold maxLen; omega)))
  have hb := mayB_yes h
  rw [hb] at HM
  obtain ⟨T, hT⟩ : ∃ T : Nat, num.toNat * 8 + 5 = T := ⟨_, rfl⟩
  have ht := tag_num num 5 h1 h2 (by omega)
  rw [hT] at ht
  have hT1 : T < 18446744073709551616 := by omega
  have hTl := pv_ten T hT1
  have HT := Lib.hid ht
  unfold fV at HM ⊢
  clear hb h ht
  have HP : Hid (pput num.toNat 5 val ⟨#[]⟩ = pv T ++ fx val 4) := Lib.hid (by unfold pput pbd; rw [hT]; rfl)
  clear hT
  go_enter Try.func44, Try.ntmps44
  go_wp2_with fail
  refine (HM.out _).mono ?_
  rintro e w1 ⟨rfl, b1⟩
  obtain ⟨k1, b1, z1⟩ := fbox b1
  obtain ⟨c0, c1, c2, c3, c4⟩ := fcells k1
  go_wp2_with fail
  have ht : bits .or .u64 (num * 8) 5 = (T : Int) := HT.out
  rw [ht]
  clear ht
  refine (appv_any w1.heap.size _ [] T _ (Nat.le_refl _) (own_nil _ _) hT1 (by simp)).mono ?_
  rintro e w2 ⟨v2, rfl, o2, b2⟩
  have k2 := k1.below b2 z1
  have z2 : w1.heap.size ≤ w2.heap.size := b2.size
  clear c0 c1 c2 c3 c4
  obtain ⟨c0, c1, c2, c3, c4⟩ := fcells k2
  have Ho := Lib.hid o2
  have HF : Hid (fsz 5 = 4) := Lib.hid (by decide)
  clear o2
  go_wp2_with fail
  refine (fsz_any 5 _).mono ?_
  rintro e w2' ⟨rfl, rfl⟩
  rw [HF.out]
  clear c0 c1 c2 c3 c4
  go_wp2
  go_loopw [4, 23] (fun s i wr => ∃ k : Nat, i = .int .i64 k ∧ k ≤ 4 ∧ Hid (OwnB w1.heap.size wr s (pv T ++ fx val k)) ∧ Below w1.heap.size w2 wr) (fun _ i _ => 4 - (intOf i).toNat)
  case atStart => exact ⟨0, rfl, by omega, Lib.hid (by simpa [fx] using Ho.out), Below.refl _ _⟩
  case round =>
    obtain ⟨k, rfl, hk, ho, hb⟩ := hrel
    by_cases hlt : k < 4
    · obtain ⟨c0, c1, c2, c3, c4⟩ := fcells (k2.below hb z1)
      have hby := Lib.hid (shr_byte val k)
      have hln := fx_length val k
      have hbs := hb.size
      clear c0 c1 c2 c4
      go_wp2_with (at_builtin; refine push_own rfl (.tmp 26) (.tmp 33) rfl w1.heap.size _ _ _ _ _ rfl ho.out rfl hby.out ?c1 ?c2 ?_)
      case c1 => omega
      case c2 => rw [List.length_append, hln]; omega
      intro v' w4 hown' hb'
      have ho' : Hid (OwnB w1.heap.size w4 v' (pv T ++ fx val (k + 1))) := Lib.hid (by rw [fx_succ]; first | exact hown' | (rw [← List.append_assoc]; exact hown'))
      have hb2 := hb.trans hb'
      clear hown' hb hb' ho hln c3 hbs
      go_wp2
      go_roundw
      case rel => exact ⟨k + 1, by go_num, by omega, ho', hb2⟩
      case measure => simp [intOf]; omega
    · have hk4 : k = 4 := by omega
      subst hk4
      have hc := conv_own ho.out
      rw [← HP.out] at hc
      go_wp2
      go_ret2
      exact ⟨rfl, b1.trans ((b2.trans hb).mono b1.size)⟩
set_option maxRecDepth 100000 in
set_option maxHeartbeats 1000000 in
theorem put_eight (num at_ : Int) (val : Nat) (w : World) (hv : val < 18446744073709551616) (h : May num 1 val ⟨#[]⟩) :
    Calls Try.prog 44 #[fV num 1 at_ val ⟨#[]⟩] w (GavePut (txt (pput num.toNat 1 val ⟨#[]⟩)) 0 w) := by
  have h1 : 1 ≤ num := h.1
  have h2 : num ≤ 536870911 := h.2.1
  have HM := Lib.hid (fun w => mayput_any num 1 at_ val ⟨#[]⟩ w hv (by first | (unfold maxLen; decide) | (unfold maxLen; omega)))
  have hb := mayB_yes h
  rw [hb] at HM
  obtain ⟨T, hT⟩ : ∃ T : Nat, num.toNat * 8 + 1 = T := ⟨_, rfl⟩
  have ht := tag_num num 1 h1 h2 (by omega)
  rw [hT] at ht
  have hT1 : T < 18446744073709551616 := by omega
  have hTl := pv_ten T hT1
  have HT := Lib.hid ht
  unfold fV at HM ⊢
  clear hb h ht
  have HP : Hid (pput num.toNat 1 val ⟨#[]⟩ = pv T ++ fx val 8) := Lib.hid (by unfold pput pbd; rw [hT]; rfl)
  clear hT
  go_enter Try.func44, Try.ntmps44
  go_wp2_with fail
  refine (HM.out _).mono ?_
  rintro e w1 ⟨rfl, b1⟩
  obtain ⟨k1, b1, z1⟩ := fbox b1
  obtain ⟨c0, c1, c2, c3, c4⟩ := fcells k1
  go_wp2_with fail
  have ht : bits .or .u64 (num * 8) 1 = (T : Int) := HT.out
  rw [ht]
  clear ht
  refine (appv_any w1.heap.size _ [] T _ (Nat.le_refl _) (own_nil _ _) hT1 (by simp)).mono ?_
  rintro e w2 ⟨v2, rfl, o2, b2⟩
  have k2 := k1.below b2 z1
  have z2 : w1.heap.size ≤ w2.heap.size := b2.size
  clear c0 c1 c2 c3 c4
  obtain ⟨c0, c1, c2, c3, c4⟩ := fcells k2
  have Ho := Lib.hid o2
  have HF : Hid (fsz 1 = 8) := Lib.hid (by decide)
  clear o2
  go_wp2_with fail
  refine (fsz_any 1 _).mono ?_
  rintro e w2' ⟨rfl, rfl⟩
  rw [HF.out]
  clear c0 c1 c2 c3 c4
  go_wp2
  go_loopw [4, 23] (fun s i wr => ∃ k : Nat, i = .int .i64 k ∧ k ≤ 8 ∧ Hid (OwnB w1.heap.size wr s (pv T ++ fx val k)) ∧ Below w1.heap.size w2 wr) (fun _ i _ => 8 - (intOf i).toNat)
  case atStart => exact ⟨0, rfl, by omega, Lib.hid (by simpa [fx] using Ho.out), Below.refl _ _⟩
  case round =>
    obtain ⟨k, rfl, hk, ho, hb⟩ := hrel
    by_cases hlt : k < 8
    · obtain ⟨c0, c1, c2, c3, c4⟩ := fcells (k2.below hb z1)
      have hby := Lib.hid (shr_byte val k)
      have hln := fx_length val k
      have hbs := hb.size
      clear c0 c1 c2 c4
      go_wp2_with (at_builtin; refine push_own rfl (.tmp 26) (.tmp 33) rfl w1.heap.size _ _ _ _ _ rfl ho.out rfl hby.out ?c1 ?c2 ?_)
      case c1 => omega
      case c2 => rw [List.length_append, hln]; omega
      intro v' w4 hown' hb'
      have ho' : Hid (OwnB w1.heap.size w4 v' (pv T ++ fx val (k + 1))) := Lib.hid (by rw [fx_succ]; first | exact hown' | (rw [← List.append_assoc]; exact hown'))
      have hb2 := hb.trans hb'
      clear hown' hb hb' ho hln c3 hbs
      go_wp2
      go_roundw
      case rel => exact ⟨k + 1, by go_num, by omega, ho', hb2⟩
      case measure => simp [intOf]; omega
    · have hk4 : k = 8 := by omega
      subst hk4
      have hc := conv_own ho.out
      rw [← HP.out] at hc
      go_wp2
      go_ret2
      exact ⟨rfl, b1.trans ((b2.trans hb).mono b1.size)⟩
end Go.Proofs.Ytbkcklefkhlciaa
