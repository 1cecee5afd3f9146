/-
  Law 7: the document's own word on whether XML takes a text's characters.
-/
import Derived.Test.YtkebjllehegjlaaGreatDoorRefRead
import Derived.Test.YtkebjllehegjlaaGreatDoorRefClass
import Derived.Test.YtkebjllehegjlaaGreatDoorXk
namespace Go.Proofs.YtkebjllehegjlaaGreatDoor
open Go.RowKit Go.Shelf
set_option linter.unusedVariables false
theorem own_at {B : Nat} {W : World} {v : Value} {l : List Int} (h : OwnZ B W v l) : (∃ a c, v = .slice a l.length c) ∧ (0 < l.length → ∃ g c, v = .slice (some ⟨g, 0, none⟩) l.length c ∧ ∀ (i : Nat) (x : Int), l[i]? = some x → W.cell? ⟨g, i, none⟩ = some (.int .i64 x)) := by
  have hc := @World.ownsRow.cells W B 3 1 v l.length (l.map (Value.int .i64 ·)) h
  obtain ⟨hlen, ⟨rfl, h0⟩ | ⟨g, cap, cur, rfl, hb, hgb, _⟩⟩ := h
  · exact ⟨⟨none, 0, by rw [h0]⟩, fun hp => by omega⟩
  · refine ⟨⟨_, _, rfl⟩, fun _ => ⟨g, cap, rfl, fun i x hx => ?_⟩⟩
    have := hc (g := g) rfl i (.int .i64 x) (by rw [List.getElem?_map, hx]; rfl)
    have e : (⟨g, 0, none⟩ : Addr).add i = ⟨g, i, none⟩ := by unfold Addr.add; split <;> simp_all
    rwa [e] at this
def CharsIs (s : ByteArray) (w : World) (e : Ending) (w' : World) : Prop := ∃ B : Bool, e = .returned (.bool B) ∧ (B = true → good s.data.toList) ∧ Below w.heap.size w w'
set_option maxRecDepth 100000 in
set_option maxHeartbeats 8000000 in
theorem chars_any (s : ByteArray) (hs : s.size ≤ 1000000) (w : World) :
    Calls Tryz.prog 4 #[.string s] w (CharsIs s w) := by
  have HC := Lib.hid (fun W => refcheck_any s W hs)
  have HR := Lib.hid (fun W => refrunes_any s W hs)
  obtain ⟨R, hR⟩ : ∃ R, uRunes s.data.toList 0 = R := ⟨_, rfl⟩
  obtain ⟨n, hn⟩ : ∃ n, R.length = n := ⟨_, rfl⟩
  have hn6 : n ≤ 1000000 := by
    have := uRunes_length s.data.toList 0
    rw [hR, hn] at this
    have h2 : s.data.toList.length = s.size := by simp
    omega
  obtain ⟨E, hE⟩ : ∃ E : Int, (uEnd s.data.toList : Int) = E := ⟨_, rfl⟩
  obtain ⟨ok, hok⟩ : ∃ b, decide (uEnd s.data.toList = s.size) = b := ⟨_, rfl⟩
  have HG : Hid (ok = true → (∀ p ∈ R, uChar (p.2 : Int) = true) → good s.data.toList) := Lib.hid (fun h1 h2 => by
    rw [h1] at hok
    refine ⟨?_, by rw [hR]; exact h2⟩
    have h3 : s.data.toList.length = s.size := by simp
    rw [h3]
    exact of_decide_eq_true hok)
  unfold EndIs at HC
  unfold RunesAre at HR
  simp only [hE, hok] at HC
  simp only [hR] at HR
  have Hn := Lib.hid hn
  clear hE hok hR hs hn
  go_enter Tryz.func4, Tryz.ntmps4
  go_wp2_with fail
  refine (HC.out _).mono ?_
  rintro e w1 ⟨rfl, rfl⟩
  go_wp2_with fail
  refine (HR.out _).mono ?_
  rintro e w1 ⟨v1, v2, rfl, hd⟩
  obtain ⟨⟨a2, c2, h2⟩, h3⟩ := own_at hd.o2
  have HB := Lib.hid hd.bel
  rw [List.length_map, Hn.out] at h2 h3
  subst h2
  have HV := Lib.hid h3
  clear hd h3 HC HR
  go_wp2_with fail
  go_loop [4, 7] (fun bv iv => ∃ (i : Nat) (b : Bool), bv = .bool b ∧ iv = .int .i64 (i : Int) ∧ i ≤ n ∧ Hid (b = true → ok = true ∧ ∀ p ∈ R.take i, uChar (p.2 : Int) = true)) (fun _ iv => n - (intOf iv).toNat)
  case atStart => exact ⟨0, ok, rfl, rfl, Nat.zero_le _, Lib.hid (fun h => ⟨h, fun p hp => by simp at hp⟩)⟩
  case round =>
    obtain ⟨i, b, rfl, rfl, hin, HI⟩ := hrel
    by_cases hend : i = n
    · have hnl : ¬ (i : Int) < (n : Int) := by omega
      have HF : Hid (CharsIs s w (.returned (.bool b)) w1) := Lib.hid (by
        refine ⟨b, rfl, fun h => HG.out (HI.out h).1 ?_, HB.out⟩
        have := (HI.out h).2
        rwa [List.take_of_length_le (by rw [Hn.out]; omega)] at this)
      clear HI
      go_wp2_with fail
      go_ret
      exact HF.out
    · have hji : (i : Int) < (n : Int) := by omega
      have hi0 : (0 : Int) ≤ (i : Int) := by omega
      have hi6 : i ≤ 1000000 := by omega
      have hiR : i < R.length := by rw [Hn.out]; omega
      obtain ⟨g, cap, hv, hcell⟩ := HV.out (by omega)
      have hc := hcell i (R[i].2 : Int) (by rw [List.getElem?_map, List.getElem?_eq_getElem hiR]; rfl)
      obtain ⟨st, hst⟩ : ∃ st, uChar (R[i].2 : Int) = st := ⟨_, rfl⟩
      have HN : Hid ((b && st) = true → ok = true ∧ ∀ p ∈ R.take (i + 1), uChar (p.2 : Int) = true) := Lib.hid (fun h => by
        rw [Bool.and_eq_true] at h
        refine ⟨(HI.out h.1).1, fun p hp => ?_⟩
        rw [List.take_succ_eq_append_getElem hiR] at hp
        rcases List.mem_append.1 hp with hp | hp
        · exact (HI.out h.1).2 p hp
        · rw [List.mem_singleton.1 hp, hst]; exact h.2)
      obtain ⟨X, hX⟩ : ∃ X : Int, (R[i].2 : Int) = X := ⟨_, rfl⟩
      have HCh : Hid (∀ W, Calls Tryz.prog 10 #[.int .i64 X] W fun e w' => e = .returned (.bool st) ∧ W = w') := Lib.hid (fun W => by
        have h := refchar_any X W
        rw [← hX, hst] at h
        rwa [← hX])
      rw [hX] at hc
      injection hv with hv1 hv2 hv3
      subst hv1
      clear HI hst hX hcell hiR hv3
      cases b with
      | true =>
        go_wp2_with fail
        refine (HCh.out _).mono ?_
        rintro e w2 ⟨rfl, rfl⟩
        go_wp2_with fail
        exact ⟨⟨i + 1, st, rfl, rfl, by omega, Lib.hid (fun h => HN.out (by rw [h]; rfl))⟩, by simp [intOf]; omega⟩
      | false =>
        go_wp2_with fail
        exact ⟨⟨i + 1, false, rfl, rfl, by omega, Lib.hid (fun h => by cases h)⟩, by simp [intOf]; omega⟩
end Go.Proofs.YtkebjllehegjlaaGreatDoor
