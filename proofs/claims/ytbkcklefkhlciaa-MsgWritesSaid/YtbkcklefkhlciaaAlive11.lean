/-
  alive: a message of two numbers is put, told, read.
-/
import Derived.Test.YtbkcklefkhlciaaMparse
import Derived.Test.YtbkcklefkhlciaaMintsT
namespace Go.Proofs.Ytbkcklefkhlciaa
open Go.RowKit
set_option linter.unusedVariables false
theorem ibs_alive : ibs [1, 300] = ⟨#[1, 172, 2]⟩ := by
  have h1 : pv (un 1) = [1] := pv_small _ (by decide)
  have h2 : pv (un 300) = [172, 2] := by
    have : un 300 = 300 := by decide
    rw [this, pv_great _ (by omega), pv_small _ (by omega)]
  simp only [ibs, h1, h2]
  rfl
theorem cat_alive : cat [tF 3 (ibs [1, 300])] = ⟨#[26, 3, 1, 172, 2]⟩ := by
  rw [ibs_alive]
  have h1 : pv (3 * 8 + 2) = [26] := pv_small _ (by omega)
  have h2 : pv 3 = [3] := pv_small _ (by omega)
  have h3 : (⟨#[1, 172, 2]⟩ : ByteArray).size = 3 := rfl
  simp only [cat, tF, pput, pbd, h1, h3, h2]
  rfl
theorem small_nil : Small [] := ⟨by simp, by simp [cat]; decide⟩
def aliveX : IA := ⟨((0, (tF 3 (ibs [1, 300])).1, 0), [1, 300]), rfl, rfl, by intro z hz; simp at hz; rcases hz with rfl | rfl <;> (unfold InR; omega), by simp⟩
def AliveIs (w : World) (e : Ending) (w' : World) : Prop := e = .returned (.bool true) ∧ Below w.heap.size w w'
set_option maxRecDepth 100000 in
set_option maxHeartbeats 1000000 in
theorem alive_any (w : World) : Calls Try.prog 7 #[] w (AliveIs w) := by
  obtain ⟨n, hn⟩ : ∃ n, w.heap.size = n := ⟨_, rfl⟩
  have Hnew : Hid (Calls Try.prog 9 #[] w fun e w' => e = .returned (.pointer (some ⟨n, 0, none⟩)) ∧ MsgP n n w' [] 0 ∧ Below n w w') := Lib.hid (by rw [← hn]; exact new_any w)
  have HN := Lib.hid hn
  have hd : (ibs [1, 300]).size ≤ 60000 := by rw [ibs_alive]; decide
  have hgood : ∀ p ∈ [tF 3 (ibs [1, 300])], GoodB p := by intro p hp; rw [List.mem_singleton] at hp; subst hp; exact good_t 3 _ (by omega) (by omega) hd
  have hput : ∀ p ∈ [tF 3 (ibs [1, 300])], PutHid p.1 p.2 := by intro p hp; rw [List.mem_singleton] at hp; subst hp; exact puthid_t 3 _ (by omega) (by omega) hd
  have HPI : Hid (∀ w1, n ≤ w1.heap.size → MsgP n n w1 [] 0 → ∀ g, g < w1.heap.size → w1.cell? ⟨g, 0, none⟩ = some (.int .i64 1) → w1.cell? ⟨g, 1, none⟩ = some (.int .i64 300) → Calls Try.prog 15 #[.pointer (some ⟨n, 0, none⟩), .int .i64 3, .slice (some ⟨g, 0, none⟩) 2 2] w1 (PutMs n n [tF 3 (ibs [1, 300])] w1)) := Lib.hid (fun w1 h1 h2 g hg k0 k1 =>
    putints_some n n [] 3 [1, 300] (some ⟨g, 0, none⟩) 2 w1 h1 h2 small_nil (by omega) (by omega) (by simp) (by simp) (fun i hi => by
      match i, hi with
      | 0, _ => exact ⟨_, rfl, hg, k0⟩
      | 1, _ => exact ⟨_, rfl, hg, k1⟩))
  have HB : Hid (∀ w1, MsgP n n w1 [tF 3 (ibs [1, 300])] 0 → Calls Try.prog 23 #[.pointer (some ⟨n, 0, none⟩)] w1 (BytesIs ⟨#[26, 3, 1, 172, 2]⟩ w1)) := Lib.hid (fun w1 h => by
    have := bytes_any n n _ w1 h hput (by simp) (by rw [cat_alive]; decide)
    rw [cat_alive] at this
    exact this)
  have HPa : Hid (∀ w1, Calls Try.prog 33 #[.string ⟨#[26, 3, 1, 172, 2]⟩] w1 (ParseIs [tF 3 (ibs [1, 300])] w1)) := Lib.hid (fun w1 => parse_any _ _ (by decide) cat_alive hgood w1)
  have HIn : Hid (∀ m k w1, MsgP k m w1 [tF 3 (ibs [1, 300])] 0 → Calls Try.prog 28 #[.pointer (some ⟨m, 0, none⟩), .int .i64 3] w1 (IntsIs [1, 300] w1)) := Lib.hid (fun m k w1 h =>
    ints_any k m _ _ 3 [aliveX] (by simp [places]) (by simp [places, mtell, iraw, aliveX, tF]) (by simp [ivals, aliveX]) w1 h)
  clear hd hgood hput hn
  go_enter Try.func7, Try.ntmps7
  go_wp2_with fail
  refine Hnew.out.mono ?_
  rintro e w1 ⟨rfl, hm1, hb1⟩
  have hlt := IsMsg.lt hm1
  have Hm1 := Lib.hid hm1; have Hb1 := Lib.hid hb1
  clear hm1 hb1 Hnew
  go_wp2_with fail
  have q := Blk.new w1 3 #[.int .i64 1, .int .i64 300]
  refine (HPI.out _ (by simp; omega) (Hm1.out.below ((Below.refl _ _).alloc (Nat.le_refl _) _)) w1.heap.size (by simp) (q.cell 0) (q.cell 1)).mono ?_
  rintro e w2 ⟨rfl, hm2, hb2⟩
  have Hm2 := Lib.hid hm2
  have Hb2 : Hid (Below n w w2) := Lib.hid ((Hb1.out.alloc (by omega) _).trans hb2)
  clear hm2 hb2 Hb1 Hm1 q
  go_wp2_with fail
  refine (HB.out _ Hm2.out).mono ?_
  rintro e w3 ⟨rfl, hb3⟩
  have Hb3 : Hid (Below n w w3) := Lib.hid (Hb2.out.trans (hb3.mono (by have := (IsMsg.lt Hm2.out); omega)))
  have hl3 : n ≤ w3.heap.size := by have := hb3.size; have := (IsMsg.lt Hm2.out); omega
  clear hb3 Hb2 Hm2
  go_wp2_with fail
  refine (HPa.out _).mono ?_
  rintro e w4 ⟨m, rfl, hm4, hb4⟩
  have Hm4 := Lib.hid hm4
  have Hb4 : Hid (Below n w w4) := Lib.hid (Hb3.out.trans (hb4.mono hl3))
  have hl4 : n ≤ w4.heap.size := Nat.le_trans hl3 hb4.size
  clear hm4 hb4 Hb3
  go_wp2_with fail
  refine (HIn.out m _ _ (Hm4.out.below ((Below.refl _ _).alloc (Nat.le_refl _) _))).mono ?_
  rintro e w5 ⟨a, c, rfl, hr, hag, hb5⟩
  obtain ⟨ga, rfl⟩ := hag (by simp)
  have Hb5 : Hid (Below n w w5) := Lib.hid ((Hb4.out.alloc (by omega) _).trans (hb5.mono (by simp; omega)))
  have hl5 : n ≤ w5.heap.size := by have := hb5.size; simp at this; omega
  obtain ⟨ad, had, hlt5, hc5⟩ := hr 1 (by simp)
  cases had
  have hc5' : ∀ o, (w5.alloc o).cell? ⟨ga, 1, none⟩ = some (.int .i64 300) := fun o => cell_kept (a := ⟨ga, 1, none⟩) hc5 (World.grownBy_alloc w5 o none) (fun r e => by cases e)
  clear hc5
  clear hr hb5 Hb4 Hm4
  go_wp2_with fail
  go_ret
  refine ⟨rfl, ?_⟩
  rw [HN.out]
  exact Hb5.out.alloc hl5 _
end Go.Proofs.Ytbkcklefkhlciaa
