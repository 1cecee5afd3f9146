/-
  Bytes: the bytes of a message that was made.
-/
import Derived.Test.YtbkcklefkhlciaaMints
namespace Go.Proofs.Ytbkcklefkhlciaa
open Go.RowKit
set_option linter.unusedVariables false
def BytesIs (t : ByteArray) (w : World) (e : Ending) (w' : World) : Prop := e = .returned (.tuple #[.string t, .int .i64 0]) ∧ Below w.heap.size w w'
set_option maxRecDepth 100000 in
set_option maxHeartbeats 2000000 in
theorem bytes_any (B m : Nat) (ps : List (Fd × ByteArray)) (w : World) (h : MsgP B m w ps 0) (hp : ∀ p ∈ ps, PutHid p.1 p.2) (hl : ps.length ≤ 100000) (hs : (cat ps).size ≤ 60000) :
    Calls Try.prog 23 #[.pointer (some ⟨m, 0, none⟩)] w (BytesIs (cat ps) w) := by
  obtain ⟨af, cf, ae, ce, c0, c1, c2, c3, hf, he⟩ := h.cells
  rw [places_length] at c1
  obtain ⟨n, hn⟩ : ∃ n, ps.length = n := ⟨_, rfl⟩
  have hF : FHolds w af (places 0 ps) := fholds_own (n := (places 0 ps).length) hf rfl
  rw [hn] at c1 hl
  have Hn := Lib.hid hn
  have HF := Lib.hid hF
  have HP := Lib.hid hp
  have Hc : Hid (∀ k, k ≤ n → (cat (ps.take k)).size ≤ 60000) := Lib.hid (fun k hk => by
    have h1 := cat_app (ps.take k) (ps.drop k)
    rw [List.take_append_drop] at h1
    have h2 := congrArg ByteArray.size h1
    rw [bsize_app] at h2
    omega)
  obtain ⟨D, hD⟩ : ∃ D, cat ps = D := ⟨_, rfl⟩
  have HD := Lib.hid hD
  rw [hD]
  clear hF hp hf he c2 h hn hs hD
  go_enter Try.func23, Try.ntmps23
  go_wp2_with fail
  refine (none_msg m _ c0).mono ?_
  rintro e w1 ⟨rfl, rfl⟩
  have hbd := Lib.hid (bd_new w w.heap.size (Nat.le_refl _))
  have hbw : Hid (Below w.heap.size w (w.alloc (.cells #[.pointer none, .slice none 0 0] 81))) := Lib.hid ((Below.refl _ _).alloc (Nat.le_refl _) _)
  have hml : Hid (m < w.heap.size) := Lib.hid (World.block_lt_of_cell? w _ c0)
  have a1 : ∀ o, (w.alloc o).cell? ⟨m, 1, none⟩ = some (.slice af n cf) := fun o => cell_kept c1 (World.grownBy_alloc w o none) (fun r e => by cases e)
  go_wp2_with fail
  go_loopw [26] (fun i wr => ∃ k : Nat, k ≤ n ∧ i = .int .i64 (k : Int) ∧ Hid (IsBd w.heap.size w.heap.size (cat (ps.take k)) wr) ∧ Hid (Below w.heap.size w wr) ∧ w.heap.size ≤ wr.heap.size) (fun i _ => n - (intOf i).toNat)
  case atStart => exact ⟨0, by omega, rfl, by simpa [cat] using hbd, hbw, by simp⟩
  case round =>
    obtain ⟨k, hk, rfl, hb, hw, hGs⟩ := hrel
    clear a1 hbd hbw
    by_cases hlt : k < n
    · obtain ⟨p, hp⟩ : ∃ p, ps[k]? = some p := ⟨_, List.getElem?_eq_getElem (by rw [Hn.out]; exact hlt)⟩
      have hpl := places_get ps 0 k p hp
      obtain ⟨ga, rfl, hga, hca⟩ := (HF.out.below hw.out) k _ hpl
      obtain ⟨pl, hpl'⟩ : ∃ pl, 0 + (cat (ps.take k)).size = pl := ⟨_, rfl⟩
      rw [hpl'] at hca
      have hPH : PutHid p.1 p.2 := HP.out p (List.mem_of_getElem? hp)
      have htk : Hid (cat (ps.take (k + 1)) = cat (ps.take k) ++ p.2) := Lib.hid (by rw [List.take_add_one, hp]; exact cat_snoc _ _)
      have hsz : Hid ((cat (ps.take k)).size + p.2.size ≤ 60000) := Lib.hid (by have := Hc.out (k + 1) hlt; rw [htk.out, bsize_app] at this; exact this)
      obtain ⟨⟨num, kind, val, data⟩, tl⟩ := p
      have n0 := hca 0 _ rfl; have n1 := hca 1 _ rfl; have n2 := hca 2 _ rfl; have n3 := hca 3 _ rfl; have n4 := hca 4 _ rfl
      simp only [Nat.add_zero] at n0 n1 n2 n3 n4
      have hi0 : (0 : Int) ≤ (k : Int) := by omega
      have hi1 : (k : Int) < (n : Int) := by omega
      have HPH : Hid (∀ (w : World) (a : Int), Calls Try.prog 44 #[.agg #[.int .i64 (num : Int), .int .i64 (kind : Int), .int .i64 a, .int .u64 (val : Int), .string data]] w (GavePut tl 0 w)) := Lib.hid hPH
      clear hPH hca hpl hp hpl'
      obtain ⟨num', hnum⟩ : ∃ x : Int, (num : Int) = x := ⟨_, rfl⟩
      obtain ⟨kind', hkind⟩ : ∃ x : Int, (kind : Int) = x := ⟨_, rfl⟩
      obtain ⟨val', hval⟩ : ∃ x : Int, (val : Int) = x := ⟨_, rfl⟩
      obtain ⟨pl', hpl⟩ : ∃ x : Int, (pl : Int) = x := ⟨_, rfl⟩
      rw [hnum, hkind, hval] at HPH
      rw [hnum] at n0; rw [hkind] at n1; rw [hpl] at n2; rw [hval] at n3
      clear hnum hkind hval hpl
      go_wp2_with fail
      refine (HPH.out _ _).mono ?_
      rintro e w1 ⟨rfl, hb1⟩
      obtain ⟨hbx, hb1', hlt1⟩ := fbox hb1
      have hbd1 := Lib.hid (bd_below hb.out hb1')
      have hG1 : w.heap.size ≤ w1.heap.size := Nat.le_trans hGs hb1'.size
      have hw1 := Lib.hid (hw.out.trans (hb1'.mono hGs))
      clear hb1 hb1' hbx hlt1
      go_wp2_with fail
      refine (ws_any w.heap.size w.heap.size _ _ _ hbd1.out (by have := hsz.out; omega) hG1).mono ?_
      rintro e w2 ⟨rfl, hb2, hb3⟩
      have hbd2 : Hid (IsBd w.heap.size w.heap.size (cat (ps.take (k + 1))) w2) := Lib.hid (by rw [htk.out]; exact hb2)
      have hw2 := Lib.hid (hw1.out.trans hb3)
      have hG2 : w.heap.size ≤ w2.heap.size := Nat.le_trans hG1 hb3.size
      have hlen : (((cat (ps.take (k + 1))).size : Nat) : Int) ≤ 60000 := by have := Hc.out (k + 1) hlt; omega
      obtain ⟨C1, hC1⟩ : ∃ C1, cat (ps.take (k + 1)) = C1 := ⟨_, rfl⟩
      clear hb hw hw1 hbd1 hb2 hb3 htk hsz n0 n1 n2 n3 n4
      have hbd2' : IsBd w.heap.size w.heap.size C1 w2 := by rw [← hC1]; exact hbd2.out
      rw [hC1] at hlen
      have HC1 := Lib.hid hC1
      clear hC1
      go_wp2_with fail
      refine (len_any w.heap.size w.heap.size C1 _ hbd2').mono ?_
      rintro e w3 ⟨rfl, rfl⟩
      clear hbd2'
      go_wp2_with fail
      go_roundw
      case rel => first | exact ⟨k + 1, by omega, by go_num, hbd2, hw2, hG2⟩ | ((repeat apply Exists.intro); exact ⟨⟨k + 1, by omega, by go_num, hbd2, hw2, hG2⟩, rfl⟩)
      case measure => simp [intOf]; omega
    · obtain rfl : k = n := by omega
      have hbd : IsBd w.heap.size w.heap.size D wr := by
        have := hb.out
        rw [List.take_of_length_le (by rw [Hn.out]; omega), HD.out] at this
        exact this
      go_wp2_with fail
      refine (str_any w.heap.size w.heap.size D _ hbd hGs).mono ?_
      rintro e w1 ⟨rfl, _, hb1⟩
      have hw1 := Lib.hid (hw.out.trans hb1)
      clear hb hw hb1 hbd
      go_wp2
      go_ret2
      exact ⟨rfl, hw1.out⟩
end Go.Proofs.Ytbkcklefkhlciaa
