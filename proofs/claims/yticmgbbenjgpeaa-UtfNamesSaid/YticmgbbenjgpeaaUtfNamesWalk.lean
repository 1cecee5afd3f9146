/-
  The walk of UtfNames: for every int it returns true, and leaves what lay in memory as it was.
-/
import Derived.Test.YticmgbbenjgpeaaAlive6
namespace Go.Proofs.Yticmgbbenjgpeaa
open Go.RowKit
set_option maxRecDepth 100000 in
set_option maxHeartbeats 1000000 in
theorem utfNames.walk (a0 : Int) (_ : (Lit.int .i64 a0).wf = true) (w : World) :
    Calls Try.prog 5 #[.int .i64 a0] w fun e w' => e = .returned (.bool true) ∧ Below w.heap.size w w' := by
  cases hs : uStart a0 with
  | true =>
    have hp := uStart_part a0 hs
    have hc := uPart_char a0 hp
    have hsp := uPart_space a0 hp
    have Hs := Lib.hid hs; have Hp := Lib.hid hp; have Hc := Lib.hid hc; have Hsp := Lib.hid hsp
    clear hs hp hc hsp
    go_enter Try.func5, Try.ntmps5
    go_wp2_with fail
    refine (alive_any _).mono ?_
    rintro e w1 ⟨rfl, hb⟩
    go_wp2_with fail
    refine (start_any a0 _).mono ?_
    rintro e w2 ⟨rfl, rfl⟩
    rw [Hs.out]
    go_wp2_with fail
    refine (part_any a0 _).mono ?_
    rintro e w2 ⟨rfl, rfl⟩
    rw [Hp.out]
    go_wp2_with fail
    refine (part_any a0 _).mono ?_
    rintro e w2 ⟨rfl, rfl⟩
    rw [Hp.out]
    go_wp2_with fail
    refine (char_any a0 _).mono ?_
    rintro e w2 ⟨rfl, rfl⟩
    rw [Hc.out]
    go_wp2_with fail
    refine (space_any a0 _).mono ?_
    rintro e w2 ⟨rfl, rfl⟩
    rw [Hsp.out]
    go_wp2_with fail
    refine (space_any a0 _).mono ?_
    rintro e w2 ⟨rfl, rfl⟩
    rw [Hsp.out]
    go_wp2
    go_ret
    exact ⟨rfl, hb⟩
  | false =>
    cases hp : uPart a0 with
    | true =>
      have hc := uPart_char a0 hp
      have hsp := uPart_space a0 hp
      have Hs := Lib.hid hs; have Hp := Lib.hid hp; have Hc := Lib.hid hc; have Hsp := Lib.hid hsp
      clear hs hp hc hsp
      go_enter Try.func5, Try.ntmps5
      go_wp2_with fail
      refine (alive_any _).mono ?_
      rintro e w1 ⟨rfl, hb⟩
      go_wp2_with fail
      refine (start_any a0 _).mono ?_
      rintro e w2 ⟨rfl, rfl⟩
      rw [Hs.out]
      go_wp2_with fail
      refine (part_any a0 _).mono ?_
      rintro e w2 ⟨rfl, rfl⟩
      rw [Hp.out]
      go_wp2_with fail
      refine (char_any a0 _).mono ?_
      rintro e w2 ⟨rfl, rfl⟩
      rw [Hc.out]
      go_wp2_with fail
      refine (space_any a0 _).mono ?_
      rintro e w2 ⟨rfl, rfl⟩
      rw [Hsp.out]
      go_wp2_with fail
      refine (space_any a0 _).mono ?_
      rintro e w2 ⟨rfl, rfl⟩
      rw [Hsp.out]
      go_wp2
      go_ret
      exact ⟨rfl, hb⟩
    | false =>
      cases hsp : uSpace a0 with
      | true =>
        have hc := uSpace_char a0 hsp
        have Hs := Lib.hid hs; have Hp := Lib.hid hp; have Hc := Lib.hid hc; have Hsp := Lib.hid hsp
        clear hs hp hc hsp
        go_enter Try.func5, Try.ntmps5
        go_wp2_with fail
        refine (alive_any _).mono ?_
        rintro e w1 ⟨rfl, hb⟩
        go_wp2_with fail
        refine (start_any a0 _).mono ?_
        rintro e w2 ⟨rfl, rfl⟩
        rw [Hs.out]
        go_wp2_with fail
        refine (part_any a0 _).mono ?_
        rintro e w2 ⟨rfl, rfl⟩
        rw [Hp.out]
        go_wp2_with fail
        refine (space_any a0 _).mono ?_
        rintro e w2 ⟨rfl, rfl⟩
        rw [Hsp.out]
        go_wp2_with fail
        refine (char_any a0 _).mono ?_
        rintro e w2 ⟨rfl, rfl⟩
        rw [Hc.out]
        go_wp2
        go_ret
        exact ⟨rfl, hb⟩
      | false =>
        have Hs := Lib.hid hs; have Hp := Lib.hid hp; have Hsp := Lib.hid hsp
        clear hs hp hsp
        go_enter Try.func5, Try.ntmps5
        go_wp2_with fail
        refine (alive_any _).mono ?_
        rintro e w1 ⟨rfl, hb⟩
        go_wp2_with fail
        refine (start_any a0 _).mono ?_
        rintro e w2 ⟨rfl, rfl⟩
        rw [Hs.out]
        go_wp2_with fail
        refine (part_any a0 _).mono ?_
        rintro e w2 ⟨rfl, rfl⟩
        rw [Hp.out]
        go_wp2_with fail
        refine (space_any a0 _).mono ?_
        rintro e w2 ⟨rfl, rfl⟩
        rw [Hsp.out]
        go_wp2
        go_ret
        exact ⟨rfl, hb⟩
end Go.Proofs.Yticmgbbenjgpeaa
