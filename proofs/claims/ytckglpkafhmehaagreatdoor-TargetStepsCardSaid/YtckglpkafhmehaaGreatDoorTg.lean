/-
  Law 17: a target's numbers, read.
-/
import Derived.Test.YtckglpkafhmehaaGreatDoorQJ
import Derived.Test.YtckglpkafhmehaaGreatDoorQG
import Derived.Test.YtckglpkafhmehaaGreatDoorQPp
import Derived.Test.YtckglpkafhmehaaGreatDoorQC
namespace Go.Proofs.YtckglpkafhmehaaGreatDoor
open Go.RowKit
set_option linter.unusedVariables false
/-- May this be the text of a target's number? -/
noncomputable def okt (u : ByteArray) : Bool := u.toList.isEmpty || (pq u).isSome
/-- The number of such a text; x, if it is empty. -/
noncomputable def qv (u : ByteArray) (x : Rat) : Rat := if u.toList.isEmpty = true then x else (pq u).getD 0
theorem okt_nil {u : ByteArray} (h : u.toList.isEmpty = true) : okt u = true := by unfold okt; rw [h]; rfl
theorem qv_nil {u : ByteArray} (x : Rat) (h : u.toList.isEmpty = true) : qv u x = x := by unfold qv; rw [if_pos h]
theorem okt_oc {u : ByteArray} (h : u.toList.isEmpty = false) : (oc (pq u) = 0 ∧ okt u = true) ∨ (oc (pq u) = 3 ∧ okt u = false) := by
  unfold okt
  rw [h]
  cases pq u with
  | none => exact Or.inr ⟨rfl, rfl⟩
  | some x => exact Or.inl ⟨rfl, rfl⟩
theorem qv_some {u : ByteArray} (x : Rat) (h : u.toList.isEmpty = false) : qv u x = (pq u).getD 0 := by unfold qv; rw [if_neg (by rw [h]; simp)]
theorem plain_parts {za : Bool} {pa : Option Addr} {na ka : Nat} {qa : Option Addr} {ma da : Nat} {zb : Bool} {pb : Option Addr} {nb kb : Nat} {qb : Option Addr} {mb db : Nat} {zc : Bool} {pc : Option Addr} {nc kc : Nat} {qc : Option Addr} {mc dc : Nat} {ze : Bool} {pe : Option Addr} {ne ke : Nat} {qe : Option Addr} {me de : Nat} {il im : Bool} : Plain #[.bool za, .slice pa na ka, .slice qa ma da, .bool zb, .slice pb nb kb, .slice qb mb db, .bool zc, .slice pc nc kc, .slice qc mc dc, .bool ze, .slice pe ne ke, .slice qe me de, .bool il, .bool im] := fun k z => by
  match k with
  | 0 => simp
  | 1 => simp
  | 2 => simp
  | 3 => simp
  | 4 => simp
  | 5 => simp
  | 6 => simp
  | 7 => simp
  | 8 => simp
  | 9 => simp
  | 10 => simp
  | 11 => simp
  | 12 => simp
  | 13 => simp
  | k + 14 => simp
section
variable {w W W' : World} {bx : List (Nat × TypeId × Array Value)} {l : List (Value × Nat)} {r : List (Value × Rat)} {b : Nat} {t : TypeId} {cs : Array Value}
theorem Mq.put0 (h : Mq w ((b, t, cs) :: bx) l r W) (hp : Plain cs) (hd : ∀ (k' b' : Nat) (t' : TypeId) (cs' : Array Value), bx[k']? = some (b', t', cs') → b' ≠ b) (i : Nat) (y : Value) : Mq w ((b, t, cs.setIfInBounds i y) :: bx) l r (W.setCell ⟨b, i, none⟩ y) :=
  h.put 0 i rfl hp (fun k' b' t' cs' e hk => by
    cases k' with
    | zero => exact absurd rfl hk
    | succ k => exact hd k b' t' cs' (by simpa using e)) y
theorem Mq.swap {x y : Nat × TypeId × Array Value} (h : Mq w (x :: y :: bx) l r W) : Mq w (y :: x :: bx) l r W :=
  ⟨h.bel, fun k b' t' cs' e => by
    match k, e with
    | 0, e => exact h.box 1 b' t' cs' e
    | 1, e => exact h.box 0 b' t' cs' e
    | k + 2, e => exact h.box (k + 2) b' t' cs' e, h.num, h.rat⟩
theorem Mq.bare (h : Mq w bx l r W) : Mq w bx [] [] W := ⟨h.bel, h.box, fun j v N e' => by simp at e', fun j v x e' => by simp at e'⟩
theorem Mq.unbox {x : Nat × TypeId × Array Value} (h : Mq w (x :: bx) l r W) : Mq w bx l r W :=
  ⟨h.bel, fun k b' t' cs' e => h.box (k + 1) b' t' cs' (by simpa using e), h.num, h.rat⟩
end
set_option maxRecDepth 100000 in
set_option maxHeartbeats 4000000 in
/-- A number of a target is read into its place. -/
theorem take_0 (u : ByteArray) (hu : u.size ≤ 640) {w W : World} {bx : List (Nat × TypeId × Array Value)} {r : List (Value × Rat)} {b : Nat} {za : Bool} {pa : Option Addr} {na ka : Nat} {qa : Option Addr} {ma da : Nat} {zb : Bool} {pb : Option Addr} {nb kb : Nat} {qb : Option Addr} {mb db : Nat} {zc : Bool} {pc : Option Addr} {nc kc : Nat} {qc : Option Addr} {mc dc : Nat} {ze : Bool} {pe : Option Addr} {ne ke : Nat} {qe : Option Addr} {me de : Nat} {il im : Bool} {x : Rat} (htb : TabB W)
    (V : Mq w ((b, 38, #[.bool za, .slice pa na ka, .slice qa ma da, .bool zb, .slice pb nb kb, .slice qb mb db, .bool zc, .slice pc nc kc, .slice qc mc dc, .bool ze, .slice pe ne ke, .slice qe me de, .bool il, .bool im]) :: bx) [] r W) (hd : ∀ (k' b' : Nat) (t' : TypeId) (cs' : Array Value), bx[k']? = some (b', t', cs') → b' ≠ b) (hx : IsR W (.agg #[.bool za, .slice pa na ka, .slice qa ma da]) x) :
    Calls Tryz.prog 22 #[.pointer (some ⟨b, 0, none⟩), .string u] W fun e w' => ∃ (zx : Bool) (px : Option Addr) (nx kx : Nat) (qx : Option Addr) (mx dx : Nat), e = .returned (.bool (okt u)) ∧ Mq w ((b, 38, #[.bool zx, .slice px nx kx, .slice qx mx dx, .bool zb, .slice pb nb kb, .slice qb mb db, .bool zc, .slice pc nc kc, .slice qc mc dc, .bool ze, .slice pe ne ke, .slice qe me de, .bool il, .bool im]) :: bx) [] ((.agg #[.bool zx, .slice px nx kx, .slice qx mx dx], qv u x) :: r) w' := by
  have HV := Lib.hid V
  by_cases h0 : u.toList.isEmpty = true
  · have H2 := Lib.hid (V.rcons hx)
    have Hok := Lib.hid (And.intro (okt_nil h0) (qv_nil x h0))
    clear V hx htb hd HV
    go_enter Tryz.func22, Tryz.ntmps22
    go_wp2_with fail
    go_ret
    exact ⟨_, _, _, _, _, _, _, by rw [Hok.out.1]; rfl, by rw [Hok.out.2]; exact H2.out⟩
  · have h1 : u.toList.isEmpty = false := by simpa using h0
    have HP := Lib.hid (parse_r u W hu htb)
    unfold GotQ at HP
    have Hok := Lib.hid (okt_oc h1)
    have Hqv := Lib.hid (qv_some x h1)
    obtain ⟨K, hK⟩ : ∃ K, oc (pq u) = K := ⟨_, rfl⟩
    obtain ⟨Y, hY⟩ : ∃ Y, (pq u).getD 0 = Y := ⟨_, rfl⟩
    rw [hY] at Hqv
    rw [hK] at Hok
    simp only [hK, hY] at HP
    have Hd := Lib.hid hd
    clear V hx htb h0 hK hY hd
    go_enter Tryz.func22, Tryz.ntmps22
    go_wp2_with fail
    refine HP.out.mono ?_
    rintro e w1 ⟨zx, px, nx, kx, qx, mx, dx, rfl, hr, hb⟩
    have V1 := (HV.out.below hb).rcons hr
    have V2 := V1.below (below_lit w1 (.cells #[.bool zx, .slice px nx kx, .slice qx mx dx] 33))
    have V3 := V1.alloc 33 #[.bool zx, .slice px nx kx, .slice qx mx dx]
    have q0 := V3.c0 0 rfl; have q1 := V3.c1 0 rfl; have q2 := V3.c2 0 rfl
    have u0 := V2.cell 0 0 rfl rfl; have u1 := V2.cell 0 1 rfl rfl; have u2 := V2.cell 0 2 rfl rfl
    have f0 := V2.frozen 0 0 rfl; have f1 := V2.frozen 0 1 rfl; have f2 := V2.frozen 0 2 rfl
    have V4 := V2.put0 plain_parts Hd.out 0 (.bool zx)
    have V5 := Mq.put0 (cs := #[.bool zx, .slice pa na ka, .slice qa ma da, .bool zb, .slice pb nb kb, .slice qb mb db, .bool zc, .slice pc nc kc, .slice qc mc dc, .bool ze, .slice pe ne ke, .slice qe me de, .bool il, .bool im]) V4 plain_parts Hd.out 1 (.slice px nx kx)
    have V6 : Mq w ((b, 38, #[.bool zx, .slice px nx kx, .slice qx mx dx, .bool zb, .slice pb nb kb, .slice qb mb db, .bool zc, .slice pc nc kc, .slice qc mc dc, .bool ze, .slice pe ne ke, .slice qe me de, .bool il, .bool im]) :: bx) [] ((.agg #[.bool zx, .slice px nx kx, .slice qx mx dx], Y) :: r) _ := Mq.put0 (cs := #[.bool zx, .slice px nx kx, .slice qa ma da, .bool zb, .slice pb nb kb, .slice qb mb db, .bool zc, .slice pc nc kc, .slice qc mc dc, .bool ze, .slice pe ne ke, .slice qe me de, .bool il, .bool im]) V5 plain_parts Hd.out 2 (.slice qx mx dx)
    have HV6 := Lib.hid V6
    clear V1 V2 V3 V4 V5 V6 hr hb HP HV
    rcases Hok.out with ⟨rfl, ho⟩ | ⟨rfl, ho⟩
    · go_wp2_with fail
      go_ret
      exact ⟨_, _, _, _, _, _, _, by rw [ho]; rfl, by rw [Hqv.out]; exact HV6.out⟩
    · go_wp2_with fail
      go_ret
      exact ⟨_, _, _, _, _, _, _, by rw [ho]; rfl, by rw [Hqv.out]; exact HV6.out⟩
set_option maxRecDepth 100000 in
set_option maxHeartbeats 4000000 in
/-- A number of a target is read into its place. -/
theorem take_1 (u : ByteArray) (hu : u.size ≤ 640) {w W : World} {bx : List (Nat × TypeId × Array Value)} {r : List (Value × Rat)} {b : Nat} {za : Bool} {pa : Option Addr} {na ka : Nat} {qa : Option Addr} {ma da : Nat} {zb : Bool} {pb : Option Addr} {nb kb : Nat} {qb : Option Addr} {mb db : Nat} {zc : Bool} {pc : Option Addr} {nc kc : Nat} {qc : Option Addr} {mc dc : Nat} {ze : Bool} {pe : Option Addr} {ne ke : Nat} {qe : Option Addr} {me de : Nat} {il im : Bool} {x : Rat} (htb : TabB W)
    (V : Mq w ((b, 38, #[.bool za, .slice pa na ka, .slice qa ma da, .bool zb, .slice pb nb kb, .slice qb mb db, .bool zc, .slice pc nc kc, .slice qc mc dc, .bool ze, .slice pe ne ke, .slice qe me de, .bool il, .bool im]) :: bx) [] r W) (hd : ∀ (k' b' : Nat) (t' : TypeId) (cs' : Array Value), bx[k']? = some (b', t', cs') → b' ≠ b) (hx : IsR W (.agg #[.bool zb, .slice pb nb kb, .slice qb mb db]) x) :
    Calls Tryz.prog 22 #[.pointer (some ⟨b, 3, none⟩), .string u] W fun e w' => ∃ (zx : Bool) (px : Option Addr) (nx kx : Nat) (qx : Option Addr) (mx dx : Nat), e = .returned (.bool (okt u)) ∧ Mq w ((b, 38, #[.bool za, .slice pa na ka, .slice qa ma da, .bool zx, .slice px nx kx, .slice qx mx dx, .bool zc, .slice pc nc kc, .slice qc mc dc, .bool ze, .slice pe ne ke, .slice qe me de, .bool il, .bool im]) :: bx) [] ((.agg #[.bool zx, .slice px nx kx, .slice qx mx dx], qv u x) :: r) w' := by
  have HV := Lib.hid V
  by_cases h0 : u.toList.isEmpty = true
  · have H2 := Lib.hid (V.rcons hx)
    have Hok := Lib.hid (And.intro (okt_nil h0) (qv_nil x h0))
    clear V hx htb hd HV
    go_enter Tryz.func22, Tryz.ntmps22
    go_wp2_with fail
    go_ret
    exact ⟨_, _, _, _, _, _, _, by rw [Hok.out.1]; rfl, by rw [Hok.out.2]; exact H2.out⟩
  · have h1 : u.toList.isEmpty = false := by simpa using h0
    have HP := Lib.hid (parse_r u W hu htb)
    unfold GotQ at HP
    have Hok := Lib.hid (okt_oc h1)
    have Hqv := Lib.hid (qv_some x h1)
    obtain ⟨K, hK⟩ : ∃ K, oc (pq u) = K := ⟨_, rfl⟩
    obtain ⟨Y, hY⟩ : ∃ Y, (pq u).getD 0 = Y := ⟨_, rfl⟩
    rw [hY] at Hqv
    rw [hK] at Hok
    simp only [hK, hY] at HP
    have Hd := Lib.hid hd
    clear V hx htb h0 hK hY hd
    go_enter Tryz.func22, Tryz.ntmps22
    go_wp2_with fail
    refine HP.out.mono ?_
    rintro e w1 ⟨zx, px, nx, kx, qx, mx, dx, rfl, hr, hb⟩
    have V1 := (HV.out.below hb).rcons hr
    have V2 := V1.below (below_lit w1 (.cells #[.bool zx, .slice px nx kx, .slice qx mx dx] 33))
    have V3 := V1.alloc 33 #[.bool zx, .slice px nx kx, .slice qx mx dx]
    have q0 := V3.c0 0 rfl; have q1 := V3.c1 0 rfl; have q2 := V3.c2 0 rfl
    have u0 := V2.cell 0 3 rfl rfl; have u1 := V2.cell 0 4 rfl rfl; have u2 := V2.cell 0 5 rfl rfl
    have f0 := V2.frozen 0 3 rfl; have f1 := V2.frozen 0 4 rfl; have f2 := V2.frozen 0 5 rfl
    have V4 := V2.put0 plain_parts Hd.out 3 (.bool zx)
    have V5 := Mq.put0 (cs := #[.bool za, .slice pa na ka, .slice qa ma da, .bool zx, .slice pb nb kb, .slice qb mb db, .bool zc, .slice pc nc kc, .slice qc mc dc, .bool ze, .slice pe ne ke, .slice qe me de, .bool il, .bool im]) V4 plain_parts Hd.out 4 (.slice px nx kx)
    have V6 : Mq w ((b, 38, #[.bool za, .slice pa na ka, .slice qa ma da, .bool zx, .slice px nx kx, .slice qx mx dx, .bool zc, .slice pc nc kc, .slice qc mc dc, .bool ze, .slice pe ne ke, .slice qe me de, .bool il, .bool im]) :: bx) [] ((.agg #[.bool zx, .slice px nx kx, .slice qx mx dx], Y) :: r) _ := Mq.put0 (cs := #[.bool za, .slice pa na ka, .slice qa ma da, .bool zx, .slice px nx kx, .slice qb mb db, .bool zc, .slice pc nc kc, .slice qc mc dc, .bool ze, .slice pe ne ke, .slice qe me de, .bool il, .bool im]) V5 plain_parts Hd.out 5 (.slice qx mx dx)
    have HV6 := Lib.hid V6
    clear V1 V2 V3 V4 V5 V6 hr hb HP HV
    rcases Hok.out with ⟨rfl, ho⟩ | ⟨rfl, ho⟩
    · go_wp2_with fail
      go_ret
      exact ⟨_, _, _, _, _, _, _, by rw [ho]; rfl, by rw [Hqv.out]; exact HV6.out⟩
    · go_wp2_with fail
      go_ret
      exact ⟨_, _, _, _, _, _, _, by rw [ho]; rfl, by rw [Hqv.out]; exact HV6.out⟩
set_option maxRecDepth 100000 in
set_option maxHeartbeats 4000000 in
/-- A number of a target is read into its place. -/
theorem take_2 (u : ByteArray) (hu : u.size ≤ 640) {w W : World} {bx : List (Nat × TypeId × Array Value)} {r : List (Value × Rat)} {b : Nat} {za : Bool} {pa : Option Addr} {na ka : Nat} {qa : Option Addr} {ma da : Nat} {zb : Bool} {pb : Option Addr} {nb kb : Nat} {qb : Option Addr} {mb db : Nat} {zc : Bool} {pc : Option Addr} {nc kc : Nat} {qc : Option Addr} {mc dc : Nat} {ze : Bool} {pe : Option Addr} {ne ke : Nat} {qe : Option Addr} {me de : Nat} {il im : Bool} {x : Rat} (htb : TabB W)
    (V : Mq w ((b, 38, #[.bool za, .slice pa na ka, .slice qa ma da, .bool zb, .slice pb nb kb, .slice qb mb db, .bool zc, .slice pc nc kc, .slice qc mc dc, .bool ze, .slice pe ne ke, .slice qe me de, .bool il, .bool im]) :: bx) [] r W) (hd : ∀ (k' b' : Nat) (t' : TypeId) (cs' : Array Value), bx[k']? = some (b', t', cs') → b' ≠ b) (hx : IsR W (.agg #[.bool zc, .slice pc nc kc, .slice qc mc dc]) x) :
    Calls Tryz.prog 22 #[.pointer (some ⟨b, 6, none⟩), .string u] W fun e w' => ∃ (zx : Bool) (px : Option Addr) (nx kx : Nat) (qx : Option Addr) (mx dx : Nat), e = .returned (.bool (okt u)) ∧ Mq w ((b, 38, #[.bool za, .slice pa na ka, .slice qa ma da, .bool zb, .slice pb nb kb, .slice qb mb db, .bool zx, .slice px nx kx, .slice qx mx dx, .bool ze, .slice pe ne ke, .slice qe me de, .bool il, .bool im]) :: bx) [] ((.agg #[.bool zx, .slice px nx kx, .slice qx mx dx], qv u x) :: r) w' := by
  have HV := Lib.hid V
  by_cases h0 : u.toList.isEmpty = true
  · have H2 := Lib.hid (V.rcons hx)
    have Hok := Lib.hid (And.intro (okt_nil h0) (qv_nil x h0))
    clear V hx htb hd HV
    go_enter Tryz.func22, Tryz.ntmps22
    go_wp2_with fail
    go_ret
    exact ⟨_, _, _, _, _, _, _, by rw [Hok.out.1]; rfl, by rw [Hok.out.2]; exact H2.out⟩
  · have h1 : u.toList.isEmpty = false := by simpa using h0
    have HP := Lib.hid (parse_r u W hu htb)
    unfold GotQ at HP
    have Hok := Lib.hid (okt_oc h1)
    have Hqv := Lib.hid (qv_some x h1)
    obtain ⟨K, hK⟩ : ∃ K, oc (pq u) = K := ⟨_, rfl⟩
    obtain ⟨Y, hY⟩ : ∃ Y, (pq u).getD 0 = Y := ⟨_, rfl⟩
    rw [hY] at Hqv
    rw [hK] at Hok
    simp only [hK, hY] at HP
    have Hd := Lib.hid hd
    clear V hx htb h0 hK hY hd
    go_enter Tryz.func22, Tryz.ntmps22
    go_wp2_with fail
    refine HP.out.mono ?_
    rintro e w1 ⟨zx, px, nx, kx, qx, mx, dx, rfl, hr, hb⟩
    have V1 := (HV.out.below hb).rcons hr
    have V2 := V1.below (below_lit w1 (.cells #[.bool zx, .slice px nx kx, .slice qx mx dx] 33))
    have V3 := V1.alloc 33 #[.bool zx, .slice px nx kx, .slice qx mx dx]
    have q0 := V3.c0 0 rfl; have q1 := V3.c1 0 rfl; have q2 := V3.c2 0 rfl
    have u0 := V2.cell 0 6 rfl rfl; have u1 := V2.cell 0 7 rfl rfl; have u2 := V2.cell 0 8 rfl rfl
    have f0 := V2.frozen 0 6 rfl; have f1 := V2.frozen 0 7 rfl; have f2 := V2.frozen 0 8 rfl
    have V4 := V2.put0 plain_parts Hd.out 6 (.bool zx)
    have V5 := Mq.put0 (cs := #[.bool za, .slice pa na ka, .slice qa ma da, .bool zb, .slice pb nb kb, .slice qb mb db, .bool zx, .slice pc nc kc, .slice qc mc dc, .bool ze, .slice pe ne ke, .slice qe me de, .bool il, .bool im]) V4 plain_parts Hd.out 7 (.slice px nx kx)
    have V6 : Mq w ((b, 38, #[.bool za, .slice pa na ka, .slice qa ma da, .bool zb, .slice pb nb kb, .slice qb mb db, .bool zx, .slice px nx kx, .slice qx mx dx, .bool ze, .slice pe ne ke, .slice qe me de, .bool il, .bool im]) :: bx) [] ((.agg #[.bool zx, .slice px nx kx, .slice qx mx dx], Y) :: r) _ := Mq.put0 (cs := #[.bool za, .slice pa na ka, .slice qa ma da, .bool zb, .slice pb nb kb, .slice qb mb db, .bool zx, .slice px nx kx, .slice qc mc dc, .bool ze, .slice pe ne ke, .slice qe me de, .bool il, .bool im]) V5 plain_parts Hd.out 8 (.slice qx mx dx)
    have HV6 := Lib.hid V6
    clear V1 V2 V3 V4 V5 V6 hr hb HP HV
    rcases Hok.out with ⟨rfl, ho⟩ | ⟨rfl, ho⟩
    · go_wp2_with fail
      go_ret
      exact ⟨_, _, _, _, _, _, _, by rw [ho]; rfl, by rw [Hqv.out]; exact HV6.out⟩
    · go_wp2_with fail
      go_ret
      exact ⟨_, _, _, _, _, _, _, by rw [ho]; rfl, by rw [Hqv.out]; exact HV6.out⟩
set_option maxRecDepth 100000 in
set_option maxHeartbeats 4000000 in
/-- A number of a target is read into its place. -/
theorem take_3 (u : ByteArray) (hu : u.size ≤ 640) {w W : World} {bx : List (Nat × TypeId × Array Value)} {r : List (Value × Rat)} {b : Nat} {za : Bool} {pa : Option Addr} {na ka : Nat} {qa : Option Addr} {ma da : Nat} {zb : Bool} {pb : Option Addr} {nb kb : Nat} {qb : Option Addr} {mb db : Nat} {zc : Bool} {pc : Option Addr} {nc kc : Nat} {qc : Option Addr} {mc dc : Nat} {ze : Bool} {pe : Option Addr} {ne ke : Nat} {qe : Option Addr} {me de : Nat} {il im : Bool} {x : Rat} (htb : TabB W)
    (V : Mq w ((b, 38, #[.bool za, .slice pa na ka, .slice qa ma da, .bool zb, .slice pb nb kb, .slice qb mb db, .bool zc, .slice pc nc kc, .slice qc mc dc, .bool ze, .slice pe ne ke, .slice qe me de, .bool il, .bool im]) :: bx) [] r W) (hd : ∀ (k' b' : Nat) (t' : TypeId) (cs' : Array Value), bx[k']? = some (b', t', cs') → b' ≠ b) (hx : IsR W (.agg #[.bool ze, .slice pe ne ke, .slice qe me de]) x) :
    Calls Tryz.prog 22 #[.pointer (some ⟨b, 9, none⟩), .string u] W fun e w' => ∃ (zx : Bool) (px : Option Addr) (nx kx : Nat) (qx : Option Addr) (mx dx : Nat), e = .returned (.bool (okt u)) ∧ Mq w ((b, 38, #[.bool za, .slice pa na ka, .slice qa ma da, .bool zb, .slice pb nb kb, .slice qb mb db, .bool zc, .slice pc nc kc, .slice qc mc dc, .bool zx, .slice px nx kx, .slice qx mx dx, .bool il, .bool im]) :: bx) [] ((.agg #[.bool zx, .slice px nx kx, .slice qx mx dx], qv u x) :: r) w' := by
  have HV := Lib.hid V
  by_cases h0 : u.toList.isEmpty = true
  · have H2 := Lib.hid (V.rcons hx)
    have Hok := Lib.hid (And.intro (okt_nil h0) (qv_nil x h0))
    clear V hx htb hd HV
    go_enter Tryz.func22, Tryz.ntmps22
    go_wp2_with fail
    go_ret
    exact ⟨_, _, _, _, _, _, _, by rw [Hok.out.1]; rfl, by rw [Hok.out.2]; exact H2.out⟩
  · have h1 : u.toList.isEmpty = false := by simpa using h0
    have HP := Lib.hid (parse_r u W hu htb)
    unfold GotQ at HP
    have Hok := Lib.hid (okt_oc h1)
    have Hqv := Lib.hid (qv_some x h1)
    obtain ⟨K, hK⟩ : ∃ K, oc (pq u) = K := ⟨_, rfl⟩
    obtain ⟨Y, hY⟩ : ∃ Y, (pq u).getD 0 = Y := ⟨_, rfl⟩
    rw [hY] at Hqv
    rw [hK] at Hok
    simp only [hK, hY] at HP
    have Hd := Lib.hid hd
    clear V hx htb h0 hK hY hd
    go_enter Tryz.func22, Tryz.ntmps22
    go_wp2_with fail
    refine HP.out.mono ?_
    rintro e w1 ⟨zx, px, nx, kx, qx, mx, dx, rfl, hr, hb⟩
    have V1 := (HV.out.below hb).rcons hr
    have V2 := V1.below (below_lit w1 (.cells #[.bool zx, .slice px nx kx, .slice qx mx dx] 33))
    have V3 := V1.alloc 33 #[.bool zx, .slice px nx kx, .slice qx mx dx]
    have q0 := V3.c0 0 rfl; have q1 := V3.c1 0 rfl; have q2 := V3.c2 0 rfl
    have u0 := V2.cell 0 9 rfl rfl; have u1 := V2.cell 0 10 rfl rfl; have u2 := V2.cell 0 11 rfl rfl
    have f0 := V2.frozen 0 9 rfl; have f1 := V2.frozen 0 10 rfl; have f2 := V2.frozen 0 11 rfl
    have V4 := V2.put0 plain_parts Hd.out 9 (.bool zx)
    have V5 := Mq.put0 (cs := #[.bool za, .slice pa na ka, .slice qa ma da, .bool zb, .slice pb nb kb, .slice qb mb db, .bool zc, .slice pc nc kc, .slice qc mc dc, .bool zx, .slice pe ne ke, .slice qe me de, .bool il, .bool im]) V4 plain_parts Hd.out 10 (.slice px nx kx)
    have V6 : Mq w ((b, 38, #[.bool za, .slice pa na ka, .slice qa ma da, .bool zb, .slice pb nb kb, .slice qb mb db, .bool zc, .slice pc nc kc, .slice qc mc dc, .bool zx, .slice px nx kx, .slice qx mx dx, .bool il, .bool im]) :: bx) [] ((.agg #[.bool zx, .slice px nx kx, .slice qx mx dx], Y) :: r) _ := Mq.put0 (cs := #[.bool za, .slice pa na ka, .slice qa ma da, .bool zb, .slice pb nb kb, .slice qb mb db, .bool zc, .slice pc nc kc, .slice qc mc dc, .bool zx, .slice px nx kx, .slice qe me de, .bool il, .bool im]) V5 plain_parts Hd.out 11 (.slice qx mx dx)
    have HV6 := Lib.hid V6
    clear V1 V2 V3 V4 V5 V6 hr hb HP HV
    rcases Hok.out with ⟨rfl, ho⟩ | ⟨rfl, ho⟩
    · go_wp2_with fail
      go_ret
      exact ⟨_, _, _, _, _, _, _, by rw [ho]; rfl, by rw [Hqv.out]; exact HV6.out⟩
    · go_wp2_with fail
      go_ret
      exact ⟨_, _, _, _, _, _, _, by rw [ho]; rfl, by rw [Hqv.out]; exact HV6.out⟩
theorem res_parts {fn : Func} {p u : Tmp} (h : fn.results = #[.cell p 38, .tmp u]) (tmps : Array Value) (w : World) (g : Nat) {za : Bool} {pa : Option Addr} {na ka : Nat} {qa : Option Addr} {ma da : Nat} {zb : Bool} {pb : Option Addr} {nb kb : Nat} {qb : Option Addr} {mb db : Nat} {zc : Bool} {pc : Option Addr} {nc kc : Nat} {qc : Option Addr} {mc dc : Nat} {ze : Bool} {pe : Option Addr} {ne ke : Nat} {qe : Option Addr} {me de : Nat} (il im : Bool) (x : Value) (hp : tmps.getD p undef = .pointer (some ⟨g, 0, none⟩)) (hu : tmps.getD u undef = x) (hg : Blk w g 38 #[.bool za, .slice pa na ka, .slice qa ma da, .bool zb, .slice pb nb kb, .slice qb mb db, .bool zc, .slice pc nc kc, .slice qc mc dc, .bool ze, .slice pe ne ke, .slice qe me de, .bool il, .bool im]) :
    (results fn tmps).run Tryz.prog w = .ok (.tuple #[.agg #[.bool za, .slice pa na ka, .slice qa ma da, .bool zb, .slice pb nb kb, .slice qb mb db, .bool zc, .slice pc nc kc, .slice qc mc dc, .bool ze, .slice pe ne ke, .slice qe me de, .bool il, .bool im], x]) w := by
  rw [results_cell_tmp h, hp, hu]
  have e : (loadVar 38 ⟨g, 0, none⟩).run Tryz.prog w = .ok (.agg #[.bool za, .slice pa na ka, .slice qa ma da, .bool zb, .slice pb nb kb, .slice qb mb db, .bool zc, .slice pc nc kc, .slice qc mc dc, .bool ze, .slice pe ne ke, .slice qe me de, .bool il, .bool im]) w := run_loadVar_row w g 38 38 #[.bool za, .slice pa na ka, .slice qa ma da, .bool zb, .slice pb nb kb, .slice qb mb db, .bool zc, .slice pc nc kc, .slice qc mc dc, .bool ze, .slice pe ne ke, .slice qe me de, .bool il, .bool im] (0, 0) _ hg Tryz.underlying38 (by kernel_rfl) (by kernel_rfl)
  simp [asAddr, e, Result.andThen]
/-- A box of a target's numbers, in new memory. -/
def Pn (W0 W : World) (v : Value) : Prop := ∃ b, v = .pointer (some ⟨b, 0, none⟩) ∧ Blk W b 38 #[.bool false, .slice none 0 0, .slice none 0 0, .bool false, .slice none 0 0, .slice none 0 0, .bool false, .slice none 0 0, .slice none 0 0, .bool false, .slice none 0 0, .slice none 0 0, .bool false, .bool false] ∧ W0.heap.size ≤ b
theorem Pn.below {W0 W W' : World} {v : Value} (h : Pn W0 W v) (hb : Below W.heap.size W W') : Pn W0 W' v := by
  obtain ⟨b, h1, h2, h3⟩ := h
  exact ⟨b, h1, h2.below hb h2.lt, h3⟩
/-- A one, as a call gives it. -/
def Qn (W : World) (v : Value) : Prop := ∃ (zy : Bool) (py : Option Addr) (ny ky : Nat) (qy : Option Addr) (my dy : Nat), v = .agg #[.bool zy, .slice py ny ky, .slice qy my dy] ∧ IsR W (.agg #[.bool zy, .slice py ny ky, .slice qy my dy]) 1
theorem Qn.below {W W' : World} {v : Value} (h : Qn W v) (hb : Below W.heap.size W W') : Qn W' v := by
  obtain ⟨zy, py, ny, ky, qy, my, dy, h1, h2⟩ := h
  exact ⟨zy, py, ny, ky, qy, my, dy, h1, h2.below hb (Nat.le_refl _)⟩
def Qp (il im : Bool) (W : World) (v : Value) : Prop := ∃ (zy : Bool) (py : Option Addr) (ny ky : Nat) (qy : Option Addr) (my dy : Nat), v = .agg #[.bool false, .slice none 0 0, .slice none 0 0, .bool false, .slice none 0 0, .slice none 0 0, .bool zy, .slice py ny ky, .slice qy my dy, .bool false, .slice none 0 0, .slice none 0 0, .bool il, .bool im] ∧ IsR W (.agg #[.bool zy, .slice py ny ky, .slice qy my dy]) 1
theorem Qp.below {il im : Bool} {W W' : World} {v : Value} (h : Qp il im W v) (hb : Below W.heap.size W W') : Qp il im W' v := by
  obtain ⟨zy, py, ny, ky, qy, my, dy, h1, h2⟩ := h
  exact ⟨zy, py, ny, ky, qy, my, dy, h1, h2.below hb (Nat.le_refl _)⟩
/-- What a target's numbers are, read. -/
def ReadIs (mn mx fa co : ByteArray) (w : World) (e : Ending) (w' : World) : Prop := ∃ (za : Bool) (pa : Option Addr) (na ka : Nat) (qa : Option Addr) (ma da : Nat) (zb : Bool) (pb : Option Addr) (nb kb : Nat) (qb : Option Addr) (mb db : Nat) (zc : Bool) (pc : Option Addr) (nc kc : Nat) (qc : Option Addr) (mc dc : Nat) (ze : Bool) (pe : Option Addr) (ne ke : Nat) (qe : Option Addr) (me de : Nat), e = .returned (.tuple #[.agg #[.bool za, .slice pa na ka, .slice qa ma da, .bool zb, .slice pb nb kb, .slice qb mb db, .bool zc, .slice pc nc kc, .slice qc mc dc, .bool ze, .slice pe ne ke, .slice qe me de, .bool (!mn.toList.isEmpty), .bool (!mx.toList.isEmpty)], .bool (okt mn && (okt mx && (okt fa && okt co)))]) ∧
  ((okt mn && (okt mx && (okt fa && okt co))) = true → IsR w' (.agg #[.bool za, .slice pa na ka, .slice qa ma da]) (qv mn 0) ∧ IsR w' (.agg #[.bool zb, .slice pb nb kb, .slice qb mb db]) (qv mx 0) ∧ IsR w' (.agg #[.bool zc, .slice pc nc kc, .slice qc mc dc]) (qv fa 1) ∧ IsR w' (.agg #[.bool ze, .slice pe ne ke, .slice qe me de]) (qv co 0)) ∧ Below w.heap.size w w'
theorem qn_of {W : World} {v : Value} (h : IsR W v 1) : Qn W v := by
  have h' := h
  obtain ⟨p, n, c, p', n', c', rfl, -, -⟩ := h'
  exact ⟨_, _, _, _, _, _, _, rfl, h⟩
section
variable {w W : World} {bx : List (Nat × TypeId × Array Value)} {l : List (Value × Nat)} {r : List (Value × Rat)} {b : Nat} {t : TypeId}
theorem Mq.tg0 (h : Mq w bx l r W) (k : Nat) {x0 x1 x2 x3 x4 : Value} (e : bx[k]? = some (b, t, #[x0, x1, x2, x3, x4])) : W.cell? ⟨b, 0, none⟩ = some x0 := h.cell k 0 e rfl
theorem Mq.tg1 (h : Mq w bx l r W) (k : Nat) {x0 x1 x2 x3 x4 : Value} (e : bx[k]? = some (b, t, #[x0, x1, x2, x3, x4])) : W.cell? ⟨b, 1, none⟩ = some x1 := h.cell k 1 e rfl
theorem Mq.tg2 (h : Mq w bx l r W) (k : Nat) {x0 x1 x2 x3 x4 : Value} (e : bx[k]? = some (b, t, #[x0, x1, x2, x3, x4])) : W.cell? ⟨b, 2, none⟩ = some x2 := h.cell k 2 e rfl
theorem Mq.tg3 (h : Mq w bx l r W) (k : Nat) {x0 x1 x2 x3 x4 : Value} (e : bx[k]? = some (b, t, #[x0, x1, x2, x3, x4])) : W.cell? ⟨b, 3, none⟩ = some x3 := h.cell k 3 e rfl
theorem Mq.tg4 (h : Mq w bx l r W) (k : Nat) {x0 x1 x2 x3 x4 : Value} (e : bx[k]? = some (b, t, #[x0, x1, x2, x3, x4])) : W.cell? ⟨b, 4, none⟩ = some x4 := h.cell k 4 e rfl
end
set_option maxRecDepth 100000 in
set_option maxHeartbeats 16000000 in
theorem tread_any (mn mx fa co : ByteArray) (ca : Int) (w : World) (htb : TabB w) (h1 : mn.size ≤ 640) (h2 : mx.size ≤ 640) (h3 : fa.size ≤ 640) (h4 : co.size ≤ 640) :
    Calls Tryz.prog 10 #[.agg #[.string mn, .string mx, .string fa, .string co, .int .i64 ca]] w (ReadIs mn mx fa co w) := by
  have HOf : Hid (∀ W, Calls Tryz.prog 21 #[.int .i64 1] W (GaveR 1 W)) := Lib.hid (fun W => by
    have h := of_r 1 W (by decide) (by decide)
    rwa [show ((1 : Int) : Rat) = 1 from rfl] at h)
  have HTB : Hid (∀ W, Below w.heap.size w W → TabB W) := Lib.hid (fun W hB => htb.below hB (Nat.le_refl _))
  have Hs := Lib.hid (And.intro h1 (And.intro h2 (And.intro h3 h4)))
  have V := (Mq.refl w).two 25 38 #[.string mn, .string mx, .string fa, .string co, .int .i64 ca] #[.bool false, .slice none 0 0, .slice none 0 0, .bool false, .slice none 0 0, .slice none 0 0, .bool false, .slice none 0 0, .slice none 0 0, .bool false, .slice none 0 0, .slice none 0 0, .bool false, .bool false]
  obtain ⟨W0, hW0⟩ : ∃ W0, (w.alloc (.cells #[.string mn, .string mx, .string fa, .string co, .int .i64 ca] 25)).alloc (.cells #[.bool false, .slice none 0 0, .slice none 0 0, .bool false, .slice none 0 0, .slice none 0 0, .bool false, .slice none 0 0, .slice none 0 0, .bool false, .slice none 0 0, .slice none 0 0, .bool false, .bool false] 38) = W0 := ⟨_, rfl⟩
  rw [hW0] at V
  have V0 := V
  have hs0 : W0.heap.size = w.heap.size + 1 + 1 := by rw [← hW0, World.size_alloc, World.size_alloc]
  obtain ⟨il, hil⟩ : ∃ b, (!mn.toList.isEmpty) = b := ⟨_, rfl⟩
  obtain ⟨im, him⟩ : ∃ b, (!mx.toList.isEmpty) = b := ⟨_, rfl⟩
  have Hil := Lib.hid hil; have Him := Lib.hid him
  clear V htb h1 h2 h3 h4
  go_enter Tryz.func10, Tryz.ntmps10
  go_upto_region 1 with fail
  clear hW0
  go_cut [4] (fun pv wx => ∃ (b : Nat) (zy : Bool) (py : Option Addr) (ny ky : Nat) (qy : Option Addr) (my dy : Nat), pv = .pointer (some ⟨b, 0, none⟩) ∧ w.heap.size + 1 < b ∧ Hid (Mq w [(b, 38, #[.bool false, .slice none 0 0, .slice none 0 0, .bool false, .slice none 0 0, .slice none 0 0, .bool zy, .slice py ny ky, .slice qy my dy, .bool false, .slice none 0 0, .slice none 0 0, .bool il, .bool im]), (w.heap.size + 1, 38, #[.bool false, .slice none 0 0, .slice none 0 0, .bool false, .slice none 0 0, .slice none 0 0, .bool false, .slice none 0 0, .slice none 0 0, .bool false, .slice none 0 0, .slice none 0 0, .bool false, .bool false]), (w.heap.size, 25, #[.string mn, .string mx, .string fa, .string co, .int .i64 ca])] [] [(.agg #[.bool zy, .slice py ny ky, .slice qy my dy], 1)] wx))
  case first =>
    refine wp_region_inv 9 (fun a0 dj a W => ∃ vq0 vq1 vq2 vq3 vq4 vq5 vq6 vq7 vq8 : Value, a = puts a0 [(6, vq0), (7, vq1), (8, vq2), (9, vq3), (10, vq4), (11, vq5), (12, vq6), (13, vq7), (4, vq8)] ∧ Below W0.heap.size W0 W ∧ (dj 0 = true → Qn W vq0) ∧ (dj 1 = true → vq1 = .pointer (some ⟨w.heap.size, 0, none⟩)) ∧ (dj 2 = true → vq2 = .string mn) ∧ (dj 3 = true → vq3 = .bool il) ∧ (dj 4 = true → vq4 = .pointer (some ⟨w.heap.size, 1, none⟩)) ∧ (dj 5 = true → vq5 = .string mx) ∧ (dj 6 = true → vq6 = .bool im) ∧ (dj 7 = true → Qp il im W vq7) ∧ (dj 8 = true → Pn W0 W vq8)) (by kernel_rfl) (by kernel_rfl) (by kernel_rfl) ?_ ?_ ?_ ?_
    · intro dj hcl i hi1 hi2 hd j hj
      have hi2 := Nat.lt_of_lt_of_le hi2 (show _ ≤ 10 from of_decide_eq_true (by kernel_rfl))
      obtain rfl : i = 9 := by omega
      · have e8 : dj 8 = true := hd 8 (by kernel_rfl)
        have e7 : dj 7 = true := hd 7 (by kernel_rfl)
        have e0 : dj 0 = true := hd 0 (by kernel_rfl)
        have e1 : dj 1 = true := hd 1 (by kernel_rfl)
        have e2 : dj 2 = true := hd 2 (by kernel_rfl)
        have e3 : dj 3 = true := hd 3 (by kernel_rfl)
        have e4 : dj 4 = true := hd 4 (by kernel_rfl)
        have e5 : dj 5 = true := hd 5 (by kernel_rfl)
        have e6 : dj 6 = true := hd 6 (by kernel_rfl)
        obtain rfl | rfl | rfl | rfl | rfl | rfl | rfl | rfl | rfl : j = 0 ∨ j = 1 ∨ j = 2 ∨ j = 3 ∨ j = 4 ∨ j = 5 ∨ j = 6 ∨ j = 7 ∨ j = 8 := by omega
        · exact e0
        · exact e1
        · exact e2
        · exact e3
        · exact e4
        · exact e5
        · exact e6
        · exact e7
        · exact e8
    · refine ⟨undef, undef, undef, undef, undef, undef, undef, undef, undef, (by simp only [puts, List.foldl_cons, List.foldl_nil, List.setIfInBounds_toArray, List.set_cons_zero, List.set_cons_succ]), (Below.refl _ _).drew, (fun h => by cases h), (fun h => by cases h), (fun h => by cases h), (fun h => by cases h), (fun h => by cases h), (fun h => by cases h), (fun h => by cases h), (fun h => by cases h), (fun h => by cases h)⟩
    · intro dj a W i hi hdi hcl hdep hI K hK
      obtain ⟨vq0, vq1, vq2, vq3, vq4, vq5, vq6, vq7, vq8, rfl, hB, p0, p1, p2, p3, p4, p5, p6, p7, p8⟩ := hI
      have V := V0.below hB
      obtain rfl | rfl | rfl | rfl | rfl | rfl | rfl | rfl | rfl : i = 0 ∨ i = 1 ∨ i = 2 ∨ i = 3 ∨ i = 4 ∨ i = 5 ∨ i = 6 ∨ i = 7 ∨ i = 8 := by omega
      · simp only [puts, List.foldl_cons, List.foldl_nil, List.setIfInBounds_toArray, List.set_cons_zero, List.set_cons_succ]
        refine any_op (o := { dst := some 6, op := Op.call { callee := Callee.value (Operand.func 21), args := #[Operand.const (Value.int IntKind.i64 1)], argTypes := #[3] }, type := 33, pos := "target.go:17", after := #[], guard := none }) rfl rfl ?_
        have hC := Lib.hid (HOf.out W)
        go_simp
        refine hC.out.mono ?_
        rintro e W2 ⟨v, rfl, hn, hb⟩
        refine hK.out _ _ ?_
        exact ⟨v, vq1, vq2, vq3, vq4, vq5, vq6, vq7, vq8, (by simp only [puts, List.foldl_cons, List.foldl_nil, List.setIfInBounds_toArray, List.set_cons_zero, List.set_cons_succ]), hB.trans (hb.mono hB.size), (fun _ => qn_of hn), p1, p2, p3, p4, p5, p6, (fun h => (p7 h).below hb), (fun h => (p8 h).below hb)⟩
      · simp only [puts, List.foldl_cons, List.foldl_nil, List.setIfInBounds_toArray, List.set_cons_zero, List.set_cons_succ]
        refine any_op (o := { dst := some 7, op := Op.fieldAddr 25 (Operand.tmp 1) 0, type := 0, pos := "target.go:17", after := #[], guard := none }) rfl rfl ?_
        go_wp2_with fail
        refine hK.out _ _ ?_
        exact ⟨vq0, .pointer (some ⟨w.heap.size, 0, none⟩), vq2, vq3, vq4, vq5, vq6, vq7, vq8, (by simp only [puts, List.foldl_cons, List.foldl_nil, List.setIfInBounds_toArray, List.set_cons_zero, List.set_cons_succ]), hB, p0, (fun _ => rfl), p2, p3, p4, p5, p6, p7, p8⟩
      · obtain rfl := p1 (hdep 1 (by kernel_rfl))
        simp only [puts, List.foldl_cons, List.foldl_nil, List.setIfInBounds_toArray, List.set_cons_zero, List.set_cons_succ]
        have c0 := V.tg0 1 rfl
        refine any_op (o := { dst := some 8, op := Op.load 9 (Operand.tmp 7), type := 9, pos := "target.go:17", after := #[{ on := 1, ground := Ground.data }], guard := none }) rfl rfl ?_
        go_wp2_with fail
        refine hK.out _ _ ?_
        exact ⟨vq0, .pointer (some ⟨w.heap.size, 0, none⟩), .string mn, vq3, vq4, vq5, vq6, vq7, vq8, (by simp only [puts, List.foldl_cons, List.foldl_nil, List.setIfInBounds_toArray, List.set_cons_zero, List.set_cons_succ]), hB, p0, (fun _ => rfl), (fun _ => rfl), p3, p4, p5, p6, p7, p8⟩
      · obtain rfl := p2 (hdep 2 (by kernel_rfl))
        simp only [puts, List.foldl_cons, List.foldl_nil, List.setIfInBounds_toArray, List.set_cons_zero, List.set_cons_succ]
        refine any_op (o := { dst := some 9, op := Op.binOp BinOp.neq 9 (Operand.tmp 8) (Operand.const (Value.string { data := #[] })) 9, type := 4, pos := "target.go:17", after := #[{ on := 2, ground := Ground.data }], guard := none }) rfl rfl ?_
        go_wp2_with fail
        refine hK.out _ _ ?_
        exact ⟨vq0, vq1, .string mn, .bool il, vq4, vq5, vq6, vq7, vq8, (by simp only [puts, List.foldl_cons, List.foldl_nil, List.setIfInBounds_toArray, List.set_cons_zero, List.set_cons_succ]), hB, p0, p1, (fun _ => rfl), (fun _ => rfl), p4, p5, p6, p7, p8⟩
      · simp only [puts, List.foldl_cons, List.foldl_nil, List.setIfInBounds_toArray, List.set_cons_zero, List.set_cons_succ]
        refine any_op (o := { dst := some 10, op := Op.fieldAddr 25 (Operand.tmp 1) 1, type := 0, pos := "target.go:17", after := #[], guard := none }) rfl rfl ?_
        go_wp2_with fail
        refine hK.out _ _ ?_
        exact ⟨vq0, vq1, vq2, vq3, .pointer (some ⟨w.heap.size, 1, none⟩), vq5, vq6, vq7, vq8, (by simp only [puts, List.foldl_cons, List.foldl_nil, List.setIfInBounds_toArray, List.set_cons_zero, List.set_cons_succ]), hB, p0, p1, p2, p3, (fun _ => rfl), p5, p6, p7, p8⟩
      · obtain rfl := p4 (hdep 4 (by kernel_rfl))
        simp only [puts, List.foldl_cons, List.foldl_nil, List.setIfInBounds_toArray, List.set_cons_zero, List.set_cons_succ]
        have c0 := V.tg1 1 rfl
        refine any_op (o := { dst := some 11, op := Op.load 9 (Operand.tmp 10), type := 9, pos := "target.go:17", after := #[{ on := 4, ground := Ground.data }], guard := none }) rfl rfl ?_
        go_wp2_with fail
        refine hK.out _ _ ?_
        exact ⟨vq0, vq1, vq2, vq3, .pointer (some ⟨w.heap.size, 1, none⟩), .string mx, vq6, vq7, vq8, (by simp only [puts, List.foldl_cons, List.foldl_nil, List.setIfInBounds_toArray, List.set_cons_zero, List.set_cons_succ]), hB, p0, p1, p2, p3, (fun _ => rfl), (fun _ => rfl), p6, p7, p8⟩
      · obtain rfl := p5 (hdep 5 (by kernel_rfl))
        simp only [puts, List.foldl_cons, List.foldl_nil, List.setIfInBounds_toArray, List.set_cons_zero, List.set_cons_succ]
        refine any_op (o := { dst := some 12, op := Op.binOp BinOp.neq 9 (Operand.tmp 11) (Operand.const (Value.string { data := #[] })) 9, type := 4, pos := "target.go:17", after := #[{ on := 5, ground := Ground.data }], guard := none }) rfl rfl ?_
        go_wp2_with fail
        refine hK.out _ _ ?_
        exact ⟨vq0, vq1, vq2, vq3, vq4, .string mx, .bool im, vq7, vq8, (by simp only [puts, List.foldl_cons, List.foldl_nil, List.setIfInBounds_toArray, List.set_cons_zero, List.set_cons_succ]), hB, p0, p1, p2, p3, p4, (fun _ => rfl), (fun _ => rfl), p7, p8⟩
      · generalize hG : wpOp _ _ _ _ _ _ _ = G
        have k0 := p0 (hdep 0 (by kernel_rfl))
        obtain ⟨zy0, py0, ny0, ky0, qy0, my0, dy0, rfl, i0⟩ := k0
        obtain rfl := p3 (hdep 3 (by kernel_rfl))
        obtain rfl := p6 (hdep 6 (by kernel_rfl))
        subst hG
        simp only [puts, List.foldl_cons, List.foldl_nil, List.setIfInBounds_toArray, List.set_cons_zero, List.set_cons_succ]
        refine any_op (o := { dst := some 13, op := Op.build 38 #[(2, Operand.tmp 6), (4, Operand.tmp 9), (5, Operand.tmp 12)], type := 38, pos := "target.go:17", after := #[{ on := 0, ground := Ground.data }, { on := 3, ground := Ground.data }, { on := 6, ground := Ground.data }], guard := none }) rfl rfl ?_
        go_wp2_with fail
        refine hK.out _ _ ?_
        exact ⟨.agg #[.bool zy0, .slice py0 ny0 ky0, .slice qy0 my0 dy0], vq1, vq2, .bool il, vq4, vq5, .bool im, .agg #[.bool false, .slice none 0 0, .slice none 0 0, .bool false, .slice none 0 0, .slice none 0 0, .bool zy0, .slice py0 ny0 ky0, .slice qy0 my0 dy0, .bool false, .slice none 0 0, .slice none 0 0, .bool il, .bool im], vq8, (by simp only [puts, List.foldl_cons, List.foldl_nil, List.setIfInBounds_toArray, List.set_cons_zero, List.set_cons_succ]), hB, (fun _ => ⟨zy0, py0, ny0, ky0, qy0, my0, dy0, rfl, i0⟩), p1, p2, (fun _ => rfl), p4, p5, (fun _ => rfl), (fun _ => ⟨zy0, py0, ny0, ky0, qy0, my0, dy0, rfl, i0⟩), p8⟩
      · simp only [puts, List.foldl_cons, List.foldl_nil, List.setIfInBounds_toArray, List.set_cons_zero, List.set_cons_succ]
        refine any_op (o := { dst := some 4, op := Op.alloc 38, type := 0, pos := "target.go:17", after := #[], guard := none }) rfl rfl ?_
        have hb := below_lit W (.cells #[.bool false, .slice none 0 0, .slice none 0 0, .bool false, .slice none 0 0, .slice none 0 0, .bool false, .slice none 0 0, .slice none 0 0, .bool false, .slice none 0 0, .slice none 0 0, .bool false, .bool false] 38)
        have hnb : Pn W0 (W.alloc (.cells #[.bool false, .slice none 0 0, .slice none 0 0, .bool false, .slice none 0 0, .slice none 0 0, .bool false, .slice none 0 0, .slice none 0 0, .bool false, .slice none 0 0, .slice none 0 0, .bool false, .bool false] 38)) (.pointer (some ⟨W.heap.size, 0, none⟩)) := ⟨_, rfl, Blk.new W _ _, hB.size⟩
        go_wp2_with fail
        refine hK.out _ _ ?_
        exact ⟨vq0, vq1, vq2, vq3, vq4, vq5, vq6, vq7, .pointer (some ⟨W.heap.size, 0, none⟩), (by simp only [puts, List.foldl_cons, List.foldl_nil, List.setIfInBounds_toArray, List.set_cons_zero, List.set_cons_succ]), hB.trans (hb.mono hB.size), (fun h => (p0 h).below hb), p1, p2, p3, p4, p5, p6, (fun h => (p7 h).below hb), (fun _ => hnb)⟩
    · intro dj a W hd hI
      obtain ⟨vq0, vq1, vq2, vq3, vq4, vq5, vq6, vq7, vq8, rfl, hB, p0, p1, p2, p3, p4, p5, p6, p7, p8⟩ := hI
      have V := V0.below hB
      obtain ⟨zyq0, pyq0, nyq0, kyq0, qyq0, myq0, dyq0, rfl, iq0⟩ := p0 (hd 0 (by omega))
      obtain rfl := p1 (hd 1 (by omega))
      obtain rfl := p2 (hd 2 (by omega))
      obtain rfl := p3 (hd 3 (by omega))
      obtain rfl := p4 (hd 4 (by omega))
      obtain rfl := p5 (hd 5 (by omega))
      obtain rfl := p6 (hd 6 (by omega))
      obtain ⟨zyq7, pyq7, nyq7, kyq7, qyq7, myq7, dyq7, rfl, iq7⟩ := p7 (hd 7 (by omega))
      obtain ⟨bq8, rfl, kq8, lq8⟩ := p8 (hd 8 (by omega))
      clear hd p0 p1 p2 p3 p4 p5 p6 p7 p8 dj
      simp only [puts, List.foldl_cons, List.foldl_nil, List.setIfInBounds_toArray, List.set_cons_zero, List.set_cons_succ]
      show wpAny Tryz.prog .any _ _ 1 #[true, true, true, true, true, true, true, true, true, false] _ _
      have V2 := V.bare.addbox kq8 (Nat.le_trans V0.bel.size lq8)
      have hne8 : w.heap.size + 1 < bq8 := by omega
      have V2r := V2.rcons iq7
      have hdst : ∀ (k' b' : Nat) (t' : TypeId) (cs' : Array Value), [(w.heap.size + 1, 38, #[.bool false, .slice none 0 0, .slice none 0 0, .bool false, .slice none 0 0, .slice none 0 0, .bool false, .slice none 0 0, .slice none 0 0, .bool false, .slice none 0 0, .slice none 0 0, .bool false, .bool false]), (w.heap.size, 25, #[.string mn, .string mx, .string fa, .string co, .int .i64 ca])][k']? = some (b', t', cs') → b' ≠ bq8 := fun k' b' t' cs' e => by
        match k', e with
        | 0, e => simp at e; omega
        | 1, e => simp at e; omega
        | k + 2, e => simp at e
      have c0 := V2.cell 0 0 rfl rfl; have f0 := V2.frozen 0 0 rfl; have c1 := V2.cell 0 1 rfl rfl; have f1 := V2.frozen 0 1 rfl; have c2 := V2.cell 0 2 rfl rfl; have f2 := V2.frozen 0 2 rfl; have c3 := V2.cell 0 3 rfl rfl; have f3 := V2.frozen 0 3 rfl; have c4 := V2.cell 0 4 rfl rfl; have f4 := V2.frozen 0 4 rfl; have c5 := V2.cell 0 5 rfl rfl; have f5 := V2.frozen 0 5 rfl; have c6 := V2.cell 0 6 rfl rfl; have f6 := V2.frozen 0 6 rfl; have c7 := V2.cell 0 7 rfl rfl; have f7 := V2.frozen 0 7 rfl; have c8 := V2.cell 0 8 rfl rfl; have f8 := V2.frozen 0 8 rfl; have c9 := V2.cell 0 9 rfl rfl; have f9 := V2.frozen 0 9 rfl; have c10 := V2.cell 0 10 rfl rfl; have f10 := V2.frozen 0 10 rfl; have c11 := V2.cell 0 11 rfl rfl; have f11 := V2.frozen 0 11 rfl; have c12 := V2.cell 0 12 rfl rfl; have f12 := V2.frozen 0 12 rfl; have c13 := V2.cell 0 13 rfl rfl; have f13 := V2.frozen 0 13 rfl
      have V3_0 := Mq.put0 (cs := #[.bool false, .slice none 0 0, .slice none 0 0, .bool false, .slice none 0 0, .slice none 0 0, .bool false, .slice none 0 0, .slice none 0 0, .bool false, .slice none 0 0, .slice none 0 0, .bool false, .bool false]) V2r plain_parts hdst 0 (.bool false)
      have V3_1 := Mq.put0 (cs := #[.bool false, .slice none 0 0, .slice none 0 0, .bool false, .slice none 0 0, .slice none 0 0, .bool false, .slice none 0 0, .slice none 0 0, .bool false, .slice none 0 0, .slice none 0 0, .bool false, .bool false]) V3_0 plain_parts hdst 1 (.slice none 0 0)
      have V3_2 := Mq.put0 (cs := #[.bool false, .slice none 0 0, .slice none 0 0, .bool false, .slice none 0 0, .slice none 0 0, .bool false, .slice none 0 0, .slice none 0 0, .bool false, .slice none 0 0, .slice none 0 0, .bool false, .bool false]) V3_1 plain_parts hdst 2 (.slice none 0 0)
      have V3_3 := Mq.put0 (cs := #[.bool false, .slice none 0 0, .slice none 0 0, .bool false, .slice none 0 0, .slice none 0 0, .bool false, .slice none 0 0, .slice none 0 0, .bool false, .slice none 0 0, .slice none 0 0, .bool false, .bool false]) V3_2 plain_parts hdst 3 (.bool false)
      have V3_4 := Mq.put0 (cs := #[.bool false, .slice none 0 0, .slice none 0 0, .bool false, .slice none 0 0, .slice none 0 0, .bool false, .slice none 0 0, .slice none 0 0, .bool false, .slice none 0 0, .slice none 0 0, .bool false, .bool false]) V3_3 plain_parts hdst 4 (.slice none 0 0)
      have V3_5 := Mq.put0 (cs := #[.bool false, .slice none 0 0, .slice none 0 0, .bool false, .slice none 0 0, .slice none 0 0, .bool false, .slice none 0 0, .slice none 0 0, .bool false, .slice none 0 0, .slice none 0 0, .bool false, .bool false]) V3_4 plain_parts hdst 5 (.slice none 0 0)
      have V3_6 := Mq.put0 (cs := #[.bool false, .slice none 0 0, .slice none 0 0, .bool false, .slice none 0 0, .slice none 0 0, .bool false, .slice none 0 0, .slice none 0 0, .bool false, .slice none 0 0, .slice none 0 0, .bool false, .bool false]) V3_5 plain_parts hdst 6 (.bool zyq7)
      have V3_7 := Mq.put0 (cs := #[.bool false, .slice none 0 0, .slice none 0 0, .bool false, .slice none 0 0, .slice none 0 0, .bool zyq7, .slice none 0 0, .slice none 0 0, .bool false, .slice none 0 0, .slice none 0 0, .bool false, .bool false]) V3_6 plain_parts hdst 7 (.slice pyq7 nyq7 kyq7)
      have V3_8 := Mq.put0 (cs := #[.bool false, .slice none 0 0, .slice none 0 0, .bool false, .slice none 0 0, .slice none 0 0, .bool zyq7, .slice pyq7 nyq7 kyq7, .slice none 0 0, .bool false, .slice none 0 0, .slice none 0 0, .bool false, .bool false]) V3_7 plain_parts hdst 8 (.slice qyq7 myq7 dyq7)
      have V3_9 := Mq.put0 (cs := #[.bool false, .slice none 0 0, .slice none 0 0, .bool false, .slice none 0 0, .slice none 0 0, .bool zyq7, .slice pyq7 nyq7 kyq7, .slice qyq7 myq7 dyq7, .bool false, .slice none 0 0, .slice none 0 0, .bool false, .bool false]) V3_8 plain_parts hdst 9 (.bool false)
      have V3_10 := Mq.put0 (cs := #[.bool false, .slice none 0 0, .slice none 0 0, .bool false, .slice none 0 0, .slice none 0 0, .bool zyq7, .slice pyq7 nyq7 kyq7, .slice qyq7 myq7 dyq7, .bool false, .slice none 0 0, .slice none 0 0, .bool false, .bool false]) V3_9 plain_parts hdst 10 (.slice none 0 0)
      have V3_11 := Mq.put0 (cs := #[.bool false, .slice none 0 0, .slice none 0 0, .bool false, .slice none 0 0, .slice none 0 0, .bool zyq7, .slice pyq7 nyq7 kyq7, .slice qyq7 myq7 dyq7, .bool false, .slice none 0 0, .slice none 0 0, .bool false, .bool false]) V3_10 plain_parts hdst 11 (.slice none 0 0)
      have V3_12 := Mq.put0 (cs := #[.bool false, .slice none 0 0, .slice none 0 0, .bool false, .slice none 0 0, .slice none 0 0, .bool zyq7, .slice pyq7 nyq7 kyq7, .slice qyq7 myq7 dyq7, .bool false, .slice none 0 0, .slice none 0 0, .bool false, .bool false]) V3_11 plain_parts hdst 12 (.bool il)
      have V3 := Mq.put0 (cs := #[.bool false, .slice none 0 0, .slice none 0 0, .bool false, .slice none 0 0, .slice none 0 0, .bool zyq7, .slice pyq7 nyq7 kyq7, .slice qyq7 myq7 dyq7, .bool false, .slice none 0 0, .slice none 0 0, .bool il, .bool false]) V3_12 plain_parts hdst 13 (.bool im)
      have HV3 := Lib.hid V3
      clear V V0 V2 V2r hdst iq7 kq8 lq8 hB V3_0 V3_1 V3_2 V3_3 V3_4 V3_5 V3_6 V3_7 V3_8 V3_9 V3_10 V3_11 V3_12 V3
      refine wpAny_of_held (S := fun _ => True) _ _ _ _ ?_
      refine wpAnyH_ready (rs := [9]) (by kernel_rfl) (by simp) ?_
      refine AllReadyH.cons (o := { dst := none, op := Op.store 38 (Operand.tmp 4) (Operand.tmp 13), type := 0, pos := "target.go:17", after := #[{ on := 8, ground := Ground.data }, { on := 7, ground := Ground.data }, { on := 0, ground := Ground.chain }, { on := 0, ground := Ground.phase }, { on := 1, ground := Ground.phase }, { on := 2, ground := Ground.phase }, { on := 3, ground := Ground.phase }, { on := 4, ground := Ground.phase }, { on := 5, ground := Ground.phase }, { on := 6, ground := Ground.phase }, { on := 7, ground := Ground.phase }, { on := 8, ground := Ground.phase }], guard := none }) rfl (fun K hK => ?_) AllReadyH.nil
      go_simp
      refine hK.out _ _ trivial (fun _ => ?_)
      clear hK K
      try simp only [List.setIfInBounds_toArray, List.set_cons_zero, List.set_cons_succ]
      refine wpAnyH_done (by kernel_rfl) ?_ _
      clear c0 c1 c2 c3 c4 c5 c6 c7 c8 c9 c10 c11 c12 c13 f0 f1 f2 f3 f4 f5 f6 f7 f8 f9 f10 f11 f12 f13
      go_wp2_with fail
      go_meet
      case rel => exact ⟨bq8, zyq7, pyq7, nyq7, kyq7, qyq7, myq7, dyq7, rfl, hne8, HV3⟩
  case rest =>
  obtain ⟨b, zy, py, ny, ky, qy, my, dy, rfl, hb, hV⟩ := hcut
  clear V0
  have Hdst : Hid (∀ (k' b' : Nat) (t' : TypeId) (cs' : Array Value), [(w.heap.size + 1, 38, #[.bool false, .slice none 0 0, .slice none 0 0, .bool false, .slice none 0 0, .slice none 0 0, .bool false, .slice none 0 0, .slice none 0 0, .bool false, .slice none 0 0, .slice none 0 0, .bool false, .bool false]), (w.heap.size, 25, #[.string mn, .string mx, .string fa, .string co, .int .i64 ca])][k']? = some (b', t', cs') → b' ≠ b) := Lib.hid (fun k' b' t' cs' e => by
    match k', e with
    | 0, e => simp at e; omega
    | 1, e => simp at e; omega
    | k + 2, e => simp at e)
  obtain ⟨oa, hoa⟩ : ∃ o, okt mn = o := ⟨_, rfl⟩
  obtain ⟨ob, hob⟩ : ∃ o, okt mx = o := ⟨_, rfl⟩
  obtain ⟨oc', hoc⟩ : ∃ o, okt fa = o := ⟨_, rfl⟩
  obtain ⟨oe, hoe⟩ : ∃ o, okt co = o := ⟨_, rfl⟩
  have Hoa := Lib.hid hoa; have Hob := Lib.hid hob; have Hoc := Lib.hid hoc; have Hoe := Lib.hid hoe
  clear hoa hob hoc hoe HOf hil him
  go_upto_region 2 with fail
  go_cut [5] (fun kv wx => ∃ (za : Bool) (pa : Option Addr) (na ka : Nat) (qa : Option Addr) (ma da : Nat) (zb : Bool) (pb : Option Addr) (nb kb : Nat) (qb : Option Addr) (mb db : Nat) (zc : Bool) (pc : Option Addr) (nc kc : Nat) (qc : Option Addr) (mc dc : Nat) (ze : Bool) (pe : Option Addr) (ne ke : Nat) (qe : Option Addr) (me de : Nat) (r : List (Value × Rat)), kv = .bool (oa && (ob && (oc' && oe))) ∧ Hid (Mq w [(b, 38, #[.bool za, .slice pa na ka, .slice qa ma da, .bool zb, .slice pb nb kb, .slice qb mb db, .bool zc, .slice pc nc kc, .slice qc mc dc, .bool ze, .slice pe ne ke, .slice qe me de, .bool il, .bool im]), (w.heap.size + 1, 38, #[.bool false, .slice none 0 0, .slice none 0 0, .bool false, .slice none 0 0, .slice none 0 0, .bool false, .slice none 0 0, .slice none 0 0, .bool false, .slice none 0 0, .slice none 0 0, .bool false, .bool false]), (w.heap.size, 25, #[.string mn, .string mx, .string fa, .string co, .int .i64 ca])] [] r wx) ∧ Hid ((oa && (ob && (oc' && oe))) = true → r[3]? = some (.agg #[.bool za, .slice pa na ka, .slice qa ma da], qv mn 0) ∧ r[2]? = some (.agg #[.bool zb, .slice pb nb kb, .slice qb mb db], qv mx 0) ∧ r[1]? = some (.agg #[.bool zc, .slice pc nc kc, .slice qc mc dc], qv fa 1) ∧ r[0]? = some (.agg #[.bool ze, .slice pe ne ke, .slice qe me de], qv co 0)))
  case first => as_aux_lemma =>
    have V1 := hV.out
    have q0 := V1.tg0 2 rfl
    go_wp2_with fail
    refine (take_0 mn Hs.out.1 (HTB.out _ V1.bel) V1 Hdst.out (isR_zero _)).mono ?_
    rintro e w1 ⟨za, pa, na, ka, qa, ma, da, rfl, V2⟩
    rw [Hoa.out]
    clear V1 q0 hV
    cases oa with
    | false =>
      have HV := Lib.hid V2
      clear V2
      go_wp2_with fail
      go_meet
      case rel => exact ⟨_, _, _, _, _, _, _, _, _, _, _, _, _, _, _, _, _, _, _, _, _, _, _, _, _, _, _, _, _, rfl, HV, Lib.hid (fun h => by cases h)⟩
    | true =>
      have q1 := V2.tg1 2 rfl
      go_wp2_with fail
      refine (take_1 mx Hs.out.2.1 (HTB.out _ V2.bel) V2 Hdst.out (isR_zero _)).mono ?_
      rintro e w2 ⟨zb, pb, nb, kb, qb, mb, db, rfl, V3⟩
      rw [Hob.out]
      clear V2 q1
      cases ob with
      | false =>
        have HV := Lib.hid V3
        clear V3
        go_wp2_with fail
        go_meet
        case rel => exact ⟨_, _, _, _, _, _, _, _, _, _, _, _, _, _, _, _, _, _, _, _, _, _, _, _, _, _, _, _, _, rfl, HV, Lib.hid (fun h => by cases h)⟩
      | true =>
        have q2 := V3.tg2 2 rfl
        go_wp2_with fail
        refine (take_2 fa Hs.out.2.2.1 (HTB.out _ V3.bel) V3 Hdst.out (V3.rat 2 _ _ rfl)).mono ?_
        rintro e w3 ⟨zc, pc, nc, kc, qc, mc, dc, rfl, V4⟩
        rw [Hoc.out]
        clear V3 q2
        cases oc' with
        | false =>
          have HV := Lib.hid V4
          clear V4
          go_wp2_with fail
          go_meet
          case rel => exact ⟨_, _, _, _, _, _, _, _, _, _, _, _, _, _, _, _, _, _, _, _, _, _, _, _, _, _, _, _, _, rfl, HV, Lib.hid (fun h => by cases h)⟩
        | true =>
          have q3 := V4.tg3 2 rfl
          go_wp2_with fail
          refine (take_3 co Hs.out.2.2.2 (HTB.out _ V4.bel) V4 Hdst.out (isR_zero _)).mono ?_
          rintro e w4 ⟨ze, pe, ne, ke, qe, me, de, rfl, V5⟩
          rw [Hoe.out]
          have HV := Lib.hid V5
          clear V4 V5 q3
          go_wp2_with fail
          go_meet
          case rel => exact ⟨_, _, _, _, _, _, _, _, _, _, _, _, _, _, _, _, _, _, _, _, _, _, _, _, _, _, _, _, _, rfl, HV, Lib.hid (fun _ => ⟨rfl, rfl, rfl, rfl⟩)⟩
  case rest =>
  obtain ⟨za, pa, na, ka, qa, ma, da, zb, pb, nb, kb, qb, mb, db, zc, pc, nc, kc, qc, mc, dc, ze, pe, ne, ke, qe, me, de, r, rfl, hW, hr⟩ := hcut
  have V1 := hW.out.swap
  have hd2 : ∀ (k' b' : Nat) (t' : TypeId) (cs' : Array Value), [(b, 38, #[.bool za, .slice pa na ka, .slice qa ma da, .bool zb, .slice pb nb kb, .slice qb mb db, .bool zc, .slice pc nc kc, .slice qc mc dc, .bool ze, .slice pe ne ke, .slice qe me de, .bool il, .bool im]), (w.heap.size, 25, #[.string mn, .string mx, .string fa, .string co, .int .i64 ca])][k']? = some (b', t', cs') → b' ≠ w.heap.size + 1 := fun k' b' t' cs' e => by
    match k', e with
    | 0, e => simp at e; omega
    | 1, e => simp at e; omega
    | k + 2, e => simp at e
  have V3_0 := Mq.put0 (cs := #[.bool false, .slice none 0 0, .slice none 0 0, .bool false, .slice none 0 0, .slice none 0 0, .bool false, .slice none 0 0, .slice none 0 0, .bool false, .slice none 0 0, .slice none 0 0, .bool false, .bool false]) V1 plain_parts hd2 0 (.bool za)
  have V3_1 := Mq.put0 (cs := #[.bool za, .slice none 0 0, .slice none 0 0, .bool false, .slice none 0 0, .slice none 0 0, .bool false, .slice none 0 0, .slice none 0 0, .bool false, .slice none 0 0, .slice none 0 0, .bool false, .bool false]) V3_0 plain_parts hd2 1 (.slice pa na ka)
  have V3_2 := Mq.put0 (cs := #[.bool za, .slice pa na ka, .slice none 0 0, .bool false, .slice none 0 0, .slice none 0 0, .bool false, .slice none 0 0, .slice none 0 0, .bool false, .slice none 0 0, .slice none 0 0, .bool false, .bool false]) V3_1 plain_parts hd2 2 (.slice qa ma da)
  have V3_3 := Mq.put0 (cs := #[.bool za, .slice pa na ka, .slice qa ma da, .bool false, .slice none 0 0, .slice none 0 0, .bool false, .slice none 0 0, .slice none 0 0, .bool false, .slice none 0 0, .slice none 0 0, .bool false, .bool false]) V3_2 plain_parts hd2 3 (.bool zb)
  have V3_4 := Mq.put0 (cs := #[.bool za, .slice pa na ka, .slice qa ma da, .bool zb, .slice none 0 0, .slice none 0 0, .bool false, .slice none 0 0, .slice none 0 0, .bool false, .slice none 0 0, .slice none 0 0, .bool false, .bool false]) V3_3 plain_parts hd2 4 (.slice pb nb kb)
  have V3_5 := Mq.put0 (cs := #[.bool za, .slice pa na ka, .slice qa ma da, .bool zb, .slice pb nb kb, .slice none 0 0, .bool false, .slice none 0 0, .slice none 0 0, .bool false, .slice none 0 0, .slice none 0 0, .bool false, .bool false]) V3_4 plain_parts hd2 5 (.slice qb mb db)
  have V3_6 := Mq.put0 (cs := #[.bool za, .slice pa na ka, .slice qa ma da, .bool zb, .slice pb nb kb, .slice qb mb db, .bool false, .slice none 0 0, .slice none 0 0, .bool false, .slice none 0 0, .slice none 0 0, .bool false, .bool false]) V3_5 plain_parts hd2 6 (.bool zc)
  have V3_7 := Mq.put0 (cs := #[.bool za, .slice pa na ka, .slice qa ma da, .bool zb, .slice pb nb kb, .slice qb mb db, .bool zc, .slice none 0 0, .slice none 0 0, .bool false, .slice none 0 0, .slice none 0 0, .bool false, .bool false]) V3_6 plain_parts hd2 7 (.slice pc nc kc)
  have V3_8 := Mq.put0 (cs := #[.bool za, .slice pa na ka, .slice qa ma da, .bool zb, .slice pb nb kb, .slice qb mb db, .bool zc, .slice pc nc kc, .slice none 0 0, .bool false, .slice none 0 0, .slice none 0 0, .bool false, .bool false]) V3_7 plain_parts hd2 8 (.slice qc mc dc)
  have V3_9 := Mq.put0 (cs := #[.bool za, .slice pa na ka, .slice qa ma da, .bool zb, .slice pb nb kb, .slice qb mb db, .bool zc, .slice pc nc kc, .slice qc mc dc, .bool false, .slice none 0 0, .slice none 0 0, .bool false, .bool false]) V3_8 plain_parts hd2 9 (.bool ze)
  have V3_10 := Mq.put0 (cs := #[.bool za, .slice pa na ka, .slice qa ma da, .bool zb, .slice pb nb kb, .slice qb mb db, .bool zc, .slice pc nc kc, .slice qc mc dc, .bool ze, .slice none 0 0, .slice none 0 0, .bool false, .bool false]) V3_9 plain_parts hd2 10 (.slice pe ne ke)
  have V3_11 := Mq.put0 (cs := #[.bool za, .slice pa na ka, .slice qa ma da, .bool zb, .slice pb nb kb, .slice qb mb db, .bool zc, .slice pc nc kc, .slice qc mc dc, .bool ze, .slice pe ne ke, .slice none 0 0, .bool false, .bool false]) V3_10 plain_parts hd2 11 (.slice qe me de)
  have V3_12 := Mq.put0 (cs := #[.bool za, .slice pa na ka, .slice qa ma da, .bool zb, .slice pb nb kb, .slice qb mb db, .bool zc, .slice pc nc kc, .slice qc mc dc, .bool ze, .slice pe ne ke, .slice qe me de, .bool false, .bool false]) V3_11 plain_parts hd2 12 (.bool il)
  have V3 := Mq.put0 (cs := #[.bool za, .slice pa na ka, .slice qa ma da, .bool zb, .slice pb nb kb, .slice qb mb db, .bool zc, .slice pc nc kc, .slice qc mc dc, .bool ze, .slice pe ne ke, .slice qe me de, .bool il, .bool false]) V3_12 plain_parts hd2 13 (.bool im)
  have HV3 := Lib.hid V3
  have V4 := hW.out
  have c0 := V4.cell 0 0 rfl rfl; have s0 := V4.cell 1 0 rfl rfl; have f0 := V4.frozen 1 0 rfl; have c1 := V4.cell 0 1 rfl rfl; have s1 := V4.cell 1 1 rfl rfl; have f1 := V4.frozen 1 1 rfl; have c2 := V4.cell 0 2 rfl rfl; have s2 := V4.cell 1 2 rfl rfl; have f2 := V4.frozen 1 2 rfl; have c3 := V4.cell 0 3 rfl rfl; have s3 := V4.cell 1 3 rfl rfl; have f3 := V4.frozen 1 3 rfl; have c4 := V4.cell 0 4 rfl rfl; have s4 := V4.cell 1 4 rfl rfl; have f4 := V4.frozen 1 4 rfl; have c5 := V4.cell 0 5 rfl rfl; have s5 := V4.cell 1 5 rfl rfl; have f5 := V4.frozen 1 5 rfl; have c6 := V4.cell 0 6 rfl rfl; have s6 := V4.cell 1 6 rfl rfl; have f6 := V4.frozen 1 6 rfl; have c7 := V4.cell 0 7 rfl rfl; have s7 := V4.cell 1 7 rfl rfl; have f7 := V4.frozen 1 7 rfl; have c8 := V4.cell 0 8 rfl rfl; have s8 := V4.cell 1 8 rfl rfl; have f8 := V4.frozen 1 8 rfl; have c9 := V4.cell 0 9 rfl rfl; have s9 := V4.cell 1 9 rfl rfl; have f9 := V4.frozen 1 9 rfl; have c10 := V4.cell 0 10 rfl rfl; have s10 := V4.cell 1 10 rfl rfl; have f10 := V4.frozen 1 10 rfl; have c11 := V4.cell 0 11 rfl rfl; have s11 := V4.cell 1 11 rfl rfl; have f11 := V4.frozen 1 11 rfl; have c12 := V4.cell 0 12 rfl rfl; have s12 := V4.cell 1 12 rfl rfl; have f12 := V4.frozen 1 12 rfl; have c13 := V4.cell 0 13 rfl rfl; have s13 := V4.cell 1 13 rfl rfl; have f13 := V4.frozen 1 13 rfl
  clear V1 hd2 V3_0 V3_1 V3_2 V3_3 V3_4 V3_5 V3_6 V3_7 V3_8 V3_9 V3_10 V3_11 V3_12 V3 V4 hV
  go_wp2_with fail
  refine bodyPost_ret (res_parts rfl _ _ _ _ _ (.bool (oa && (ob && (oc' && oe)))) rfl rfl (HV3.out.box 0 _ _ _ rfl).1) rfl ⟨za, pa, na, ka, qa, ma, da, zb, pb, nb, kb, qb, mb, db, zc, pc, nc, kc, qc, mc, dc, ze, pe, ne, ke, qe, me, de, ?_, ?_, HV3.out.bel⟩
  · rw [Hoa.out, Hob.out, Hoc.out, Hoe.out, Hil.out, Him.out]
  · rw [Hoa.out, Hob.out, Hoc.out, Hoe.out]
    intro h
    obtain ⟨h1, h2, h3, h4⟩ := hr.out h
    exact ⟨HV3.out.rat 3 _ _ h1, HV3.out.rat 2 _ _ h2, HV3.out.rat 1 _ _ h3, HV3.out.rat 0 _ _ h4⟩
end Go.Proofs.YtckglpkafhmehaaGreatDoor
