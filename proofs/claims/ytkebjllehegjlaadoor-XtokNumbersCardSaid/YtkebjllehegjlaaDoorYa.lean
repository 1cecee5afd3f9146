/-
  Law 7: a text that is a reference by a number, between '<a>' and '</a>'.
-/
import Derived.Test.YtkebjllehegjlaaDoorXz
import Derived.Test.YtkebjllehegjlaaDoorXm
namespace Go.Proofs.YtkebjllehegjlaaDoor
open Go.RowKit Go.Shelf
set_option linter.unusedVariables false
set_option maxRecDepth 100000 in
set_option maxHeartbeats 8000000 in
theorem text_bad {w W : World} {b k : Nat} {s : ByteArray} {tk : Value} {x : Int} (h : Cu w b s k tk x W) (hs : s.size ≤ 1000000) (l : List UInt8) (hd : s.data.toList.drop k = 38 :: l)
    (HR : ∀ W', Cu w b s k tk x W' → Calls Tryd.prog 30 #[.pointer (some ⟨b, 0, none⟩)] W' fun e w' => e = .returned (.tuple #[.string ⟨#[]⟩, .bool false]) ∧ ∃ m, Cu w b s m tk (k : Int) w') :
    Calls Tryd.prog 17 #[.pointer (some ⟨b, 0, none⟩)] W fun e w' => e = .returned (.bool false) ∧ ∃ m, Cu w b s m tk (k : Int) w' := by
  obtain ⟨hjl, hsj, -, -⟩ := drop_get hd
  have hng : goes s k ⟨#[93, 93, 62]⟩ = false := goes_one (c := 93) (u := [93, 62]) hd (by decide)
  have HG : Hid (∀ W', Cu w b s k tk x W' → Calls Tryd.prog 28 #[.pointer (some ⟨b, 0, none⟩), .string ⟨#[93, 93, 62]⟩] W' fun e w' => e = .returned (.bool false) ∧ Cu w b s k tk x w') := Lib.hid (fun W' h' => by
    have := begins_any h' (Nat.le_of_lt hjl) ⟨#[93, 93, 62]⟩
    rwa [hng] at this)
  have HR := Lib.hid HR
  have c1 := h.c1
  have H0 := h.below ((Below.refl _ _).alloc (Nat.le_refl _) (.cells #[.pointer none, .slice none 0 0] 40))
  have c1' := H0.c1; have c0' := H0.c0
  have H0 := Lib.hid H0
  have hC : ((s[k]).toNat : Int) = 38 := by rw [hsj]; rfl
  obtain ⟨n, hsn⟩ : ∃ n, s.size = n := ⟨_, rfl⟩
  have hsi : (s.size : Int) = (n : Int) := by rw [hsn]
  have hji : (k : Int) < (n : Int) := by omega
  have hk6 : k ≤ 1000000 := by omega
  have HJD := Lib.hid (H0.out.below (Below.refl _ _).drew)
  have HJDD := Lib.hid (HJD.out.below (Below.refl _ _).drew)
  clear h hs hd hng hsn
  go_enter Tryd.func17, Tryd.ntmps17
  go_wp2_with fail
  go_step3
  go_wp2_with fail
  refine wp_label ?_
  go_wp2_with fail
  revert H0 HJD HJDD c1' c0'
  generalize W.alloc (.cells #[.pointer none, .slice none 0 0] 40) = W2
  intro c1' c0' H0 HJD HJDD
  go_loopw [] (fun wr => wr = W2) (fun _ => 0)
  case atStart => rfl
  case round =>
    subst hrel
    go_wp2_with fail
    go_region_held3 (fun w' => w'.cell? ⟨b, 0, none⟩ = some (.string s) ∧ w'.cell? ⟨b, 1, none⟩ = some (.int .i64 (k : Int)))
      (first | exact ⟨c0', c1'⟩ | exact ⟨HJD.out.c0, HJD.out.c1⟩ | go_keep)
      (fail)
    have c0 := HJD.out.c0; have c1 := HJD.out.c1
    go_wp2_with fail
    go_region_held3 (fun w' => w'.cell? ⟨b, 0, none⟩ = some (.string s) ∧ w'.cell? ⟨b, 1, none⟩ = some (.int .i64 (k : Int)))
      (first | exact ⟨c0, c1⟩ | exact ⟨HJDD.out.c0, HJDD.out.c1⟩ | go_keep)
      (fail)
    go_wp2_with fail
    refine (HG.out _ HJDD.out).mono ?_
    rintro e w1 ⟨rfl, h⟩
    have K1 := Lib.hid h
    clear h
    go_wp2_with fail
    refine (HR.out _ K1.out).mono ?_
    rintro e w2 ⟨rfl, h⟩
    have K2 := Lib.hid h
    clear h
    go_wp2_with fail
    rw [Exit.noGoto_ret]
    go_ret
    exact ⟨rfl, K2.out⟩
theorem step_badref {s : ByteArray} {k : Nat} (hs : s.size ≤ 1000000) (B : Nat) (hB : B = 10 ∨ B = 16) (D : List UInt8) (v : Nat) (H : Digs B D v) (hc : uChar (v : Int) = false) (rest : List UInt8) (hd : s.data.toList.drop k = 38 :: (NumSrc B D ++ [59]) ++ rest) : StepBad s k (k : Int) := fun w W b tk x ts h => by
  obtain ⟨hk, hsk, _, _⟩ := drop_get (l := NumSrc B D ++ [59] ++ rest) hd
  refine token_text h.cu hk (by rw [hsk]; decide) (fun ok w' => ok = false ∧ ∃ m, Cu w b s m tk (k : Int) w') (fun W' h' => ?_)
  exact (text_bad h' hs _ hd (fun W1 h1 => refbad_num B hB D v H hc h1 hs hd)).mono fun e w' hh => ⟨false, hh.1, rfl, hh.2⟩
theorem plain_app {a b : List UInt8} (ha : plain a) (hb : plain b) : plain (a ++ b) := fun y hy => (List.mem_append.1 hy).elim (ha y) (hb y)
theorem dig_plain {B : Nat} (hB : B ≤ 16) {y : UInt8} (h : Dig B y) : y.toNat < 128 ∧ uChar (y.toNat : Int) = true ∧ y ≠ 62 := by
  obtain ⟨h1, h2⟩ := h
  have h3 : 48 ≤ y.toNat := by omega
  have h4 : y.toNat < 128 := by
    rcases h2 with h2 | ⟨_, h2, _⟩
    · omega
    · rcases Nat.lt_or_ge y.toNat 128 with h | h
      · exact h
      · have := @Nat.left_le_or y.toNat 32
        omega
  refine ⟨h4, ?_, ?_⟩
  · unfold uChar
    exact decide_eq_true (by omega)
  · rintro rfl
    rcases h2 with h2 | h2
    · exact absurd h2.2 (by decide)
    · exact absurd h2.1 (by decide)
/-- '<a>&' and what stands for a number, and ';</a>'. -/
def numText (B : Nat) (D : List UInt8) : List UInt8 := [60, 97, 62] ++ (38 :: (NumSrc B D ++ [59]) ++ [60, 47, 97, 62])
theorem num_plain {B : Nat} (hB : B = 10 ∨ B = 16) {D : List UInt8} (h : ∀ y ∈ D, Dig B y) : plain (numText B D) ∧ ∀ y ∈ (38 :: (NumSrc B D ++ [59])), y ≠ 62 := by
  have hD : ∀ y ∈ D, y.toNat < 128 ∧ uChar (y.toNat : Int) = true ∧ y ≠ 62 := fun y hy => dig_plain (by omega) (h y hy)
  have hN : ∀ y ∈ NumSrc B D, y.toNat < 128 ∧ uChar (y.toNat : Int) = true ∧ y ≠ 62 := fun y hy => by
    unfold NumSrc at hy
    rcases List.mem_cons.1 hy with rfl | hy
    · decide
    · split at hy
      · exact hD y hy
      · rcases List.mem_cons.1 hy with rfl | hy
        · decide
        · exact hD y hy
  have hM : ∀ y ∈ (38 :: (NumSrc B D ++ [59])), y.toNat < 128 ∧ uChar (y.toNat : Int) = true ∧ y ≠ 62 := fun y hy => by
    rcases List.mem_cons.1 hy with rfl | hy
    · decide
    · rcases List.mem_append.1 hy with hy | hy
      · exact hN y hy
      · rw [List.mem_singleton.1 hy]; decide
  exact ⟨plain_app (plain_of (by decide)) (plain_app (fun y hy => ⟨(hM y hy).1, (hM y hy).2.1⟩) (plain_of (by decide))), fun y hy => (hM y hy).2.2⟩
theorem num_len {B : Nat} {D : List UInt8} (h : D.length ≤ 7) : (numText B D).length ≤ 60000 ∧ (numText B D).length = 3 + (38 :: (NumSrc B D ++ [59])).length + 4 := by
  have h1 : (NumSrc B D).length ≤ 9 := by
    unfold NumSrc
    split <;> simp only [List.length_cons] <;> omega
  unfold numText
  simp only [List.length_append, List.length_cons, List.length_nil]
  omega
def tkN (B : Nat) (D : List UInt8) (v : Nat) : List Tkn := [⟨1, 0, ⟨#[97]⟩, ⟨#[]⟩, false, none⟩, ⟨3, 3, ⟨#[]⟩, txt (uPut v), false, none⟩, ⟨2, ((3 + (38 :: (NumSrc B D ++ [59])).length : Nat) : Int), ⟨#[97]⟩, ⟨#[]⟩, false, none⟩]
theorem uPut_some {v : Nat} (hc : uChar (v : Int) = true) : uPut v ≠ [] ∧ (uPut v).length ≤ 4 := by
  unfold uChar at hc
  have hc := of_decide_eq_true hc
  unfold uPut
  have h1 : uSize v = 1 ∨ uSize v = 2 ∨ uSize v = 3 ∨ uSize v = 4 := by
    unfold uSize
    (repeat' split) <;> omega
  rcases h1 with h | h | h | h <;> simp [h]
theorem digs_len {B v : Nat} {D : List UInt8} (H : Digs B D v) : D.length ≤ 7 := by
  have := H.len
  split at this <;> omega
theorem num_chain {s : ByteArray} {B : Nat} (hB : B = 10 ∨ B = 16) {D : List UInt8} {v : Nat} (H : Digs B D v) (hs : s.data.toList = numText B D) (hc : uChar (v : Int) = true) : Chain s 0 [] (tkN B D v) := by
  obtain ⟨hl, hl2⟩ := num_len (B := B) (digs_len H)
  have hsz : s.size = (numText B D).length := by rw [← hs]; simp
  have hs6 : s.size ≤ 1000000 := by omega
  obtain ⟨hp, hno⟩ := num_plain hB H.dig
  have d0 : s.data.toList.drop 0 = 60 :: 97 :: 62 :: (38 :: (NumSrc B D ++ [59]) ++ [60, 47, 97, 62]) := by rw [hs]; rfl
  have d3 : s.data.toList.drop 3 = 38 :: (NumSrc B D ++ [59]) ++ [60, 47, 97, 62] := by rw [hs]; rfl
  have hsr : srcs [⟨38 :: (NumSrc B D ++ [59]), (uPut v).map UInt8.ofNat⟩] = 38 :: (NumSrc B D ++ [59]) := by simp [srcs]
  have hde : decs [⟨38 :: (NumSrc B D ++ [59]), (uPut v).map UInt8.ofNat⟩] = (uPut v).map UInt8.ofNat := by simp [decs]
  obtain ⟨u1, u2⟩ := uPut_some hc
  have T := step_text (s := s) (k := 3) hs6 [⟨38 :: (NumSrc B D ++ [59]), (uPut v).map UInt8.ofNat⟩] (fun p hp => by rw [List.mem_singleton.1 hp]; exact .inr ⟨_, rfl, refok_num B hB D v H hc⟩) (by rw [hsr]; exact hno) (by rw [hde, List.length_map]; omega) (by simp) (by rw [hde]; simpa using u1) [47, 97, 62] (by rw [hsr]; exact d3)
  rw [hsr, hde] at T
  obtain ⟨m, hm⟩ : ∃ m, 3 + (38 :: (NumSrc B D ++ [59])).length = m := ⟨_, rfl⟩
  have d4 : s.data.toList.drop m = 60 :: 47 :: 97 :: 62 :: [] := by rw [← hm]; exact drop_step d3
  rw [hm] at T hl2
  have hms : m + 4 = s.size := by rw [hsz, hl2]
  have hm3 : 3 < m := by rw [← hm]; simp
  unfold tkN
  rw [hm]
  refine .step (step_open (s := s) (k := 0) hs6 (.inl rfl) d0) (by decide) (by omega) (by decide) ?_
  refine .step T hm3 (by omega) (by simp) ?_
  refine .step (step_close (s := s) (k := m) hs6 (.inl rfl) d4) (by omega) (by omega) (by simp) ?_
  rw [hms]
  exact Chain.done _
theorem num_broken {s : ByteArray} {B : Nat} (hB : B = 10 ∨ B = 16) {D : List UInt8} {v : Nat} (H : Digs B D v) (hs : s.data.toList = numText B D) (hc : uChar (v : Int) = false) : Broken s 3 0 [] := by
  obtain ⟨hl, hl2⟩ := num_len (B := B) (digs_len H)
  have hsz : s.size = (numText B D).length := by rw [← hs]; simp
  have hs6 : s.size ≤ 1000000 := by omega
  have d0 : s.data.toList.drop 0 = 60 :: 97 :: 62 :: (38 :: (NumSrc B D ++ [59]) ++ [60, 47, 97, 62]) := by rw [hs]; rfl
  have d3 : s.data.toList.drop 3 = 38 :: (NumSrc B D ++ [59]) ++ [60, 47, 97, 62] := by rw [hs]; rfl
  refine .step (step_open (s := s) (k := 0) hs6 (.inl rfl) d0) (by decide) (by omega) (by decide) ?_
  exact .bad _ (step_badref hs6 B hB D v H hc [60, 47, 97, 62] d3) (by omega)
/-- Cut, of such a text. -/
theorem cut_num (s : ByteArray) {B : Nat} (hB : B = 10 ∨ B = 16) {D : List UInt8} {v : Nat} (H : Digs B D v) (hs : s.data.toList = numText B D) (hc : uChar (v : Int) = true) (w : World) :
    Calls Tryd.prog 7 #[.string s] w fun e w' => ∃ tk, e = .returned (.tuple #[tk, .agg #[.int .i64 0, .int .i64 0, .string ⟨#[]⟩]]) ∧ Told w' tk (tkN B D v) ∧ Below w.heap.size w w' :=
  cut_told s (by have h1 := (num_len (B := B) (digs_len H)).1; have : s.size = (numText B D).length := by rw [← hs]; simp
                 omega) (by rw [hs]; exact good_plain _ (num_plain hB H.dig).1) _ (by simp [tkN]) (num_chain hB H hs hc) w
theorem cut_num_no (s : ByteArray) {B : Nat} (hB : B = 10 ∨ B = 16) {D : List UInt8} {v : Nat} (H : Digs B D v) (hs : s.data.toList = numText B D) (hc : uChar (v : Int) = false) (w : World) :
    Calls Tryd.prog 7 #[.string s] w fun e w' => e = .returned (.tuple #[.slice none 0 0, .agg #[.int .i64 11, .int .i64 3, .string ⟨#[]⟩]]) ∧ Below w.heap.size w w' :=
  cut_bad s (by have h1 := (num_len (B := B) (digs_len H)).1; have : s.size = (numText B D).length := by rw [← hs]; simp
                omega) (by rw [hs]; exact good_plain _ (num_plain hB H.dig).1) 3 (num_broken hB H hs hc) w
theorem digs_dec (r : Nat) (h : r < 10 ^ 7) : Digs 10 (dgs 10 gDec r) r :=
  ⟨dgs_ne r, dgs_all (by decide) (Dig 10) dig_dec r, by
    have := Nat.pow_le_pow_right (show 0 < 10 by decide) (dgs_len (B := 10) (g := gDec) (by decide) 6 r h)
    omega, by rw [if_pos rfl]; exact dgs_len (by decide) 6 r h, worth_dgs (by decide) vHex (fun d hd => (gDec_nat d hd).2) r⟩
theorem digs_hex (u : Bool) (r : Nat) (h : r < 16 ^ 6) : Digs 16 (dgs 16 (gHex u) r) r :=
  ⟨dgs_ne r, dgs_all (by decide) (Dig 16) (dig_hex u) r, by
    have := Nat.pow_le_pow_right (show 0 < 16 by decide) (dgs_len (B := 16) (g := gHex u) (by decide) 5 r h)
    omega, by rw [if_neg (by decide)]; exact dgs_len (by decide) 5 r h, worth_dgs (by decide) vHex (fun d hd => (gHex_ok u d hd).1) r⟩
end Go.Proofs.YtkebjllehegjlaaDoor
