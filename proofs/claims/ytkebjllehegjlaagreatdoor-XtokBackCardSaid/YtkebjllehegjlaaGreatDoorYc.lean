/-
  Law 7: values between quotes, cut.
-/
import Derived.Test.YtkebjllehegjlaaGreatDoorXz
import Derived.Test.YtkebjllehegjlaaGreatDoorYb
namespace Go.Proofs.YtkebjllehegjlaaGreatDoor
open Go.RowKit Go.Shelf
set_option linter.unusedVariables false
theorem to_byte {c d : UInt8} (h : c.toNat = d.toNat) : c = d := UInt8.toNat_inj.1 h
theorem refok_13 : RefOk ⟨[38, 35, 49, 51, 59], [13]⟩ := refok_num 10 (.inl rfl) [49, 51] 13 ⟨by simp, fun y hy => by simp at hy; rcases hy with rfl | rfl <;> (unfold Dig; decide), by decide, by decide, by decide⟩ (by decide)
theorem refok_9 : RefOk ⟨[38, 35, 57, 59], [9]⟩ := refok_num 10 (.inl rfl) [57] 9 ⟨by simp, fun y hy => by simp at hy; subst hy; unfold Dig; decide, by decide, by decide, by decide⟩ (by decide)
theorem refok_10 : RefOk ⟨[38, 35, 49, 48, 59], [10]⟩ := refok_num 10 (.inl rfl) [49, 48] 10 ⟨by simp, fun y hy => by simp at hy; rcases hy with rfl | rfl <;> (unfold Dig; decide), by decide, by decide, by decide⟩ (by decide)
/-- A sign that stands for quotes. -/
def singF (c : UInt8) : List UInt8 := if c.toNat = 39 then [38, 97, 112, 111, 115, 59] else [c]
def escP (c : UInt8) : Pc := ⟨escF true c, [c]⟩
def escS (c : UInt8) : Pc := ⟨(escF true c).flatMap singF, [c]⟩
theorem esc_ways (c : UInt8) : c = 38 ∨ c = 60 ∨ c = 62 ∨ c = 13 ∨ c = 34 ∨ c = 9 ∨ c = 10 ∨ (escF true c = [c] ∧ Self c ∧ c ≠ 34) := by
  by_cases n38 : c.toNat = 38
  · exact .inl (to_byte n38)
  by_cases n60 : c.toNat = 60
  · exact .inr (.inl (to_byte n60))
  by_cases n62 : c.toNat = 62
  · exact .inr (.inr (.inl (to_byte n62)))
  by_cases n13 : c.toNat = 13
  · exact .inr (.inr (.inr (.inl (to_byte n13))))
  by_cases n34 : c.toNat = 34
  · exact .inr (.inr (.inr (.inr (.inl (to_byte n34)))))
  by_cases n9 : c.toNat = 9
  · exact .inr (.inr (.inr (.inr (.inr (.inl (to_byte n9))))))
  by_cases n10 : c.toNat = 10
  · exact .inr (.inr (.inr (.inr (.inr (.inr (.inl (to_byte n10)))))))
  refine .inr (.inr (.inr (.inr (.inr (.inr (.inr ⟨?_, ⟨n60, n38, n13, n9, n10⟩, fun e => n34 (by rw [e]; rfl)⟩))))))
  unfold escF
  simp [n38, n60, n62, n13, n34, n9, n10]
theorem esc_ok (c : UInt8) : VcOk 34 (escP c) := by
  rcases esc_ways c with rfl | rfl | rfl | rfl | rfl | rfl | rfl | ⟨h1, h2, h3⟩
  · exact .inr ⟨_, rfl, refok_amp⟩
  · exact .inr ⟨_, rfl, refok_lt⟩
  · exact .inr ⟨_, rfl, refok_gt⟩
  · exact .inr ⟨_, rfl, refok_13⟩
  · exact .inr ⟨_, rfl, refok_quot⟩
  · exact .inr ⟨_, rfl, refok_9⟩
  · exact .inr ⟨_, rfl, refok_10⟩
  · exact .inl ⟨c, h1, rfl, h2, h3⟩
theorem sing_ok (c : UInt8) : VcOk 39 (escS c) := by
  rcases esc_ways c with rfl | rfl | rfl | rfl | rfl | rfl | rfl | ⟨h1, h2, h3⟩
  · exact .inr ⟨_, rfl, refok_amp⟩
  · exact .inr ⟨_, rfl, refok_lt⟩
  · exact .inr ⟨_, rfl, refok_gt⟩
  · exact .inr ⟨_, rfl, refok_13⟩
  · exact .inr ⟨_, rfl, refok_quot⟩
  · exact .inr ⟨_, rfl, refok_9⟩
  · exact .inr ⟨_, rfl, refok_10⟩
  · by_cases h39 : c.toNat = 39
    · obtain rfl : c = 39 := to_byte h39
      exact .inr ⟨_, rfl, refok_apos⟩
    · refine .inl ⟨c, ?_, rfl, h2, fun e => h39 (by rw [e]; rfl)⟩
      show (escF true c).flatMap singF = [c]
      rw [h1]
      unfold singF
      simp [h39]
theorem srcs_escP (v : List UInt8) : srcs (v.map escP) = v.flatMap (escF true) := by
  unfold srcs
  rw [List.flatMap_map]
  rfl
theorem srcs_escS (v : List UInt8) : srcs (v.map escS) = (v.flatMap (escF true)).flatMap singF := by
  unfold srcs
  rw [List.flatMap_map, List.flatMap_assoc]
  rfl
theorem decs_one (f : UInt8 → Pc) (hf : ∀ c, (f c).dec = [c]) (v : List UInt8) : decs (v.map f) = v := by
  unfold decs
  rw [List.flatMap_map]
  induction v with
  | nil => rfl
  | cons c v ih => rw [List.flatMap_cons, ih, hf]; rfl
theorem esc_writes : Writes (escF true) where
  wide := fun c h => by
    rcases esc_ways c with rfl | rfl | rfl | rfl | rfl | rfl | rfl | ⟨h1, _⟩
    all_goals first | exact h1 | exact absurd h (by decide)
  some_ := fun c => by
    rcases esc_ways c with rfl | rfl | rfl | rfl | rfl | rfl | rfl | ⟨h1, _⟩
    all_goals first | (rw [h1]; simp) | decide
  low := fun c h => by
    rcases esc_ways c with rfl | rfl | rfl | rfl | rfl | rfl | rfl | ⟨h1, _⟩
    all_goals first | (rw [h1]; intro y hy; rw [List.mem_singleton.1 hy]; exact h) | decide
  same := fun c h => by
    rcases esc_ways c with rfl | rfl | rfl | rfl | rfl | rfl | rfl | ⟨h1, _⟩
    all_goals first | (rw [h1]; simp) | decide
theorem sing_writes : Writes singF where
  wide := fun c h => by unfold singF; rw [if_neg (by omega)]
  some_ := fun c => by unfold singF; split <;> simp
  low := fun c h => by
    unfold singF
    split
    · decide
    · intro y hy; rw [List.mem_singleton.1 hy]; exact h
  same := fun c h => by
    by_cases h39 : c.toNat = 39
    · obtain rfl : c = 39 := to_byte h39
      decide
    · unfold singF
      rw [if_neg h39]
      simp
def Blank (c : UInt8) : Prop := c = 32 ∨ c = 9 ∨ c = 10
theorem Blank.space {c : UInt8} (h : Blank c) : uSpace (c.toNat : Int) = true := by rcases h with rfl | rfl | rfl <;> decide
theorem Blank.plain {c : UInt8} (h : Blank c) : c.toNat < 128 ∧ uChar (c.toNat : Int) = true := by rcases h with rfl | rfl | rfl <;> decide
theorem plain_app {a b : List UInt8} (ha : plain a) (hb : plain b) : plain (a ++ b) := fun y hy => (List.mem_append.1 hy).elim (ha y) (hb y)
/-- An element a with an attribute b. -/
def attText (b1 b2 b3 b4 : List UInt8) (q : UInt8) (E : List UInt8) : List UInt8 := 60 :: 97 :: (b1 ++ 98 :: (b2 ++ 61 :: (b3 ++ q :: (E ++ q :: (b4 ++ [47, 62])))))
theorem att_good {b1 b2 b3 b4 : List UInt8} {q : UInt8} (h1 : plain b1) (h2 : plain b2) (h3 : plain b3) (h4 : plain b4) (hq : q = 34 ∨ q = 39) (E : List UInt8) : good (attText b1 b2 b3 b4 q E) ↔ good E := by
  have pq : plain [q] := plain_of (by rcases hq with rfl | rfl <;> decide)
  have e : attText b1 b2 b3 b4 q E = ([60, 97] ++ b1 ++ [98] ++ b2 ++ [61] ++ b3 ++ [q]) ++ (E ++ ([q] ++ b4 ++ [47, 62])) := by simp [attText]
  rw [e, good_pre _ _ (plain_app (plain_app (plain_app (plain_app (plain_app (plain_app (plain_of (by decide)) h1) (plain_of (by decide))) h2) (plain_of (by decide))) h3) pq), good_post _ E _ (Nat.le_refl _) (plain_app (plain_app pq h4) (plain_of (by decide)))]
def tkV (v : List UInt8) (p : Nat) : List Tkn := [⟨1, 0, ⟨#[97]⟩, ⟨#[]⟩, true, some (⟨#[98]⟩, ⟨v.toArray⟩, (p : Int))⟩]
theorem att_len (b1 b2 b3 b4 : List UInt8) (q : UInt8) (E : List UInt8) : (attText b1 b2 b3 b4 q E).length = 2 + b1.length + 1 + b2.length + 1 + b3.length + 1 + E.length + 1 + b4.length + 2 := by
  unfold attText
  simp only [List.length_cons, List.length_append, List.length_nil]
  omega
theorem cut_att (s : ByteArray) (hs : s.size ≤ 60000) (b1 b2 b3 b4 : List UInt8) (h1 : ∀ z ∈ b1, Blank z) (hn1 : b1 ≠ []) (h2 : ∀ z ∈ b2, Blank z) (h3 : ∀ z ∈ b3, Blank z) (h4 : ∀ z ∈ b4, Blank z) (q : UInt8) (hq : q = 34 ∨ q = 39) (ps : List Pc) (hp : ∀ p ∈ ps, VcOk q p) (v : List UInt8) (hv : decs ps = v) (hvl : v.length ≤ 1000000)
    (hs2 : s.data.toList = attText b1 b2 b3 b4 q (srcs ps)) (hg : good (srcs ps)) (w : World) :
    Calls Tryz.prog 6 #[.string s] w fun e w' => ∃ tk, e = .returned (.tuple #[tk, .agg #[.int .i64 0, .int .i64 0, .string ⟨#[]⟩]]) ∧ Told w' tk (tkV v (2 + b1.length)) ∧ Below w.heap.size w w' := by
  have hsz : s.size = 2 + b1.length + 1 + b2.length + 1 + b3.length + 1 + (srcs ps).length + 1 + b4.length + 2 := by
    rw [← att_len b1 b2 b3 b4 q, ← hs2]; simp
  have T := step_attr (s := s) (k := 0) (by omega) (c := 97) (c2 := 98) (q := q) (.inl rfl) (.inr rfl) hq b1 b2 b3 b4 (fun z hz => (h1 z hz).space) hn1 (fun z hz => (h2 z hz).space) (fun z hz => (h3 z hz).space) (fun z hz => (h4 z hz).space) ps hp (by rw [hv]; exact hvl) true [] (by rw [List.drop_zero, hs2]; rfl)
  rw [hv, if_pos rfl, Nat.zero_add, ← hsz] at T
  refine cut_told s hs ?_ (tkV v (2 + b1.length)) (by simp [tkV]) (.step T (by omega) (Nat.le_refl _) (by decide) (Chain.done _)) w
  rw [hs2]
  exact (att_good (fun z hz => (h1 z hz).plain) (fun z hz => (h2 z hz).plain) (fun z hz => (h3 z hz).plain) (fun z hz => (h4 z hz).plain) hq _).2 hg
theorem cut_att_no (s : ByteArray) (hs : s.size ≤ 60000) (b1 b2 b3 b4 : List UInt8) (h1 : ∀ z ∈ b1, Blank z) (h2 : ∀ z ∈ b2, Blank z) (h3 : ∀ z ∈ b3, Blank z) (h4 : ∀ z ∈ b4, Blank z) (q : UInt8) (hq : q = 34 ∨ q = 39) (E : List UInt8)
    (hs2 : s.data.toList = attText b1 b2 b3 b4 q E) (hg : ¬ good E) (w : World) :
    Calls Tryz.prog 6 #[.string s] w fun e w' => (∃ p : Int, e = .returned (.tuple #[.slice none 0 0, .agg #[.int .i64 11, .int .i64 p, .string ⟨#[]⟩]])) ∧ Below w.heap.size w w' := by
  refine cut_look s hs (fun h => hg ?_) w
  rw [hs2] at h
  exact (att_good (fun z hz => (h1 z hz).plain) (fun z hz => (h2 z hz).plain) (fun z hz => (h3 z hz).plain) (fun z hz => (h4 z hz).plain) hq _).1 h
end Go.Proofs.YtkebjllehegjlaaGreatDoor
