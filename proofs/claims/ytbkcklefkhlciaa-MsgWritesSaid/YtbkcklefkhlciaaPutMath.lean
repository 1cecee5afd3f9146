/-
  Plain mathematics for chapter 10 (putting a field): what is put is what is read.
-/
import Derived.Test.YtbkcklefkhlciaaPgApp
namespace Go.Proofs.Ytbkcklefkhlciaa
/-- The n lowest bytes of a number, the lowest first. -/
def fx (v : Nat) : Nat → List Nat
  | 0 => []
  | n + 1 => fx v n ++ [v / 256 ^ n % 256]
theorem fx_length (v : Nat) : ∀ n, (fx v n).length = n := by
  intro n
  induction n with
  | zero => rfl
  | succ n ih => simp [fx, ih]
theorem fx_lit (v : Nat) : ∀ n, lit ((fx v n).map UInt8.ofNat) = v % 256 ^ n := by
  intro n
  induction n with
  | zero => simp [fx, lit, Nat.mod_one]
  | succ n ih =>
    have h : (UInt8.ofNat (v / 256 ^ n % 256)).toNat = v / 256 ^ n % 256 := ofNat_toNat _ (Nat.mod_lt _ (by omega))
    simp only [fx, List.map_append, List.map_cons, List.map_nil]
    rw [lit_snoc, ih, h, List.length_map, fx_length, Nat.mod_pow_succ, Nat.mul_comm (256 ^ n)]
/-- The bytes of a text as numbers. -/
def dn (d : ByteArray) : List Nat := d.data.toList.map UInt8.toNat
theorem dn_length (d : ByteArray) : (dn d).length = d.size := by simp [dn]
theorem dn_back (d : ByteArray) : (dn d).map UInt8.ofNat = d.data.toList := by
  unfold dn
  rw [List.map_map]
  conv => rhs; rw [← List.map_id d.data.toList]
  apply List.map_congr_left
  intro c _
  simp
/-- What follows the tag of a field that is put. -/
def pbd (kind val : Nat) (data : ByteArray) : List Nat :=
  if kind = 0 then pv val else if kind = 2 then pv data.size ++ dn data else if kind = 5 then fx val 4 else fx val 8
/-- The bytes of a field that is put. -/
def pput (num kind val : Nat) (data : ByteArray) : List Nat := pv (num * 8 + kind) ++ pbd kind val data
/-- May a field be put? -/
def May (num kind : Int) (val : Nat) (data : ByteArray) : Prop :=
  1 ≤ num ∧ num ≤ 536870911 ∧ ((kind = 0 ∧ data.size = 0) ∨ (kind = 1 ∧ data.size = 0) ∨ (kind = 5 ∧ data.size = 0 ∧ val < 4294967296) ∨ (kind = 2 ∧ val = 0 ∧ data.size ≤ 60000))
theorem size_zero (d : ByteArray) (h : d.size = 0) : d = ⟨#[]⟩ := by
  apply list_ext
  apply List.length_eq_zero_iff.1
  simpa using h
theorem txt_app (a b : List Nat) : txt (a ++ b) = txt a ++ txt b := by
  apply list_ext
  rw [list_app, txt_list, txt_list, txt_list, List.map_append]
theorem txt_dn (d : ByteArray) : txt (dn d) = d := by
  apply list_ext
  rw [txt_list, dn_back]
theorem ext_front (l : List Nat) (t : ByteArray) : (txt l ++ t).extract l.length (txt l ++ t).size = t := by
  apply list_ext
  have hs : (txt l ++ t).size = l.length + t.size := by simp [txt_size]
  have hl : (l.map UInt8.ofNat).length = l.length := by simp
  rw [extract_l, list_app, txt_list, List.drop_append, hl, List.drop_eq_nil_of_le (by rw [hl]; omega), hs, Nat.sub_self, List.drop_zero, List.nil_append, List.take_of_length_le (by simp)]
theorem gv_txt (v : Nat) (t : ByteArray) (h : v < 18446744073709551616) : gv (txt (pv v) ++ t).data.toList = (v, (pv v).length, true) := by
  rw [list_app, txt_list]; exact gv_back v _ h
theorem pbody_put (num : Int) (kind val : Nat) (data t : ByteArray) (h : May num kind val data) (hv : val < 18446744073709551616) :
    pbody (txt (pbd kind val data) ++ t) kind = some (val, data, (pbd kind val data).length) := by
  obtain ⟨_, _, h⟩ := h
  rcases h with ⟨hk, hd⟩ | ⟨hk, hd⟩ | ⟨hk, hd, hv4⟩ | ⟨hk, h0, hd⟩
  · obtain rfl : kind = 0 := by omega
    obtain rfl := size_zero _ hd
    unfold pbody pbd
    rw [if_pos rfl, if_pos rfl, gv_txt val t hv]
    rfl
  · obtain rfl : kind = 1 := by omega
    obtain rfl := size_zero _ hd
    unfold pbody pbd
    simp only [Nat.one_ne_zero, if_false, if_true, show ¬ (1 = 2) from by omega, show ¬ (1 = 5) from by omega]
    have hz : (txt (fx val 8) ++ t).size = 8 + t.size := by simp [txt_size, fx_length]
    have hl : ((fx val 8).map UInt8.ofNat).length = 8 := by simp [fx_length]
    rw [if_pos (by omega), list_app, txt_list, List.take_append_of_le_length (by omega), List.take_of_length_le (by omega), fx_lit, fx_length, Nat.mod_eq_of_lt (by simpa using hv)]
  · obtain rfl : kind = 5 := by omega
    obtain rfl := size_zero _ hd
    unfold pbody pbd
    simp only [show ¬ (5 = 0) from by omega, if_false, if_true, show ¬ (5 = 2) from by omega]
    have hz : (txt (fx val 4) ++ t).size = 4 + t.size := by simp [txt_size, fx_length]
    have hl : ((fx val 4).map UInt8.ofNat).length = 4 := by simp [fx_length]
    rw [if_pos (by omega), list_app, txt_list, List.take_append_of_le_length (by omega), List.take_of_length_le (by omega), fx_lit, fx_length, Nat.mod_eq_of_lt (by simpa using hv4)]
  · obtain rfl : kind = 2 := by omega
    subst h0
    unfold pbody pbd
    simp only [show ¬ (2 = 0) from by omega, if_false, if_true]
    have e : txt (pv data.size ++ dn data) ++ t = txt (pv data.size) ++ (data ++ t) := by
      rw [txt_app, txt_dn]; apply list_ext; simp only [list_app, List.append_assoc]
    have hs : (txt (pv data.size) ++ (data ++ t)).size = (pv data.size).length + (data.size + t.size) := by simp [txt_size]
    have hl : ((pv data.size).map UInt8.ofNat).length = (pv data.size).length := by simp
    rw [e, gv_txt data.size _ (by omega), if_pos ⟨rfl, by show data.size ≤ _ - (pv data.size).length; rw [hs]; omega⟩]
    simp only [List.length_append, dn_length]
    congr 2
    congr 1
    apply list_ext
    rw [extract_l, list_app, txt_list, List.drop_append, hl, List.drop_eq_nil_of_le (by rw [hl]; omega), Nat.sub_self, List.drop_zero, List.nil_append, list_app, Nat.add_sub_cancel_left, List.take_append_of_le_length (by simp), List.take_of_length_le (by simp)]
theorem pget_put (num : Int) (kind val : Nat) (data t : ByteArray) (h : May num kind val data) (hv : val < 18446744073709551616) :
    pget (txt (pput num.toNat kind val data) ++ t) = some (⟨num.toNat, kind, val, data⟩, (pput num.toNat kind val data).length) := by
  have hk : kind ≤ 5 := by obtain ⟨_, _, h⟩ := h; omega
  obtain ⟨h1, h2, _⟩ := id h
  have hT : (num.toNat * 8 + kind) / 8 = num.toNat := by omega
  have hT2 : (num.toNat * 8 + kind) % 8 = kind := by omega
  have e : txt (pput num.toNat kind val data) ++ t = txt (pv (num.toNat * 8 + kind)) ++ (txt (pbd kind val data) ++ t) := by
    unfold pput; rw [txt_app]; apply list_ext; simp only [list_app, List.append_assoc]
  have hg := gv_txt (num.toNat * 8 + kind) (txt (pbd kind val data) ++ t) (by omega)
  rw [e, pget_tag _ _ _ hg (by omega) (by omega), ext_front, hT, hT2, pbody_put num kind val data t h hv]
  simp [pput]
theorem pput_length (num : Int) (kind val : Nat) (data : ByteArray) (h : May num kind val data) (hv : val < 18446744073709551616) : 1 ≤ (pput num.toNat kind val data).length ∧ (pput num.toNat kind val data).length ≤ 20 + data.size := by
  have hk : kind ≤ 5 := by obtain ⟨_, _, h⟩ := h; omega
  obtain ⟨h1, h2, h3⟩ := id h
  have ha := pv_ten (num.toNat * 8 + kind) (by omega)
  have hb := pv_ten val hv
  have hc := pv_ten data.size
  have hne : 1 ≤ (pv (num.toNat * 8 + kind)).length := by have := pv_ne (num.toNat * 8 + kind); cases hp : pv (num.toNat * 8 + kind) with | nil => exact absurd hp this | cons _ _ => simp
  have h4 := fx_length val 4
  have h8 := fx_length val 8
  have hd := dn_length data
  unfold pput pbd
  rw [List.length_append]
  (repeat' split) <;> first | omega | (rw [List.length_append]; have := hc (by omega); omega)
end Go.Proofs.Ytbkcklefkhlciaa
