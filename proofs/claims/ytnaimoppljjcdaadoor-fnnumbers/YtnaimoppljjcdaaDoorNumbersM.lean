/- Plain facts on what is read back from an encoded number or string. Nothing of the program is used here. -/
import Derived.Test.YtnaimoppljjcdaaDoorVarMath
import Derived.Test.YtnaimoppljjcdaaDoorUnhexM
import Derived.Test.YtnaimoppljjcdaaDoorDecMath
namespace Go.Proofs.YtnaimoppljjcdaaDoor
open Go.PlainAid

theorem bt_of (s : ByteArray) (i : Nat) (x : UInt8) (h : s.data.toList[i]? = some x) : bt s i = x.toNat := by
  have hi : i < s.size := by
    rw [Lib.size_eq]
    rcases Nat.lt_or_ge i s.data.toList.length with h' | h'
    · exact h'
    · rw [List.getElem?_eq_none h'] at h; cases h
  rw [← get_bt s i hi]
  rw [Lib.data_getElem? s i hi, Option.some.injEq] at h
  rw [h]
/-- Byte i of a string that was made of numbers. -/
theorem bt_nums (l : List Int) (t : ByteArray) (i : Nat) (x : Int) (h : l[i]? = some x) (h0 : 0 ≤ x) (h1 : x ≤ 255) : bt (strOfNums l ++ t) i = x := by
  have hi : i < l.length := by
    rcases Nat.lt_or_ge i l.length with h' | h'
    · exact h'
    · rw [List.getElem?_eq_none h'] at h; cases h
  have e : (strOfNums l ++ t).data.toList[i]? = some (UInt8.ofNat x.toNat) := by
    rw [ByteArray.data_append, Array.toList_append, strOfNums_data, List.getElem?_append_left (by simpa using hi), List.getElem?_map, h]
    rfl
  rw [bt_of _ i _ e, u8_back x h0 h1]
theorem bt_nums' (l : List Int) (i : Nat) (x : Int) (h : l[i]? = some x) (h0 : 0 ≤ x) (h1 : x ≤ 255) : bt (strOfNums l) i = x := by
  have e : (strOfNums l).data.toList[i]? = some (UInt8.ofNat x.toNat) := by
    rw [strOfNums_data, List.getElem?_map, h]
    rfl
  rw [bt_of _ i _ e, u8_back x h0 h1]
theorem size_nums (l : List Int) (t : ByteArray) : (strOfNums l ++ t).size = l.length + t.size := by rw [ByteArray.size_append, strOfNums_size]

/-! ### varints -/
theorem var_high (n : Int) (k i : Nat) (t : ByteArray) (h : i < k) : bt (strOfNums (varL n k) ++ t) i = 128 + vd n i % 128 := bt_nums _ t i _ (varL_get n k i h) (by omega) (by omega)
theorem var_last (n : Int) (k : Nat) (t : ByteArray) (h0 : 0 ≤ n) (hv : VK n k) : bt (strOfNums (varL n k) ++ t) k = vd n k := by
  have := vd_nonneg n h0 k
  have := hv.2
  exact bt_nums _ t k _ (varL_last n k) (by omega) (by omega)
theorem var_nz (n : Int) (k : Nat) (hv : VK n k) : k = 0 ∨ vd n k ≠ 0 := by
  cases k with
  | zero => exact .inl rfl
  | succ k =>
    right
    have := hv.1 k (by omega)
    simp only [vd]
    omega
theorem var_rvr (n : Int) (k : Nat) (t : ByteArray) (h0 : 0 ≤ n) (hv : VK n k) (m : Nat) (hm : m ≤ k + 1) : rvr (strOfNums (varL n k) ++ t) (k + 1) m = vd n (k + 1 - m) := by
  induction m with
  | zero =>
    simp only [rvr, Nat.sub_zero, vd]
    have := vd_nonneg n h0 k
    have := hv.2
    omega
  | succ m ih =>
    simp only [rvr]
    rw [ih (by omega)]
    obtain ⟨j, hj⟩ : ∃ j, k + 1 - (m + 1) = j := ⟨_, rfl⟩
    have hj' : k + 1 - m = j + 1 := by omega
    rw [hj, hj']
    simp only [vd]
    have hg : bt (strOfNums (varL n k) ++ t) j % 128 = vd n j % 128 := by
      by_cases e : j < k
      · rw [var_high n k j t e]; omega
      · obtain rfl : j = k := by omega
        rw [var_last n j t h0 hv]
    rw [hg]
    have := vd_nonneg n h0 j
    omega
theorem var_acc (n : Int) (k : Nat) (t : ByteArray) (h0 : 0 ≤ n) (hv : VK n k) : acc (strOfNums (varL n k) ++ t) (k + 1) = n := by
  rw [acc_eq, var_rvr n k t h0 hv (k + 1) (Nat.le_refl _), Nat.sub_self]; rfl

/-! ### fixed widths -/
theorem fix_bt (n : Int) (W j : Nat) (t : ByteArray) (h : j < W) : bt (strOfNums (fixL n W) ++ t) j = dv n (W - 1 - j) % 256 := bt_nums _ t j _ (fixL_get n W j h) (by omega) (by omega)
theorem fix_rf (n : Int) (W : Nat) (t : ByteArray) (h0 : 0 ≤ n) (hz : dv n W = 0) (j : Nat) (hj : j ≤ W) : rf (strOfNums (fixL n W) ++ t) j = dv n (W - j) := by
  induction j with
  | zero => simp only [rf, Nat.sub_zero, hz]
  | succ j ih =>
    simp only [rf]
    rw [ih (by omega), fix_bt n W j t (by omega)]
    obtain ⟨i, hi⟩ : ∃ i, W - (j + 1) = i := ⟨_, rfl⟩
    have h1 : W - j = i + 1 := by omega
    have h2 : W - 1 - j = i := by omega
    rw [hi, h1, h2]
    simp only [dv]
    have := dv_nonneg n h0 i
    omega
theorem fix_back (n : Int) (W : Nat) (t : ByteArray) (h0 : 0 ≤ n) (hz : dv n W = 0) : rf (strOfNums (fixL n W) ++ t) W = n := by
  rw [fix_rf n W t h0 hz W (Nat.le_refl _), Nat.sub_self]; rfl
theorem dv7 (n : Int) (h0 : 0 ≤ n) : dv n 7 = 0 ↔ n < 72057594037927936 := by
  simp only [dv]; omega

/-! ### hexadecimal digits -/
theorem hexP_get (s : ByteArray) (k j : Nat) (h : j < k) : (hexP s k)[2 * j]? = some (hexd (bt s j / 16)) ∧ (hexP s k)[2 * j + 1]? = some (hexd (bt s j % 16)) := by
  induction k with
  | zero => omega
  | succ k ih =>
    simp only [hexP]
    by_cases e : j = k
    · subst e
      rw [List.getElem?_append_right (by rw [hexP_length]; omega), List.getElem?_append_right (by rw [hexP_length]; omega), hexP_length]
      simp
    · rw [List.getElem?_append_left (by rw [hexP_length]; omega), List.getElem?_append_left (by rw [hexP_length]; omega)]
      exact ih (by omega)
theorem hex_bt (s : ByteArray) (j : Nat) (h : j < s.size) : bt (strOfNums (hexP s s.size)) (2 * j) = hexd (bt s j / 16) ∧ bt (strOfNums (hexP s s.size)) (2 * j + 1) = hexd (bt s j % 16) := by
  have g := hexP_get s s.size j h
  have b0 := bt_nonneg s j
  have b1 := bt_le s j
  have r1 := hexd_range (bt s j / 16) (by omega) (by omega)
  have r2 := hexd_range (bt s j % 16) (by omega) (by omega)
  exact ⟨bt_nums' _ _ _ g.1 (by omega) (by omega), bt_nums' _ _ _ g.2 (by omega) (by omega)⟩
theorem hex_size (s : ByteArray) : (strOfNums (hexP s s.size)).size = 2 * s.size := by rw [strOfNums_size, hexP_length]
theorem hex_val (s : ByteArray) (j : Nat) (h : j < s.size) : hexv (bt (strOfNums (hexP s s.size)) (2 * j)) = bt s j / 16 ∧ hexv (bt (strOfNums (hexP s s.size)) (2 * j + 1)) = bt s j % 16 := by
  have b0 := bt_nonneg s j
  have b1 := bt_le s j
  rw [(hex_bt s j h).1, (hex_bt s j h).2, hexv_hexd _ (by omega) (by omega), hexv_hexd _ (by omega) (by omega)]
  exact ⟨rfl, rfl⟩
theorem hex_ok (s : ByteArray) (i : Nat) (h : i < (strOfNums (hexP s s.size)).size) : 0 ≤ hexv (bt (strOfNums (hexP s s.size)) i) := by
  rw [hex_size] at h
  have b0 := bt_nonneg s (i / 2)
  have b1 := bt_le s (i / 2)
  have v := hex_val s (i / 2) (by omega)
  rcases Nat.mod_two_eq_zero_or_one i with e | e
  · have : 2 * (i / 2) = i := by omega
    rw [this] at v
    rw [v.1]; omega
  · have : 2 * (i / 2) + 1 = i := by omega
    rw [this] at v
    rw [v.2]; omega
theorem unP_get (s : ByteArray) (k j : Nat) (h : j < k) : (unP s k)[j]? = some (16 * hexv (bt s (2 * j)) + hexv (bt s (2 * j + 1))) := by
  induction k with
  | zero => omega
  | succ k ih =>
    simp only [unP]
    by_cases e : j = k
    · subst e
      rw [List.getElem?_append_right (by rw [unP_length]; exact Nat.le_refl _), unP_length]
      simp
    · rw [List.getElem?_append_left (by rw [unP_length]; omega)]
      exact ih (by omega)
theorem unhex_hex (s : ByteArray) : strOfNums (unP (strOfNums (hexP s s.size)) ((strOfNums (hexP s s.size)).size / 2)) = s := by
  have hsz : (strOfNums (hexP s s.size)).size / 2 = s.size := by rw [hex_size]; omega
  rw [hsz]
  have h := piece_eq s s.size (unP (strOfNums (hexP s s.size)) s.size) (Nat.le_refl _) (unP_length _ _) (fun j hj => by
    rw [unP_get _ _ _ hj, (hex_val s j hj).1, (hex_val s j hj).2]
    congr 1
    omega)
  apply ByteArray.ext
  apply Array.toList_inj.1
  rw [Lib.toList_data, Lib.extract_toList, List.drop_zero, Nat.sub_zero, List.take_of_length_le (by rw [← Lib.size_eq]; exact Nat.le_refl _)] at h
  exact h

/-! ### decimal numerals of at most nine digits -/
theorem digits_le (k u : Nat) (h : u < 10 ^ (k + 1)) : (Lib.decDigits u).length ≤ k + 1 := by
  induction k generalizing u with
  | zero => rw [Lib.decDigits, dif_pos (by simpa using h)]; simp
  | succ k ih =>
    rw [Lib.decDigits]
    split
    · simp
    · rw [List.length_append]
      have := ih (u / 10) (by rw [Nat.pow_succ] at h; omega)
      simp only [List.length_singleton]
      omega
theorem digits_ge (u : Nat) (h : (Lib.decDigits u).length ≤ 9) : u < 1000000000 := by
  rw [Lib.decDigits_length] at h
  have h1 := Lib.lt_pow_nDigits u
  have h2 := Nat.pow_le_pow_right (n := 10) (by decide) h
  have e : (10 : Nat) ^ 9 = 1000000000 := by decide
  omega
theorem trim_len (n : Int) : (Lib.trimPrefix (Lib.itoa n) [45]).length ≤ 9 ↔ -1000000000 < n ∧ n < 1000000000 := by
  by_cases hn : n < 0
  · rw [itoa_neg n hn, trim_minus]
    constructor
    · intro h
      have := digits_ge _ h
      omega
    · intro h
      exact digits_le 8 _ (by have e : (10 : Nat) ^ (8 + 1) = 1000000000 := by decide
                              omega)
  · rw [itoa_pos n hn, trim_other _ (head_dec _)]
    constructor
    · intro h
      have := digits_ge _ h
      omega
    · intro h
      exact digits_le 8 _ (by have e : (10 : Nat) ^ (8 + 1) = 1000000000 := by decide
                              omega)
end Go.Proofs.YtnaimoppljjcdaaDoor
