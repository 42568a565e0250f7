/- A varint at the beginning of a string is read back. Nothing of the program is used here. -/
import Derived.Test.YtmnglcidklckgaaDoorVarMath
namespace Go.Proofs.YtmnglcidklckgaaDoor
open Go.PlainAid
theorem bt_of (s : ByteArray) (i : Nat) (x : UInt8) (h : s.data.toList[i]? = some x) : bt s i = x.toNat := by
  have hi : i < s.size := by
    rw [Lib.size_eq]
    rcases Nat.lt_or_ge i s.data.toList.length with h' | h'
    · exact h'
    · rw [List.getElem?_eq_none h'] at h; cases h
  rw [← get_bt s i hi]
  rw [Lib.data_getElem? s i hi, Option.some.injEq] at h
  rw [h]
/-- Byte i of a string that was made of numbers. -/
theorem bt_nums (l : List Int) (t : ByteArray) (i : Nat) (x : Int) (h : l[i]? = some x) (h0 : 0 ≤ x) (h1 : x ≤ 255) : bt (strOfNums l ++ t) i = x := by
  have hi : i < l.length := by
    rcases Nat.lt_or_ge i l.length with h' | h'
    · exact h'
    · rw [List.getElem?_eq_none h'] at h; cases h
  have e : (strOfNums l ++ t).data.toList[i]? = some (UInt8.ofNat x.toNat) := by
    rw [ByteArray.data_append, Array.toList_append, strOfNums_data, List.getElem?_append_left (by simpa using hi), List.getElem?_map, h]
    rfl
  rw [bt_of _ i _ e, u8_back x h0 h1]
theorem bt_nums' (l : List Int) (i : Nat) (x : Int) (h : l[i]? = some x) (h0 : 0 ≤ x) (h1 : x ≤ 255) : bt (strOfNums l) i = x := by
  have e : (strOfNums l).data.toList[i]? = some (UInt8.ofNat x.toNat) := by
    rw [strOfNums_data, List.getElem?_map, h]
    rfl
  rw [bt_of _ i _ e, u8_back x h0 h1]
theorem size_nums (l : List Int) (t : ByteArray) : (strOfNums l ++ t).size = l.length + t.size := by rw [ByteArray.size_append, strOfNums_size]

/-! ### varints -/
theorem var_high (n : Int) (k i : Nat) (t : ByteArray) (h : i < k) : bt (strOfNums (varL n k) ++ t) i = 128 + vd n i % 128 := bt_nums _ t i _ (varL_get n k i h) (by omega) (by omega)
theorem var_last (n : Int) (k : Nat) (t : ByteArray) (h0 : 0 ≤ n) (hv : VK n k) : bt (strOfNums (varL n k) ++ t) k = vd n k := by
  have := vd_nonneg n h0 k
  have := hv.2
  exact bt_nums _ t k _ (varL_last n k) (by omega) (by omega)
theorem var_nz (n : Int) (k : Nat) (hv : VK n k) : k = 0 ∨ vd n k ≠ 0 := by
  cases k with
  | zero => exact .inl rfl
  | succ k =>
    right
    have := hv.1 k (by omega)
    simp only [vd]
    omega
theorem var_rvr (n : Int) (k : Nat) (t : ByteArray) (h0 : 0 ≤ n) (hv : VK n k) (m : Nat) (hm : m ≤ k + 1) : rvr (strOfNums (varL n k) ++ t) (k + 1) m = vd n (k + 1 - m) := by
  induction m with
  | zero =>
    simp only [rvr, Nat.sub_zero, vd]
    have := vd_nonneg n h0 k
    have := hv.2
    omega
  | succ m ih =>
    simp only [rvr]
    rw [ih (by omega)]
    obtain ⟨j, hj⟩ : ∃ j, k + 1 - (m + 1) = j := ⟨_, rfl⟩
    have hj' : k + 1 - m = j + 1 := by omega
    rw [hj, hj']
    simp only [vd]
    have hg : bt (strOfNums (varL n k) ++ t) j % 128 = vd n j % 128 := by
      by_cases e : j < k
      · rw [var_high n k j t e]; omega
      · obtain rfl : j = k := by omega
        rw [var_last n j t h0 hv]
    rw [hg]
    have := vd_nonneg n h0 j
    omega
theorem var_acc (n : Int) (k : Nat) (t : ByteArray) (h0 : 0 ≤ n) (hv : VK n k) : acc (strOfNums (varL n k) ++ t) (k + 1) = n := by
  rw [acc_eq, var_rvr n k t h0 hv (k + 1) (Nat.le_refl _), Nat.sub_self]; rfl
end Go.Proofs.YtmnglcidklckgaaDoor
