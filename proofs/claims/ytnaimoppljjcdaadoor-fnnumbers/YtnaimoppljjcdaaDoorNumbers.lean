/- The law FnNumbers: what is encoded is read back, whatever follows: it returns true at every argument. -/
import Derived.Test.YtnaimoppljjcdaaDoorNumbersM
import Derived.Test.YtnaimoppljjcdaaDoorVarI
import Derived.Test.YtnaimoppljjcdaaDoorReadVarI
import Derived.Test.YtnaimoppljjcdaaDoorFixedI
import Derived.Test.YtnaimoppljjcdaaDoorReadFixedI
import Derived.Test.YtnaimoppljjcdaaDoorHexI
import Derived.Test.YtnaimoppljjcdaaDoorUnhexI
import Derived.Test.YtnaimoppljjcdaaDoorReadDecLaw
import Derived.Test.YtnaimoppljjcdaaDoorDraw6
namespace Go.Proofs.YtnaimoppljjcdaaDoor
open Go.RowKit Go.PlainAid
set_option linter.unusedVariables false

/-- The program's Var gives t at n. -/
def VarIs (n : Int) (t : ByteArray) : Prop := ∀ w, Calls Tryd.prog 9 #[.int .i64 n] w fun e w' => e = .returned (.string t) ∧ Below w.heap.size w w'
def RvIs (s : ByteArray) (a b : Int) : Prop := ∀ w, Calls Tryd.prog 10 #[.string s] w fun e w' => e = .returned (.tuple #[.int .i64 a, .int .i64 b]) ∧ w = w'

theorem var_is (n : Int) (k : Nat) (h0 : 0 ≤ n) (h1 : n ≤ 562949953421311) (hk : k ≤ 6) (hv : VK n k) : VarIs n (strOfNums (varL n k)) := fun w => impl_var n k w h0 h1 hk hv
theorem var_empty (n : Int) (h : n < 0 ∨ 562949953421311 < n) : VarIs n ByteArray.empty := fun w => (impl_var_no n w h).mono fun e w' ⟨he, hw⟩ => ⟨he, by subst hw; exact Below.refl _ _⟩

/-- ReadVar answers; and where it says that a varint stands there, that is the varint of the number. -/
theorem rv_is (s : ByteArray) (hs : s.size ≤ 1048576) : ∃ a b : Int, RvIs s a b ∧ (b = 0 ∨ ∃ (j : Nat) (t : ByteArray), b = j ∧ 0 < j ∧ j ≤ s.size ∧ VarIs a t ∧ (t.toList == (s.extract 0 j).toList) = true) := by
  have hm : s.size ≤ maxLen := by unfold maxLen; omega
  rcases first_low s with ⟨t, ht, h6, hh, hb⟩ | hh
  · by_cases hz : t = 0 ∨ bt s t ≠ 0
    · refine ⟨_, _, fun w => impl_rv_hit s t w hm ht h6 hh hb hz, .inr ⟨t + 1, strOfNums (varL (rvr s (t + 1) (t + 1)) t), by simp, by omega, by omega, ?_, ?_⟩⟩
      · rw [acc_eq]
        exact var_is _ t (rvr_nonneg _ _ _) (rvr_max s (t + 1) (t + 1) (by omega)) h6 (isVar_vk s t hb hz)
      · exact isVar_of s t ht hh hb hz t (isVar_vk s t hb hz)
    · exact ⟨0, 0, fun w => impl_rv_zero s t w hm ht h6 hh (by omega) (by omega), .inl rfl⟩
  · exact ⟨0, 0, fun w => impl_rv_none s w hm hh, .inl rfl⟩

theorem nonempty_str (l : List Int) (h : 0 < l.length) : (!(strOfNums l).toList.isEmpty) = true ∧ (strOfNums l).toList.isEmpty = false := by
  have : (strOfNums l).toList ≠ [] := by
    rw [Lib.toList_data, strOfNums_data]
    intro e
    have := congrArg List.length e
    simp at this
    subst this
    cases h
  simp [this]

theorem empty_str : (!ByteArray.empty.toList.isEmpty) = false ∧ ByteArray.empty.toList.isEmpty = true := by
  rw [Lib.toList_data]; exact ⟨rfl, rfl⟩

/-- Var, and ReadVar of it with a tail. -/
theorem var_part (n : Int) (tail : ByteArray) (ht : tail.size ≤ 1000) : ∃ (t : ByteArray) (a b : Int), t.size ≤ 7 ∧ VarIs n t ∧ RvIs (t ++ tail) a b ∧
    ((0 ≤ n ∧ n ≤ 562949953421311 ∧ (!t.toList.isEmpty) = true ∧ t.toList.isEmpty = false ∧ a = n ∧ b = t.size) ∨ ((n < 0 ∨ 562949953421311 < n) ∧ (!t.toList.isEmpty) = false ∧ t.toList.isEmpty = true)) := by
  by_cases h : 0 ≤ n ∧ n ≤ 562949953421311
  · obtain ⟨k, hk, hv⟩ := vk_exists n h.1 h.2
    have hsz : (strOfNums (varL n k) ++ tail).size = k + 1 + tail.size := by rw [size_nums, varL_length]
    have hne := nonempty_str (varL n k) (by rw [varL_length]; omega)
    refine ⟨strOfNums (varL n k), n, (k : Int) + 1, by rw [strOfNums_size, varL_length]; omega, var_is n k h.1 h.2 hk hv, ?_, .inl ⟨h.1, h.2, hne.1, hne.2, rfl, by rw [strOfNums_size, varL_length]; simp⟩⟩
    intro w
    have h1 := impl_rv_hit (strOfNums (varL n k) ++ tail) k w (by unfold maxLen; omega) (by omega) hk (fun i hi => by rw [var_high n k i tail hi]; omega) (by rw [var_last n k tail h.1 hv]; exact hv.2) (by rw [var_last n k tail h.1 hv]; exact var_nz n k hv)
    rw [var_acc n k tail h.1 hv] at h1
    exact h1
  · obtain ⟨a, b, hr, _⟩ := rv_is (ByteArray.empty ++ tail) (by rw [ByteArray.size_append]; simp; omega)
    exact ⟨ByteArray.empty, a, b, by decide, var_empty n (by omega), hr, .inr ⟨by omega, empty_str.1, empty_str.2⟩⟩

def FixIs (n : Int) (t : ByteArray) : Prop := ∀ w, Calls Tryd.prog 11 #[.int .i64 n, .int .i64 7] w fun e w' => e = .returned (.string t) ∧ Below w.heap.size w w'
def RfIs (s : ByteArray) (a : Int) (b : Bool) : Prop := ∀ w, Calls Tryd.prog 12 #[.string s, .int .i64 7] w fun e w' => e = .returned (.tuple #[.int .i64 a, .bool b]) ∧ w = w'
theorem fix_part (n : Int) (tail : ByteArray) (h1 : -9223372036854775808 ≤ n) (h2 : n ≤ 9223372036854775807) (ht : tail.size ≤ 1000) : ∃ (t : ByteArray) (a : Int) (b : Bool), t.size ≤ 7 ∧ FixIs n t ∧ RfIs (t ++ tail) a b ∧
    ((0 ≤ n ∧ n < 72057594037927936 ∧ (!t.toList.isEmpty) = true ∧ t.toList.isEmpty = false ∧ a = n ∧ b = true ∧ (t.size : Int) = 7) ∨ ((n < 0 ∨ 72057594037927936 ≤ n) ∧ (!t.toList.isEmpty) = false ∧ t.toList.isEmpty = true)) := by
  by_cases h : 0 ≤ n ∧ n < 72057594037927936
  · have hz := (dv7 n h.1).2 h.2
    have hne := nonempty_str (fixL n 7) (by rw [fixL_length]; omega)
    refine ⟨strOfNums (fixL n 7), n, true, by rw [strOfNums_size, fixL_length]; omega, fun w => impl_fixed n 7 w (by omega) (by omega) h.1 h2 hz, ?_, .inl ⟨h.1, h.2, hne.1, hne.2, rfl, rfl, by rw [strOfNums_size, fixL_length]; rfl⟩⟩
    intro w
    have hsz : (strOfNums (fixL n 7) ++ tail).size = 7 + tail.size := by rw [size_nums, fixL_length]
    have h3 := impl_rf (strOfNums (fixL n 7) ++ tail) 7 w (by unfold maxLen; omega) (by omega) (by omega) (by omega)
    rw [show (7 : Int).toNat = 7 from rfl, fix_back n 7 tail h.1 hz] at h3
    exact h3
  · have hsz : (ByteArray.empty ++ tail).size = tail.size := by rw [ByteArray.size_append]; simp
    have hfix : FixIs n ByteArray.empty := fun w => (impl_fixed_no n 7 w h2 h1 (by
      by_cases hn : n < 0
      · exact .inr (.inr (.inl hn))
      · refine .inr (.inr (.inr ?_))
        have := dv_nonneg n (by omega) 7
        have h7 := dv7 n (by omega)
        rw [show (7 : Int).toNat = 7 from rfl]
        omega)).mono fun e w' ⟨he, hw⟩ => ⟨he, by subst hw; exact Below.refl _ _⟩
    by_cases h7 : 7 ≤ tail.size
    · exact ⟨ByteArray.empty, _, _, by decide, hfix, fun w => impl_rf (ByteArray.empty ++ tail) 7 w (by unfold maxLen; omega) (by omega) (by omega) (by omega), .inr ⟨by omega, empty_str.1, empty_str.2⟩⟩
    · exact ⟨ByteArray.empty, _, _, by decide, hfix, fun w => impl_rf_no (ByteArray.empty ++ tail) 7 w (by unfold maxLen; omega) (by omega), .inr ⟨by omega, empty_str.1, empty_str.2⟩⟩

/-- ReadDec of Dec. -/
theorem dec_part (n : Int) (h1 : -9223372036854775808 ≤ n) (h2 : n ≤ 9223372036854775807) : ∃ (a : Int) (b : Bool), (∀ w, Tab w → Syn w → Calls Tryd.prog 13 #[.string ⟨(Lib.itoa n).toArray⟩] w fun e w' => e = .returned (.tuple #[.int .i64 a, .bool b]) ∧ Below w.heap.size w w') ∧
    ((b = true ∧ a = n ∧ -1000000000 < n ∧ n < 1000000000) ∨ (b = false ∧ (n ≤ -1000000000 ∨ 1000000000 ≤ n))) := by
  have hl : (⟨(Lib.itoa n).toArray⟩ : ByteArray).data.toList = Lib.itoa n := rfl
  have hsz : (⟨(Lib.itoa n).toArray⟩ : ByteArray).size ≤ 1048576 := by
    have : (⟨(Lib.itoa n).toArray⟩ : ByteArray).size = (Lib.itoa n).length := by simp [ByteArray.size]
    rw [this]
    by_cases hn : n < 0
    · rw [itoa_neg n hn]
      have := digits_le 19 n.natAbs (by have e : (10 : Nat) ^ (19 + 1) = 100000000000000000000 := by decide
                                        omega)
      simp; omega
    · rw [itoa_pos n hn]
      have := digits_le 19 n.toNat (by have e : (10 : Nat) ^ (19 + 1) = 100000000000000000000 := by decide
                                       omega)
      omega
  by_cases h : -1000000000 < n ∧ n < 1000000000
  · have hk : RdOk (⟨(Lib.itoa n).toArray⟩ : ByteArray).data.toList n := ⟨(trim_len n).2 h, rfl⟩
    exact ⟨n, true, fun w ht hy => impl_rd_ok _ n w hk ht, .inl ⟨rfl, rfl, h.1, h.2⟩⟩
  · refine ⟨0, false, fun w ht hy => impl_rd_long _ w hsz ?_, .inr ⟨rfl, by omega⟩⟩
    rw [hl]
    have := (trim_len n).1
    omega

theorem hex_part (tail : ByteArray) (ht : tail.size ≤ 1000) : (∀ w, Calls Tryd.prog 16 #[.string tail] w fun e w' => e = .returned (.string (strOfNums (hexP tail tail.size))) ∧ Below w.heap.size w w') ∧
    (∀ w, Calls Tryd.prog 15 #[.string (strOfNums (hexP tail tail.size))] w fun e w' => e = .returned (.tuple #[.string tail, .bool true]) ∧ Below w.heap.size w w') := by
  refine ⟨fun w => impl_hex tail w (by omega), fun w => ?_⟩
  have h := impl_unhex_ok (strOfNums (hexP tail tail.size)) w (by rw [hex_size]; omega) (by rw [hex_size]; omega) (fun j hj => hex_ok tail j hj)
  rw [unhex_hex tail] at h
  exact h
end Go.Proofs.YtnaimoppljjcdaaDoor
