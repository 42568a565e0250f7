/- What is encoded is read back. Nothing of the program is used here. -/
import Derived.Test.YtmnglcidklckgaaDoorRdM
import Derived.Test.YtmnglcidklckgaaDoorVarBack
namespace Go.Proofs.YtmnglcidklckgaaDoor
open Go.RowKit Go.PlainAid
set_option linter.unusedVariables false

theorem oN_var (n : Int) (r : ByteArray) (h0 : 0 ≤ n) (hm : n ≤ 562949953421311) : oN (some (varS n ++ r)) = (n, some r) := by
  have hv := varS_vk n hm
  have hk := vkF_le 6 n
  have es : (varS n ++ r) = strOfNums (varL n (vkF 6 n)) ++ r := by unfold varS; rfl
  generalize vkF 6 n = k at *
  have hz : (strOfNums (varL n k) ++ r).size = k + 1 + r.size := by rw [ByteArray.size_append, strOfNums_size, varL_length]
  have hl := var_last n k r h0 hv
  have hhit := rv_hit (strOfNums (varL n k) ++ r) k (by omega) hk (fun i hi => by rw [var_high n k i r hi]; omega) (by rw [hl]; exact hv.2)
  have hK : rvK (strOfNums (varL n k) ++ r) = k + 1 := by
    unfold rvK
    rw [hhit]
    simp only
    rw [if_pos]
    rcases var_nz n k hv with h | h
    · exact .inl h
    · exact .inr (by rw [hl]; exact h)
  have hN : rvN (strOfNums (varL n k) ++ r) = n := by
    unfold rvN
    rw [if_neg (by omega), hK]
    exact var_acc n k r h0 hv
  rw [es, oN_ok _ (by omega), hK, hN, hz]
  congr 2
  have hx : (strOfNums (varL n k)).size = k + 1 := by rw [strOfNums_size, varL_length]
  apply bytes_ext
  rw [ext_data, data_append, size_data] at *
  rw [List.drop_append, List.drop_of_length_le (by omega), List.nil_append, hx, Nat.sub_self, List.drop_zero, List.take_of_length_le]
  rw [← size_data]
  omega
theorem oB_front (t r : ByteArray) : oB (t.size : Int) (some (t ++ r)) = (t, some r) := by
  have hz : (t ++ r).size = t.size + r.size := ByteArray.size_append
  rw [oB_ok _ _ (by omega), Int.toNat_natCast]
  have h1 : (t ++ r).extract 0 t.size = t := by
    apply bytes_ext
    rw [ext_data, data_append, List.drop_zero, Nat.sub_zero, size_data, List.take_left]
  have h2 : (t ++ r).extract t.size (t ++ r).size = r := by
    apply bytes_ext
    rw [ext_data, data_append, hz, size_data t, List.drop_left, List.take_of_length_le]
    rw [← size_data r]
    omega
  rw [h1, h2]
theorem oT_text (t r : ByteArray) (h : t.size ≤ 1048576) : oT (some (showT t ++ r)) = (t, some r) := by
  unfold oT
  have e : showT t ++ r = varS t.size ++ (t ++ r) := by unfold showT; rw [append_assoc]
  rw [e, oN_var _ _ (by omega) (by omega)]
  exact oB_front t r
end Go.Proofs.YtmnglcidklckgaaDoor
