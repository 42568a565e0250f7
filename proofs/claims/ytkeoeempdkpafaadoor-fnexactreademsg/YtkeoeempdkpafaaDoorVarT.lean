/- Varints and texts behind their length, as strings. Nothing of the program is used here. -/
import Derived.Test.YtkeoeempdkpafaaDoorStrs
import Derived.Test.YtkeoeempdkpafaaDoorVarMath
namespace Go.Proofs.YtkeoeempdkpafaaDoor
open Go.RowKit Go.PlainAid
set_option linter.unusedVariables false

/-- How many groups stand before the last one of n. -/
def vkF : Nat → Int → Nat
  | 0, _ => 0
  | f + 1, n => if n < 128 then 0 else vkF f (n / 128) + 1
theorem vd_shift (n : Int) (j : Nat) : vd n (j + 1) = vd (n / 128) j := by
  induction j with
  | zero => rfl
  | succ j ih => rw [vd, ih, vd]
theorem vkF_le (f : Nat) (n : Int) : vkF f n ≤ f := by
  induction f generalizing n with
  | zero => exact Nat.le_refl _
  | succ f ih =>
    unfold vkF
    split
    · omega
    · have := ih (n / 128); omega
theorem vkF_ok (f : Nat) (n : Int) (h : n < 128 ^ (f + 1)) : VK n (vkF f n) := by
  induction f generalizing n with
  | zero => exact ⟨fun i hi => by simp [vkF] at hi, by simpa [vkF, vd] using h⟩
  | succ f ih =>
    unfold vkF
    split
    · rename_i hn
      exact ⟨fun i hi => by omega, by simpa [vd] using hn⟩
    · rename_i hn
      have h2 : n / 128 < 128 ^ (f + 1) := by
        have e : (128 : Int) ^ (f + 1 + 1) = 128 ^ (f + 1) * 128 := by rw [Int.pow_succ]
        rw [e] at h
        exact Int.ediv_lt_of_lt_mul (by decide) h
      obtain ⟨g1, g2⟩ := ih (n / 128) h2
      refine ⟨fun i hi => ?_, by rw [vd_shift]; exact g2⟩
      cases i with
      | zero => simp only [vd]; omega
      | succ i => rw [vd_shift]; exact g1 i (by omega)
/-- The varint of n. -/
@[irreducible] def varS (n : Int) : ByteArray := strOfNums (varL n (vkF 6 n))
theorem varS_vk (n : Int) (h : n ≤ 562949953421311) : VK n (vkF 6 n) := by
  have e : (128 : Int) ^ (6 + 1) = 562949953421312 := by decide
  exact vkF_ok 6 n (by rw [e]; omega)
theorem varS_size (n : Int) : (varS n).size ≤ 7 := by
  unfold varS
  rw [strOfNums_size, varL_length]
  have := vkF_le 6 n
  omega
theorem varS_pos (n : Int) : 1 ≤ (varS n).size := by
  unfold varS
  rw [strOfNums_size, varL_length]
  omega
/-- A text behind its length. -/
@[irreducible] def showT (s : ByteArray) : ByteArray := varS s.size ++ s
theorem showT_size (s : ByteArray) : (showT s).size ≤ 7 + s.size := by
  unfold showT
  rw [ByteArray.size_append]
  have := varS_size s.size
  omega
/-- The first k strings, one behind the other. -/
@[irreducible] def catN (l : List ByteArray) (k : Nat) : ByteArray := ⟨((List.range k).map fun j => (el l j).data.toList).flatten.toArray⟩
theorem catN_zero (l : List ByteArray) : catN l 0 = ⟨#[]⟩ := by unfold catN; rfl
theorem data_append (a b : ByteArray) : (a ++ b).data.toList = a.data.toList ++ b.data.toList := by
  rw [ByteArray.data_append]; simp
theorem bytes_ext {a b : ByteArray} (h : a.data.toList = b.data.toList) : a = b := by
  apply ByteArray.ext
  exact Array.ext' h
theorem catN_succ (l : List ByteArray) (k : Nat) : catN l (k + 1) = catN l k ++ el l k := by
  apply bytes_ext
  rw [data_append]
  unfold catN
  rw [List.range_succ]
  simp
theorem catN_size (l : List ByteArray) (k m : Nat) (h : ∀ j, j < k → (el l j).size ≤ m) : (catN l k).size ≤ k * m := by
  induction k with
  | zero => rw [catN_zero]; simp; rfl
  | succ k ih =>
    rw [catN_succ, ByteArray.size_append, Nat.succ_mul]
    have := ih (fun j hj => h j (by omega))
    have := h k (by omega)
    omega
theorem append_assoc (a b c : ByteArray) : a ++ b ++ c = a ++ (b ++ c) := by
  apply bytes_ext
  simp only [data_append, List.append_assoc]
theorem append_nil (a : ByteArray) : a ++ ⟨#[]⟩ = a := by
  apply bytes_ext
  simp
end Go.Proofs.YtkeoeempdkpafaaDoor
