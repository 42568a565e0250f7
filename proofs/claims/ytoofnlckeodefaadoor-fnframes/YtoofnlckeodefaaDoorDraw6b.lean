/- What the model draws off the bytes of a law's argument: settled by the bytes. -/
import Derived.Test.YtoofnlckeodefaaDoorDraw5b
namespace Go.Proofs.YtoofnlckeodefaaDoor
open Go.RowKit Go.PlainAid
set_option linter.unusedVariables false

theorem spoil_det (xs : List Int) (t : ByteArray) (s : St) (h1 : t.size ≤ 1000) : ∃ (r : ByteArray) (s' : St), r.size ≤ 2 * t.size + 3 ∧ StrDet 20 #[.string t] xs s r s' := by
  by_cases h0 : t.size = 0
  · obtain rfl := nil_str t h0
    refine ⟨_, _, ?_, spoil_empty xs s⟩
    rw [strOfNums_size]
    have := teL_length xs 3 s (by omega)
    omega
  · have r := beV_range xs t.size s (by omega)
    obtain ⟨k, hk⟩ := Int.eq_ofNat_of_zero_le r.1
    have r4 := beV_range xs 4 (beS xs t.size s) (by omega)
    have x1 := ext_le t 0 k
    have x2 := ext_le t (k + 1) t.size
    have x3 := ext_le t k t.size
    have hc : beV xs 4 (beS xs t.size s) = 0 ∨ beV xs 4 (beS xs t.size s) = 1 ∨ beV xs 4 (beS xs t.size s) = 2 ∨ beV xs 4 (beS xs t.size s) = 3 := by omega
    rcases hc with hc | hc | hc | hc
    · exact ⟨_, _, by rw [ByteArray.size_append]; omega, spoil0 xs t s k (by omega) h1 hk hc⟩
    · exact ⟨_, _, by rw [ByteArray.size_append, ByteArray.size_append, strOfNums_size]; simp only [List.length_singleton]; omega, spoil1 xs t s k (by omega) h1 hk hc⟩
    · exact ⟨_, _, by omega, spoil2 xs t s k (by omega) h1 hk hc⟩
    · exact ⟨_, _, by rw [ByteArray.size_append, ByteArray.size_append, strOfNums_size]; simp only [List.length_singleton]; omega, spoil3 xs t s k (by omega) h1 hk hc⟩
end Go.Proofs.YtoofnlckeodefaaDoor
