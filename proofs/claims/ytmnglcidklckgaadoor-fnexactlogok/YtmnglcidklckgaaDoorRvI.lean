/- ReadVar, by one contract. -/
import Derived.Test.YtmnglcidklckgaaDoorRdM
import Derived.Test.YtmnglcidklckgaaDoorReadVarI
namespace Go.Proofs.YtmnglcidklckgaaDoor
open Go.RowKit Go.PlainAid
set_option linter.unusedVariables false

theorem impl_rv (s : ByteArray) (w : World) (hs : s.size ≤ 1048576) : Calls Tryd.prog 87 #[.string s] w fun e w' => e = .returned (.tuple #[.int .i64 (rvN s), .int .i64 (rvK s : Nat)]) ∧ w = w' := by
  have hm : s.size ≤ maxLen := by unfold maxLen; omega
  by_cases h : rvK s = 0
  · have hn : rvN s = 0 := by unfold rvN; rw [if_pos h]
    rw [h, hn]
    rcases first_low s with ⟨t, ht, h6, hh, hb⟩ | hh
    · have e := rv_hit s t ht h6 hh hb
      have hz : ¬ (t = 0 ∨ bt s t ≠ 0) := by
        intro hz
        unfold rvK at h
        rw [e] at h
        simp only at h
        rw [if_pos hz] at h
        omega
      have hb0 : bt s t = 0 := Decidable.byContradiction fun h => hz (Or.inr h)
      exact impl_rv_zero s t w hm ht h6 hh hb0 (by omega)
    · exact impl_rv_none s w hm hh
  · obtain ⟨t, e, ht, h6, hh, hb, hz⟩ := rvK_pos s h
    have hn : rvN s = acc s (t + 1) := by unfold rvN; rw [if_neg h, e]
    rw [hn, e]
    exact (impl_rv_hit s t w hm ht h6 hh hb hz).mono fun e' w' ⟨he, hw⟩ => ⟨by rw [he]; simp, hw⟩

end Go.Proofs.YtmnglcidklckgaaDoor
