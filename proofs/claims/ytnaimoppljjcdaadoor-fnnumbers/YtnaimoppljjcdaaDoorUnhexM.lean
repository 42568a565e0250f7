/- Plain facts on the values of hexadecimal digits. -/
import Derived.Test.YtnaimoppljjcdaaDoorHexM
import Derived.Lib.Bytealg
namespace Go.Proofs.YtnaimoppljjcdaaDoor
open Go.PlainAid
set_option linter.unusedVariables false


/-- What the byte c says as a digit, -1 if it is none. -/
def hexv (c : Int) : Int := if 48 ≤ c ∧ c ≤ 57 then c - 48 else if 97 ≤ c ∧ c ≤ 102 then c - 87 else -1
theorem hexv_range (c : Int) : -1 ≤ hexv c ∧ hexv c ≤ 15 := by unfold hexv; repeat' split <;> omega
theorem hexv_hexd (k : Int) (h0 : 0 ≤ k) (h1 : k ≤ 15) : hexv (hexd k) = k := by
  unfold hexd hexv; repeat' split <;> omega
theorem hexd_hexv (c : Int) (h : 0 ≤ hexv c) : hexd (hexv c) = c := by
  unfold hexv at *
  unfold hexd
  repeat' split at * <;> omega
theorem indexByte_hexv (c : Int) (h0 : 0 ≤ c) (h1 : c ≤ 255) : Lib.indexByte [48, 49, 50, 51, 52, 53, 54, 55, 56, 57, 97, 98, 99, 100, 101, 102] c.toNat.toUInt8 = hexv c := by
  obtain ⟨n, rfl⟩ := Int.eq_ofNat_of_zero_le h0
  have all : ∀ m : Fin 256, Lib.indexByte [48, 49, 50, 51, 52, 53, 54, 55, 56, 57, 97, 98, 99, 100, 101, 102] (UInt8.ofNat m.val) = hexv (m.val : Int) := by decide +kernel
  exact all ⟨n, by omega⟩


/-- The bytes that the first k pairs of digits of s say. -/
def unP (s : ByteArray) : Nat → List Int
  | 0 => []
  | k + 1 => unP s k ++ [16 * hexv (bt s (2 * k)) + hexv (bt s (2 * k + 1))]
theorem unP_length (s : ByteArray) (k : Nat) : (unP s k).length = k := by
  induction k with
  | zero => rfl
  | succ k ih => simp [unP, ih]

/-- All digits of the pairs are digits, or there is a first pair with one that is none. -/
theorem first_bad (s : ByteArray) (h2 : s.size % 2 = 0) : (∀ j, j < s.size → 0 ≤ hexv (bt s j)) ∨
    ∃ t, 2 * t < s.size ∧ (∀ j, j < 2 * t → 0 ≤ hexv (bt s j)) ∧ (hexv (bt s (2 * t)) < 0 ∨ hexv (bt s (2 * t + 1)) < 0) := by
  have go : ∀ k, 2 * k ≤ s.size → (∀ j, j < 2 * k → 0 ≤ hexv (bt s j)) ∨
      ∃ t, 2 * t < s.size ∧ (∀ j, j < 2 * t → 0 ≤ hexv (bt s j)) ∧ (hexv (bt s (2 * t)) < 0 ∨ hexv (bt s (2 * t + 1)) < 0) := by
    intro k
    induction k with
    | zero => intro _; exact .inl (fun j hj => by omega)
    | succ k ih =>
      intro hk
      rcases ih (by omega) with h | h
      · by_cases hb : hexv (bt s (2 * k)) < 0 ∨ hexv (bt s (2 * k + 1)) < 0
        · exact .inr ⟨k, by omega, h, hb⟩
        · refine .inl fun j hj => ?_
          by_cases e0 : j = 2 * k
          · subst e0; omega
          · by_cases e1 : j = 2 * k + 1
            · subst e1; omega
            · exact h j (by omega)
      · exact .inr h
  rcases go (s.size / 2) (by omega) with h | h
  · exact .inl fun j hj => h j (by omega)
  · exact .inr h
end Go.Proofs.YtnaimoppljjcdaaDoor
