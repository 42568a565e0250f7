/- Plain facts on hexadecimal digits. -/
import Derived.PlainAid
namespace Go.Proofs.YtpmcgiegppllpaaDoor
open Go.PlainAid
set_option linter.unusedVariables false


/-- The digit of k, from 0 to 15. -/
def hexd (k : Int) : Int := if k < 10 then 48 + k else 87 + k
theorem hexd_range (k : Int) (h0 : 0 ≤ k) (h1 : k ≤ 15) : 48 ≤ hexd k ∧ hexd k ≤ 102 := by unfold hexd; split <;> omega
/-- The digits of the first k bytes of s. -/
def hexP (s : ByteArray) : Nat → List Int
  | 0 => []
  | k + 1 => hexP s k ++ [hexd (bt s k / 16), hexd (bt s k % 16)]
theorem hexP_length (s : ByteArray) (k : Nat) : (hexP s k).length = 2 * k := by
  induction k with
  | zero => rfl
  | succ k ih => simp [hexP, ih]; omega
end Go.Proofs.YtpmcgiegppllpaaDoor
