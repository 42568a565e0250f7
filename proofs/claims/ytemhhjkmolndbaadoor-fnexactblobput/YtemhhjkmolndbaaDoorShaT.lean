/- The two sides' turns of a word. -/
import Derived.Test.YtemhhjkmolndbaaDoorRows
import Derived.Test.YtemhhjkmolndbaaDoorShaM
import Derived.WalkKit
import Derived.WalkSpells
import Derived.WalkLawsBesides
import Derived.Lib.Hide
namespace Go.Proofs.YtemhhjkmolndbaaDoor
open Go.RowKit Go.PlainAid
set_option linter.unusedVariables false

theorem rot_left (x n : Nat) (w : World) (hx : x < 4294967296) (h1 : 1 ≤ n) (h2 : n ≤ 31) :
    Calls Tryd.prog 159 #[.int .u32 x, .int .i64 (-(n : Int))] w fun e w' => e = .returned (.int .u32 (rotr x n : Nat)) ∧ w = w' := by
  have e1 := neg31 n h1 h2
  have e2 := rot_u32 x n hx
  have e3 : 32 - (32 - n) = n := by omega
  go_enter Tryd.func159, Tryd.ntmps159
  go_wp2
  go_ret
  exact ⟨rfl, rfl⟩
theorem turn_c (x n : Nat) (w : World) (hx : x < 4294967296) (h1 : 1 ≤ n) (h2 : n ≤ 31) :
    Calls Tryd.prog 152 #[.int .u32 x, .int .i64 n] w fun e w' => e = .returned (.int .u32 (rotr x n : Nat)) ∧ w = w' := by
  go_enter Tryd.func152, Tryd.ntmps152
  go_wp2_with (go_at_call 159; refine (rot_left x n _ hx h1 h2).mono ?_; rintro e w' ⟨rfl, rfl⟩)
  go_ret
  exact ⟨rfl, rfl⟩
theorem turn_q (x n : Nat) (w : World) (hx : x < 4294967296) (h1 : 1 ≤ n) (h2 : n ≤ 31) :
    Calls Tryd.prog 152 #[.int .u32 x, .int .i64 n] w fun e w' => e = .returned (.int .u32 (rotr x n : Nat)) ∧ w' = w :=
  (turn_c x n w hx h1 h2).mono fun e w' ⟨h, h'⟩ => ⟨h, h'.symm⟩
theorem word_c (x : Nat) (w : World) (hx : x < 9223372036854775808) :
    Calls Tryd.prog 123 #[.int .i64 x] w fun e w' => e = .returned (.int .i64 (x % 4294967296 : Nat)) ∧ w = w' := by
  have e1 := i64_low32 x hx
  go_enter Tryd.func123, Tryd.ntmps123
  go_wp2
  go_ret
  exact ⟨rfl, rfl⟩
theorem not_c (x : Nat) (w : World) (hx : x < 4294967296) :
    Calls Tryd.prog 123 #[.int .i64 (-(x : Int) - 1)] w fun e w' => e = .returned (.int .i64 (4294967295 - x : Nat)) ∧ w = w' := by
  have e1 := i64_not32 x hx
  go_enter Tryd.func123, Tryd.ntmps123
  go_wp2
  go_ret
  exact ⟨rfl, rfl⟩
theorem right_c (x n : Nat) (w : World) (hx : x < 4294967296) (h1 : 2 ≤ n) (h2 : n ≤ 31) :
    Calls Tryd.prog 122 #[.int .i64 x, .int .u64 n] w fun e w' => e = .returned (.int .i64 (rotr x n : Nat)) ∧ w = w' := by
  have e1 := rot_i64 x n hx h1
  go_enter Tryd.func122, Tryd.ntmps122
  go_wp2
  go_ret
  exact ⟨rfl, rfl⟩
/-- A word turned to the right, the count a machine's number. -/
def rotz (x : Nat) (z : Int) : Nat := rotr x z.toNat
theorem rotz_lt (x : Nat) (z : Int) : rotz x z < 4294967296 := rotr_lt _ _
theorem turn_z (x : Nat) (z : Int) (w : World) (hx : x < 4294967296) (h1 : 1 ≤ z) (h2 : z ≤ 31) :
    Calls Tryd.prog 152 #[.int .u32 x, .int .i64 z] w fun e w' => e = .returned (.int .u32 (rotz x z : Nat)) ∧ w' = w := by
  obtain ⟨n, rfl⟩ := Int.eq_ofNat_of_zero_le (show 0 ≤ z by omega)
  exact turn_q x n w hx (by omega) (by omega)
theorem right_z (x : Nat) (z : Int) (w : World) (hx : x < 4294967296) (h1 : 2 ≤ z) (h2 : z ≤ 31) :
    Calls Tryd.prog 122 #[.int .i64 x, .int .u64 z] w fun e w' => e = .returned (.int .i64 (rotz x z : Nat)) ∧ w' = w := by
  obtain ⟨n, rfl⟩ := Int.eq_ofNat_of_zero_le (show 0 ≤ z by omega)
  exact (right_c x n w hx (by omega) (by omega)).mono fun e w' ⟨h, h'⟩ => ⟨h, h'.symm⟩
theorem word_z (z : Int) (w : World) (h0 : 0 ≤ z) (hz : z < 9223372036854775808) :
    Calls Tryd.prog 123 #[.int .i64 z] w fun e w' => e = .returned (.int .i64 (z % 4294967296)) ∧ w' = w := by
  obtain ⟨x, rfl⟩ := Int.eq_ofNat_of_zero_le h0
  exact (word_c x w (by omega)).mono fun e w' ⟨h, h'⟩ => ⟨h, h'.symm⟩
theorem word_q (x : Nat) (w : World) (hx : x < 9223372036854775808) :
    Calls Tryd.prog 123 #[.int .i64 x] w fun e w' => e = .returned (.int .i64 (x % 4294967296 : Nat)) ∧ w' = w :=
  (word_c x w hx).mono fun e w' ⟨h, h'⟩ => ⟨h, h'.symm⟩
theorem not_q (x : Nat) (w : World) (hx : x < 4294967296) :
    Calls Tryd.prog 123 #[.int .i64 (-(x : Int) - 1)] w fun e w' => e = .returned (.int .i64 (4294967295 - x : Nat)) ∧ w' = w :=
  (not_c x w hx).mono fun e w' ⟨h, h'⟩ => ⟨h, h'.symm⟩
theorem right_q (x n : Nat) (w : World) (hx : x < 4294967296) (h1 : 2 ≤ n) (h2 : n ≤ 31) :
    Calls Tryd.prog 122 #[.int .i64 x, .int .u64 n] w fun e w' => e = .returned (.int .i64 (rotr x n : Nat)) ∧ w' = w :=
  (right_c x n w hx h1 h2).mono fun e w' ⟨h, h'⟩ => ⟨h, h'.symm⟩
end Go.Proofs.YtemhhjkmolndbaaDoor
