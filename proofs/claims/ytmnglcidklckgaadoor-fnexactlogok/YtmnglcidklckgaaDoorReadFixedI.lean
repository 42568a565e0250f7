/- The walks of the program's ReadFixed, for every string and width. -/
import Derived.Test.YtmnglcidklckgaaDoorMath
import Derived.Test.YtmnglcidklckgaaDoorRows
import Derived.WalkKit
import Derived.WalkSpells
import Derived.WalkLawsBesides
import Derived.Lib.Hide
namespace Go.Proofs.YtmnglcidklckgaaDoor
open Go.RowKit Go.PlainAid
set_option linter.unusedVariables false

set_option maxHeartbeats 400000 in
theorem impl_rf (s : ByteArray) (n : Int) (w : World) (hs : s.size ≤ maxLen) (h1 : 1 ≤ n) (h7 : n ≤ 7) (hl : n ≤ s.size) :
    Calls Tryd.prog 86 #[.string s, .int .i64 n] w fun e w' => e = .returned (.tuple #[.int .i64 (rf s n.toNat), .bool true]) ∧ w = w' := by
  unfold maxLen at hs
  go_enter Tryd.func86, Tryd.ntmps86
  go_wp2
  go_loop [6, 18] (fun a i => ∃ k : Nat, (k : Int) ≤ n ∧ i = .int .i64 k ∧ a = .int .i64 (rf s k)) (fun _ i => (n - intOf i).toNat)
  case atStart => exact ⟨0, by omega, rfl, rfl⟩
  case round =>
    obtain ⟨k, hk, rfl, rfl⟩ := hrel
    by_cases hlt : (k : Int) < n
    · have r0 := rf_nonneg s k
      have r6 := rf_le6 s k (by omega)
      have hks : k < s.size := by omega
      have hg := get_bt s k hks
      have b0 := bt_nonneg s k
      have b1 := bt_le s k
      go_wp2
      go_round
      case rel => 
        refine ⟨k + 1, by omega, by go_num, ?_⟩
        rw [i64_or_join 8 _ _ (by omega) (by omega) (by omega) (by omega) (by omega) (by omega), rf]
      case measure => simp [intOf]; omega
    · have hn : n.toNat = k := by omega
      have HN := Lib.hid hn
      clear hn
      go_wp2
      go_ret2
      exact ⟨by rw [HN.out]; rfl, rfl⟩

set_option maxHeartbeats 400000 in
theorem impl_rf_no (s : ByteArray) (n : Int) (w : World) (hs : s.size ≤ maxLen) (h : n < 1 ∨ 7 < n ∨ (s.size : Int) < n) :
    Calls Tryd.prog 86 #[.string s, .int .i64 n] w fun e w' => e = .returned (.tuple #[.int .i64 0, .bool false]) ∧ w = w' := by
  unfold maxLen at hs
  by_cases h1 : 1 ≤ n
  · by_cases h7 : n ≤ 7
    · have hl : (s.size : Int) < n := by omega
      clear h
      go_enter Tryd.func86, Tryd.ntmps86
      go_wp2
      go_ret2
      exact ⟨rfl, rfl⟩
    · clear h
      go_enter Tryd.func86, Tryd.ntmps86
      go_wp2
      go_ret2
      exact ⟨rfl, rfl⟩
  · clear h
    go_enter Tryd.func86, Tryd.ntmps86
    go_wp2
    go_ret2
    exact ⟨rfl, rfl⟩
end Go.Proofs.YtmnglcidklckgaaDoor
