/- The walks of the program's Var, for every number. -/
import Derived.Test.YtkeoeempdkpafaaDoorPut
namespace Go.Proofs.YtkeoeempdkpafaaDoor
open Go.RowKit Go.PlainAid
set_option linter.unusedVariables false

set_option maxHeartbeats 400000 in
theorem impl_var_no (n : Int) (w : World) (h : n < 0 ∨ 562949953421311 < n) :
    Calls Tryd.prog 85 #[.int .i64 n] w fun e w' => e = .returned (.string ByteArray.empty) ∧ w = w' := by
  by_cases h0 : n < 0
  · have hd : decide (n < 0) = true := by simpa using h0
    clear h
    go_enter Tryd.func85, Tryd.ntmps85
    go_wp2
    go_ret
    exact ⟨rfl, rfl⟩
  · have hd : decide (n < 0) = false := by simpa using h0
    have hb : decide (562949953421311 < n) = true := by simp; omega
    clear h
    go_enter Tryd.func85, Tryd.ntmps85
    go_wp2
    go_ret
    exact ⟨rfl, rfl⟩

set_option maxHeartbeats 400000 in
theorem impl_var (n : Int) (k : Nat) (w : World) (h0 : 0 ≤ n) (hm : n ≤ 562949953421311) (hk : k ≤ 6) (hv : VK n k) :
    Calls Tryd.prog 85 #[.int .i64 n] w fun e w' => e = .returned (.string (strOfNums (varL n k))) ∧ Below w.heap.size w w' := by
  have hd : decide (n < 0) = false := by simp; omega
  have hb : decide (562949953421311 < n) = false := by simp; omega
  obtain ⟨w1, hmk, hroom, hb1⟩ := make_room w 7 (by omega)
  obtain ⟨g, hg⟩ : ∃ g, g = w.heap.size := ⟨_, rfl⟩
  rw [← hg] at hmk hroom hb1 ⊢
  have HG := Lib.hid hg
  clear hg
  have hmk' : (Instr.makeSlice 70 (.int .i64 7) (.int .i64 7)).run Tryd.prog w = .ok (.slice (some ⟨g, 0, none⟩) 7 7) w1 := hmk
  clear hmk
  go_enter Tryd.func85, Tryd.ntmps85
  go_wp2
  clear hmk'
  go_loopw [0, 4] (fun a c wr => ∃ j : Nat, j ≤ k ∧ a = .int .i64 (vd n j) ∧ c = .int .i64 j ∧ Room wr g (vpre n j) (7 - j) ∧ Below g w wr) (fun a _ _ => (intOf a).toNat)
  case atStart => exact ⟨0, by omega, rfl, rfl, hroom, hb1⟩
  case round =>
    obtain ⟨j, hj, rfl, rfl, hr, hbw⟩ := hrel
    have hg := hr.lt
    have d0 := vd_nonneg n h0 j
    have d1 := vd_le n h0 j
    by_cases hlt : j < k
    · have hge : 128 ≤ vd n j := hv.1 j hlt
      go_wp2_with (go_at_call 106; refine (put_bytes _ g wr.heap.size 7 j 1 (7 - j) g (vpre n j) [_] (hr.alloc _) (src_one wr _) (vpre_length n j) rfl (by omega) (by omega) (by omega) (by omega) (Nat.le_refl _)).mono ?_; rintro e w' ⟨rfl, hr', hb'⟩)
      go_roundw
      case rel =>
        refine ⟨j + 1, by omega, rfl, by go_num, ?_, (hbw.alloc (Nat.le_of_lt hg) _).trans hb'⟩
        rw [vpre, Int.add_comm 128, Nat.sub_add_eq]
        exact hr'
      case measure => simp only [intOf]; omega
    · obtain rfl : j = k := by omega
      have hge : vd n j < 128 := hv.2
      go_wp2_with (go_at_call 106; refine (put_bytes _ g wr.heap.size 7 j 1 (7 - j) g (vpre n j) [_] (hr.alloc _) (src_one wr _) (vpre_length n j) rfl (by omega) (by omega) (by omega) (by omega) (Nat.le_refl _)).mono ?_; rintro e w' ⟨rfl, hr', hb'⟩; have hconv := fun c => conv_room w' g _ (j + 1) c _ hr' (by simp [vpre_length]))
      go_ret
      exact ⟨rfl, (hbw.alloc (Nat.le_of_lt hg) _).trans hb'⟩
end Go.Proofs.YtkeoeempdkpafaaDoor
