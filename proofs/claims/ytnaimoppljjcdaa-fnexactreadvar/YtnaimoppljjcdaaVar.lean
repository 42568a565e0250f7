/- The walks of Var: what the program and its model answer, for every number, and that the law over both returns true. No conditions but that the number is Go's. -/
import Derived.Test.YtnaimoppljjcdaaBytes
namespace Go.Proofs.Ytnaimoppljjcdaa
open Go.RowKit Go.PlainAid
set_option linter.unusedVariables false

set_option maxHeartbeats 400000 in
theorem spec_var (n : Int) (k : Nat) (w : World) (h0 : 0 ≤ n) (hm : n ≤ 562949953421311) (hk : k ≤ 6) (hv : VK n k) :
    Calls Try.prog 13 #[.int .i64 n] w fun e w' => e = .returned (.string (strOfNums (varL n k))) ∧ Below w.heap.size w w' := by
  go_enter Try.func13, Try.ntmps13
  go_wp2_with (go_at_call 21; refine (in_yes _ _ _ _ h0 hm).mono ?_; rintro e w' ⟨rfl, rfl⟩)
  go_loopw [0, 3] (fun a v wr => ∃ j : Nat, j ≤ k ∧ a = .int .i64 (vd n j) ∧ Grows wr w.heap.size v (vpre n j) ∧ Below w.heap.size w wr) (fun a _ _ => (intOf a).toNat)
  case atStart => exact ⟨0, by omega, rfl, grows_empty w, (Below.refl _ _).alloc (Nat.le_refl _) _⟩
  case round =>
    obtain ⟨j, hj, rfl, hgr, hbw⟩ := hrel
    have d0 := vd_nonneg n h0 j
    have d1 := vd_le n h0 j
    have hl : (vpre n j).length ≤ 6 := by rw [vpre_length]; omega
    by_cases hlt : j < k
    · have hge : 128 ≤ vd n j := hv.1 j hlt
      go_wp2_with (at_builtin; refine wp_append_bytes rfl (.tmp 10) (.tmp 15) rfl w.heap.size _ (vpre n j) [_] rfl (hgr.alloc _) wr.heap.size 1 1 rfl rfl (src_one wr _) (by omega) (by have := hbw.size; simp; omega) ?_; intro v' w' hgr' hb')
      go_roundw
      case rel => exact ⟨j + 1, by omega, rfl, hgr', (hbw.alloc hbw.size _).trans hb'⟩
      case measure => simp only [intOf]; omega
    · obtain rfl : j = k := by omega
      have hge : vd n j < 128 := hv.2
      go_wp2_with (at_builtin; refine wp_append_bytes rfl (.tmp 19) (.tmp 22) rfl w.heap.size _ (vpre n j) [_] rfl (hgr.alloc _) wr.heap.size 1 1 rfl rfl (src_one wr _) (by omega) (by have := hbw.size; simp; omega) ?_; intro v' w' hgr' hb'; have hconv := conv_grows w' w.heap.size v' _ hgr' (by simp))
      go_ret
      exact ⟨rfl, (hbw.alloc hbw.size _).trans hb'⟩

set_option maxHeartbeats 400000 in
theorem spec_var_no (n : Int) (w : World) (h : n < 0 ∨ 562949953421311 < n) :
    Calls Try.prog 13 #[.int .i64 n] w fun e w' => e = .returned (.string ByteArray.empty) ∧ w = w' := by
  go_enter Try.func13, Try.ntmps13
  go_wp2_with (go_at_call 21; refine (in_no _ _ _ _ h).mono ?_; rintro e w' ⟨rfl, rfl⟩)
  go_ret
  exact ⟨rfl, rfl⟩

set_option maxHeartbeats 400000 in
theorem impl_var_no (n : Int) (w : World) (h : n < 0 ∨ 562949953421311 < n) :
    Calls Try.prog 14 #[.int .i64 n] w fun e w' => e = .returned (.string ByteArray.empty) ∧ w = w' := by
  by_cases h0 : n < 0
  · have hd : decide (n < 0) = true := by simpa using h0
    clear h
    go_enter Try.func14, Try.ntmps14
    go_wp2
    go_ret
    exact ⟨rfl, rfl⟩
  · have hd : decide (n < 0) = false := by simpa using h0
    have hb : decide (562949953421311 < n) = true := by simp; omega
    clear h
    go_enter Try.func14, Try.ntmps14
    go_wp2
    go_ret
    exact ⟨rfl, rfl⟩

set_option maxHeartbeats 400000 in
theorem impl_var (n : Int) (k : Nat) (w : World) (h0 : 0 ≤ n) (hm : n ≤ 562949953421311) (hk : k ≤ 6) (hv : VK n k) :
    Calls Try.prog 14 #[.int .i64 n] w fun e w' => e = .returned (.string (strOfNums (varL n k))) ∧ Below w.heap.size w w' := by
  have hd : decide (n < 0) = false := by simp; omega
  have hb : decide (562949953421311 < n) = false := by simp; omega
  obtain ⟨w1, hmk, hroom, hb1⟩ := make_room w 7 (by omega)
  obtain ⟨g, hg⟩ : ∃ g, g = w.heap.size := ⟨_, rfl⟩
  rw [← hg] at hmk hroom hb1 ⊢
  have HG := Lib.hid hg
  clear hg
  have hmk' : (Instr.makeSlice 36 (.int .i64 7) (.int .i64 7)).run Try.prog w = .ok (.slice (some ⟨g, 0, none⟩) 7 7) w1 := hmk
  clear hmk
  go_enter Try.func14, Try.ntmps14
  go_wp2
  clear hmk'
  go_loopw [0, 4] (fun a c wr => ∃ j : Nat, j ≤ k ∧ a = .int .i64 (vd n j) ∧ c = .int .i64 j ∧ Room wr g (vpre n j) (7 - j) ∧ Below g w wr) (fun a _ _ => (intOf a).toNat)
  case atStart => exact ⟨0, by omega, rfl, rfl, hroom, hb1⟩
  case round =>
    obtain ⟨j, hj, rfl, rfl, hr, hbw⟩ := hrel
    have hg := hr.lt
    have d0 := vd_nonneg n h0 j
    have d1 := vd_le n h0 j
    by_cases hlt : j < k
    · have hge : 128 ≤ vd n j := hv.1 j hlt
      go_wp2_with (go_at_call 23; refine (put_bytes _ g wr.heap.size 7 j 1 (7 - j) g (vpre n j) [_] (hr.alloc _) (src_one wr _) (vpre_length n j) rfl (by omega) (by omega) (by omega) (by omega) (Nat.le_refl _)).mono ?_; rintro e w' ⟨rfl, hr', hb'⟩)
      go_roundw
      case rel =>
        refine ⟨j + 1, by omega, rfl, by go_num, ?_, (hbw.alloc (Nat.le_of_lt hg) _).trans hb'⟩
        rw [vpre, Int.add_comm 128, Nat.sub_add_eq]
        exact hr'
      case measure => simp only [intOf]; omega
    · obtain rfl : j = k := by omega
      have hge : vd n j < 128 := hv.2
      go_wp2_with (go_at_call 23; refine (put_bytes _ g wr.heap.size 7 j 1 (7 - j) g (vpre n j) [_] (hr.alloc _) (src_one wr _) (vpre_length n j) rfl (by omega) (by omega) (by omega) (by omega) (Nat.le_refl _)).mono ?_; rintro e w' ⟨rfl, hr', hb'⟩; have hconv := fun c => conv_room w' g _ (j + 1) c _ hr' (by simp [vpre_length]))
      go_ret
      exact ⟨rfl, (hbw.alloc (Nat.le_of_lt hg) _).trans hb'⟩

set_option maxHeartbeats 400000 in
theorem law_var (n : Int) (w : World) :
    Calls Try.prog 5 #[.int .i64 n] w fun e w' => e = .returned (.bool true) ∧ Below w.heap.size w w' := by
  by_cases h : 0 ≤ n ∧ n ≤ 562949953421311
  · obtain ⟨h0, hm⟩ := h
    obtain ⟨k, hk, hv⟩ := vk_exists n h0 hm
    go_enter Try.func5, Try.ntmps5
    go_wp2_with (first | (go_at_call 13; refine (spec_var n k _ h0 hm hk hv).mono ?_; rintro e w1 ⟨rfl, hb1⟩) | (go_at_call 14; refine (impl_var n k _ h0 hm hk hv).mono ?_; rintro e w2 ⟨rfl, hb2⟩))
    go_ret
    exact ⟨rfl, hb1.trans (hb2.mono hb1.size)⟩
  · have h2 : n < 0 ∨ 562949953421311 < n := by omega
    clear h
    go_enter Try.func5, Try.ntmps5
    go_wp2_with (first | (go_at_call 13; refine (spec_var_no n _ h2).mono ?_; rintro e w1 ⟨rfl, rfl⟩) | (go_at_call 14; refine (impl_var_no n _ h2).mono ?_; rintro e w2 ⟨rfl, rfl⟩))
    go_ret
    exact ⟨rfl, Below.refl _ _⟩
end Go.Proofs.Ytnaimoppljjcdaa
