/- The model's cursor: how it is made, and what a text and a number that are drawn are. -/
import Derived.Test.YtoofnlckeodefaaDoorDraw
namespace Go.Proofs.YtoofnlckeodefaaDoor
open Go.RowKit Go.PlainAid
set_option linter.unusedVariables false

theorem getD_range (xs : List Int) (h : ∀ x ∈ xs, 0 ≤ x ∧ x ≤ 255) (k : Nat) : 0 ≤ xs.getD k 0 ∧ xs.getD k 0 ≤ 255 := by
  by_cases hk : k < xs.length
  · rw [List.getD_eq_getElem?_getD, List.getElem?_eq_getElem hk]
    exact h _ (List.getElem_mem hk)
  · rw [List.getD_eq_getElem?_getD, List.getElem?_eq_none (by omega)]
    decide

set_option maxRecDepth 100000 in
set_option maxHeartbeats 400000 in
theorem new_some (xs : List Int) (w : World) (b off cap M : Nat) (hM : M = min xs.length 4000) (hr : ∀ x ∈ xs, 0 ≤ x ∧ x ≤ 255) (hl : xs.length ≤ 1048576)
    (hc : ∀ i, i < xs.length → w.cell? ⟨b, off + i, none⟩ = some (.int .u8 (xs.getD i 0))) :
    Calls Tryd.prog 17 #[.slice (some ⟨b, off, none⟩) xs.length cap] w fun e w' => e = .returned (.pointer (some ⟨w.heap.size, 0, none⟩)) ∧
      w' = w.alloc (.cells #[.slice (some ⟨b, off, none⟩) xs.length cap, .int .i64 0, .int .i64 (hS xs M)] 47) := by
  have HM := Lib.hid hM
  clear hM
  have HC := Lib.hid hc
  have HR := Lib.hid hr
  clear hc hr
  obtain ⟨n, hn⟩ : ∃ n, n = xs.length := ⟨_, rfl⟩
  rw [← hn] at hl ⊢
  have HN := Lib.hid hn
  clear hn
  have hMn : M ≤ n ∧ (M : Int) ≤ 4000 ∧ (M = n ∨ (M : Int) = 4000) := by have := HM.out; rw [← HN.out] at this; omega
  have HMn := Lib.hid hMn
  clear hMn
  go_enter Tryd.func17, Tryd.ntmps17
  go_wp2
  go_loop [3, 4] (fun hv iv => ∃ k : Nat, k ≤ n ∧ (k : Int) ≤ 4000 ∧ iv = .int .i64 k ∧ hv = .int .i64 (hS xs k)) (fun _ iv => (4000 - intOf iv).toNat)
  case atStart => exact ⟨0, by omega, by omega, rfl, by rw [hS, HN.out]⟩
  case round =>
    obtain ⟨k, hk, hk4, rfl, rfl⟩ := hrel
    have h0 := hS_range xs (by rw [← HN.out]; exact hl) k
    by_cases hin : k < n ∧ (k : Int) < 4000
    · obtain ⟨h1, h2⟩ := hin
      have g1 : decide (k < n) = true := by simpa using h1
      have hx := HC.out k (by rw [← HN.out]; exact h1)
      have r := getD_range xs HR.out k
      have hs : hS xs (k + 1) = (hS xs k * 131 + xs.getD k 0 + 7) % 1073741824 := rfl
      have HS := Lib.hid hs
      clear hs
      generalize xs.getD k 0 = x at *
      have e := and30 (hS xs k * 131 + x + 7) (by omega) (by omega)
      go_wp2
      go_round
      case rel => exact ⟨k + 1, by omega, by omega, by go_num, by rw [HS.out]⟩
      case measure => simp only [intOf]; omega
    · have hmin : M = k := by have := HMn.out; omega
      by_cases h1 : k < n
      · have g1 : decide (k < n) = true := by simpa using h1
        have HK := Lib.hid hmin
        clear hmin
        go_wp2
        go_ret
        exact ⟨rfl, by rw [HK.out]⟩
      · have g1 : decide (k < n) = false := by simpa using h1
        have HK := Lib.hid hmin
        clear hmin
        go_wp2
        go_ret
        exact ⟨rfl, by rw [HK.out]⟩

set_option maxHeartbeats 400000 in
theorem new_empty (w : World) (a : Option Addr) (cap : Nat) :
    Calls Tryd.prog 17 #[.slice a 0 cap] w fun e w' => e = .returned (.pointer (some ⟨w.heap.size, 0, none⟩)) ∧
      w' = w.alloc (.cells #[.slice a 0 cap, .int .i64 0, .int .i64 10101] 47) := by
  go_enter Tryd.func17, Tryd.ntmps17
  go_wp2
  refine wp_loop_rounds 1 ?_
  rw [rounds_succ]
  go_wp2
  go_ret
  exact ⟨rfl, rfl⟩

theorem at_new (xs : List Int) (w : World) (v : Value) (h : Code w v xs) : At xs (w.alloc (.cells #[v, .int .i64 ((cur0 xs).1 : Nat), .int .i64 (cur0 xs).2] 47)) w.heap.size v (cur0 xs) := by
  refine ⟨?_, h.apart ((Below.refl _ _).alloc (Nat.le_refl _) _) (Nat.le_refl _), Nat.zero_le _⟩
  unfold Cur
  show (w.heap.push _)[w.heap.size]? = _
  simp
theorem new_at (xs : List Int) (w : World) (v : Value) (h : Code w v xs) :
    Calls Tryd.prog 17 #[v] w fun e w' => e = .returned (.pointer (some ⟨w.heap.size, 0, none⟩)) ∧ At xs w' w.heap.size v (cur0 xs) ∧ w.grownBy w' none := by
  have ha := at_new xs w v h
  obtain ⟨h1, h2, a, cap, rfl, h3⟩ := h
  by_cases h0 : 0 < xs.length
  · obtain ⟨b, off, _, rfl, hc⟩ := h3 h0
    refine (new_some xs w b off cap _ rfl h1 h2 hc).mono fun e w' ⟨he, hw⟩ => ⟨he, ?_, ?_⟩
    · rw [hw]; exact ha
    · rw [hw]; exact World.grownBy_alloc w _ none
  · obtain rfl : xs = [] := List.eq_nil_of_length_eq_zero (by omega)
    refine (new_empty w a cap).mono fun e w' ⟨he, hw⟩ => ⟨he, ?_, ?_⟩
    · rw [hw]; exact ha
    · rw [hw]; exact World.grownBy_alloc w _ none
end Go.Proofs.YtoofnlckeodefaaDoor
