/- The string that FnSha draws, settled by the bytes of the law's argument. -/
import Derived.Test.YtpmcgiegppllpaaDoorDraw3
import Derived.Test.YtpmcgiegppllpaaDoorRowArg
namespace Go.Proofs.YtpmcgiegppllpaaDoor
open Go.RowKit Go.PlainAid
set_option linter.unusedVariables false

set_option maxHeartbeats 400000 in
theorem once_at (xs : List Int) (n : Int) (w : World) (g : Nat) (v : Value) (s : St) (h : At xs w g v s) (hn : n ≤ 9223372036854775807) :
    Calls Tryd.prog 15 #[.pointer (some ⟨g, 0, none⟩), .int .i64 n] w fun e w' => e = .returned (.bool (beV xs n s == 0)) ∧ At xs w' g v (beS xs n s) ∧ w.grownBy w' (some g) := by
  go_enter Tryd.func15, Tryd.ntmps15
  go_wp2_with (go_at_call 21; refine (below_at xs _ _ g v s h hn).mono ?_; rintro e w1 ⟨rfl, hA, hg⟩)
  go_ret
  exact ⟨rfl, hA, hg⟩

set_option maxHeartbeats 1000000 in
theorem draw_sha (xs : List Int) : ∃ r : ByteArray, r.size ≤ 140 ∧ ∀ w v, Code w v xs →
    Calls Tryd.prog 7 #[v] w fun e w' => e = .returned (.string r) ∧ Below w.heap.size w w' := by
  have l1 := teL_length xs 70 (cur0 xs) (by omega)
  have l2 := teL_length xs 70 (beS xs 6 (teS xs 70 (cur0 xs))) (by omega)
  have z1 : (strOfNums (teL xs 70 (cur0 xs))).size ≤ 70 := by rw [strOfNums_size]; omega
  have z2 : (strOfNums (teL xs 70 (beS xs 6 (teS xs 70 (cur0 xs))))).size ≤ 70 := by rw [strOfNums_size]; omega
  clear l1 l2
  by_cases e0 : beV xs 6 (teS xs 70 (cur0 xs)) = 0
  · have ez : (beV xs 6 (teS xs 70 (cur0 xs)) == 0) = true := by simpa using e0
    refine ⟨strOfNums (teL xs 70 (cur0 xs)) ++ strOfNums (teL xs 70 (beS xs 6 (teS xs 70 (cur0 xs)))), by rw [ByteArray.size_append]; omega, ?_⟩
    intro w v h
    obtain ⟨_, _, a, cap, hv, _⟩ := id h
    subst hv
    clear e0
    go_enter Tryd.func7, Tryd.ntmps7
    go_wp2_with fail
    refine (new_at xs _ _ h).mono ?_
    rintro e w1 ⟨rfl, hA1, hg1⟩
    go_wp2_with fail
    refine (text_at xs 70 _ _ _ _ hA1 (by omega) (by omega)).mono ?_
    rintro e w2 ⟨rfl, hA2, hg2⟩
    go_wp2_with fail
    refine (once_at xs 6 _ _ _ _ hA2 (by omega)).mono ?_
    rintro e w3 ⟨rfl, hA3, hg3⟩
    go_wp2_with fail
    refine (text_at xs 70 _ _ _ _ hA3 (by omega) (by omega)).mono ?_
    rintro e w4 ⟨rfl, hA4, hg4⟩
    go_wp2
    go_ret
    exact ⟨rfl, ((Below.refl _ _).grown hg1 (Nat.le_refl _) (fun k hk => by cases hk)).trans (below_of_grown ((hg2.trans hg3).trans hg4) (Nat.le_refl _) hA1.cur.lt)⟩
  · have ez : (beV xs 6 (teS xs 70 (cur0 xs)) == 0) = false := by simpa using e0
    refine ⟨strOfNums (teL xs 70 (cur0 xs)), by omega, ?_⟩
    intro w v h
    obtain ⟨_, _, a, cap, hv, _⟩ := id h
    subst hv
    clear e0
    go_enter Tryd.func7, Tryd.ntmps7
    go_wp2_with fail
    refine (new_at xs _ _ h).mono ?_
    rintro e w1 ⟨rfl, hA1, hg1⟩
    go_wp2_with fail
    refine (text_at xs 70 _ _ _ _ hA1 (by omega) (by omega)).mono ?_
    rintro e w2 ⟨rfl, hA2, hg2⟩
    go_wp2_with fail
    refine (once_at xs 6 _ _ _ _ hA2 (by omega)).mono ?_
    rintro e w3 ⟨rfl, hA3, hg3⟩
    go_wp2
    go_ret
    exact ⟨rfl, ((Below.refl _ _).grown hg1 (Nat.le_refl _) (fun k hk => by cases hk)).trans (below_of_grown (hg2.trans hg3) (Nat.le_refl _) hA1.cur.lt)⟩
end Go.Proofs.YtpmcgiegppllpaaDoor
