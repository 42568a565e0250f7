/- The model's cursor: a number that is drawn, a yes or no. -/
import Derived.Test.YtnaimoppljjcdaaDoorDraw3
namespace Go.Proofs.YtnaimoppljjcdaaDoor
open Go.RowKit Go.PlainAid
set_option linter.unusedVariables false

set_option maxHeartbeats 400000 in
theorem pick_at (xs l : List Int) (w : World) (g q m : Nat) (v : Value) (s : St) (h : At xs w g v s) (hm : l.length = m) (h0 : 0 < m) (h1 : m ≤ 1000) (hq : q ≠ g)
    (hc : ∀ j, j < m → w.cell? ⟨q, j, none⟩ = some (.int .i64 (l.getD j 0))) :
    Calls Tryd.prog 33 #[.pointer (some ⟨g, 0, none⟩), .slice (some ⟨q, 0, none⟩) m m] w fun e w' => e = .returned (.int .i64 (l.getD (beV xs m s).toNat 0)) ∧ At xs w' g v (beS xs m s) ∧ w.grownBy w' (some g) := by
  have r := beV_range xs m s (by omega)
  have HC := Lib.hid hc
  clear hc
  go_enter Tryd.func33, Tryd.ntmps33
  go_wp2_with fail
  refine (below_at xs _ _ g v s h (by omega)).mono ?_
  rintro e w1 ⟨rfl, hA, hg⟩
  have hx := hg.cell (HC.out (beV xs m s).toNat (by omega)) (by simpa using hq)
  generalize hb : beV xs m s = b at *
  have HB := Lib.hid hb
  clear hb
  generalize hy : l.getD b.toNat 0 = y at *
  have HY := Lib.hid hy
  clear hy
  obtain ⟨k, rfl⟩ := Int.eq_ofNat_of_zero_le r.1
  simp only [Int.toNat_natCast] at hx
  go_wp2
  go_ret
  exact ⟨by rw [HB.out, HY.out]; rfl, hA, hg⟩

set_option maxHeartbeats 400000 in
theorem once_at (xs : List Int) (n : Int) (w : World) (g : Nat) (v : Value) (s : St) (h : At xs w g v s) (hn : n ≤ 9223372036854775807) :
    Calls Tryd.prog 30 #[.pointer (some ⟨g, 0, none⟩), .int .i64 n] w fun e w' => e = .returned (.bool (beV xs n s == 0)) ∧ At xs w' g v (beS xs n s) ∧ w.grownBy w' (some g) := by
  go_enter Tryd.func30, Tryd.ntmps30
  go_wp2_with (go_at_call 32; refine (below_at xs _ _ g v s h hn).mono ?_; rintro e w1 ⟨rfl, hA, hg⟩)
  go_ret
  exact ⟨rfl, hA, hg⟩

theorem cells17 (w : World) : ∀ j, j < 17 → (w.alloc (.cells #[.int .i64 (-1), .int .i64 0, .int .i64 127, .int .i64 128, .int .i64 255, .int .i64 256, .int .i64 16383, .int .i64 16384, .int .i64 65535, .int .i64 65536, .int .i64 562949953421311, .int .i64 562949953421312, .int .i64 999999999, .int .i64 1000000000, .int .i64 (-999999999), .int .i64 9223372036854775807, .int .i64 (-9223372036854775808)] 3)).cell? ⟨w.heap.size, j, none⟩ = some (.int .i64 (nums17.getD j 0)) := by
  intro j hj
  rw [World.cell?_alloc_mark]
  have hk : j = 0 ∨ j = 1 ∨ j = 2 ∨ j = 3 ∨ j = 4 ∨ j = 5 ∨ j = 6 ∨ j = 7 ∨ j = 8 ∨ j = 9 ∨ j = 10 ∨ j = 11 ∨ j = 12 ∨ j = 13 ∨ j = 14 ∨ j = 15 ∨ j = 16 := by omega
  rcases hk with rfl | rfl | rfl | rfl | rfl | rfl | rfl | rfl | rfl | rfl | rfl | rfl | rfl | rfl | rfl | rfl | rfl <;> rfl

set_option maxHeartbeats 1000000 in
theorem num_at (xs : List Int) (w : World) (g : Nat) (v : Value) (s : St) (h : At xs w g v s) :
    Calls Tryd.prog 21 #[.pointer (some ⟨g, 0, none⟩)] w fun e w' => e = .returned (.int .i64 (numV xs s)) ∧ At xs w' g v (numS xs s) ∧ w.grownBy w' (some g) := by
  have r8 := beV_range xs 8 s (by omega)
  unfold numV numS
  by_cases e0 : beV xs 8 s = 0
  · simp only [if_pos e0]
    have z0 : (beV xs 8 s == 0) = true := by simpa using e0
    clear e0
    go_enter Tryd.func21, Tryd.ntmps21
    go_wp2_with fail
    refine (below_at xs _ _ g v s h (by omega)).mono ?_
    rintro e w1 ⟨rfl, hA1, hg1⟩
    have hg := hA1.cur.lt
    go_wp2_with fail
    refine (pick_at xs nums17 _ g w1.heap.size 17 v _ (hA1.other (World.grownBy_alloc w1 _ none)) rfl (by omega) (by omega) (by omega) (cells17 w1)).mono ?_
    rintro e w2 ⟨rfl, hA2, hg2⟩
    go_wp2
    go_ret
    exact ⟨rfl, hA2, (hg1.trans (World.grownBy_alloc w1 _ _)).trans hg2⟩
  · simp only [if_neg e0]
    have z0 : (beV xs 8 s == 0) = false := by simpa using e0
    clear e0
    by_cases e1 : beV xs 8 s = 1
    · simp only [if_pos e1]
      have z1 : (beV xs 8 s == 1) = true := by simpa using e1
      clear e1
      have r1 := beV_range xs 1000000000 (beS xs 8 s) (by omega)
      have r2 := beV_range xs 1000000000 (beS xs 1000000000 (beS xs 8 s)) (by omega)
      have rm := mul_range _ _ r1.1 r1.2 r2.1 r2.2
      go_enter Tryd.func21, Tryd.ntmps21
      go_wp2_with fail
      refine (below_at xs _ _ g v s h (by omega)).mono ?_
      rintro e w1 ⟨rfl, hA1, hg1⟩
      go_wp2_with fail
      refine (below_at xs _ _ g v _ hA1 (by omega)).mono ?_
      rintro e w2 ⟨rfl, hA2, hg2⟩
      go_wp2_with fail
      refine (below_at xs _ _ g v _ hA2 (by omega)).mono ?_
      rintro e w3 ⟨rfl, hA3, hg3⟩
      go_wp2
      go_ret
      exact ⟨rfl, hA3, (hg1.trans hg2).trans hg3⟩
    · simp only [if_neg e1]
      have z1 : (beV xs 8 s == 1) = false := by simpa using e1
      clear e1
      by_cases e2 : beV xs 8 s = 2
      · simp only [if_pos e2]
        have z2 : (beV xs 8 s == 2) = true := by simpa using e2
        clear e2
        have r1 := beV_range xs 100000 (beS xs 8 s) (by omega)
        go_enter Tryd.func21, Tryd.ntmps21
        go_wp2_with fail
        refine (below_at xs _ _ g v s h (by omega)).mono ?_
        rintro e w1 ⟨rfl, hA1, hg1⟩
        go_wp2_with fail
        refine (below_at xs _ _ g v _ hA1 (by omega)).mono ?_
        rintro e w2 ⟨rfl, hA2, hg2⟩
        go_wp2
        go_ret
        exact ⟨rfl, hA2, hg1.trans hg2⟩
      · simp only [if_neg e2]
        have z2 : (beV xs 8 s == 2) = false := by simpa using e2
        clear e2
        go_enter Tryd.func21, Tryd.ntmps21
        go_wp2_with fail
        refine (below_at xs _ _ g v s h (by omega)).mono ?_
        rintro e w1 ⟨rfl, hA1, hg1⟩
        go_wp2_with fail
        refine (below_at xs _ _ g v _ hA1 (by omega)).mono ?_
        rintro e w2 ⟨rfl, hA2, hg2⟩
        go_wp2
        go_ret
        exact ⟨rfl, hA2, hg1.trans hg2⟩
end Go.Proofs.YtnaimoppljjcdaaDoor
