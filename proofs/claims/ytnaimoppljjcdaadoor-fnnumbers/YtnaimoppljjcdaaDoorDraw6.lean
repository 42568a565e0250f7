/- What the model draws off the bytes of a law's argument: settled by the bytes. -/
import Derived.Test.YtnaimoppljjcdaaDoorDraw5
import Derived.Test.YtnaimoppljjcdaaDoorVarS
namespace Go.Proofs.YtnaimoppljjcdaaDoor
open Go.RowKit Go.PlainAid
set_option linter.unusedVariables false

theorem spoil_det (xs : List Int) (t : ByteArray) (s : St) (h1 : t.size ≤ 1000) : ∃ (r : ByteArray) (s' : St), r.size ≤ 2 * t.size + 3 ∧ StrDet 31 #[.string t] xs s r s' := by
  by_cases h0 : t.size = 0
  · obtain rfl := nil_str t h0
    refine ⟨_, _, ?_, spoil_empty xs s⟩
    rw [strOfNums_size]
    have := teL_length xs 3 s (by omega)
    omega
  · have r := beV_range xs t.size s (by omega)
    obtain ⟨k, hk⟩ := Int.eq_ofNat_of_zero_le r.1
    have r4 := beV_range xs 4 (beS xs t.size s) (by omega)
    have x1 := ext_le t 0 k
    have x2 := ext_le t (k + 1) t.size
    have x3 := ext_le t k t.size
    have hc : beV xs 4 (beS xs t.size s) = 0 ∨ beV xs 4 (beS xs t.size s) = 1 ∨ beV xs 4 (beS xs t.size s) = 2 ∨ beV xs 4 (beS xs t.size s) = 3 := by omega
    rcases hc with hc | hc | hc | hc
    · exact ⟨_, _, by rw [ByteArray.size_append]; omega, spoil0 xs t s k (by omega) h1 hk hc⟩
    · exact ⟨_, _, by rw [ByteArray.size_append, ByteArray.size_append, strOfNums_size]; simp only [List.length_singleton]; omega, spoil1 xs t s k (by omega) h1 hk hc⟩
    · exact ⟨_, _, by omega, spoil2 xs t s k (by omega) h1 hk hc⟩
    · exact ⟨_, _, by rw [ByteArray.size_append, ByteArray.size_append, strOfNums_size]; simp only [List.length_singleton]; omega, spoil3 xs t s k (by omega) h1 hk hc⟩

set_option maxHeartbeats 400000 in
theorem draw_var (xs : List Int) (w : World) (v : Value) (h : Code w v xs) :
    Calls Tryd.prog 7 #[v] w fun e w' => e = .returned (.int .i64 (numV xs (st0 xs))) ∧ Below w.heap.size w w' := by
  obtain ⟨_, _, a, cap, hv, _⟩ := id h
  subst hv
  go_enter Tryd.func7, Tryd.ntmps7
  go_wp2_with fail
  refine (new_at xs _ _ h).mono ?_
  rintro e w1 ⟨rfl, hA1, hg1⟩
  go_wp2_with fail
  refine (num_at xs _ _ _ _ hA1).mono ?_
  rintro e w2 ⟨rfl, hA2, hg2⟩
  go_wp2
  go_ret
  exact ⟨rfl, ((Below.refl _ _).grown hg1 (Nat.le_refl _) (fun k hk => by cases hk)).trans (below_of_grown hg2 (Nat.le_refl _) hA1.cur.lt)⟩

set_option maxHeartbeats 400000 in
theorem draw_hex (xs : List Int) (w : World) (v : Value) (h : Code w v xs) :
    Calls Tryd.prog 8 #[v] w fun e w' => e = .returned (.string (strOfNums (teL xs 40 (st0 xs)))) ∧ Below w.heap.size w w' := by
  obtain ⟨_, _, a, cap, hv, _⟩ := id h
  subst hv
  go_enter Tryd.func8, Tryd.ntmps8
  go_wp2_with fail
  refine (new_at xs _ _ h).mono ?_
  rintro e w1 ⟨rfl, hA1, hg1⟩
  go_wp2_with fail
  refine (text_at xs 40 _ _ _ _ hA1 (by omega) (by omega)).mono ?_
  rintro e w2 ⟨rfl, hA2, hg2⟩
  go_wp2
  go_ret
  exact ⟨rfl, ((Below.refl _ _).grown hg1 (Nat.le_refl _) (fun k hk => by cases hk)).trans (below_of_grown hg2 (Nat.le_refl _) hA1.cur.lt)⟩

/-- The model's Var, at every number: a string, settled by the number. -/
theorem spec_var_det (n : Int) (h1 : -9223372036854775808 ≤ n) (h2 : n ≤ 9223372036854775807) : ∃ t : ByteArray, t.size ≤ 7 ∧ ∀ w, Calls Tryd.prog 29 #[.int .i64 n] w fun e w' => e = .returned (.string t) ∧ Below w.heap.size w w' := by
  by_cases h : 0 ≤ n ∧ n ≤ 562949953421311
  · obtain ⟨k, hk, hv⟩ := vk_exists n h.1 h.2
    exact ⟨_, by rw [strOfNums_size, varL_length]; omega, fun w => spec_var n k w h.1 h.2 hk hv⟩
  · exact ⟨ByteArray.empty, by decide, fun w => (spec_var_no n w (by omega)).mono fun e w' ⟨he, hw⟩ => ⟨he, by subst hw; exact Below.refl _ _⟩⟩

set_option maxHeartbeats 1000000 in
theorem draw_rv (xs : List Int) : ∃ r : ByteArray, r.size ≤ 1000 ∧ ∀ w v, Code w v xs →
    Calls Tryd.prog 17 #[v] w fun e w' => e = .returned (.string r) ∧ Below w.heap.size w w' := by
  have rn := numV_range xs (st0 xs)
  obtain ⟨t, ht, hV⟩ := spec_var_det (numV xs (st0 xs)) rn.1 rn.2
  have hl := teL_length xs 4 (numS xs (st0 xs)) (by omega)
  have hsum : t.size + (strOfNums (teL xs 4 (numS xs (st0 xs)))).size ≤ 9223372036854775807 := by rw [strOfNums_size]; omega
  have hsz : (t ++ strOfNums (teL xs 4 (numS xs (st0 xs)))).size ≤ 11 := by rw [ByteArray.size_append, strOfNums_size]; omega
  have HV := Lib.hid hV
  clear hV
  by_cases ho : beV xs 4 (teS xs 4 (numS xs (st0 xs))) = 0
  · have zo : (beV xs 4 (teS xs 4 (numS xs (st0 xs))) == 0) = true := by simpa using ho
    obtain ⟨r, s', hr, hD⟩ := spoil_det xs (t ++ strOfNums (teL xs 4 (numS xs (st0 xs)))) (beS xs 4 (teS xs 4 (numS xs (st0 xs)))) (by omega)
    have HD := Lib.hid hD
    clear hD ho
    refine ⟨r, by omega, fun w v h => ?_⟩
    clear hr hl hsz
    obtain ⟨_, _, a, cap, hv, _⟩ := id h
    subst hv
    go_enter Tryd.func17, Tryd.ntmps17
    go_wp2_with fail
    refine (new_at xs _ _ h).mono ?_
    rintro e w1 ⟨rfl, hA1, hg1⟩
    go_wp2_with fail
    refine (num_at xs _ _ _ _ hA1).mono ?_
    rintro e w2 ⟨rfl, hA2, hg2⟩
    go_wp2_with fail
    refine (HV.out _).mono ?_
    rintro e w3 ⟨rfl, hb3⟩
    have hA3 := hA2.keep hb3 hA2.cur.lt hA2.under
    go_wp2_with fail
    refine (text_at xs 4 _ _ _ _ hA3 (by omega) (by omega)).mono ?_
    rintro e w4 ⟨rfl, hA4, hg4⟩
    go_wp2_with fail
    refine (once_at xs 4 _ _ _ _ hA4 (by omega)).mono ?_
    rintro e w5 ⟨rfl, hA5, hg5⟩
    go_wp2_with fail
    refine (HD.out _ _ _ hA5).mono ?_
    rintro e w6 ⟨rfl, hA6, hg6⟩
    go_wp2
    go_ret
    refine ⟨rfl, ?_⟩
    have b1 : Below w.heap.size w w1 := (Below.refl _ _).grown hg1 (Nat.le_refl _) (fun k hk => by cases hk)
    have b2 := below_of_grown hg2 (Nat.le_refl w.heap.size) hA1.cur.lt
    have b3 := hb3.mono (show w.heap.size ≤ w2.heap.size from Nat.le_trans b1.size b2.size)
    have b4 := below_of_grown hg4 (Nat.le_refl w.heap.size) hA3.cur.lt
    have b5 := below_of_grown hg5 (Nat.le_refl w.heap.size) hA4.cur.lt
    have b6 := below_of_grown hg6 (Nat.le_refl w.heap.size) hA5.cur.lt
    exact ((((b1.trans b2).trans b3).trans b4).trans b5).trans b6
  · have zo : (beV xs 4 (teS xs 4 (numS xs (st0 xs))) == 0) = false := by simpa using ho
    clear ho
    refine ⟨t ++ strOfNums (teL xs 4 (numS xs (st0 xs))), by omega, fun w v h => ?_⟩
    clear hl hsz
    obtain ⟨_, _, a, cap, hv, _⟩ := id h
    subst hv
    go_enter Tryd.func17, Tryd.ntmps17
    go_wp2_with fail
    refine (new_at xs _ _ h).mono ?_
    rintro e w1 ⟨rfl, hA1, hg1⟩
    go_wp2_with fail
    refine (num_at xs _ _ _ _ hA1).mono ?_
    rintro e w2 ⟨rfl, hA2, hg2⟩
    go_wp2_with fail
    refine (HV.out _).mono ?_
    rintro e w3 ⟨rfl, hb3⟩
    have hA3 := hA2.keep hb3 hA2.cur.lt hA2.under
    go_wp2_with fail
    refine (text_at xs 4 _ _ _ _ hA3 (by omega) (by omega)).mono ?_
    rintro e w4 ⟨rfl, hA4, hg4⟩
    go_wp2_with fail
    refine (once_at xs 4 _ _ _ _ hA4 (by omega)).mono ?_
    rintro e w5 ⟨rfl, hA5, hg5⟩
    go_wp2
    go_ret
    refine ⟨rfl, ?_⟩
    have b1 : Below w.heap.size w w1 := (Below.refl _ _).grown hg1 (Nat.le_refl _) (fun k hk => by cases hk)
    have b2 := below_of_grown hg2 (Nat.le_refl w.heap.size) hA1.cur.lt
    have b3 := hb3.mono (show w.heap.size ≤ w2.heap.size from Nat.le_trans b1.size b2.size)
    have b4 := below_of_grown hg4 (Nat.le_refl w.heap.size) hA3.cur.lt
    have b5 := below_of_grown hg5 (Nat.le_refl w.heap.size) hA4.cur.lt
    exact (((b1.trans b2).trans b3).trans b4).trans b5
end Go.Proofs.YtnaimoppljjcdaaDoor
