/- The law FnNumbers, walked: it returns true at every argument. -/
import Derived.Test.YtnaimoppljjcdaaDoorNumbers
import Derived.Test.YtnaimoppljjcdaaDoorRowArg
namespace Go.Proofs.YtnaimoppljjcdaaDoor
open Go.RowKit Go.PlainAid
set_option linter.unusedVariables false

set_option maxHeartbeats 400000 in
theorem big_no (a : Option Addr) (n cap : Nat) (w : World) (h : n ≤ 1048576) : Calls Tryd.prog 6 #[.slice a n cap] w fun e w' => e = .returned (.bool false) ∧ w = w' := by
  have hd : decide ((1048576 : Int) < (n : Int)) = false := by simp; omega
  go_enter Tryd.func6, Tryd.ntmps6
  go_wp2
  go_ret
  exact ⟨rfl, rfl⟩
set_option maxHeartbeats 400000 in
theorem big_yes (a : Option Addr) (n cap : Nat) (w : World) (h : 1048576 < n) : Calls Tryd.prog 6 #[.slice a n cap] w fun e w' => e = .returned (.bool true) ∧ w = w' := by
  have hd : decide ((1048576 : Int) < (n : Int)) = true := by simp; omega
  go_enter Tryd.func6, Tryd.ntmps6
  go_wp2
  go_ret
  exact ⟨rfl, rfl⟩

set_option maxRecDepth 100000 in
set_option maxHeartbeats 2000000 in
theorem law_numbers (xs : List Int) (w : World) (v : Value) (hC : Code w v xs) (ht : Tab w) (hy : Syn w) :
    Calls Tryd.prog 3 #[v] w fun e w' => e = .returned (.bool true) ∧ Below w.heap.size w w' := by
  have rn := numV_range xs (st0 xs)
  have hl := teL_length xs 40 (st0 xs) (by omega)
  have htail : (strOfNums (teL xs 40 (st0 xs))).size ≤ 40 := by rw [strOfNums_size]; omega
  have HDV := Lib.hid (draw_var xs)
  have HDH := Lib.hid (draw_hex xs)
  obtain ⟨r, hr, hR⟩ := draw_rv xs
  have HR := Lib.hid hR
  clear hR hl
  generalize numV xs (st0 xs) = n at *
  generalize strOfNums (teL xs 40 (st0 xs)) = tail at *
  obtain ⟨tv, a, b, htv, hV1, hV2, hV⟩ := var_part n tail (by omega)
  obtain ⟨tf, c, d, htf, hF1, hF2, hF⟩ := fix_part n tail rn.1 rn.2 (by omega)
  obtain ⟨da, db, hD1, hD⟩ := dec_part n rn.1 rn.2
  obtain ⟨hH1, hH2⟩ := hex_part tail (by omega)
  obtain ⟨z, j, hz, hzj⟩ := rv_is r (by omega)
  have HV1 := Lib.hid hV1
  have HV2 := Lib.hid hV2
  have HF1 := Lib.hid hF1
  have HF2 := Lib.hid hF2
  have HD1 := Lib.hid hD1
  have HH1 := Lib.hid hH1
  have HH2 := Lib.hid hH2
  have HZ := Lib.hid hz
  have HJ := Lib.hid hzj
  have HV := Lib.hid hV
  have HF := Lib.hid hF
  have HD := Lib.hid hD
  clear hV1 hV2 hF1 hF2 hD1 hH1 hH2 hz hzj hV hF hD
  have q1 : tv.size + tail.size ≤ 9223372036854775807 := by omega
  have q2 : tf.size + tail.size ≤ 9223372036854775807 := by omega
  obtain ⟨_, hlen, ad, cap, hv, _⟩ := id hC
  subst hv
  go_enter Tryd.func3, Tryd.ntmps3
  go_wp2_with fail
  refine (big_no ad _ cap _ hlen).mono ?_
  rintro e w' ⟨rfl, rfl⟩
  go_wp2_with fail
  refine (HDV.out _ _ hC).mono ?_
  rintro e w1 ⟨rfl, hb1⟩
  have hC1 := hC.below hb1
  go_wp2_with fail
  refine (HDH.out _ _ hC1).mono ?_
  rintro e w2 ⟨rfl, hb2⟩
  have hB2 := hb1.trans (hb2.mono hb1.size)
  go_wp2_with fail
  refine (HV1.out _).mono ?_
  rintro e w3 ⟨rfl, hb3⟩
  have hB3 := hB2.trans (hb3.mono hB2.size)
  go_wp2_with fail
  refine (HV2.out _).mono ?_
  rintro e w' ⟨rfl, rfl⟩
  rcases HV.out with ⟨v0, v1, v2, v3, rfl, rfl⟩ | ⟨v0 | v0, v2, v3⟩
  all_goals
    clear HV
    go_wp2_with fail
    refine (HF1.out _).mono ?_
    rintro e w4 ⟨rfl, hb4⟩
    have hB4 := hB3.trans (hb4.mono hB3.size)
    go_wp2_with fail
    refine (HF2.out _).mono ?_
    rintro e w' ⟨rfl, rfl⟩
    rcases HF.out with ⟨f0, f1, f2, f3, rfl, rfl, f7⟩ | ⟨f0 | f0, f2, f3⟩
  all_goals try (exfalso; omega)
  all_goals
    go_wp2_with fail
    refine (impl_dec _ _ rn.1 rn.2 (ht.below hB4)).mono ?_
    rintro e w5 ⟨rfl, hb5⟩
    have hB5 := hB4.trans (hb5.mono hB4.size)
    go_wp2_with fail
    refine (HD1.out _ (ht.below hB5) (hy.below hB5)).mono ?_
    rintro e w6 ⟨rfl, hb6⟩
    have hB6 := hB5.trans (hb6.mono hB5.size)
    rcases HD.out with ⟨rfl, rfl, d0, d1⟩ | ⟨rfl, d0 | d0⟩
  all_goals try (exfalso; omega)
  all_goals
    clear HF HD HV1 HV2 HF1 HF2 HD1 HDV HDH
    go_wp2_with fail
    refine (HH1.out _).mono ?_
    rintro e w7 ⟨rfl, hb7⟩
    have hB7 := hB6.trans (hb7.mono hB6.size)
    go_wp2_with fail
    refine (HH2.out _).mono ?_
    rintro e w8 ⟨rfl, hb8⟩
    have hB8 := hB7.trans (hb8.mono hB7.size)
    go_wp2_with fail
    refine (HR.out _ _ (hC.below hB8)).mono ?_
    rintro e w9 ⟨rfl, hb9⟩
    have hB9 := hB8.trans (hb9.mono hB8.size)
    go_wp2_with fail
    refine (HZ.out _).mono ?_
    rintro e w' ⟨rfl, rfl⟩
    rcases HJ.out with rfl | ⟨k, t, rfl, hk0, hkr, hVt, hq⟩
    · go_wp2
      go_ret
      exact ⟨rfl, hB9⟩
    · have zk : ((k : Int) == 0) = false := beq_eq_false_iff_ne.2 (by omega)
      have HT := Lib.hid hVt
      clear hVt HJ HZ
      go_wp2_with fail
      refine (HT.out _).mono ?_
      rintro e w10 ⟨rfl, hb10⟩
      have hB10 := hB9.trans (hb10.mono hB9.size)
      go_wp2_with fail
      refine (HR.out _ _ (hC.below hB10)).mono ?_
      rintro e w11 ⟨rfl, hb11⟩
      have hB11 := hB10.trans (hb11.mono hB10.size)
      go_wp2
      go_ret
      exact ⟨rfl, hB11⟩

set_option maxRecDepth 100000 in
set_option maxHeartbeats 400000 in
theorem law_numbers_big (a : Option Addr) (len cap : Nat) (w : World) (h : 1048576 < len) :
    Calls Tryd.prog 3 #[.slice a len cap] w fun e w' => e = .returned (.bool true) ∧ Below w.heap.size w w' := by
  go_enter Tryd.func3, Tryd.ntmps3
  go_wp2_with (go_at_call 6; refine (big_yes a len cap _ h).mono ?_; rintro e w' ⟨rfl, rfl⟩)
  go_ret
  exact ⟨rfl, Below.refl _ _⟩
theorem law_numbers_any (a : Option Addr) (len cap : Nat) (zs : List Int) (w : World) (hr : ByteRow w a len cap zs) (ht : Tab w) (hy : Syn w) :
    Calls Tryd.prog 3 #[.slice a len cap] w fun e w' => e = .returned (.bool true) ∧ Below w.heap.size w w' := by
  by_cases h : len ≤ 1048576
  · exact law_numbers _ w _ (code_of_row w a len cap zs hr h) ht hy
  · exact law_numbers_big a len cap w (by omega)
end Go.Proofs.YtnaimoppljjcdaaDoor
