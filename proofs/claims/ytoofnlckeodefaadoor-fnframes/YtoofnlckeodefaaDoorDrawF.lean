/- What the law FnFrames draws. -/
import Derived.Test.YtoofnlckeodefaaDoorDrBase
import Derived.Test.YtoofnlckeodefaaDoorRowArg
import Derived.Test.YtoofnlckeodefaaDoorFrameC
namespace Go.Proofs.YtoofnlckeodefaaDoor
open Go.RowKit Go.PlainAid
set_option linter.unusedVariables false

theorem frame_small (t : ByteArray) (h : (t.size : Int) ≤ 8) : (frameS t).size ≤ 19 := by
  rw [frameS_size t (by omega)]
  have := showT_size t
  omega

set_option maxRecDepth 100000 in
set_option maxHeartbeats 2000000 in
theorem draw_unframe (xs : List Int) (w : World) (v : Value) (hC : Code w v xs) :
    Calls Tryd.prog 7 #[v] w fun e w' => (∃ t : ByteArray, e = .returned (.string t) ∧ t.size ≤ 2003) ∧ Below w.heap.size w w' := by
  have HC := Lib.hid hC
  clear hC
  go_enter Tryd.func7, Tryd.ntmps7
  go_wp2_with fail
  refine (new_at xs _ v HC.out).mono ?_
  rintro e w1 ⟨rfl, hat, hg⟩
  have hd := dr_new hat
  have hs0 := hg.size
  have HW1 := Lib.hid ((Below.refl w.heap.size w).grown hg (Nat.le_refl _) (fun k hk => by cases hk))
  clear hat hg HC
  obtain ⟨g, hgx⟩ : ∃ g, g = w.heap.size := ⟨_, rfl⟩
  rw [← hgx] at hd
  have HX := Lib.hid hgx
  have HD1 := Lib.hid hd
  clear hgx hd
  obtain ⟨B, hB⟩ : ∃ B, B = w1.heap.size := ⟨_, rfl⟩
  rw [← hB] at HD1
  have hBw : w.heap.size ≤ B := by omega
  go_wp2_with fail
  rw [← HX.out]
  refine (dr_below B g 6 _ HD1.out (by decide) (by decide)).mono ?_
  rintro e w2 ⟨⟨n, rfl, n0, n1⟩, hd, hg⟩
  have hs1 := hg.size
  have HD2 := Lib.hid hd
  have HW2 := Lib.hid (HW1.out.grown hg (by omega) (fun k hk => by cases hk; have := HX.out; omega))
  clear hd hg HD1 HW1
  obtain ⟨m0, rfl⟩ := Int.eq_ofNat_of_zero_le n0
  go_wp2
  go_loopw [4, 5] (fun s n wr => ∃ (t : ByteArray) (m : Nat), m ≤ 5 ∧ s = .string t ∧ n = .int .i64 m ∧ t.size + 19 * m ≤ 95 ∧ Dr B wr g ∧ Below w.heap.size w wr ∧ B ≤ wr.heap.size) (fun _ n _ => (intOf n).toNat)
  case atStart => exact ⟨⟨#[]⟩, m0, by omega, rfl, rfl, by have e : (⟨#[]⟩ : ByteArray).size = 0 := rfl; omega, HD2.out, HW2.out, by omega⟩
  case round =>
    clear HD2 HW2 hs0 hs1 n0 n1 hB
    obtain ⟨t, m, hm, rfl, rfl, htz, hd, hw, hge⟩ := hrel
    have HD := Lib.hid hd
    have HW := Lib.hid hw
    clear hd hw
    by_cases h0 : m = 0
    · subst h0
      go_wp2_with fail
      refine (dr_below B g 5 _ HD.out (by decide) (by decide)).mono ?_
      rintro e w3 ⟨⟨x, rfl, x0, x1⟩, hd, hg⟩
      have hs2 := hg.size
      have HD3 := Lib.hid hd
      have HW3 := Lib.hid (HW.out.grown hg (by omega) (fun k hk => by cases hk; have := HX.out; omega))
      clear hd hg HD HW
      have hx : x = 0 ∨ x = 1 ∨ x = 2 ∨ (x ≠ 0 ∧ x ≠ 1 ∧ x ≠ 2) := by omega
      clear x0 x1
      rcases hx with rfl | rfl | rfl | ⟨x0, x1, x2⟩
      · go_wp2_with fail
        refine (dr_spoil B g t _ HD3.out (by omega)).mono ?_
        rintro e w4 ⟨⟨r, rfl, hr⟩, hd, hg⟩
        have HW4 := Lib.hid (HW3.out.grown hg (by omega) (fun k hk => by cases hk; have := HX.out; omega))
        clear hd hg HW3
        go_wp2
        go_ret
        exact ⟨⟨r, rfl, hr⟩, HW4.out⟩
      · go_wp2_with fail
        refine (dr_textN B g 9 _ HD3.out (by decide) (by decide)).mono ?_
        rintro e w4 ⟨⟨r, rfl, hr⟩, hd, hg⟩
        have HW4 := Lib.hid (HW3.out.grown hg (by omega) (fun k hk => by cases hk; have := HX.out; omega))
        have a1 := fun W => run_string_add_sum (P := Tryd.prog) (w := W) t r (by omega)
        clear hd hg HW3
        go_wp2
        go_ret
        exact ⟨⟨t ++ r, rfl, by rw [ByteArray.size_append]; omega⟩, HW4.out⟩
      · have hzw : IntKind.i64.wrap ((t.size : Int) + 1) = (t.size : Int) + 1 := IntWalk.i64_in _ (by omega)
        go_wp2_with fail
        refine (dr_below B g ((t.size : Int) + 1) _ HD3.out (by omega) (by omega)).mono ?_
        rintro e w4 ⟨⟨y, rfl, y0, y1⟩, hd, hg⟩
        have HW4 := Lib.hid (HW3.out.grown hg (by omega) (fun k hk => by cases hk; have := HX.out; omega))
        clear hd hg HW3
        obtain ⟨y, rfl⟩ := Int.eq_ofNat_of_zero_le y0
        have hy : (y : Int) ≤ (t.size : Int) := by omega
        go_wp2
        go_ret
        exact ⟨⟨_, rfl, by rw [ByteArray.size_extract]; omega⟩, HW4.out⟩
      · have e0 := beq_no x0
        have e1 := beq_no x1
        have e2 := beq_no x2
        clear x0 x1 x2
        go_wp2
        go_ret
        exact ⟨⟨t, rfl, by omega⟩, HW3.out⟩
    · have hm1 : (0 : Int) < (m : Int) := by omega
      go_wp2_with fail
      refine (dr_textN B g 8 _ HD.out (by decide) (by decide)).mono ?_
      rintro e w3 ⟨⟨r, rfl, hr⟩, hd, hg⟩
      have hs2 := hg.size
      have HD3 := Lib.hid hd
      have HW3 := Lib.hid (HW.out.grown hg (by omega) (fun k hk => by cases hk; have := HX.out; omega))
      clear hd hg HD HW
      go_wp2_with fail
      refine (spec_frame r _ (by omega)).mono ?_
      rintro e w4 ⟨rfl, hb⟩
      have hs3 := hb.size
      have HD4 := Lib.hid (HD3.out.keep (hb.mono (by omega)))
      have HW4 := Lib.hid (HW3.out.trans (hb.mono (by omega)))
      have hf := frame_small r hr
      clear hb HD3 HW3
      generalize frameS r = f at *
      have a1 := fun W => run_string_add_sum (P := Tryd.prog) (w := W) t f (by omega)
      go_wp2
      go_roundw
      case rel => exact ⟨t ++ f, m - 1, by omega, rfl, by go_num, by rw [ByteArray.size_append]; omega, HD4.out, HW4.out, by omega⟩
      case measure => simp only [intOf]; omega
end Go.Proofs.YtoofnlckeodefaaDoor
