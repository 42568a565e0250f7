/- The law over IdsOk and its model: it returns true. -/
import Derived.Test.YthihihphbcaieaaIdL
import Derived.Test.YthihihphbcaieaaIdTo
namespace Go.Proofs.Ythihihphbcaieaa
open Go.RowKit Go.PlainAid
set_option linter.unusedVariables false

set_option maxRecDepth 100000 in
set_option maxHeartbeats 2000000 in
theorem law_idsOk (v : Value) (l : List Ii) (w : World) (hv : Ids w v l) :
    Calls Try.prog 3 #[v] w fun e w' => e = .returned (.bool true) ∧ Below w.heap.size w w' := by
  obtain ⟨a, k0, cap, hve⟩ := hv.form
  subst hve
  have V := Lib.hid hv
  clear hv
  by_cases hbig : (1048576 : Int) < (l.length : Int)
  · go_enter Try.func3, Try.ntmps3
    go_wp2_with fail
    refine (sz_idL_no _ l _ _ V.out hbig (by omega) (by omega)).mono ?_
    rintro e w1 ⟨rfl, b1⟩
    have A1 := Lib.hid b1
    clear b1
    go_wp2
    go_ret
    exact ⟨rfl, A1.out⟩
  have R1 := Lib.hid (show l.length ≤ 1048576 by omega)
  go_enter Try.func3, Try.ntmps3
  go_wp2_with fail
  refine (sz_idL_yes _ l _ _ V.out (by omega) (by omega)).mono ?_
  rintro e w1 ⟨rfl, b1⟩
  have A1 := Lib.hid (show Af w w1 from b1)
  have V1 := Lib.hid (V.out.later b1)
  obtain ⟨r, hr⟩ : ∃ r : Int, 1048576 - (l.length : Int) = r := ⟨_, rfl⟩
  rw [hr]
  have hd : decide (r < 0) = false := dec_f (by omega)
  clear b1 hr hbig V
  go_wp2_with fail
  clear hd
  refine (to_idL _ l _ V1.out R1.out).mono ?_
  rintro e w2 ⟨u2, rfl, o2, b2, _⟩
  have A2 := Lib.hid (A1.out.after b2)
  have V2 := Lib.hid (V1.out.later b2)
  obtain ⟨a2, k2, c2, rfl⟩ := o2.form
  have O2 := Lib.hid o2.ids
  clear b2 o2 A1 V1
  go_wp2_with fail
  refine (spec_ids _ l _ O2.out).mono ?_
  rintro e w3 ⟨rfl, b3⟩
  have A3 := Lib.hid (A2.out.after b3)
  have V3 := Lib.hid (V2.out.later b3)
  clear b3 O2 A2 V2
  go_wp2_with fail
  refine (to_idL _ l _ V3.out R1.out).mono ?_
  rintro e w4 ⟨u4, rfl, o4, b4, _⟩
  have A4 := Lib.hid (A3.out.after b4)
  have V4 := Lib.hid (V3.out.later b4)
  obtain ⟨a4, k4, c4, rfl⟩ := o4.form
  have O4 := Lib.hid o4.ids
  clear b4 o4 A3 V3
  go_wp2_with fail
  refine (impl_ids _ l _ O4.out).mono ?_
  rintro e w5 ⟨rfl, b5⟩
  have A5 := Lib.hid (A4.out.after b5)
  have V5 := Lib.hid (V4.out.later b5)
  have O5 := Lib.hid (O4.out.later b5)
  clear b5 O4 A4 V4
  go_wp2_with fail
  refine (to_idL _ l _ V5.out R1.out).mono ?_
  rintro e w6 ⟨u6, rfl, o6, b6, _⟩
  have A6 := Lib.hid (A5.out.after b6)
  have O6 := Lib.hid (O5.out.later b6)
  obtain ⟨a6, k6, c6, rfl⟩ := o6.form
  have P6 := Lib.hid o6.ids
  clear b6 o6 A5 V5 O5
  go_wp2_with fail
  refine (eq_idL_same _ _ l _ O6.out P6.out).mono ?_
  rintro e w7 ⟨rfl, b7⟩
  have A7 := Lib.hid (A6.out.after b7)
  clear b7 O6 P6 A6
  go_wp2
  go_ret
  exact ⟨rfl, A7.out⟩
end Go.Proofs.Ythihihphbcaieaa
