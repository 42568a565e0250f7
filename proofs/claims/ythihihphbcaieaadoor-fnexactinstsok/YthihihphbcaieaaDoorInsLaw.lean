/- The law over InstsOk and its model: it returns true. -/
import Derived.Test.YthihihphbcaieaaDoorInLs
import Derived.Test.YthihihphbcaieaaDoorInLi
import Derived.Test.YthihihphbcaieaaDoorInCs
namespace Go.Proofs.YthihihphbcaieaaDoor
open Go.RowKit Go.PlainAid
set_option linter.unusedVariables false

set_option maxRecDepth 100000 in
set_option maxHeartbeats 2000000 in
theorem law_instsOk (v : Value) (l : List In) (a0 : Addr) (w : World) (hv : Insts w v l) (hS : Sent w a0) :
    Calls Tryd.prog 5 #[v] w fun e w' => e = .returned (.bool true) ∧ Below w.heap.size w w' := by
  obtain ⟨a, k0, cap, hve⟩ := hv.form
  subst hve
  have V := Lib.hid hv
  have HS := Lib.hid hS
  clear hv hS
  go_enter Tryd.func5, Tryd.ntmps5
  go_wp2_with fail
  refine (sz_insts _ l _ V.out).mono ?_
  rintro e w1 ⟨(rfl | ⟨r, rfl, r0, r1, sm⟩), b1⟩
  · have A1 := Lib.hid b1
    clear b1
    go_wp2
    go_ret
    exact ⟨rfl, A1.out⟩
  have A1 := Lib.hid (show Af w w1 from b1)
  have V1 := Lib.hid (V.out.later b1)
  have R1 := Lib.hid sm
  have hd : decide (r < 0) = false := dec_f (by omega)
  clear b1 V sm
  go_wp2_with fail
  clear hd
  refine (to_insts _ l _ V1.out R1.out).mono ?_
  rintro e w2 ⟨u2, rfl, o2, b2, _⟩
  have A2 := Lib.hid (A1.out.after b2)
  have V2 := Lib.hid (V1.out.later b2)
  obtain ⟨a2, k2, c2, rfl⟩ := o2.form
  have O2 := Lib.hid o2.insts
  clear b2 o2 A1 V1
  go_wp2_with fail
  refine (spec_insts _ l _ O2.out).mono ?_
  rintro e w3 ⟨rfl, b3⟩
  have A3 := Lib.hid (A2.out.after b3)
  have V3 := Lib.hid (V2.out.later b3)
  clear b3 O2 A2 V2
  go_wp2_with fail
  refine (to_insts _ l _ V3.out R1.out).mono ?_
  rintro e w4 ⟨u4, rfl, o4, b4, _⟩
  have A4 := Lib.hid (A3.out.after b4)
  have V4 := Lib.hid (V3.out.later b4)
  obtain ⟨a4, k4, c4, rfl⟩ := o4.form
  have O4 := Lib.hid o4.insts
  clear b4 o4 A3 V3
  go_wp2_with fail
  refine (impl_insts _ l a0 _ O4.out (HS.out.later A4.out)).mono ?_
  rintro e w5 ⟨rfl, b5⟩
  have A5 := Lib.hid (A4.out.after b5)
  have V5 := Lib.hid (V4.out.later b5)
  have O5 := Lib.hid (O4.out.later b5)
  clear b5 O4 A4 V4
  go_wp2_with fail
  refine (to_insts _ l _ V5.out R1.out).mono ?_
  rintro e w6 ⟨u6, rfl, o6, b6, _⟩
  have A6 := Lib.hid (A5.out.after b6)
  have O6 := Lib.hid (O5.out.later b6)
  obtain ⟨a6, k6, c6, rfl⟩ := o6.form
  have P6 := Lib.hid o6.insts
  clear b6 o6 A5 V5 O5
  go_wp2_with fail
  refine (eq_insts_same _ _ l _ O6.out P6.out).mono ?_
  rintro e w7 ⟨rfl, b7⟩
  have A7 := Lib.hid (A6.out.after b7)
  clear b7 O6 P6 A6
  go_wp2
  go_ret
  exact ⟨rfl, A7.out⟩
end Go.Proofs.YthihihphbcaieaaDoor
