/- When two commands conflict: the program's walk and the model's. -/
import Derived.Test.YthihihphbcaieaaDoorOkC
import Derived.Test.YthihihphbcaieaaDoorOkS
namespace Go.Proofs.YthihihphbcaieaaDoor
open Go.RowKit Go.PlainAid
set_option linter.unusedVariables false

/-- Two commands conflict. -/
@[irreducible] def clashB (c d : CmdM) : Bool := okB c && (okB d && (!(c.kind == 0) && (!(d.kind == 0) && ((c.kind == 7) || ((d.kind == 7) || decide (c.set = d.set))))))
set_option maxRecDepth 100000 in
set_option maxHeartbeats 2000000 in
theorem impl_clash (c d : CmdM) (v u : Value) (a : Addr) (w : World) (hv : Strs w v c.ch) (hu : Strs w u d.ch) (hS : Sent w a) (cs : c.set.size ≤ 9223372036854775807) (cn : c.name.size ≤ 9223372036854775807) (ct : c.tag.size ≤ 9223372036854775807) (ds : d.set.size ≤ 9223372036854775807) (dn : d.name.size ≤ 9223372036854775807) (dt : d.tag.size ≤ 9223372036854775807) :
    Calls Tryd.prog 84 #[.agg #[.int .i64 c.kind, .int .i64 c.client, .int .i64 c.no, .string c.set, .string c.name, .string c.tag, .int .i64 c.n, v], .agg #[.int .i64 d.kind, .int .i64 d.client, .int .i64 d.no, .string d.set, .string d.name, .string d.tag, .int .i64 d.n, u]] w fun e w' => e = .returned (.bool (clashB c d)) ∧ Below w.heap.size w w' := by
  have HV := Lib.hid hv
  have HU := Lib.hid hu
  have HS := Lib.hid hS
  clear hS
  clear hv hu
  go_enter Tryd.func84, Tryd.ntmps84
  go_wp2_with fail
  refine (cmd_ok c v a _ ((HV.out.alloc _).alloc _) ((HS.out.alloc _).alloc _) cs cn ct).mono ?_
  rintro e w1 ⟨rfl, hb⟩
  have HA := Lib.hid (((Has.new w 43 c v _ rfl HV.out).alloc _).after hb)
  have HB := Lib.hid ((Has.new _ 43 d u (w.heap.size + 1) (by simp) (HU.out.alloc _)).after hb)
  have HW := Lib.hid ((((Aft.refl w).alloc _).alloc _).after hb)
  have S1 := Lib.hid (((HS.out.alloc _).alloc _).later hb)
  clear hb HV HU HS
  cases o1 : okB c
  · have HF := Lib.hid (show clashB c d = false by unfold clashB; simp [o1])
    go_wp2
    go_ret
    exact ⟨by rw [HF.out]; rfl, HW.out⟩
  obtain ⟨b0, b1, b2, b3, b4, b5, b6, b7⟩ := HB.out.cells
  go_wp2_with fail
  clear b0 b1 b2 b3 b4 b5 b6 b7
  refine (cmd_ok d u a _ HB.out.2 S1.out ds dn dt).mono ?_
  rintro e w2 ⟨rfl, hb⟩
  have KA := Lib.hid (HA.out.after hb)
  have KB := Lib.hid (HB.out.after hb)
  have KW := Lib.hid (HW.out.after hb)
  clear hb HA HB HW S1
  cases o2 : okB d
  · have HF := Lib.hid (show clashB c d = false by unfold clashB; simp [o2])
    go_wp2
    go_ret
    exact ⟨by rw [HF.out]; rfl, KW.out⟩
  obtain ⟨b0, b1, b2, b3, b4, b5, b6, b7⟩ := KA.out.cells
  obtain ⟨d0, d1, d2, d3, d4, d5, d6, d7⟩ := KB.out.cells
  clear b1 b2 b4 b5 b6 b7 d1 d2 d4 d5 d6 d7
  cases k1 : (c.kind == 0)
  case true =>
    have HF := Lib.hid (show clashB c d = false by unfold clashB; simp [k1])
    go_wp2
    go_ret
    exact ⟨by rw [HF.out]; rfl, KW.out⟩
  cases k2 : (d.kind == 0)
  case true =>
    have HF := Lib.hid (show clashB c d = false by unfold clashB; simp [k2])
    go_wp2
    go_ret
    exact ⟨by rw [HF.out]; rfl, KW.out⟩
  cases k3 : (c.kind == 7)
  case true =>
    have HF := Lib.hid (show clashB c d = true by unfold clashB; simp [o1, o2, k1, k2, k3])
    go_wp2
    go_ret
    exact ⟨by rw [HF.out]; rfl, KW.out⟩
  cases k4 : (d.kind == 7)
  case true =>
    have HF := Lib.hid (show clashB c d = true by unfold clashB; simp [o1, o2, k1, k2, k4])
    go_wp2
    go_ret
    exact ⟨by rw [HF.out]; rfl, KW.out⟩
  by_cases hq : c.set = d.set
  · have HF := Lib.hid (show clashB c d = true by unfold clashB; simp [o1, o2, k1, k2, hq])
    have hb : (c.set.toList == d.set.toList) = true := by rw [hq]; simp
    clear hq
    go_wp2
    go_ret
    exact ⟨by rw [HF.out]; first | rfl | simp [hb], KW.out⟩
  · have HF := Lib.hid (show clashB c d = false by unfold clashB; simp [k3, k4, hq])
    have hb := ne_list hq
    clear hq
    go_wp2
    go_ret
    exact ⟨by rw [HF.out]; first | rfl | simp [hb], KW.out⟩
set_option maxRecDepth 100000 in
set_option maxHeartbeats 2000000 in
theorem spec_clash (c d : CmdM) (v u : Value) (w : World) (hv : Strs w v c.ch) (hu : Strs w u d.ch) (cs : c.set.size ≤ 9223372036854775807) (cn : c.name.size ≤ 9223372036854775807) (ct : c.tag.size ≤ 9223372036854775807) (ds : d.set.size ≤ 9223372036854775807) (dn : d.name.size ≤ 9223372036854775807) (dt : d.tag.size ≤ 9223372036854775807) :
    Calls Tryd.prog 25 #[.agg #[.int .i64 c.kind, .int .i64 c.client, .int .i64 c.no, .string c.set, .string c.name, .string c.tag, .int .i64 c.n, v], .agg #[.int .i64 d.kind, .int .i64 d.client, .int .i64 d.no, .string d.set, .string d.name, .string d.tag, .int .i64 d.n, u]] w fun e w' => e = .returned (.bool (clashB c d)) ∧ Below w.heap.size w w' := by
  have HV := Lib.hid hv
  have HU := Lib.hid hu
  clear hv hu
  go_enter Tryd.func25, Tryd.ntmps25
  go_wp2_with fail
  refine (spec_ok c v _ ((HV.out.alloc _).alloc _) cs cn ct).mono ?_
  rintro e w1 ⟨rfl, hb⟩
  have HA := Lib.hid (((Has.new w 43 c v _ rfl HV.out).alloc _).after hb)
  have HB := Lib.hid ((Has.new _ 43 d u (w.heap.size + 1) (by simp) (HU.out.alloc _)).after hb)
  have HW := Lib.hid ((((Aft.refl w).alloc _).alloc _).after hb)
  clear hb HV HU
  cases o1 : okB c
  · have HF := Lib.hid (show clashB c d = false by unfold clashB; simp [o1])
    go_wp2
    go_ret
    exact ⟨by rw [HF.out]; rfl, HW.out⟩
  obtain ⟨b0, b1, b2, b3, b4, b5, b6, b7⟩ := HB.out.cells
  go_wp2_with fail
  clear b0 b1 b2 b3 b4 b5 b6 b7
  refine (spec_ok d u _ HB.out.2 ds dn dt).mono ?_
  rintro e w2 ⟨rfl, hb⟩
  have KA := Lib.hid (HA.out.after hb)
  have KB := Lib.hid (HB.out.after hb)
  have KW := Lib.hid (HW.out.after hb)
  clear hb HA HB HW
  cases o2 : okB d
  · have HF := Lib.hid (show clashB c d = false by unfold clashB; simp [o2])
    go_wp2
    go_ret
    exact ⟨by rw [HF.out]; rfl, KW.out⟩
  obtain ⟨b0, b1, b2, b3, b4, b5, b6, b7⟩ := KA.out.cells
  obtain ⟨d0, d1, d2, d3, d4, d5, d6, d7⟩ := KB.out.cells
  clear b1 b2 b4 b5 b6 b7 d1 d2 d4 d5 d6 d7
  cases k1 : (c.kind == 0)
  case true =>
    have HF := Lib.hid (show clashB c d = false by unfold clashB; simp [k1])
    go_wp2
    go_ret
    exact ⟨by rw [HF.out]; rfl, KW.out⟩
  cases k2 : (d.kind == 0)
  case true =>
    have HF := Lib.hid (show clashB c d = false by unfold clashB; simp [k2])
    go_wp2
    go_ret
    exact ⟨by rw [HF.out]; rfl, KW.out⟩
  cases k3 : (c.kind == 7)
  case true =>
    have HF := Lib.hid (show clashB c d = true by unfold clashB; simp [o1, o2, k1, k2, k3])
    go_wp2
    go_ret
    exact ⟨by rw [HF.out]; rfl, KW.out⟩
  cases k4 : (d.kind == 7)
  case true =>
    have HF := Lib.hid (show clashB c d = true by unfold clashB; simp [o1, o2, k1, k2, k4])
    go_wp2
    go_ret
    exact ⟨by rw [HF.out]; rfl, KW.out⟩
  by_cases hq : c.set = d.set
  · have HF := Lib.hid (show clashB c d = true by unfold clashB; simp [o1, o2, k1, k2, hq])
    have hb : (c.set.toList == d.set.toList) = true := by rw [hq]; simp
    clear hq
    go_wp2
    go_ret
    exact ⟨by rw [HF.out]; first | rfl | simp [hb], KW.out⟩
  · have HF := Lib.hid (show clashB c d = false by unfold clashB; simp [k3, k4, hq])
    have hb := ne_list hq
    clear hq
    go_wp2
    go_ret
    exact ⟨by rw [HF.out]; first | rfl | simp [hb], KW.out⟩
end Go.Proofs.YthihihphbcaieaaDoor
