/- The law FnExactShowCmd, walked: it returns true at every argument. -/
import Derived.Test.YtmdacoppkjclmaaDoorShowI
import Derived.Test.YtmdacoppkjclmaaDoorShowS
namespace Go.Proofs.YtmdacoppkjclmaaDoor
open Go.RowKit Go.PlainAid
set_option linter.unusedVariables false

set_option maxRecDepth 100000 in
set_option maxHeartbeats 4000000 in
theorem law_show (c : CmdM) (v : Value) (a : Addr) (w : World) (hv : Strs w v c.ch) (hS : Sent w a) (cs : c.set.size ≤ 9223372036854775807) (cn : c.name.size ≤ 9223372036854775807) (ct : c.tag.size ≤ 9223372036854775807) :
    Calls Tryd.prog 6 #[.agg #[.int .i64 c.kind, .int .i64 c.client, .int .i64 c.no, .string c.set, .string c.name, .string c.tag, .int .i64 c.n, v]] w fun e w' => e = .returned (.bool true) ∧ Below w.heap.size w w' := by
  have HV := Lib.hid hv
  have HS := Lib.hid hS
  clear hv hS
  go_enter Tryd.func6, Tryd.ntmps6
  go_wp2_with fail
  refine (sz_cmd c v 1048576 _ (HV.out.alloc _) (by decide) (by decide) cs cn ct).mono ?_
  rintro e w1 ⟨(rfl | ⟨r, rfl, r0, r1, r2⟩), hb⟩
  · go_wp2
    go_ret
    exact ⟨rfl, ((Aft.refl w).alloc _).after hb⟩
  have hc : c.ch.length ≤ 1048576 := by omega
  have HA := Lib.hid ((Has.new w 36 c v _ rfl HV.out).after hb)
  have HW := Lib.hid (((Aft.refl w).alloc _).after hb)
  have S1 := Lib.hid ((HS.out.alloc _).later hb)
  clear hb HV HS r1 r2
  obtain ⟨b0, b1, b2, b3, b4, b5, b6, b7⟩ := HA.out.cells
  go_wp2_with fail
  clear b0 b1 b2 b3 b4 b5 b6 b7
  refine (to_cmd c v _ HA.out.2 hc).mono ?_
  rintro e w2 ⟨⟨a1, n1, p1, rfl, hs1⟩, hb⟩
  have HX := Lib.hid hs1
  have HA2 := Lib.hid (HA.out.after hb)
  have HW2 := Lib.hid (HW.out.after hb)
  have S2 := Lib.hid (S1.out.later hb)
  clear hb hs1 HA HW S1
  go_wp2_with fail
  refine (spec_show c _ _ HX.out cs cn ct).mono ?_
  rintro e w3 ⟨rfl, hb⟩
  have HA3 := Lib.hid (HA2.out.after hb)
  have HW3 := Lib.hid (HW2.out.after hb)
  have S3 := Lib.hid (S2.out.later hb)
  clear hb HA2 HW2 S2 HX
  obtain ⟨b0, b1, b2, b3, b4, b5, b6, b7⟩ := HA3.out.cells
  go_wp2_with fail
  clear b0 b1 b2 b3 b4 b5 b6 b7
  refine (to_cmd c v _ HA3.out.2 hc).mono ?_
  rintro e w4 ⟨⟨a2, n2, p2, rfl, hs2⟩, hb⟩
  have HX := Lib.hid (Has.new w4 26 c (.slice a2 n2 p2) _ rfl hs2)
  have HA4 := Lib.hid ((HA3.out.after hb).alloc (.cells #[.int .i64 c.kind, .int .i64 c.client, .int .i64 c.no, .string c.set, .string c.name, .string c.tag, .int .i64 c.n, .slice a2 n2 p2] 26))
  have HW4 := Lib.hid ((HW3.out.after hb).alloc (.cells #[.int .i64 c.kind, .int .i64 c.client, .int .i64 c.no, .string c.set, .string c.name, .string c.tag, .int .i64 c.n, .slice a2 n2 p2] 26))
  have S4 := Lib.hid ((S3.out.later hb).alloc (.cells #[.int .i64 c.kind, .int .i64 c.client, .int .i64 c.no, .string c.set, .string c.name, .string c.tag, .int .i64 c.n, .slice a2 n2 p2] 26))
  clear hb hs2 HA3 HW3 S3
  go_wp2_with fail
  refine (impl_show c _ a _ HX.out.2 S4.out cs cn ct).mono ?_
  rintro e w5 ⟨rfl, hb⟩
  have KX := Lib.hid (HX.out.after hb).drew
  have KA := Lib.hid (HA4.out.after hb).drew
  have KW := Lib.hid (HW4.out.after hb).drew
  clear hb HX HA4 HW4 S4
  go_wp2_with fail
  go_region_held3 (fun w' => (w'.cell? ⟨w4.heap.size, 0, none⟩ = some (.int .i64 c.kind) ∧ w'.cell? ⟨w4.heap.size, 1, none⟩ = some (.int .i64 c.client) ∧ w'.cell? ⟨w4.heap.size, 2, none⟩ = some (.int .i64 c.no) ∧ w'.cell? ⟨w4.heap.size, 3, none⟩ = some (.string c.set) ∧ w'.cell? ⟨w4.heap.size, 4, none⟩ = some (.string c.name) ∧ w'.cell? ⟨w4.heap.size, 5, none⟩ = some (.string c.tag) ∧ w'.cell? ⟨w4.heap.size, 6, none⟩ = some (.int .i64 c.n) ∧ w'.cell? ⟨w4.heap.size, 7, none⟩ = some ((.slice a2 n2 p2))) ∧ w'.cell? ⟨w.heap.size, 0, none⟩ = some (.int .i64 c.kind) ∧ w'.cell? ⟨w.heap.size, 1, none⟩ = some (.int .i64 c.client) ∧ w'.cell? ⟨w.heap.size, 2, none⟩ = some (.int .i64 c.no) ∧ w'.cell? ⟨w.heap.size, 3, none⟩ = some (.string c.set) ∧ w'.cell? ⟨w.heap.size, 4, none⟩ = some (.string c.name) ∧ w'.cell? ⟨w.heap.size, 5, none⟩ = some (.string c.tag) ∧ w'.cell? ⟨w.heap.size, 6, none⟩ = some (.int .i64 c.n) ∧ w'.cell? ⟨w.heap.size, 7, none⟩ = some (v))
    (exact Has.cells2 KX.out KA.out)
    (first
      | (go_at_call 22; refine (to_cmd c v _ KA.out.2 hc).mono ?_; rintro e w6 ⟨⟨a3, n3, p3, rfl, hs3⟩, hb⟩; have HS3 := Lib.hid hs3; have NX := Lib.hid (KX.out.after hb); have NA := Lib.hid (KA.out.after hb); have NW := Lib.hid (KW.out.after hb); clear hb hs3 KX KA KW; rename Hid (Has w6 _ _ c (.slice a2 n2 p2)) => KX; rename Hid (Has w6 _ _ c v) => KA; rename Hid (Aft w w6) => KW)
      | (go_at_call 23; refine (eq_cmd c c _ _ _ KX.out.2 HS3.out).mono ?_; rintro e w7 ⟨rfl, hb⟩; have NX := Lib.hid (KX.out.after hb); have NA := Lib.hid (KA.out.after hb); have NW := Lib.hid (KW.out.after hb); clear hb KX KA KW; rename Hid (Has w7 _ _ c (.slice a2 n2 p2)) => KX; rename Hid (Has w7 _ _ c v) => KA; rename Hid (Aft w w7) => KW))
  have hcc : decide (c = c) = true := by simp
  go_wp2
  go_ret
  exact ⟨rfl, KW.out⟩
end Go.Proofs.YtmdacoppkjclmaaDoor
