/- The law FnExactClash, walked: it returns true at every argument. -/
import Derived.Test.YtmdacoppkjclmaaDoorClash
namespace Go.Proofs.YtmdacoppkjclmaaDoor
open Go.RowKit Go.PlainAid
set_option linter.unusedVariables false

set_option maxRecDepth 100000 in
set_option maxHeartbeats 4000000 in
theorem law_clash (c d : CmdM) (v u : Value) (a : Addr) (w : World) (hv : Strs w v c.ch) (hu : Strs w u d.ch) (hS : Sent w a) (cs : c.set.size ≤ 9223372036854775807) (cn : c.name.size ≤ 9223372036854775807) (ct : c.tag.size ≤ 9223372036854775807)
    (ds : d.set.size ≤ 9223372036854775807) (dn : d.name.size ≤ 9223372036854775807) (dt : d.tag.size ≤ 9223372036854775807) :
    Calls Tryd.prog 5 #[.agg #[.int .i64 c.kind, .int .i64 c.client, .int .i64 c.no, .string c.set, .string c.name, .string c.tag, .int .i64 c.n, v], .agg #[.int .i64 d.kind, .int .i64 d.client, .int .i64 d.no, .string d.set, .string d.name, .string d.tag, .int .i64 d.n, u]] w fun e w' => e = .returned (.bool true) ∧ Below w.heap.size w w' := by
  have HSA := Lib.hid hS
  clear hS
  have HV := Lib.hid hv
  have HU := Lib.hid hu
  clear hv hu
  go_enter Tryd.func5, Tryd.ntmps5
  go_wp2_with fail
  refine (sz_cmd c v 1048576 _ ((HV.out.alloc _).alloc _) (by decide) (by decide) cs cn ct).mono ?_
  rintro e w1 ⟨(rfl | ⟨r, rfl, r0, r1, r2⟩), hb⟩
  · go_wp2
    go_ret
    exact ⟨rfl, (((Aft.refl w).alloc _).alloc _).after hb⟩
  have HA := Lib.hid (((Has.new w 36 c v _ rfl HV.out).alloc _).after hb)
  have HB := Lib.hid ((Has.new _ 36 d u (w.heap.size + 1) (by simp) (HU.out.alloc _)).after hb)
  have HW := Lib.hid ((((Aft.refl w).alloc _).alloc _).after hb)
  clear hb HV HU
  obtain ⟨b0, b1, b2, b3, b4, b5, b6, b7⟩ := HB.out.cells
  go_wp2_with fail
  clear b0 b1 b2 b3 b4 b5 b6 b7
  refine (sz_cmd d u r _ HB.out.2 (by omega) (by omega) ds dn dt).mono ?_
  rintro e w2 ⟨(rfl | ⟨r', rfl, s0, s1, s2⟩), hb⟩
  · go_wp2
    go_ret
    exact ⟨rfl, HW.out.after hb⟩
  have hc : c.ch.length ≤ 1048576 := by omega
  have hd : d.ch.length ≤ 1048576 := by omega
  clear r1 r2 s1 s2
  have HA2 := Lib.hid (HA.out.after hb)
  have HB2 := Lib.hid (HB.out.after hb)
  have HW2 := Lib.hid (HW.out.after hb)
  clear hb HA HB HW
  go_wp2_with fail
  have KA := Lib.hid HA2.out.drew
  have KB := Lib.hid HB2.out.drew
  have KW := Lib.hid HW2.out.drew
  clear HA2 HB2 HW2
  have P1 := Lib.hid True.intro
  go_region_held3 (fun w' => (w'.cell? ⟨w.heap.size, 0, none⟩ = some (.int .i64 c.kind) ∧ w'.cell? ⟨w.heap.size, 1, none⟩ = some (.int .i64 c.client) ∧ w'.cell? ⟨w.heap.size, 2, none⟩ = some (.int .i64 c.no) ∧ w'.cell? ⟨w.heap.size, 3, none⟩ = some (.string c.set) ∧ w'.cell? ⟨w.heap.size, 4, none⟩ = some (.string c.name) ∧ w'.cell? ⟨w.heap.size, 5, none⟩ = some (.string c.tag) ∧ w'.cell? ⟨w.heap.size, 6, none⟩ = some (.int .i64 c.n) ∧ w'.cell? ⟨w.heap.size, 7, none⟩ = some (v)) ∧ w'.cell? ⟨(w.heap.size + 1), 0, none⟩ = some (.int .i64 d.kind) ∧ w'.cell? ⟨(w.heap.size + 1), 1, none⟩ = some (.int .i64 d.client) ∧ w'.cell? ⟨(w.heap.size + 1), 2, none⟩ = some (.int .i64 d.no) ∧ w'.cell? ⟨(w.heap.size + 1), 3, none⟩ = some (.string d.set) ∧ w'.cell? ⟨(w.heap.size + 1), 4, none⟩ = some (.string d.name) ∧ w'.cell? ⟨(w.heap.size + 1), 5, none⟩ = some (.string d.tag) ∧ w'.cell? ⟨(w.heap.size + 1), 6, none⟩ = some (.int .i64 d.n) ∧ w'.cell? ⟨(w.heap.size + 1), 7, none⟩ = some (u))
    (exact Has.cells2 KA.out KB.out)
    (first
      | (go_at_call 22; clear P1; refine (to_cmd c v _ KA.out.2 hc).mono ?_; rintro e w3 ⟨⟨a1, n1, p1, rfl, hs1⟩, hb⟩; have HS1 := Lib.hid hs1; have NA := Lib.hid (KA.out.after hb); have NB := Lib.hid (KB.out.after hb); have NW := Lib.hid (KW.out.after hb); clear hb hs1 KA KB KW; rename Hid (Has w3 _ _ c v) => KA; rename Hid (Has w3 _ _ d u) => KB; rename Hid (Aft w w3) => KW)
      | (go_at_call 22; refine (to_cmd d u _ KB.out.2 hd).mono ?_; rintro e w4 ⟨⟨a2, n2, p2, rfl, hs2⟩, hb⟩; have HS2 := Lib.hid hs2; have NS1 := Lib.hid (HS1.out.later hb); have NA := Lib.hid (KA.out.after hb); have NB := Lib.hid (KB.out.after hb); have NW := Lib.hid (KW.out.after hb); clear hb hs2 KA KB KW HS1; rename Hid (Has w4 _ _ c v) => KA; rename Hid (Has w4 _ _ d u) => KB; rename Hid (Aft w w4) => KW)
      | (go_at_call 19; refine (spec_clash c d _ _ _ NS1.out HS2.out cs cn ct ds dn dt).mono ?_; rintro e w5 ⟨rfl, hb⟩; have NA := Lib.hid (KA.out.after hb); have NB := Lib.hid (KB.out.after hb); have NW := Lib.hid (KW.out.after hb); clear hb KA KB KW HS2 NS1; rename Hid (Has w5 _ _ c v) => KA; rename Hid (Has w5 _ _ d u) => KB; rename Hid (Aft w w5) => KW))
  obtain ⟨b0, b1, b2, b3, b4, b5, b6, b7⟩ := KA.out.cells
  go_wp2_with fail
  clear b0 b1 b2 b3 b4 b5 b6 b7
  refine (to_cmd c v _ KA.out.2 hc).mono ?_
  rintro e w6 ⟨⟨a3, n3, p3, rfl, hs3⟩, hb⟩
  have HX := Lib.hid (Has.new w6 26 c (.slice a3 n3 p3) _ rfl hs3)
  have HA := Lib.hid ((KA.out.after hb).alloc (.cells #[.int .i64 c.kind, .int .i64 c.client, .int .i64 c.no, .string c.set, .string c.name, .string c.tag, .int .i64 c.n, .slice a3 n3 p3] 26))
  have HB := Lib.hid ((KB.out.after hb).alloc (.cells #[.int .i64 c.kind, .int .i64 c.client, .int .i64 c.no, .string c.set, .string c.name, .string c.tag, .int .i64 c.n, .slice a3 n3 p3] 26))
  have HW := Lib.hid ((KW.out.after hb).alloc (.cells #[.int .i64 c.kind, .int .i64 c.client, .int .i64 c.no, .string c.set, .string c.name, .string c.tag, .int .i64 c.n, .slice a3 n3 p3] 26))
  clear hb hs3 KA KB KW
  obtain ⟨b0, b1, b2, b3, b4, b5, b6, b7⟩ := HB.out.cells
  go_wp2_with fail
  clear b0 b1 b2 b3 b4 b5 b6 b7
  refine (to_cmd d u _ HB.out.2 hd).mono ?_
  rintro e w7 ⟨⟨a4, n4, p4, rfl, hs4⟩, hb⟩
  have HY := Lib.hid (Has.new w7 26 d (.slice a4 n4 p4) _ rfl hs4)
  have JX := Lib.hid ((HX.out.after hb).alloc (.cells #[.int .i64 d.kind, .int .i64 d.client, .int .i64 d.no, .string d.set, .string d.name, .string d.tag, .int .i64 d.n, .slice a4 n4 p4] 26))
  have JA := Lib.hid ((HA.out.after hb).alloc (.cells #[.int .i64 d.kind, .int .i64 d.client, .int .i64 d.no, .string d.set, .string d.name, .string d.tag, .int .i64 d.n, .slice a4 n4 p4] 26))
  have JB := Lib.hid ((HB.out.after hb).alloc (.cells #[.int .i64 d.kind, .int .i64 d.client, .int .i64 d.no, .string d.set, .string d.name, .string d.tag, .int .i64 d.n, .slice a4 n4 p4] 26))
  have JW := Lib.hid ((HW.out.after hb).alloc (.cells #[.int .i64 d.kind, .int .i64 d.client, .int .i64 d.no, .string d.set, .string d.name, .string d.tag, .int .i64 d.n, .slice a4 n4 p4] 26))
  clear hb hs4 HX HA HB HW
  obtain ⟨b0, b1, b2, b3, b4, b5, b6, b7⟩ := JX.out.cells
  go_wp2_with fail
  clear b0 b1 b2 b3 b4 b5 b6 b7
  refine (impl_clash c d _ _ a _ JX.out.2 HY.out.2 (HSA.out.later JW.out) cs cn ct ds dn dt).mono ?_
  rintro e w8 ⟨rfl, hb⟩
  have KX := Lib.hid (JX.out.after hb).drew
  have KY := Lib.hid (HY.out.after hb)
  have KA := Lib.hid (JA.out.after hb).drew
  have KB := Lib.hid (JB.out.after hb)
  have KW := Lib.hid (JW.out.after hb).drew
  clear hb JX HY JA JB JW
  go_wp2_with fail
  go_region_held3 (fun w' => (w'.cell? ⟨w6.heap.size, 0, none⟩ = some (.int .i64 c.kind) ∧ w'.cell? ⟨w6.heap.size, 1, none⟩ = some (.int .i64 c.client) ∧ w'.cell? ⟨w6.heap.size, 2, none⟩ = some (.int .i64 c.no) ∧ w'.cell? ⟨w6.heap.size, 3, none⟩ = some (.string c.set) ∧ w'.cell? ⟨w6.heap.size, 4, none⟩ = some (.string c.name) ∧ w'.cell? ⟨w6.heap.size, 5, none⟩ = some (.string c.tag) ∧ w'.cell? ⟨w6.heap.size, 6, none⟩ = some (.int .i64 c.n) ∧ w'.cell? ⟨w6.heap.size, 7, none⟩ = some ((.slice a3 n3 p3))) ∧ w'.cell? ⟨w.heap.size, 0, none⟩ = some (.int .i64 c.kind) ∧ w'.cell? ⟨w.heap.size, 1, none⟩ = some (.int .i64 c.client) ∧ w'.cell? ⟨w.heap.size, 2, none⟩ = some (.int .i64 c.no) ∧ w'.cell? ⟨w.heap.size, 3, none⟩ = some (.string c.set) ∧ w'.cell? ⟨w.heap.size, 4, none⟩ = some (.string c.name) ∧ w'.cell? ⟨w.heap.size, 5, none⟩ = some (.string c.tag) ∧ w'.cell? ⟨w.heap.size, 6, none⟩ = some (.int .i64 c.n) ∧ w'.cell? ⟨w.heap.size, 7, none⟩ = some (v))
    (exact Has.cells2 KX.out KA.out)
    (first
      | (go_at_call 22; refine (to_cmd c v _ KA.out.2 hc).mono ?_; rintro e w9 ⟨⟨a5, n5, p5, rfl, hs5⟩, hb⟩; have HS5 := Lib.hid hs5; have NX := Lib.hid (KX.out.after hb); have NA := Lib.hid (KA.out.after hb); have NY := Lib.hid (KY.out.drew.after hb); have NB := Lib.hid (KB.out.drew.after hb); have NW := Lib.hid (KW.out.after hb); clear hb hs5 KX KY KA KB KW; rename Hid (Has w9 _ _ c (.slice a3 n3 p3)) => KX; rename Hid (Has w9 _ _ c v) => KA; rename Hid (Has w9 _ _ d (.slice a4 n4 p4)) => KY; rename Hid (Has w9 _ _ d u) => KB; rename Hid (Aft w w9) => KW)
      | (go_at_call 23; refine (eq_cmd c c _ _ _ KX.out.2 HS5.out).mono ?_; rintro e w10 ⟨rfl, hb⟩; have NX := Lib.hid (KX.out.after hb); have NA := Lib.hid (KA.out.after hb); have NY := Lib.hid (KY.out.after hb); have NB := Lib.hid (KB.out.after hb); have NW := Lib.hid (KW.out.after hb); clear hb KX KY KA KB KW; rename Hid (Has w10 _ _ c (.slice a3 n3 p3)) => KX; rename Hid (Has w10 _ _ c v) => KA; rename Hid (Has w10 _ _ d (.slice a4 n4 p4)) => KY; rename Hid (Has w10 _ _ d u) => KB; rename Hid (Aft w w10) => KW))
  have QY := Lib.hid KY.out.drew
  have QB := Lib.hid KB.out.drew
  have QW := Lib.hid KW.out.drew
  clear KX KY KA KB KW
  have hcc : decide (c = c) = true := by simp
  go_wp2_with fail
  go_region_held3 (fun w' => (w'.cell? ⟨w7.heap.size, 0, none⟩ = some (.int .i64 d.kind) ∧ w'.cell? ⟨w7.heap.size, 1, none⟩ = some (.int .i64 d.client) ∧ w'.cell? ⟨w7.heap.size, 2, none⟩ = some (.int .i64 d.no) ∧ w'.cell? ⟨w7.heap.size, 3, none⟩ = some (.string d.set) ∧ w'.cell? ⟨w7.heap.size, 4, none⟩ = some (.string d.name) ∧ w'.cell? ⟨w7.heap.size, 5, none⟩ = some (.string d.tag) ∧ w'.cell? ⟨w7.heap.size, 6, none⟩ = some (.int .i64 d.n) ∧ w'.cell? ⟨w7.heap.size, 7, none⟩ = some ((.slice a4 n4 p4))) ∧ w'.cell? ⟨(w.heap.size + 1), 0, none⟩ = some (.int .i64 d.kind) ∧ w'.cell? ⟨(w.heap.size + 1), 1, none⟩ = some (.int .i64 d.client) ∧ w'.cell? ⟨(w.heap.size + 1), 2, none⟩ = some (.int .i64 d.no) ∧ w'.cell? ⟨(w.heap.size + 1), 3, none⟩ = some (.string d.set) ∧ w'.cell? ⟨(w.heap.size + 1), 4, none⟩ = some (.string d.name) ∧ w'.cell? ⟨(w.heap.size + 1), 5, none⟩ = some (.string d.tag) ∧ w'.cell? ⟨(w.heap.size + 1), 6, none⟩ = some (.int .i64 d.n) ∧ w'.cell? ⟨(w.heap.size + 1), 7, none⟩ = some (u))
    (exact Has.cells2 QY.out QB.out)
    (first
      | (go_at_call 22; refine (to_cmd d u _ QB.out.2 hd).mono ?_; rintro e w11 ⟨⟨a6, n6, p6, rfl, hs6⟩, hb⟩; have HS6 := Lib.hid hs6; have NY := Lib.hid (QY.out.after hb); have NB := Lib.hid (QB.out.after hb); have NW := Lib.hid (QW.out.after hb); clear hb hs6 QY QB QW; rename Hid (Has w11 _ _ d (.slice a4 n4 p4)) => QY; rename Hid (Has w11 _ _ d u) => QB; rename Hid (Aft w w11) => QW)
      | (go_at_call 23; refine (eq_cmd d d _ _ _ QY.out.2 HS6.out).mono ?_; rintro e w12 ⟨rfl, hb⟩; have NY := Lib.hid (QY.out.after hb); have NB := Lib.hid (QB.out.after hb); have NW := Lib.hid (QW.out.after hb); clear hb QY QB QW; rename Hid (Has w12 _ _ d (.slice a4 n4 p4)) => QY; rename Hid (Has w12 _ _ d u) => QB; rename Hid (Aft w w12) => QW))
  have hdd : decide (d = d) = true := by simp
  go_wp2
  go_ret
  exact ⟨rfl, QW.out⟩
end Go.Proofs.YtmdacoppkjclmaaDoor
