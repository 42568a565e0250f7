/- The law's comparison of Leads and of slices of them. -/
import Derived.Test.YtdokglckfabdaaaGreatDoorLdB
import Derived.Test.YtdokglckfabdaaaGreatDoorInE
namespace Go.Proofs.YtdokglckfabdaaaGreatDoor
open Go.RowKit Go.PlainAid
set_option linter.unusedVariables false

set_option maxRecDepth 100000 in
set_option maxHeartbeats 2000000 in
theorem eq_lead_yes (x : Ld) (d f d' f' : Value) (w : World) (h : LPts w x d f) (h' : LPts w x d' f') :
    Calls Tryz.prog 94 #[.agg #[.int .i64 x.rep, .int .i64 x.slot, .int .i64 x.bal, .int .i64 x.ph, .int .i64 x.seq, d, f, .bool x.same], .agg #[.int .i64 x.rep, .int .i64 x.slot, .int .i64 x.bal, .int .i64 x.ph, .int .i64 x.seq, d', f', .bool x.same]] w fun e w' => e = .returned (.bool true) ∧ Below w.heap.size w w' := by
  obtain ⟨⟨a1, n1, c1, rfl⟩, a2, n2, c2, rfl⟩ := h.form
  obtain ⟨⟨a3, n3, c3, rfl⟩, a4, n4, c4, rfl⟩ := h'.form
  have X := Lib.hid ((Bx.new w 77 #[.int .i64 x.rep, .int .i64 x.slot, .int .i64 x.bal, .int .i64 x.ph, .int .i64 x.seq, .slice a1 n1 c1, .slice a2 n2 c2, .bool x.same] _ rfl).alloc (.cells #[.int .i64 x.rep, .int .i64 x.slot, .int .i64 x.bal, .int .i64 x.ph, .int .i64 x.seq, .slice a3 n3 c3, .slice a4 n4 c4, .bool x.same] 77))
  have Y := Lib.hid (Bx.new (w.alloc (.cells #[.int .i64 x.rep, .int .i64 x.slot, .int .i64 x.bal, .int .i64 x.ph, .int .i64 x.seq, .slice a1 n1 c1, .slice a2 n2 c2, .bool x.same] 77)) 77 #[.int .i64 x.rep, .int .i64 x.slot, .int .i64 x.bal, .int .i64 x.ph, .int .i64 x.seq, .slice a3 n3 c3, .slice a4 n4 c4, .bool x.same] (w.heap.size + 1) (by simp))
  have P := Lib.hid ((h.alloc (.cells #[.int .i64 x.rep, .int .i64 x.slot, .int .i64 x.bal, .int .i64 x.ph, .int .i64 x.seq, .slice a1 n1 c1, .slice a2 n2 c2, .bool x.same] 77)).alloc (.cells #[.int .i64 x.rep, .int .i64 x.slot, .int .i64 x.bal, .int .i64 x.ph, .int .i64 x.seq, .slice a3 n3 c3, .slice a4 n4 c4, .bool x.same] 77))
  have Q := Lib.hid ((h'.alloc (.cells #[.int .i64 x.rep, .int .i64 x.slot, .int .i64 x.bal, .int .i64 x.ph, .int .i64 x.seq, .slice a1 n1 c1, .slice a2 n2 c2, .bool x.same] 77)).alloc (.cells #[.int .i64 x.rep, .int .i64 x.slot, .int .i64 x.bal, .int .i64 x.ph, .int .i64 x.seq, .slice a3 n3 c3, .slice a4 n4 c4, .bool x.same] 77))
  have A := Lib.hid (((Af.refl w).alloc (.cells #[.int .i64 x.rep, .int .i64 x.slot, .int .i64 x.bal, .int .i64 x.ph, .int .i64 x.seq, .slice a1 n1 c1, .slice a2 n2 c2, .bool x.same] 77)).alloc (.cells #[.int .i64 x.rep, .int .i64 x.slot, .int .i64 x.bal, .int .i64 x.ph, .int .i64 x.seq, .slice a3 n3 c3, .slice a4 n4 c4, .bool x.same] 77))
  clear h h'
  go_enter Tryz.func94, Tryz.ntmps94
  go_wp2_with fail
  refine (eq_id_yes x.rep x.slot _).mono ?_
  rintro e w1 ⟨rfl, b1⟩
  have X1 := Lib.hid (X.out.after b1)
  have Y1 := Lib.hid (Y.out.after b1)
  have P1 := Lib.hid (P.out.later b1)
  have Q1 := Lib.hid (Q.out.later b1)
  have A1 := Lib.hid (A.out.after b1)
  clear b1 X Y P Q A
  obtain ⟨x0, x1, x2, x3, x4, x5, x6, x7⟩ := X1.out.c8L
  obtain ⟨y0, y1, y2, y3, y4, y5, y6, y7⟩ := Y1.out.c8L
  go_wp2_with fail
  clear x0 x1 x2 x3 x4 x5 x6 x7 y0 y1 y2 y3 y4 y5 y6 y7
  refine (eq_idL_same _ _ x.deps _ P1.out.1 Q1.out.1).mono ?_
  rintro e w2 ⟨rfl, b2⟩
  have X2 := Lib.hid (X1.out.after b2)
  have Y2 := Lib.hid (Y1.out.after b2)
  have P2 := Lib.hid (P1.out.later b2)
  have Q2 := Lib.hid (Q1.out.later b2)
  have A2 := Lib.hid (A1.out.after b2)
  clear b2 X1 Y1 P1 Q1 A1
  obtain ⟨x0, x1, x2, x3, x4, x5, x6, x7⟩ := X2.out.c8L
  obtain ⟨y0, y1, y2, y3, y4, y5, y6, y7⟩ := Y2.out.c8L
  go_wp2_with fail
  clear x0 x1 x2 x3 x4 x5 x6 x7 y0 y1 y2 y3 y4 y5 y6 y7
  refine (eq_ns_same _ _ x.frm _ P2.out.2 Q2.out.2).mono ?_
  rintro e w3 ⟨rfl, b3⟩
  have X3 := Lib.hid (X2.out.after b3)
  have Y3 := Lib.hid (Y2.out.after b3)
  have A3 := Lib.hid (A2.out.after b3)
  clear b3 X2 Y2 P2 Q2 A2
  obtain ⟨x0, x1, x2, x3, x4, x5, x6, x7⟩ := X3.out.c8L
  obtain ⟨y0, y1, y2, y3, y4, y5, y6, y7⟩ := Y3.out.c8L
  go_wp2
  go_ret
  exact ⟨rfl, A3.out⟩
theorem l_eq_lead (x : Ld) (d f d' f' : Value) (w0 w : World) (h : LPts w0 x d f) (h' : LPts w0 x d' f') (hl : LatE w0 w) :
    Calls Tryz.prog 94 #[.agg #[.int .i64 x.rep, .int .i64 x.slot, .int .i64 x.bal, .int .i64 x.ph, .int .i64 x.seq, d, f, .bool x.same], .agg #[.int .i64 x.rep, .int .i64 x.slot, .int .i64 x.bal, .int .i64 x.ph, .int .i64 x.seq, d', f', .bool x.same]] w fun e w' => e = .returned (.bool true) ∧ LatE w0 w' :=
  (eq_lead_yes x d f d' f' w (h.later hl) (h'.later hl)).mono fun _ w' hh => ⟨hh.1, hl.trans hh.2⟩
set_option maxRecDepth 100000 in
set_option maxHeartbeats 2000000 in
theorem eq_leads_same (v v' : Value) (l : List Ld) (w : World) (hv : Leads w v l) (hu : Leads w v' l) :
    Calls Tryz.prog 66 #[v, v'] w fun e w' => e = .returned (.bool true) ∧ Below w.heap.size w w' := by
  obtain ⟨h1, a, ca, rfl, hca, ha⟩ := hv
  obtain ⟨k1, b, cb, rfl, hcb, hb⟩ := hu
  generalize hn : l.length = n at h1 ha hca k1 hb hcb
  have HA := Lib.hid ha
  have HB := Lib.hid hb
  clear hn ha hb hca hcb
  go_enter Tryz.func66, Tryz.ntmps66
  go_wp2
  go_loopw [5] (fun i wr => ∃ k : Nat, k ≤ n ∧ i = .int .i64 k ∧ Below w.heap.size w wr) (fun i _ => n - (intOf i).toNat)
  case atStart => exact ⟨0, by omega, rfl, Below.refl _ _⟩
  case round =>
    obtain ⟨k, hk, rfl, hbw⟩ := hrel
    have HBW := Lib.hid hbw
    clear hbw
    by_cases hlt : k < n
    · obtain ⟨x, o, rfl, hx, hcx⟩ := HA.out (by omega)
      obtain ⟨y, p, rfl, hy, hcy⟩ := HB.out (by omega)
      obtain ⟨u, d, cc, pp⟩ := hcx k hlt
      obtain ⟨u', d', cc', pp'⟩ := hcy k hlt
      have hxr : x < wr.heap.size := Nat.lt_of_lt_of_le hx HBW.out.size
      have hyr : y < wr.heap.size := Nat.lt_of_lt_of_le hy HBW.out.size
      have HL := Lib.hid (fun W (h : LatE wr W) => And.intro ((cc.below HBW.out hx).below h hxr) ((cc'.below HBW.out hy).below h hyr))
      have HC := Lib.hid (fun W (h : LatE wr W) => l_eq_lead (nthL l k) u d u' d' wr W (pp.later HBW.out) (pp'.later HBW.out) h)
      have y1 : (k : Int) < (n : Int) := by omega
      have y0 : (0 : Int) ≤ (k : Int) := by omega
      generalize nthL l k = q at HL HC
      clear hcx hcy cc cc' pp pp'
      go_wp2_with fail
      refine wp_region_quiet (C := LatE wr) (by kernel_rfl) (by kernel_rfl) (show LatE wr wr.drew from Below.drew (Below.refl _ _)) ?_
      dsimp only
      repeat (first | go_big_quiet_skip | (go_big_quiet_want; go_big_quiet_op; (first | go_big_quiet_on | (refine ⟨_, fun _ _ => rfl, ?_⟩; go_big_quiet_on) | (refine ⟨.agg #[.int .i64 q.rep, .int .i64 q.slot, .int .i64 q.bal, .int .i64 q.ph, .int .i64 q.seq, u, d, .bool q.same], ?_, ?_⟩; intro w' hw'; obtain ⟨⟨e0, e1, e2, e3, e4, e5, e6, e7⟩, _⟩ := HL.out w' hw'; simp [e0, e1, e2, e3, e4, e5, e6, e7, Result.andThen]; go_big_quiet_on) | (refine ⟨.agg #[.int .i64 q.rep, .int .i64 q.slot, .int .i64 q.bal, .int .i64 q.ph, .int .i64 q.seq, u', d', .bool q.same], ?_, ?_⟩; intro w' hw'; obtain ⟨_, e0, e1, e2, e3, e4, e5, e6, e7⟩ := HL.out w' hw'; simp [e0, e1, e2, e3, e4, e5, e6, e7, Result.andThen]; go_big_quiet_on) | (refine ⟨_, fun w' hw' => HC.out w' hw', ?_⟩; go_big_quiet_on))))
      refine wpQuiet_nil ?_
      intro w2 L2
      have HB2 := Lib.hid (HBW.out.trans (Below.mono L2 HBW.out.size))
      clear L2 HL HC
      go_wp2
      go_roundw
      case rel => exact ⟨k + 1, by omega, by go_num, HB2.out⟩
      case measure => simp only [intOf]; omega
    · obtain rfl : k = n := by omega
      go_wp2
      go_ret
      exact ⟨rfl, HBW.out⟩
end Go.Proofs.YtdokglckfabdaaaGreatDoor
