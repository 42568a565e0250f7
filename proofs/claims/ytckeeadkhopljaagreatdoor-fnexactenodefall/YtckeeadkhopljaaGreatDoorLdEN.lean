/- A bundle of texts: LdE, NdTo. -/
import Derived.Test.YtckeeadkhopljaaGreatDoorLdB
import Derived.Test.YtckeeadkhopljaaGreatDoorInE
import Derived.Test.YtckeeadkhopljaaGreatDoorNdM
/- The law's comparison of Leads and of slices of them. -/
namespace Go.Proofs.YtckeeadkhopljaaGreatDoor
open Go.RowKit Go.PlainAid
set_option linter.unusedVariables false

set_option maxRecDepth 100000 in
set_option maxHeartbeats 2000000 in
theorem eq_lead_yes (x : Ld) (d f d' f' : Value) (w : World) (h : LPts w x d f) (h' : LPts w x d' f') :
    Calls Tryz.prog 45 #[.agg #[.int .i64 x.rep, .int .i64 x.slot, .int .i64 x.bal, .int .i64 x.ph, .int .i64 x.seq, d, f, .bool x.same], .agg #[.int .i64 x.rep, .int .i64 x.slot, .int .i64 x.bal, .int .i64 x.ph, .int .i64 x.seq, d', f', .bool x.same]] w fun e w' => e = .returned (.bool true) ∧ Below w.heap.size w w' := by
  obtain ⟨⟨a1, n1, c1, rfl⟩, a2, n2, c2, rfl⟩ := h.form
  obtain ⟨⟨a3, n3, c3, rfl⟩, a4, n4, c4, rfl⟩ := h'.form
  have X := Lib.hid ((Bx.new w 70 #[.int .i64 x.rep, .int .i64 x.slot, .int .i64 x.bal, .int .i64 x.ph, .int .i64 x.seq, .slice a1 n1 c1, .slice a2 n2 c2, .bool x.same] _ rfl).alloc (.cells #[.int .i64 x.rep, .int .i64 x.slot, .int .i64 x.bal, .int .i64 x.ph, .int .i64 x.seq, .slice a3 n3 c3, .slice a4 n4 c4, .bool x.same] 70))
  have Y := Lib.hid (Bx.new (w.alloc (.cells #[.int .i64 x.rep, .int .i64 x.slot, .int .i64 x.bal, .int .i64 x.ph, .int .i64 x.seq, .slice a1 n1 c1, .slice a2 n2 c2, .bool x.same] 70)) 70 #[.int .i64 x.rep, .int .i64 x.slot, .int .i64 x.bal, .int .i64 x.ph, .int .i64 x.seq, .slice a3 n3 c3, .slice a4 n4 c4, .bool x.same] (w.heap.size + 1) (by simp))
  have P := Lib.hid ((h.alloc (.cells #[.int .i64 x.rep, .int .i64 x.slot, .int .i64 x.bal, .int .i64 x.ph, .int .i64 x.seq, .slice a1 n1 c1, .slice a2 n2 c2, .bool x.same] 70)).alloc (.cells #[.int .i64 x.rep, .int .i64 x.slot, .int .i64 x.bal, .int .i64 x.ph, .int .i64 x.seq, .slice a3 n3 c3, .slice a4 n4 c4, .bool x.same] 70))
  have Q := Lib.hid ((h'.alloc (.cells #[.int .i64 x.rep, .int .i64 x.slot, .int .i64 x.bal, .int .i64 x.ph, .int .i64 x.seq, .slice a1 n1 c1, .slice a2 n2 c2, .bool x.same] 70)).alloc (.cells #[.int .i64 x.rep, .int .i64 x.slot, .int .i64 x.bal, .int .i64 x.ph, .int .i64 x.seq, .slice a3 n3 c3, .slice a4 n4 c4, .bool x.same] 70))
  have A := Lib.hid (((Af.refl w).alloc (.cells #[.int .i64 x.rep, .int .i64 x.slot, .int .i64 x.bal, .int .i64 x.ph, .int .i64 x.seq, .slice a1 n1 c1, .slice a2 n2 c2, .bool x.same] 70)).alloc (.cells #[.int .i64 x.rep, .int .i64 x.slot, .int .i64 x.bal, .int .i64 x.ph, .int .i64 x.seq, .slice a3 n3 c3, .slice a4 n4 c4, .bool x.same] 70))
  clear h h'
  go_enter Tryz.func45, Tryz.ntmps45
  go_wp2_with fail
  refine (eq_id_yes x.rep x.slot _).mono ?_
  rintro e w1 ⟨rfl, b1⟩
  have X1 := Lib.hid (X.out.after b1)
  have Y1 := Lib.hid (Y.out.after b1)
  have P1 := Lib.hid (P.out.later b1)
  have Q1 := Lib.hid (Q.out.later b1)
  have A1 := Lib.hid (A.out.after b1)
  clear b1 X Y P Q A
  obtain ⟨x0, x1, x2, x3, x4, x5, x6, x7⟩ := X1.out.c8L
  obtain ⟨y0, y1, y2, y3, y4, y5, y6, y7⟩ := Y1.out.c8L
  go_wp2_with fail
  clear x0 x1 x2 x3 x4 x5 x6 x7 y0 y1 y2 y3 y4 y5 y6 y7
  refine (eq_idL_same _ _ x.deps _ P1.out.1 Q1.out.1).mono ?_
  rintro e w2 ⟨rfl, b2⟩
  have X2 := Lib.hid (X1.out.after b2)
  have Y2 := Lib.hid (Y1.out.after b2)
  have P2 := Lib.hid (P1.out.later b2)
  have Q2 := Lib.hid (Q1.out.later b2)
  have A2 := Lib.hid (A1.out.after b2)
  clear b2 X1 Y1 P1 Q1 A1
  obtain ⟨x0, x1, x2, x3, x4, x5, x6, x7⟩ := X2.out.c8L
  obtain ⟨y0, y1, y2, y3, y4, y5, y6, y7⟩ := Y2.out.c8L
  go_wp2_with fail
  clear x0 x1 x2 x3 x4 x5 x6 x7 y0 y1 y2 y3 y4 y5 y6 y7
  refine (eq_ns_same _ _ x.frm _ P2.out.2 Q2.out.2).mono ?_
  rintro e w3 ⟨rfl, b3⟩
  have X3 := Lib.hid (X2.out.after b3)
  have Y3 := Lib.hid (Y2.out.after b3)
  have A3 := Lib.hid (A2.out.after b3)
  clear b3 X2 Y2 P2 Q2 A2
  obtain ⟨x0, x1, x2, x3, x4, x5, x6, x7⟩ := X3.out.c8L
  obtain ⟨y0, y1, y2, y3, y4, y5, y6, y7⟩ := Y3.out.c8L
  go_wp2
  go_ret
  exact ⟨rfl, A3.out⟩
theorem l_eq_lead (x : Ld) (d f d' f' : Value) (w0 w : World) (h : LPts w0 x d f) (h' : LPts w0 x d' f') (hl : LatE w0 w) :
    Calls Tryz.prog 45 #[.agg #[.int .i64 x.rep, .int .i64 x.slot, .int .i64 x.bal, .int .i64 x.ph, .int .i64 x.seq, d, f, .bool x.same], .agg #[.int .i64 x.rep, .int .i64 x.slot, .int .i64 x.bal, .int .i64 x.ph, .int .i64 x.seq, d', f', .bool x.same]] w fun e w' => e = .returned (.bool true) ∧ LatE w0 w' :=
  (eq_lead_yes x d f d' f' w (h.later hl) (h'.later hl)).mono fun _ w' hh => ⟨hh.1, hl.trans hh.2⟩
set_option maxRecDepth 100000 in
set_option maxHeartbeats 2000000 in
theorem eq_leads_same (v v' : Value) (l : List Ld) (w : World) (hv : Leads w v l) (hu : Leads w v' l) :
    Calls Tryz.prog 20 #[v, v'] w fun e w' => e = .returned (.bool true) ∧ Below w.heap.size w w' := by
  obtain ⟨h1, a, ca, rfl, hca, ha⟩ := hv
  obtain ⟨k1, b, cb, rfl, hcb, hb⟩ := hu
  generalize hn : l.length = n at h1 ha hca k1 hb hcb
  have HA := Lib.hid ha
  have HB := Lib.hid hb
  clear hn ha hb hca hcb
  go_enter Tryz.func20, Tryz.ntmps20
  go_wp2
  go_loopw [5] (fun i wr => ∃ k : Nat, k ≤ n ∧ i = .int .i64 k ∧ Below w.heap.size w wr) (fun i _ => n - (intOf i).toNat)
  case atStart => exact ⟨0, by omega, rfl, Below.refl _ _⟩
  case round =>
    obtain ⟨k, hk, rfl, hbw⟩ := hrel
    have HBW := Lib.hid hbw
    clear hbw
    by_cases hlt : k < n
    · obtain ⟨x, o, rfl, hx, hcx⟩ := HA.out (by omega)
      obtain ⟨y, p, rfl, hy, hcy⟩ := HB.out (by omega)
      obtain ⟨u, d, cc, pp⟩ := hcx k hlt
      obtain ⟨u', d', cc', pp'⟩ := hcy k hlt
      have hxr : x < wr.heap.size := Nat.lt_of_lt_of_le hx HBW.out.size
      have hyr : y < wr.heap.size := Nat.lt_of_lt_of_le hy HBW.out.size
      have HL := Lib.hid (fun W (h : LatE wr W) => And.intro ((cc.below HBW.out hx).below h hxr) ((cc'.below HBW.out hy).below h hyr))
      have HC := Lib.hid (fun W (h : LatE wr W) => l_eq_lead (nthL l k) u d u' d' wr W (pp.later HBW.out) (pp'.later HBW.out) h)
      have y1 : (k : Int) < (n : Int) := by omega
      have y0 : (0 : Int) ≤ (k : Int) := by omega
      generalize nthL l k = q at HL HC
      clear hcx hcy cc cc' pp pp'
      go_wp2_with fail
      refine wp_region_quiet (C := LatE wr) (by kernel_rfl) (by kernel_rfl) (show LatE wr wr.drew from Below.drew (Below.refl _ _)) ?_
      dsimp only
      repeat (first | go_big_quiet_skip | (go_big_quiet_want; go_big_quiet_op; (first | go_big_quiet_on | (refine ⟨_, fun _ _ => rfl, ?_⟩; go_big_quiet_on) | (refine ⟨.agg #[.int .i64 q.rep, .int .i64 q.slot, .int .i64 q.bal, .int .i64 q.ph, .int .i64 q.seq, u, d, .bool q.same], ?_, ?_⟩; intro w' hw'; obtain ⟨⟨e0, e1, e2, e3, e4, e5, e6, e7⟩, _⟩ := HL.out w' hw'; simp [e0, e1, e2, e3, e4, e5, e6, e7, Result.andThen]; go_big_quiet_on) | (refine ⟨.agg #[.int .i64 q.rep, .int .i64 q.slot, .int .i64 q.bal, .int .i64 q.ph, .int .i64 q.seq, u', d', .bool q.same], ?_, ?_⟩; intro w' hw'; obtain ⟨_, e0, e1, e2, e3, e4, e5, e6, e7⟩ := HL.out w' hw'; simp [e0, e1, e2, e3, e4, e5, e6, e7, Result.andThen]; go_big_quiet_on) | (refine ⟨_, fun w' hw' => HC.out w' hw', ?_⟩; go_big_quiet_on))))
      refine wpQuiet_nil ?_
      intro w2 L2
      have HB2 := Lib.hid (HBW.out.trans (Below.mono L2 HBW.out.size))
      clear L2 HL HC
      go_wp2
      go_roundw
      case rel => exact ⟨k + 1, by omega, by go_num, HB2.out⟩
      case measure => simp only [intOf]; omega
    · obtain rfl : k = n := by omega
      go_wp2
      go_ret
      exact ⟨rfl, HBW.out⟩
end Go.Proofs.YtckeeadkhopljaaGreatDoor
/- The law's measure, copy and comparison of nodes. -/
namespace Go.Proofs.YtckeeadkhopljaaGreatDoor
open Go.RowKit Go.PlainAid
set_option linter.unusedVariables false

set_option maxRecDepth 100000 in
set_option maxHeartbeats 1000000 in
theorem sz_node (x : Nd) (u v : Value) (w : World) (h : NdP w x u v) :
    Calls Tryz.prog 4 #[.agg #[.int .i64 x.me, .int .i64 x.next, u, v], .int .i64 1048576] w fun e w' => (e = .returned (.int .i64 (-1)) ∨ ∃ r : Int, e = .returned (.int .i64 r) ∧ 0 ≤ r ∧ r ≤ 1048576 ∧ Sm x.insts ∧ SmL x.leads) ∧ Below w.heap.size w w' := by
  obtain ⟨⟨a1, n1, c1, rfl⟩, a2, n2, c2, rfl⟩ := h.form
  have X := Lib.hid (Bx.new w 25 #[.int .i64 x.me, .int .i64 x.next, .slice a1 n1 c1, .slice a2 n2 c2] _ rfl)
  have P := Lib.hid (h.alloc (.cells #[.int .i64 x.me, .int .i64 x.next, .slice a1 n1 c1, .slice a2 n2 c2] 25))
  have A := Lib.hid ((Af.refl w).alloc (.cells #[.int .i64 x.me, .int .i64 x.next, .slice a1 n1 c1, .slice a2 n2 c2] 25))
  clear h
  go_enter Tryz.func4, Tryz.ntmps4
  go_wp2_with fail
  refine (sz_insts _ x.insts _ P.out.1).mono ?_
  rintro e w1 ⟨(rfl | ⟨r, rfl, r0, r1, r2⟩), b1⟩
  · have A1 := Lib.hid (A.out.after b1)
    clear b1
    go_wp2
    go_ret
    exact ⟨.inl rfl, A1.out⟩
  have X1 := Lib.hid (X.out.after b1)
  have P1 := Lib.hid (P.out.later b1)
  have A1 := Lib.hid (A.out.after b1)
  have R2 := Lib.hid r2
  have hd : decide (r < 0) = false := decide_eq_false (by omega)
  clear b1 X P A r2
  obtain ⟨x0, x1, x2, x3⟩ := cells4 X1.out
  go_wp2_with fail
  clear x0 x1 x2 x3 hd
  refine (sz_leads _ x.leads r _ P1.out.2 r0 r1).mono ?_
  rintro e w2 ⟨(rfl | ⟨q, rfl, q0, q1, q2⟩), b2⟩
  · have A2 := Lib.hid (A1.out.after b2)
    clear b2
    go_wp2
    go_ret
    exact ⟨.inl rfl, A2.out⟩
  have A2 := Lib.hid (A1.out.after b2)
  have Q2 := Lib.hid q2
  have hd : decide (q < 0) = false := decide_eq_false (by omega)
  have hq : q ≤ 1048576 := by omega
  clear b2 X1 P1 A1 q2
  go_wp2
  go_ret
  exact ⟨.inr ⟨q, rfl, q0, hq, R2.out, Q2.out⟩, A2.out⟩
set_option maxRecDepth 100000 in
set_option maxHeartbeats 1000000 in
theorem to_node (x : Nd) (u v : Value) (w : World) (h : NdP w x u v) (h1 : Sm x.insts) (h2 : SmL x.leads) :
    Calls Tryz.prog 6 #[.agg #[.int .i64 x.me, .int .i64 x.next, u, v]] w fun e w' => (∃ a n c a' n' c', e = .returned (.agg #[.int .i64 x.me, .int .i64 x.next, .slice a n c, .slice a' n' c']) ∧ InOwn w' w.heap.size w'.heap.size (.slice a n c) x.insts ∧ LdOwn w' w.heap.size w'.heap.size (.slice a' n' c') x.leads) ∧ Below w.heap.size w w' := by
  obtain ⟨⟨a1, n1, c1, rfl⟩, a2, n2, c2, rfl⟩ := h.form
  have PH := Lib.hid h
  have X := Lib.hid (((Bx.new w 25 #[.int .i64 x.me, .int .i64 x.next, .slice a1 n1 c1, .slice a2 n2 c2] _ rfl).alloc (.cells #[.int .i64 0, .int .i64 0, .slice none 0 0, .slice none 0 0] 30)).alloc (.cells #[.int .i64 x.me, .int .i64 x.next, .slice none 0 0, .slice none 0 0] 30))
  have Y := Lib.hid ((Bx.new (w.alloc (.cells #[.int .i64 x.me, .int .i64 x.next, .slice a1 n1 c1, .slice a2 n2 c2] 25)) 30 #[.int .i64 0, .int .i64 0, .slice none 0 0, .slice none 0 0] (w.heap.size + 1) (by simp)).alloc (.cells #[.int .i64 x.me, .int .i64 x.next, .slice none 0 0, .slice none 0 0] 30))
  have V := Lib.hid (Bx.new ((w.alloc (.cells #[.int .i64 x.me, .int .i64 x.next, .slice a1 n1 c1, .slice a2 n2 c2] 25)).alloc (.cells #[.int .i64 0, .int .i64 0, .slice none 0 0, .slice none 0 0] 30)) 30 #[.int .i64 x.me, .int .i64 x.next, .slice none 0 0, .slice none 0 0] (w.heap.size + 1 + 1) (by simp))
  have A := Lib.hid ((((Af.refl w).alloc (.cells #[.int .i64 x.me, .int .i64 x.next, .slice a1 n1 c1, .slice a2 n2 c2] 25)).alloc (.cells #[.int .i64 0, .int .i64 0, .slice none 0 0, .slice none 0 0] 30)).alloc (.cells #[.int .i64 x.me, .int .i64 x.next, .slice none 0 0, .slice none 0 0] 30))
  clear h
  go_enter Tryz.func6, Tryz.ntmps6
  go_wp2_with fail
  refine (to_insts _ x.insts _ (PH.out.later A.out).1 h1).mono ?_
  rintro e w1 ⟨u1, rfl, o1, b1, z1⟩
  have X1 := Lib.hid (X.out.after b1)
  have Y1 := Lib.hid (Y.out.after b1)
  have V1 := Lib.hid (V.out.after b1)
  have A1 := Lib.hid (A.out.after b1)
  obtain ⟨a3, n3, c3, rfl⟩ := o1.form
  simp only [World.size_alloc] at o1 z1
  have O1 := Lib.hid o1
  clear b1 X Y V A o1
  obtain ⟨x0, x1, x2, x3⟩ := cells4 X1.out
  obtain ⟨v0, v1, v2, v3⟩ := cells4 V1.out
  obtain ⟨f0, f1, f2, f3⟩ := froz4 V1.out
  have lv := V1.out.lt
  go_wp2_with fail
  clear x0 x1 x2 x3 v0 v1 v2 v3 f0 f1 f2 f3 lv
  have A1s := Lib.hid (A1.out.set (p := ⟨w.heap.size + 1 + 1, 2, none⟩) (by simp <;> omega) (.slice a3 n3 c3))
  refine (to_leads _ x.leads _ (PH.out.later A1s.out).2 h2).mono ?_
  rintro e w2 ⟨u2, rfl, o2, b2, z2⟩
  have Y2 := Lib.hid ((Y1.out.set_other ⟨w.heap.size + 1 + 1, 2, none⟩ _ (by simp <;> omega)).after b2)
  have V2 := Lib.hid (show Bx w2 (w.heap.size + 1 + 1) 30 #[.int .i64 x.me, .int .i64 x.next, .slice a3 n3 c3, .slice none 0 0] from (V1.out.set 2 (.slice a3 n3 c3)).after b2)
  have A2 := Lib.hid (A1s.out.after b2)
  have O1b := Lib.hid ((O1.out.kept (grownBy_put w1 (w.heap.size + 1 + 1) 2 (.slice a3 n3 c3)) (fun k hk => by cases hk; omega)).later b2)
  obtain ⟨a4, n4, c4, rfl⟩ := o2.form
  simp only [World.size_setCell] at o2 z2
  have O2 := Lib.hid o2
  clear b2 X1 Y1 V1 A1 A1s O1 o2
  obtain ⟨v0, v1, v2, v3⟩ := cells4 V2.out
  obtain ⟨f0, f1, f2, f3⟩ := froz4 V2.out
  obtain ⟨y0, y1, y2, y3⟩ := cells4 Y2.out
  obtain ⟨q0, q1, q2, q3⟩ := froz4 Y2.out
  have lv := V2.out.lt
  go_wp2
  have G3 := Lib.hid (setL_grown (w.heap.size + 1 + 1) [.slice a4 n4 c4] w2 3)
  have G4 := Lib.hid (setL_grown (w.heap.size + 1) [.int .i64 x.me, .int .i64 x.next, .slice a3 n3 c3, .slice a4 n4 c4] (setL w2 (w.heap.size + 1 + 1) 3 [.slice a4 n4 c4]) 0)
  have F4 := Lib.hid (show Bx (setL (setL w2 (w.heap.size + 1 + 1) 3 [.slice a4 n4 c4]) (w.heap.size + 1) 0 [.int .i64 x.me, .int .i64 x.next, .slice a3 n3 c3, .slice a4 n4 c4]) (w.heap.size + 1) 30 #[.int .i64 x.me, .int .i64 x.next, .slice a3 n3 c3, .slice a4 n4 c4] by have := setL_heap [.int .i64 x.me, .int .i64 x.next, .slice a3 n3 c3, .slice a4 n4 c4] (setL w2 (w.heap.size + 1 + 1) 3 [.slice a4 n4 c4]) #[.int .i64 0, .int .i64 0, .slice none 0 0, .slice none 0 0] 0 (Y2.out.keep G3.out (by simp <;> omega)); rw [updL_eq [.int .i64 x.me, .int .i64 x.next, .slice a3 n3 c3, .slice a4 n4 c4] #[.int .i64 0, .int .i64 0, .slice none 0 0, .slice none 0 0] 0 (show 0 + 4 ≤ 4 by omega)] at this; exact this)
  have O3 := Lib.hid ((O1b.out.kept G3.out (fun k hk => by cases hk; omega)).kept G4.out (fun k hk => by cases hk; omega))
  have O4 := Lib.hid ((O2.out.kept G3.out (fun k hk => by cases hk; omega)).kept G4.out (fun k hk => by cases hk; omega))
  have A4 := Lib.hid ((A2.out.grow G3.out (fun k hk => by cases hk; omega)).grow G4.out (fun k hk => by cases hk; omega))
  have Z4 := Lib.hid (show (setL (setL w2 (w.heap.size + 1 + 1) 3 [.slice a4 n4 c4]) (w.heap.size + 1) 0 [.int .i64 x.me, .int .i64 x.next, .slice a3 n3 c3, .slice a4 n4 c4]).heap.size = w2.heap.size by rw [setL_size, setL_size])
  clear v0 v1 v2 v3 f0 f1 f2 f3 y0 y1 y2 y3 q0 q1 q2 q3
  exact bodyPost_ret (results_node Tryz.results6 _ _ (w.heap.size + 1) _ _ _ _ rfl (cells4 F4.out)) rfl ⟨⟨_, _, _, _, _, _, rfl, O3.out.mono (by omega) (by simp only [World.size_setCell]; omega), O4.out.mono (by omega) (by simp only [World.size_setCell]; omega)⟩, A4.out⟩
set_option maxRecDepth 100000 in
set_option maxHeartbeats 1000000 in
theorem eq_node_yes (x : Nd) (u v u' v' : Value) (w : World) (h : NdP w x u v) (h' : NdP w x u' v') :
    Calls Tryz.prog 8 #[.agg #[.int .i64 x.me, .int .i64 x.next, u, v], .agg #[.int .i64 x.me, .int .i64 x.next, u', v']] w fun e w' => e = .returned (.bool true) ∧ Below w.heap.size w w' := by
  obtain ⟨⟨a1, n1, c1, rfl⟩, a2, n2, c2, rfl⟩ := h.form
  obtain ⟨⟨a3, n3, c3, rfl⟩, a4, n4, c4, rfl⟩ := h'.form
  have X := Lib.hid ((Bx.new w 30 #[.int .i64 x.me, .int .i64 x.next, .slice a1 n1 c1, .slice a2 n2 c2] _ rfl).alloc (.cells #[.int .i64 x.me, .int .i64 x.next, .slice a3 n3 c3, .slice a4 n4 c4] 30))
  have Y := Lib.hid (Bx.new (w.alloc (.cells #[.int .i64 x.me, .int .i64 x.next, .slice a1 n1 c1, .slice a2 n2 c2] 30)) 30 #[.int .i64 x.me, .int .i64 x.next, .slice a3 n3 c3, .slice a4 n4 c4] (w.heap.size + 1) (by simp))
  have P := Lib.hid ((h.alloc (.cells #[.int .i64 x.me, .int .i64 x.next, .slice a1 n1 c1, .slice a2 n2 c2] 30)).alloc (.cells #[.int .i64 x.me, .int .i64 x.next, .slice a3 n3 c3, .slice a4 n4 c4] 30))
  have Q := Lib.hid ((h'.alloc (.cells #[.int .i64 x.me, .int .i64 x.next, .slice a1 n1 c1, .slice a2 n2 c2] 30)).alloc (.cells #[.int .i64 x.me, .int .i64 x.next, .slice a3 n3 c3, .slice a4 n4 c4] 30))
  have A := Lib.hid (((Af.refl w).alloc (.cells #[.int .i64 x.me, .int .i64 x.next, .slice a1 n1 c1, .slice a2 n2 c2] 30)).alloc (.cells #[.int .i64 x.me, .int .i64 x.next, .slice a3 n3 c3, .slice a4 n4 c4] 30))
  clear h h'
  go_enter Tryz.func8, Tryz.ntmps8
  go_wp2_with fail
  refine (eq_insts_same _ _ x.insts _ P.out.1 Q.out.1).mono ?_
  rintro e w1 ⟨rfl, b1⟩
  have X1 := Lib.hid (X.out.after b1)
  have Y1 := Lib.hid (Y.out.after b1)
  have P1 := Lib.hid (P.out.later b1)
  have Q1 := Lib.hid (Q.out.later b1)
  have A1 := Lib.hid (A.out.after b1)
  clear b1 X Y P Q A
  obtain ⟨x0, x1, x2, x3⟩ := cells4 X1.out
  obtain ⟨y0, y1, y2, y3⟩ := cells4 Y1.out
  go_wp2_with fail
  clear x0 x1 x2 x3 y0 y1 y2 y3
  refine (eq_leads_same _ _ x.leads _ P1.out.2 Q1.out.2).mono ?_
  rintro e w2 ⟨rfl, b2⟩
  have A2 := Lib.hid (A1.out.after b2)
  clear b2 X1 Y1 P1 Q1 A1
  go_wp2
  go_ret
  exact ⟨rfl, A2.out⟩
end Go.Proofs.YtckeeadkhopljaaGreatDoor
