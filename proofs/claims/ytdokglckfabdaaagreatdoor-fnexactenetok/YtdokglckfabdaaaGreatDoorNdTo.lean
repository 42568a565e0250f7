/- The law's measure, copy and comparison of nodes. -/
import Derived.Test.YtdokglckfabdaaaGreatDoorLdB
import Derived.Test.YtdokglckfabdaaaGreatDoorLdE
namespace Go.Proofs.YtdokglckfabdaaaGreatDoor
open Go.RowKit Go.PlainAid
set_option linter.unusedVariables false

set_option maxRecDepth 100000 in
set_option maxHeartbeats 1000000 in
theorem sz_node (x : Nd) (u v : Value) (w : World) (h : NdP w x u v) :
    Calls Tryz.prog 20 #[.agg #[.int .i64 x.me, .int .i64 x.next, u, v], .int .i64 1048576] w fun e w' => (e = .returned (.int .i64 (-1)) ∨ ∃ r : Int, e = .returned (.int .i64 r) ∧ 0 ≤ r ∧ r ≤ 1048576 ∧ Sm x.insts ∧ SmL x.leads) ∧ Below w.heap.size w w' := by
  obtain ⟨⟨a1, n1, c1, rfl⟩, a2, n2, c2, rfl⟩ := h.form
  have X := Lib.hid (Bx.new w 62 #[.int .i64 x.me, .int .i64 x.next, .slice a1 n1 c1, .slice a2 n2 c2] _ rfl)
  have P := Lib.hid (h.alloc (.cells #[.int .i64 x.me, .int .i64 x.next, .slice a1 n1 c1, .slice a2 n2 c2] 62))
  have A := Lib.hid ((Af.refl w).alloc (.cells #[.int .i64 x.me, .int .i64 x.next, .slice a1 n1 c1, .slice a2 n2 c2] 62))
  clear h
  go_enter Tryz.func20, Tryz.ntmps20
  go_wp2_with fail
  refine (sz_insts _ x.insts _ P.out.1).mono ?_
  rintro e w1 ⟨(rfl | ⟨r, rfl, r0, r1, r2⟩), b1⟩
  · have A1 := Lib.hid (A.out.after b1)
    clear b1
    go_wp2
    go_ret
    exact ⟨.inl rfl, A1.out⟩
  have X1 := Lib.hid (X.out.after b1)
  have P1 := Lib.hid (P.out.later b1)
  have A1 := Lib.hid (A.out.after b1)
  have R2 := Lib.hid r2
  have hd : decide (r < 0) = false := decide_eq_false (by omega)
  clear b1 X P A r2
  obtain ⟨x0, x1, x2, x3⟩ := cells4 X1.out
  go_wp2_with fail
  clear x0 x1 x2 x3 hd
  refine (sz_leads _ x.leads r _ P1.out.2 r0 r1).mono ?_
  rintro e w2 ⟨(rfl | ⟨q, rfl, q0, q1, q2⟩), b2⟩
  · have A2 := Lib.hid (A1.out.after b2)
    clear b2
    go_wp2
    go_ret
    exact ⟨.inl rfl, A2.out⟩
  have A2 := Lib.hid (A1.out.after b2)
  have Q2 := Lib.hid q2
  have hd : decide (q < 0) = false := decide_eq_false (by omega)
  have hq : q ≤ 1048576 := by omega
  clear b2 X1 P1 A1 q2
  go_wp2
  go_ret
  exact ⟨.inr ⟨q, rfl, q0, hq, R2.out, Q2.out⟩, A2.out⟩
set_option maxRecDepth 100000 in
set_option maxHeartbeats 1000000 in
theorem to_node (x : Nd) (u v : Value) (w : World) (h : NdP w x u v) (h1 : Sm x.insts) (h2 : SmL x.leads) :
    Calls Tryz.prog 32 #[.agg #[.int .i64 x.me, .int .i64 x.next, u, v]] w fun e w' => (∃ a n c a' n' c', e = .returned (.agg #[.int .i64 x.me, .int .i64 x.next, .slice a n c, .slice a' n' c']) ∧ InOwn w' w.heap.size w'.heap.size (.slice a n c) x.insts ∧ LdOwn w' w.heap.size w'.heap.size (.slice a' n' c') x.leads) ∧ Below w.heap.size w w' := by
  obtain ⟨⟨a1, n1, c1, rfl⟩, a2, n2, c2, rfl⟩ := h.form
  have PH := Lib.hid h
  have X := Lib.hid (((Bx.new w 62 #[.int .i64 x.me, .int .i64 x.next, .slice a1 n1 c1, .slice a2 n2 c2] _ rfl).alloc (.cells #[.int .i64 0, .int .i64 0, .slice none 0 0, .slice none 0 0] 41)).alloc (.cells #[.int .i64 x.me, .int .i64 x.next, .slice none 0 0, .slice none 0 0] 41))
  have Y := Lib.hid ((Bx.new (w.alloc (.cells #[.int .i64 x.me, .int .i64 x.next, .slice a1 n1 c1, .slice a2 n2 c2] 62)) 41 #[.int .i64 0, .int .i64 0, .slice none 0 0, .slice none 0 0] (w.heap.size + 1) (by simp)).alloc (.cells #[.int .i64 x.me, .int .i64 x.next, .slice none 0 0, .slice none 0 0] 41))
  have V := Lib.hid (Bx.new ((w.alloc (.cells #[.int .i64 x.me, .int .i64 x.next, .slice a1 n1 c1, .slice a2 n2 c2] 62)).alloc (.cells #[.int .i64 0, .int .i64 0, .slice none 0 0, .slice none 0 0] 41)) 41 #[.int .i64 x.me, .int .i64 x.next, .slice none 0 0, .slice none 0 0] (w.heap.size + 1 + 1) (by simp))
  have A := Lib.hid ((((Af.refl w).alloc (.cells #[.int .i64 x.me, .int .i64 x.next, .slice a1 n1 c1, .slice a2 n2 c2] 62)).alloc (.cells #[.int .i64 0, .int .i64 0, .slice none 0 0, .slice none 0 0] 41)).alloc (.cells #[.int .i64 x.me, .int .i64 x.next, .slice none 0 0, .slice none 0 0] 41))
  clear h
  go_enter Tryz.func32, Tryz.ntmps32
  go_wp2_with fail
  refine (to_insts _ x.insts _ (PH.out.later A.out).1 h1).mono ?_
  rintro e w1 ⟨u1, rfl, o1, b1, z1⟩
  have X1 := Lib.hid (X.out.after b1)
  have Y1 := Lib.hid (Y.out.after b1)
  have V1 := Lib.hid (V.out.after b1)
  have A1 := Lib.hid (A.out.after b1)
  obtain ⟨a3, n3, c3, rfl⟩ := o1.form
  simp only [World.size_alloc] at o1 z1
  have O1 := Lib.hid o1
  clear b1 X Y V A o1
  obtain ⟨x0, x1, x2, x3⟩ := cells4 X1.out
  obtain ⟨v0, v1, v2, v3⟩ := cells4 V1.out
  obtain ⟨f0, f1, f2, f3⟩ := froz4 V1.out
  have lv := V1.out.lt
  go_wp2_with fail
  clear x0 x1 x2 x3 v0 v1 v2 v3 f0 f1 f2 f3 lv
  have A1s := Lib.hid (A1.out.set (p := ⟨w.heap.size + 1 + 1, 2, none⟩) (by simp <;> omega) (.slice a3 n3 c3))
  refine (to_leads _ x.leads _ (PH.out.later A1s.out).2 h2).mono ?_
  rintro e w2 ⟨u2, rfl, o2, b2, z2⟩
  have Y2 := Lib.hid ((Y1.out.set_other ⟨w.heap.size + 1 + 1, 2, none⟩ _ (by simp <;> omega)).after b2)
  have V2 := Lib.hid (show Bx w2 (w.heap.size + 1 + 1) 41 #[.int .i64 x.me, .int .i64 x.next, .slice a3 n3 c3, .slice none 0 0] from (V1.out.set 2 (.slice a3 n3 c3)).after b2)
  have A2 := Lib.hid (A1s.out.after b2)
  have O1b := Lib.hid ((O1.out.kept (grownBy_put w1 (w.heap.size + 1 + 1) 2 (.slice a3 n3 c3)) (fun k hk => by cases hk; omega)).later b2)
  obtain ⟨a4, n4, c4, rfl⟩ := o2.form
  simp only [World.size_setCell] at o2 z2
  have O2 := Lib.hid o2
  clear b2 X1 Y1 V1 A1 A1s O1 o2
  obtain ⟨v0, v1, v2, v3⟩ := cells4 V2.out
  obtain ⟨f0, f1, f2, f3⟩ := froz4 V2.out
  obtain ⟨y0, y1, y2, y3⟩ := cells4 Y2.out
  obtain ⟨q0, q1, q2, q3⟩ := froz4 Y2.out
  have lv := V2.out.lt
  go_wp2
  have G3 := Lib.hid (setL_grown (w.heap.size + 1 + 1) [.slice a4 n4 c4] w2 3)
  have G4 := Lib.hid (setL_grown (w.heap.size + 1) [.int .i64 x.me, .int .i64 x.next, .slice a3 n3 c3, .slice a4 n4 c4] (setL w2 (w.heap.size + 1 + 1) 3 [.slice a4 n4 c4]) 0)
  have F4 := Lib.hid (show Bx (setL (setL w2 (w.heap.size + 1 + 1) 3 [.slice a4 n4 c4]) (w.heap.size + 1) 0 [.int .i64 x.me, .int .i64 x.next, .slice a3 n3 c3, .slice a4 n4 c4]) (w.heap.size + 1) 41 #[.int .i64 x.me, .int .i64 x.next, .slice a3 n3 c3, .slice a4 n4 c4] by have := setL_heap [.int .i64 x.me, .int .i64 x.next, .slice a3 n3 c3, .slice a4 n4 c4] (setL w2 (w.heap.size + 1 + 1) 3 [.slice a4 n4 c4]) #[.int .i64 0, .int .i64 0, .slice none 0 0, .slice none 0 0] 0 (Y2.out.keep G3.out (by simp <;> omega)); rw [updL_eq [.int .i64 x.me, .int .i64 x.next, .slice a3 n3 c3, .slice a4 n4 c4] #[.int .i64 0, .int .i64 0, .slice none 0 0, .slice none 0 0] 0 (show 0 + 4 ≤ 4 by omega)] at this; exact this)
  have O3 := Lib.hid ((O1b.out.kept G3.out (fun k hk => by cases hk; omega)).kept G4.out (fun k hk => by cases hk; omega))
  have O4 := Lib.hid ((O2.out.kept G3.out (fun k hk => by cases hk; omega)).kept G4.out (fun k hk => by cases hk; omega))
  have A4 := Lib.hid ((A2.out.grow G3.out (fun k hk => by cases hk; omega)).grow G4.out (fun k hk => by cases hk; omega))
  have Z4 := Lib.hid (show (setL (setL w2 (w.heap.size + 1 + 1) 3 [.slice a4 n4 c4]) (w.heap.size + 1) 0 [.int .i64 x.me, .int .i64 x.next, .slice a3 n3 c3, .slice a4 n4 c4]).heap.size = w2.heap.size by rw [setL_size, setL_size])
  clear v0 v1 v2 v3 f0 f1 f2 f3 y0 y1 y2 y3 q0 q1 q2 q3
  exact bodyPost_ret (results_node Tryz.results32 _ _ (w.heap.size + 1) _ _ _ _ rfl (cells4 F4.out)) rfl ⟨⟨_, _, _, _, _, _, rfl, O3.out.mono (by omega) (by simp only [World.size_setCell]; omega), O4.out.mono (by omega) (by simp only [World.size_setCell]; omega)⟩, A4.out⟩
set_option maxRecDepth 100000 in
set_option maxHeartbeats 1000000 in
theorem eq_node_yes (x : Nd) (u v u' v' : Value) (w : World) (h : NdP w x u v) (h' : NdP w x u' v') :
    Calls Tryz.prog 37 #[.agg #[.int .i64 x.me, .int .i64 x.next, u, v], .agg #[.int .i64 x.me, .int .i64 x.next, u', v']] w fun e w' => e = .returned (.bool true) ∧ Below w.heap.size w w' := by
  obtain ⟨⟨a1, n1, c1, rfl⟩, a2, n2, c2, rfl⟩ := h.form
  obtain ⟨⟨a3, n3, c3, rfl⟩, a4, n4, c4, rfl⟩ := h'.form
  have X := Lib.hid ((Bx.new w 41 #[.int .i64 x.me, .int .i64 x.next, .slice a1 n1 c1, .slice a2 n2 c2] _ rfl).alloc (.cells #[.int .i64 x.me, .int .i64 x.next, .slice a3 n3 c3, .slice a4 n4 c4] 41))
  have Y := Lib.hid (Bx.new (w.alloc (.cells #[.int .i64 x.me, .int .i64 x.next, .slice a1 n1 c1, .slice a2 n2 c2] 41)) 41 #[.int .i64 x.me, .int .i64 x.next, .slice a3 n3 c3, .slice a4 n4 c4] (w.heap.size + 1) (by simp))
  have P := Lib.hid ((h.alloc (.cells #[.int .i64 x.me, .int .i64 x.next, .slice a1 n1 c1, .slice a2 n2 c2] 41)).alloc (.cells #[.int .i64 x.me, .int .i64 x.next, .slice a3 n3 c3, .slice a4 n4 c4] 41))
  have Q := Lib.hid ((h'.alloc (.cells #[.int .i64 x.me, .int .i64 x.next, .slice a1 n1 c1, .slice a2 n2 c2] 41)).alloc (.cells #[.int .i64 x.me, .int .i64 x.next, .slice a3 n3 c3, .slice a4 n4 c4] 41))
  have A := Lib.hid (((Af.refl w).alloc (.cells #[.int .i64 x.me, .int .i64 x.next, .slice a1 n1 c1, .slice a2 n2 c2] 41)).alloc (.cells #[.int .i64 x.me, .int .i64 x.next, .slice a3 n3 c3, .slice a4 n4 c4] 41))
  clear h h'
  go_enter Tryz.func37, Tryz.ntmps37
  go_wp2_with fail
  refine (eq_insts_same _ _ x.insts _ P.out.1 Q.out.1).mono ?_
  rintro e w1 ⟨rfl, b1⟩
  have X1 := Lib.hid (X.out.after b1)
  have Y1 := Lib.hid (Y.out.after b1)
  have P1 := Lib.hid (P.out.later b1)
  have Q1 := Lib.hid (Q.out.later b1)
  have A1 := Lib.hid (A.out.after b1)
  clear b1 X Y P Q A
  obtain ⟨x0, x1, x2, x3⟩ := cells4 X1.out
  obtain ⟨y0, y1, y2, y3⟩ := cells4 Y1.out
  go_wp2_with fail
  clear x0 x1 x2 x3 y0 y1 y2 y3
  refine (eq_leads_same _ _ x.leads _ P1.out.2 Q1.out.2).mono ?_
  rintro e w2 ⟨rfl, b2⟩
  have A2 := Lib.hid (A1.out.after b2)
  clear b2 X1 Y1 P1 Q1 A1
  go_wp2
  go_ret
  exact ⟨rfl, A2.out⟩
end Go.Proofs.YtdokglckfabdaaaGreatDoor
