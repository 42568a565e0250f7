/- The law over LogNew and its model: it returns true. -/
import Derived.Test.YtmnglcidklckgaaLogNewC
namespace Go.Proofs.Ytmnglcidklckgaa
open Go.RowKit Go.PlainAid
set_option linter.unusedVariables false

theorem own_segs {w : World} {base : Nat} {v : Value} (h : SegOwn w base v newL) : Segs w v newL := h.segs newL_small
theorem mark_held_new {w : World} {base : Nat} {v : Value} (h : SegOwn w base v (mkG newL newL.length)) : Segs w v (mkG newL newL.length) := h.segs (mkG_small newL (by decide))
set_option maxRecDepth 100000 in
set_option maxHeartbeats 1000000 in
theorem law_logNew (w : World) :
    Calls Try.prog 3 #[] w fun e w' => e = .returned (.bool true) ∧ Below w.heap.size w w' := by
  have e1 : 2 * (newL.length : Int) + 1 = 3 := by decide
  have E1 := Lib.hid e1
  clear e1
  go_enter Try.func3, Try.ntmps3
  go_wp2_with fail
  refine (spec_logNew _).mono ?_
  rintro e w1 ⟨v0, rfl, h1, b1⟩
  obtain ⟨a0, n0, c0, rfl⟩ := h1.form
  have X0 := Lib.hid (Bx.new w1 24 #[.slice a0 n0 c0, .int .i64 1, .int .i64 0] _ rfl)
  have S0 := Lib.hid ((own_segs h1).alloc (.cells #[.slice a0 n0 c0, .int .i64 1, .int .i64 0] 24))
  have A1 := Lib.hid (Af.alloc (show Af w w1 from b1) (.cells #[.slice a0 n0 c0, .int .i64 1, .int .i64 0] 24))
  have K0 := Lib.hid (fun k hk => (h1.block (by decide) k hk).2)
  clear h1 b1
  go_wp2_with fail
  refine (impl_logNew _).mono ?_
  rintro e w2 ⟨v1, rfl, h2, b2⟩
  obtain ⟨a1, n1, c1, rfl⟩ := h2.form
  have X1 := Lib.hid (Bx.new w2 24 #[.slice a1 n1 c1, .int .i64 1, .int .i64 0] _ rfl)
  have G1 := Lib.hid (h2.alloc (.cells #[.slice a1 n1 c1, .int .i64 1, .int .i64 0] 24))
  have Y0 := Lib.hid ((X0.out.after b2).alloc (.cells #[.slice a1 n1 c1, .int .i64 1, .int .i64 0] 24))
  have T0 := Lib.hid ((S0.out.later b2).alloc (.cells #[.slice a1 n1 c1, .int .i64 1, .int .i64 0] 24))
  have A2 := Lib.hid ((A1.out.after b2).alloc (.cells #[.slice a1 n1 c1, .int .i64 1, .int .i64 0] 24))
  have hblk : ∀ k, Value.ownBlock (.slice a1 n1 c1) = some k → w1.heap.size < k ∧ k < w2.heap.size := fun k hk => by
    have h := h2.block (by decide) k hk
    rw [World.size_alloc] at h
    omega
  have HK := Lib.hid hblk
  have Z2 := Lib.hid (A1.out.size)
  clear h2 b2 X0 S0 A1 hblk
  obtain ⟨p0, p1, p2⟩ := Y0.out.cells3
  obtain ⟨q0, q1, q2⟩ := X1.out.cells3
  go_wp2_with fail
  clear p0 p1 p2 q0 q1 q2
  refine (eq_log_yes _ _ newL 1 0 _ (own_segs G1.out) T0.out).mono ?_
  rintro e w3 ⟨rfl, b3⟩
  have X2 := Lib.hid (X1.out.after b3)
  have G2 := Lib.hid (G1.out.later b3)
  have Y2 := Lib.hid (Y0.out.after b3)
  have T2 := Lib.hid (T0.out.later b3)
  have A3 := Lib.hid (A2.out.after b3)
  clear b3 X1 G1 Y0 T0 A2
  obtain ⟨q0, q1, q2⟩ := X2.out.cells3
  go_wp2_with fail
  clear q0 q1 q2
  refine (mark_log _ newL 1 0 _ _ G2.out (by decide)).mono ?_
  rintro e w4 ⟨rfl, h4, g4⟩
  have X3 := Lib.hid (X2.out.keep g4 (fun e => by have := HK.out _ e.symm; omega))
  have Y3 := Lib.hid (Y2.out.keep g4 (fun e => by have := HK.out _ e.symm; omega))
  have T3 := Lib.hid (T2.out.keep g4 (fun k hk hk2 => by have := HK.out _ hk; have := K0.out _ hk2; omega))
  have G3 := Lib.hid h4
  have A4 := Lib.hid (A3.out.grow g4 (fun k hk => by have := HK.out _ hk; have := Z2.out; simp at this; omega))
  clear h4 g4 X2 Y2 T2 G2 A3
  rw [E1.out]
  obtain ⟨q0, q1, q2⟩ := X3.out.cells3
  go_wp2_with fail
  clear q0 q1 q2
  refine (held_log _ newL 1 0 _ (mark_held_new G3.out) (by decide)).mono ?_
  rintro e w5 ⟨rfl, b5⟩
  have X4 := Lib.hid (X3.out.after b5)
  have G4 := Lib.hid (G3.out.later b5)
  have Y4 := Lib.hid (Y3.out.after b5)
  have T4 := Lib.hid (T3.out.later b5)
  have A5 := Lib.hid (A4.out.after b5)
  clear b5 X3 G3 Y3 T3 A4
  rw [E1.out]
  go_wp2_with fail
  refine (impl_logNew _).mono ?_
  rintro e w6 ⟨v2, rfl, h6, b6⟩
  obtain ⟨a2, n2, c2, rfl⟩ := h6.form
  have X5 := Lib.hid ((X4.out.after b6).alloc (.cells #[.slice a2 n2 c2, .int .i64 1, .int .i64 0] 24))
  have G5 := Lib.hid ((G4.out.later b6).alloc (.cells #[.slice a2 n2 c2, .int .i64 1, .int .i64 0] 24))
  have Y5 := Lib.hid ((Y4.out.after b6).alloc (.cells #[.slice a2 n2 c2, .int .i64 1, .int .i64 0] 24))
  have T5 := Lib.hid ((T4.out.later b6).alloc (.cells #[.slice a2 n2 c2, .int .i64 1, .int .i64 0] 24))
  have H5 := Lib.hid ((own_segs h6).alloc (.cells #[.slice a2 n2 c2, .int .i64 1, .int .i64 0] 24))
  have A6 := Lib.hid ((A5.out.after b6).alloc (.cells #[.slice a2 n2 c2, .int .i64 1, .int .i64 0] 24))
  clear b6 h6 X4 G4 Y4 T4 A5
  obtain ⟨p0, p1, p2⟩ := Y5.out.cells3
  go_wp2_with fail
  clear p0 p1 p2
  refine (eq_log_yes _ _ newL 1 0 _ H5.out T5.out).mono ?_
  rintro e w7 ⟨rfl, b7⟩
  have X6 := Lib.hid (X5.out.after b7)
  have G6 := Lib.hid (G5.out.later b7)
  have A7 := Lib.hid (A6.out.after b7)
  clear b7 X5 G5 Y5 T5 H5 A6
  obtain ⟨q0, q1, q2⟩ := X6.out.cells3
  go_wp2_with fail
  clear q0 q1 q2
  refine (held_log _ newL 1 0 _ (mark_held_new G6.out) (by decide)).mono ?_
  rintro e w8 ⟨rfl, b8⟩
  have A8 := Lib.hid (A7.out.after b8)
  clear b8 X6 G6 A7
  rw [E1.out]
  go_wp2
  go_ret
  exact ⟨rfl, A8.out⟩
end Go.Proofs.Ytmnglcidklckgaa
