/- Instances copied: the program's copyInst. -/
import Derived.Test.YthihihphbcaieaaCpC
import Derived.Test.YthihihphbcaieaaJnI
namespace Go.Proofs.Ythihihphbcaieaa
open Go.RowKit Go.PlainAid
set_option linter.unusedVariables false

/-- An instance within the law's measure. -/
def SmlX (x : In) : Prop := SmlC x.cmd ∧ x.deps.length ≤ 1048576
set_option maxRecDepth 100000 in
set_option maxHeartbeats 2000000 in
theorem copy_inst (x : In) (u d : Value) (w : World) (h : Pts w x u d) (hs : SmlX x) :
    Calls Try.prog 43 #[.agg #[.int .i64 x.rep, .int .i64 x.slot, .int .i64 x.bal, .int .i64 x.vbal, .int .i64 x.st, .int .i64 x.cmd.kind, .int .i64 x.cmd.client, .int .i64 x.cmd.no, .string x.cmd.set, .string x.cmd.name, .string x.cmd.tag, .int .i64 x.cmd.n, u, .int .i64 x.seq, d, .bool x.same]] w fun e w' => (∃ a n c a' n' c', e = .returned (.agg #[.int .i64 x.rep, .int .i64 x.slot, .int .i64 x.bal, .int .i64 x.vbal, .int .i64 x.st, .int .i64 x.cmd.kind, .int .i64 x.cmd.client, .int .i64 x.cmd.no, .string x.cmd.set, .string x.cmd.name, .string x.cmd.tag, .int .i64 x.cmd.n, .slice a n c, .int .i64 x.seq, .slice a' n' c', .bool x.same]) ∧ PtO w' w.heap.size w'.heap.size x (.slice a n c) (.slice a' n' c')) ∧ Below w.heap.size w w' := by
  obtain ⟨⟨a1, n1, c1, rfl⟩, a2, n2, c2, rfl⟩ := h.form
  have PH := Lib.hid h
  have HSZ := Lib.hid hs
  have X0 := Lib.hid ((Bx.new w 41 #[.int .i64 x.rep, .int .i64 x.slot, .int .i64 x.bal, .int .i64 x.vbal, .int .i64 x.st, .int .i64 x.cmd.kind, .int .i64 x.cmd.client, .int .i64 x.cmd.no, .string x.cmd.set, .string x.cmd.name, .string x.cmd.tag, .int .i64 x.cmd.n, .slice a1 n1 c1, .int .i64 x.seq, .slice a2 n2 c2, .bool x.same] _ rfl).alloc (.cells #[.int .i64 0, .int .i64 0, .int .i64 0, .int .i64 0, .int .i64 0, .int .i64 0, .int .i64 0, .int .i64 0, .string ⟨#[]⟩, .string ⟨#[]⟩, .string ⟨#[]⟩, .int .i64 0, .slice none 0 0, .int .i64 0, .slice none 0 0, .bool false] 41))
  have Y0 := Lib.hid (Bx.new (w.alloc (.cells #[.int .i64 x.rep, .int .i64 x.slot, .int .i64 x.bal, .int .i64 x.vbal, .int .i64 x.st, .int .i64 x.cmd.kind, .int .i64 x.cmd.client, .int .i64 x.cmd.no, .string x.cmd.set, .string x.cmd.name, .string x.cmd.tag, .int .i64 x.cmd.n, .slice a1 n1 c1, .int .i64 x.seq, .slice a2 n2 c2, .bool x.same] 41)) 41 #[.int .i64 0, .int .i64 0, .int .i64 0, .int .i64 0, .int .i64 0, .int .i64 0, .int .i64 0, .int .i64 0, .string ⟨#[]⟩, .string ⟨#[]⟩, .string ⟨#[]⟩, .int .i64 0, .slice none 0 0, .int .i64 0, .slice none 0 0, .bool false] (w.heap.size + 1) (by simp))
  have A0 := Lib.hid (((Af.refl w).alloc (.cells #[.int .i64 x.rep, .int .i64 x.slot, .int .i64 x.bal, .int .i64 x.vbal, .int .i64 x.st, .int .i64 x.cmd.kind, .int .i64 x.cmd.client, .int .i64 x.cmd.no, .string x.cmd.set, .string x.cmd.name, .string x.cmd.tag, .int .i64 x.cmd.n, .slice a1 n1 c1, .int .i64 x.seq, .slice a2 n2 c2, .bool x.same] 41)).alloc (.cells #[.int .i64 0, .int .i64 0, .int .i64 0, .int .i64 0, .int .i64 0, .int .i64 0, .int .i64 0, .int .i64 0, .string ⟨#[]⟩, .string ⟨#[]⟩, .string ⟨#[]⟩, .int .i64 0, .slice none 0 0, .int .i64 0, .slice none 0 0, .bool false] 41))
  clear h hs
  go_enter Try.func43, Try.ntmps43
  go_wp2_with fail
  refine (copy_cmd x.cmd _ _ (PH.out.later A0.out).1 HSZ.out.1).mono ?_
  rintro e w1 ⟨⟨a3, n3, c3, rfl, s3⟩, b1⟩
  have X1 := Lib.hid (X0.out.after b1)
  have Y1 := Lib.hid (Y0.out.after b1)
  have A1 := Lib.hid (A0.out.after b1)
  have hs3 : StO w1 (w.heap.size + 2) (.slice a3 n3 c3) x.cmd.ch := by have h := s3; simp only [World.size_alloc] at h; exact h
  have S1 := Lib.hid hs3
  clear b1 s3 hs3 X0 Y0 A0
  obtain ⟨L8, hL8⟩ : ∃ L8 : List Value, L8 = [.int .i64 x.cmd.kind, .int .i64 x.cmd.client, .int .i64 x.cmd.no, .string x.cmd.set, .string x.cmd.name, .string x.cmd.tag, .int .i64 x.cmd.n, .slice a3 n3 c3] := ⟨_, rfl⟩
  have G1 := Lib.hid (setL_grown w.heap.size L8 w1 5)
  have Z1 := Lib.hid (setL_size w.heap.size L8 w1 5)
  have X1s := Lib.hid (show Bx (setL w1 w.heap.size 5 L8) w.heap.size 41 #[.int .i64 x.rep, .int .i64 x.slot, .int .i64 x.bal, .int .i64 x.vbal, .int .i64 x.st, .int .i64 x.cmd.kind, .int .i64 x.cmd.client, .int .i64 x.cmd.no, .string x.cmd.set, .string x.cmd.name, .string x.cmd.tag, .int .i64 x.cmd.n, .slice a3 n3 c3, .int .i64 x.seq, .slice a2 n2 c2, .bool x.same] by have := setL_heap L8 w1 #[.int .i64 x.rep, .int .i64 x.slot, .int .i64 x.bal, .int .i64 x.vbal, .int .i64 x.st, .int .i64 x.cmd.kind, .int .i64 x.cmd.client, .int .i64 x.cmd.no, .string x.cmd.set, .string x.cmd.name, .string x.cmd.tag, .int .i64 x.cmd.n, .slice a1 n1 c1, .int .i64 x.seq, .slice a2 n2 c2, .bool x.same] 5 X1.out; rw [updL_eq L8 #[.int .i64 x.rep, .int .i64 x.slot, .int .i64 x.bal, .int .i64 x.vbal, .int .i64 x.st, .int .i64 x.cmd.kind, .int .i64 x.cmd.client, .int .i64 x.cmd.no, .string x.cmd.set, .string x.cmd.name, .string x.cmd.tag, .int .i64 x.cmd.n, .slice a1 n1 c1, .int .i64 x.seq, .slice a2 n2 c2, .bool x.same] 5 (by rw [hL8]; show 5 + 8 ≤ 16; omega)] at this; rw [hL8] at this ⊢; exact this)
  have Y1s := Lib.hid (Y1.out.keep G1.out (by simp))
  have A1s := Lib.hid (A1.out.grow G1.out (fun k hk => by cases hk; exact Nat.le_refl _))
  have S1s := Lib.hid (show StO (setL w1 w.heap.size 5 L8) (w.heap.size + 2) (.slice a3 n3 c3) x.cmd.ch from ⟨S1.out.1.kept G1.out (by omega), S1.out.2⟩)
  obtain ⟨x0, x1, x2, x3, x4, x5, x6, x7, x8, x9, x10, x11, x12, x13, x14, x15⟩ := X1.out.c16
  obtain ⟨f0, f1, f2, f3, f4, f5, f6, f7, f8, f9, f10, f11, f12, f13, f14, f15⟩ := froz16 X1.out
  go_wp2_with fail
  clear x0 x1 x2 x3 x4 x5 x6 x7 x8 x9 x10 x11 x12 x13 x14 x15 f0 f1 f2 f3 f4 f5 f6 f7 f8 f9 f10 f11 f12 f13 f14 f15
  refine wp_worldC (W := (setL w1 w.heap.size 5 L8)) (by rw [hL8]; rfl) ?_
  refine (clone_ids _ x.deps _ (PH.out.later A1s.out).2.1 (by have := HSZ.out.2; omega)).mono ?_
  rintro e w2 ⟨⟨ud, rfl, r2⟩, b2⟩
  obtain ⟨a4, n4, c4, rfl⟩ := r2.own.form
  have X2 := Lib.hid (X1s.out.after b2)
  have Y2 := Lib.hid (Y1s.out.after b2)
  have A2 := Lib.hid (A1s.out.after b2)
  have S2 := Lib.hid (S1s.out.later b2)
  have hlo : w.heap.size + 2 ≤ (setL w1 w.heap.size 5 L8).heap.size := by have := Y1s.out.lt; omega
  have R2 := Lib.hid (r2.mono hlo)
  clear b2 r2 X1 Y1 A1 S1 X1s Y1s A1s S1s G1 Z1 hL8 hlo
  obtain ⟨x0, x1, x2, x3, x4, x5, x6, x7, x8, x9, x10, x11, x12, x13, x14, x15⟩ := cells16 X2.out
  obtain ⟨f0, f1, f2, f3, f4, f5, f6, f7, f8, f9, f10, f11, f12, f13, f14, f15⟩ := froz16 X2.out
  obtain ⟨y0, y1, y2, y3, y4, y5, y6, y7, y8, y9, y10, y11, y12, y13, y14, y15⟩ := cells16 Y2.out
  obtain ⟨g0, g1, g2, g3, g4, g5, g6, g7, g8, g9, g10, g11, g12, g13, g14, g15⟩ := froz16 Y2.out
  go_wp2
  clear x0 x1 x2 x3 x4 x5 x6 x7 x8 x9 x10 x11 x12 x13 x14 x15 f0 f1 f2 f3 f4 f5 f6 f7 f8 f9 f10 f11 f12 f13 f14 f15 y0 y1 y2 y3 y4 y5 y6 y7 y8 y9 y10 y11 y12 y13 y14 y15 g0 g1 g2 g3 g4 g5 g6 g7 g8 g9 g10 g11 g12 g13 g14 g15
  have Gp := grownBy_put w2 w.heap.size 14 (.slice a4 n4 c4)
  have Gs := setL_grown (w.heap.size + 1) (inA x (.slice a3 n3 c3) (.slice a4 n4 c4)) (w2.setCell ⟨w.heap.size, 14, none⟩ (.slice a4 n4 c4)) 0
  have Zs : (setL (w2.setCell ⟨w.heap.size, 14, none⟩ (.slice a4 n4 c4)) (w.heap.size + 1) 0 (inA x (.slice a3 n3 c3) (.slice a4 n4 c4))).heap.size = w2.heap.size := by rw [setL_size]; simp
  have F : Bx (setL (w2.setCell ⟨w.heap.size, 14, none⟩ (.slice a4 n4 c4)) (w.heap.size + 1) 0 (inA x (.slice a3 n3 c3) (.slice a4 n4 c4))) (w.heap.size + 1) 41 #[.int .i64 x.rep, .int .i64 x.slot, .int .i64 x.bal, .int .i64 x.vbal, .int .i64 x.st, .int .i64 x.cmd.kind, .int .i64 x.cmd.client, .int .i64 x.cmd.no, .string x.cmd.set, .string x.cmd.name, .string x.cmd.tag, .int .i64 x.cmd.n, .slice a3 n3 c3, .int .i64 x.seq, .slice a4 n4 c4, .bool x.same] := by
    have := setL_heap (inA x (.slice a3 n3 c3) (.slice a4 n4 c4)) (w2.setCell ⟨w.heap.size, 14, none⟩ (.slice a4 n4 c4)) #[.int .i64 0, .int .i64 0, .int .i64 0, .int .i64 0, .int .i64 0, .int .i64 0, .int .i64 0, .int .i64 0, .string ⟨#[]⟩, .string ⟨#[]⟩, .string ⟨#[]⟩, .int .i64 0, .slice none 0 0, .int .i64 0, .slice none 0 0, .bool false] 0 (Y2.out.set_other ⟨w.heap.size, 14, none⟩ _ (by simp))
    rw [updL_eq (inA x (.slice a3 n3 c3) (.slice a4 n4 c4)) #[.int .i64 0, .int .i64 0, .int .i64 0, .int .i64 0, .int .i64 0, .int .i64 0, .int .i64 0, .int .i64 0, .string ⟨#[]⟩, .string ⟨#[]⟩, .string ⟨#[]⟩, .int .i64 0, .slice none 0 0, .int .i64 0, .slice none 0 0, .bool false] 0 (show 0 + 16 ≤ 16 by omega)] at this
    exact this
  have S5 : StO (setL (w2.setCell ⟨w.heap.size, 14, none⟩ (.slice a4 n4 c4)) (w.heap.size + 1) 0 (inA x (.slice a3 n3 c3) (.slice a4 n4 c4))) (w.heap.size + 2) (.slice a3 n3 c3) x.cmd.ch := ⟨(S2.out.1.kept Gp (by omega)).kept Gs (by omega), S2.out.2⟩
  have D5 : IdOwn (setL (w2.setCell ⟨w.heap.size, 14, none⟩ (.slice a4 n4 c4)) (w.heap.size + 1) 0 (inA x (.slice a3 n3 c3) (.slice a4 n4 c4))) (w.heap.size + 2) (.slice a4 n4 c4) x.deps := (R2.out.own.kept Gp (fun k hk => by cases hk; omega)).kept Gs (fun k hk => by cases hk; omega)
  have A5 : Af w (setL (w2.setCell ⟨w.heap.size, 14, none⟩ (.slice a4 n4 c4)) (w.heap.size + 1) 0 (inA x (.slice a3 n3 c3) (.slice a4 n4 c4))) := (A2.out.set (p := ⟨w.heap.size, 14, none⟩) (Nat.le_refl _) (.slice a4 n4 c4)).grow Gs (fun k hk => by cases hk; omega)
  have BU : ∀ k, Value.ownBlock (.slice a3 n3 c3) = some k → w.heap.size ≤ k ∧ k < (setL (w2.setCell ⟨w.heap.size, 14, none⟩ (.slice a4 n4 c4)) (w.heap.size + 1) 0 (inA x (.slice a3 n3 c3) (.slice a4 n4 c4))).heap.size := fun k hk => by have h9 := S5.1.lt k hk; exact ⟨by omega, h9.2⟩
  have BD : ∀ k, Value.ownBlock (.slice a4 n4 c4) = some k → w.heap.size ≤ k ∧ k < (setL (w2.setCell ⟨w.heap.size, 14, none⟩ (.slice a4 n4 c4)) (w.heap.size + 1) 0 (inA x (.slice a3 n3 c3) (.slice a4 n4 c4))).heap.size := fun k hk => by have h9 := R2.out.lt k hk; rw [Zs]; omega
  exact bodyPost_ret (results_inst Try.results43 _ _ (w.heap.size + 1) _ _ _ _ _ _ _ _ _ _ _ _ _ _ _ _ rfl (cells16 F)) rfl ⟨⟨_, _, _, _, _, _, rfl, ⟨S5.mono (by omega), D5.mono (by omega), BU, BD, PH.out.2.2⟩⟩, A5⟩
end Go.Proofs.Ythihihphbcaieaa
