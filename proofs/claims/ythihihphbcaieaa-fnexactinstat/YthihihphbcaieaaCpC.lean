/- Commands copied: the program's copyCmd and the model's l4Copy. -/
import Derived.Test.YthihihphbcaieaaCpT
namespace Go.Proofs.Ythihihphbcaieaa
open Go.RowKit Go.PlainAid
set_option linter.unusedVariables false

theorem Bx.c8' {w : World} {g : Nat} {t : TypeId} {x0 x1 x2 x3 x4 x5 x6 x7 : Value} (h : Bx w g t #[x0, x1, x2, x3, x4, x5, x6, x7]) : w.cell? ⟨g, 0, none⟩ = some x0 ∧ w.cell? ⟨g, 1, none⟩ = some x1 ∧ w.cell? ⟨g, 2, none⟩ = some x2 ∧ w.cell? ⟨g, 3, none⟩ = some x3 ∧ w.cell? ⟨g, 4, none⟩ = some x4 ∧ w.cell? ⟨g, 5, none⟩ = some x5 ∧ w.cell? ⟨g, 6, none⟩ = some x6 ∧ w.cell? ⟨g, 7, none⟩ = some x7 := ⟨h.cell 0 _ rfl, h.cell 1 _ rfl, h.cell 2 _ rfl, h.cell 3 _ rfl, h.cell 4 _ rfl, h.cell 5 _ rfl, h.cell 6 _ rfl, h.cell 7 _ rfl⟩
theorem Bx.f8' {w : World} {g : Nat} {t : TypeId} {cs : Array Value} (h : Bx w g t cs) : w.frozen? ⟨g, 0, none⟩ = false ∧ w.frozen? ⟨g, 1, none⟩ = false ∧ w.frozen? ⟨g, 2, none⟩ = false ∧ w.frozen? ⟨g, 3, none⟩ = false ∧ w.frozen? ⟨g, 4, none⟩ = false ∧ w.frozen? ⟨g, 5, none⟩ = false ∧ w.frozen? ⟨g, 6, none⟩ = false ∧ w.frozen? ⟨g, 7, none⟩ = false := ⟨h.frozen 0, h.frozen 1, h.frozen 2, h.frozen 3, h.frozen 4, h.frozen 5, h.frozen 6, h.frozen 7⟩
/-- The texts of a command are within the law's measure. -/
def SmlC (c : CmdM) : Prop := Sml1 c.ch ∧ c.set.size ≤ 1048576 ∧ c.name.size ≤ 1048576 ∧ c.tag.size ≤ 1048576
set_option maxRecDepth 100000 in
set_option maxHeartbeats 1000000 in
theorem copy_cmd (c : CmdM) (v : Value) (w : World) (hv : Strs w v c.ch) (hs : SmlC c) :
    Calls Try.prog 60 #[.agg #[.int .i64 c.kind, .int .i64 c.client, .int .i64 c.no, .string c.set, .string c.name, .string c.tag, .int .i64 c.n, v]] w fun e w' => (∃ a n cap, e = .returned (.agg #[.int .i64 c.kind, .int .i64 c.client, .int .i64 c.no, .string c.set, .string c.name, .string c.tag, .int .i64 c.n, .slice a n cap]) ∧ StO w' w.heap.size (.slice a n cap) c.ch) ∧ Below w.heap.size w w' := by
  obtain ⟨a1, n1, c1, rfl⟩ := hv.form
  have VH := Lib.hid hv
  have HSZ := Lib.hid hs
  have X0s := Lib.hid ((Bx.new w 39 #[.int .i64 c.kind, .int .i64 c.client, .int .i64 c.no, .string c.set, .string c.name, .string c.tag, .int .i64 c.n, .slice a1 n1 c1] _ rfl).alloc (.cells #[.int .i64 0, .int .i64 0, .int .i64 0, .string ⟨#[]⟩, .string ⟨#[]⟩, .string ⟨#[]⟩, .int .i64 0, .slice none 0 0] 39))
  have Y0s := Lib.hid (Bx.new (w.alloc (.cells #[.int .i64 c.kind, .int .i64 c.client, .int .i64 c.no, .string c.set, .string c.name, .string c.tag, .int .i64 c.n, .slice a1 n1 c1] 39)) 39 #[.int .i64 0, .int .i64 0, .int .i64 0, .string ⟨#[]⟩, .string ⟨#[]⟩, .string ⟨#[]⟩, .int .i64 0, .slice none 0 0] (w.heap.size + 1) (by simp))
  have A0s := Lib.hid (((Af.refl w).alloc (.cells #[.int .i64 c.kind, .int .i64 c.client, .int .i64 c.no, .string c.set, .string c.name, .string c.tag, .int .i64 c.n, .slice a1 n1 c1] 39)).alloc (.cells #[.int .i64 0, .int .i64 0, .int .i64 0, .string ⟨#[]⟩, .string ⟨#[]⟩, .string ⟨#[]⟩, .int .i64 0, .slice none 0 0] 39))
  clear hv hs
  go_enter Try.func60, Try.ntmps60
  go_wp2_with fail
  refine (clone_c c.set _ HSZ.out.2.1).mono ?_
  rintro e w1 ⟨rfl, b1⟩
  have X1 := Lib.hid (X0s.out.after b1)
  have Y1 := Lib.hid (Y0s.out.after b1)
  have A1 := Lib.hid (A0s.out.after b1)
  clear b1 X0s Y0s A0s
  obtain ⟨x0, x1, x2, x3, x4, x5, x6, x7⟩ := X1.out.c8'
  obtain ⟨f0, f1, f2, f3, f4, f5, f6, f7⟩ := X1.out.f8'
  go_wp2_with fail
  clear x0 x1 x2 x3 x4 x5 x6 x7 f0 f1 f2 f3 f4 f5 f6 f7
  have X1s := Lib.hid (show Bx (w1.setCell ⟨w.heap.size, 3, none⟩ (.string c.set)) w.heap.size 39 #[.int .i64 c.kind, .int .i64 c.client, .int .i64 c.no, .string c.set, .string c.name, .string c.tag, .int .i64 c.n, .slice a1 n1 c1] from X1.out.set 3 (.string c.set))
  have Y1s := Lib.hid (Y1.out.set_other ⟨w.heap.size, 3, none⟩ (.string c.set) (by simp))
  have A1s := Lib.hid (A1.out.set (p := ⟨w.heap.size, 3, none⟩) (Nat.le_refl _) (.string c.set))
  clear X1 Y1 A1
  refine (clone_c c.name _ HSZ.out.2.2.1).mono ?_
  rintro e w2 ⟨rfl, b2⟩
  have X2 := Lib.hid (X1s.out.after b2)
  have Y2 := Lib.hid (Y1s.out.after b2)
  have A2 := Lib.hid (A1s.out.after b2)
  clear b2 X1s Y1s A1s
  obtain ⟨x0, x1, x2, x3, x4, x5, x6, x7⟩ := X2.out.c8'
  obtain ⟨f0, f1, f2, f3, f4, f5, f6, f7⟩ := X2.out.f8'
  go_wp2_with fail
  clear x0 x1 x2 x3 x4 x5 x6 x7 f0 f1 f2 f3 f4 f5 f6 f7
  have X2s := Lib.hid (show Bx (w2.setCell ⟨w.heap.size, 4, none⟩ (.string c.name)) w.heap.size 39 #[.int .i64 c.kind, .int .i64 c.client, .int .i64 c.no, .string c.set, .string c.name, .string c.tag, .int .i64 c.n, .slice a1 n1 c1] from X2.out.set 4 (.string c.name))
  have Y2s := Lib.hid (Y2.out.set_other ⟨w.heap.size, 4, none⟩ (.string c.name) (by simp))
  have A2s := Lib.hid (A2.out.set (p := ⟨w.heap.size, 4, none⟩) (Nat.le_refl _) (.string c.name))
  clear X2 Y2 A2
  refine (clone_c c.tag _ HSZ.out.2.2.2).mono ?_
  rintro e w3 ⟨rfl, b3⟩
  have X3 := Lib.hid (X2s.out.after b3)
  have Y3 := Lib.hid (Y2s.out.after b3)
  have A3 := Lib.hid (A2s.out.after b3)
  clear b3 X2s Y2s A2s
  obtain ⟨x0, x1, x2, x3, x4, x5, x6, x7⟩ := X3.out.c8'
  obtain ⟨f0, f1, f2, f3, f4, f5, f6, f7⟩ := X3.out.f8'
  go_wp2_with fail
  clear x0 x1 x2 x3 x4 x5 x6 x7 f0 f1 f2 f3 f4 f5 f6 f7
  have X3s := Lib.hid (show Bx (w3.setCell ⟨w.heap.size, 5, none⟩ (.string c.tag)) w.heap.size 39 #[.int .i64 c.kind, .int .i64 c.client, .int .i64 c.no, .string c.set, .string c.name, .string c.tag, .int .i64 c.n, .slice a1 n1 c1] from X3.out.set 5 (.string c.tag))
  have Y3s := Lib.hid (Y3.out.set_other ⟨w.heap.size, 5, none⟩ (.string c.tag) (by simp))
  have A3s := Lib.hid (A3.out.set (p := ⟨w.heap.size, 5, none⟩) (Nat.le_refl _) (.string c.tag))
  clear X3 Y3 A3
  refine (copy_texts _ c.ch _ (VH.out.later A3s.out) HSZ.out.1).mono ?_
  rintro e w4 ⟨⟨u4, rfl, s4⟩, b4⟩
  obtain ⟨a4, n4, c4, rfl⟩ := s4.1.form
  have X4 := Lib.hid (X3s.out.after b4)
  have Y4 := Lib.hid (Y3s.out.after b4)
  have A4 := Lib.hid (A3s.out.after b4)
  have S4 := Lib.hid s4
  have hz : w.heap.size + 2 ≤ w3.heap.size := by have := Y3s.out.lt; simp at this; omega
  clear b4 s4 X3s Y3s A3s
  obtain ⟨x0, x1, x2, x3, x4, x5, x6, x7⟩ := X4.out.c8'
  obtain ⟨f0, f1, f2, f3, f4, f5, f6, f7⟩ := X4.out.f8'
  obtain ⟨y0, y1, y2, y3, y4, y5, y6, y7⟩ := Y4.out.c8'
  obtain ⟨g0, g1, g2, g3, g4, g5, g6, g7⟩ := Y4.out.f8'
  go_wp2
  clear x0 x1 x2 x3 x4 x5 x6 x7 f0 f1 f2 f3 f4 f5 f6 f7 y0 y1 y2 y3 y4 y5 y6 y7 g0 g1 g2 g3 g4 g5 g6 g7
  have hS : StO w4 w3.heap.size (.slice a4 n4 c4) c.ch := by have h := S4.out; simp only [World.size_setCell] at h; exact h
  have G4 := setL_grown (w.heap.size + 1) [.int .i64 c.kind, .int .i64 c.client, .int .i64 c.no, .string c.set, .string c.name, .string c.tag, .int .i64 c.n, .slice a4 n4 c4] (w4.setCell ⟨w.heap.size, 7, none⟩ (.slice a4 n4 c4)) 0
  have F4 : Bx (setL (w4.setCell ⟨w.heap.size, 7, none⟩ (.slice a4 n4 c4)) (w.heap.size + 1) 0 [.int .i64 c.kind, .int .i64 c.client, .int .i64 c.no, .string c.set, .string c.name, .string c.tag, .int .i64 c.n, .slice a4 n4 c4]) (w.heap.size + 1) 39 #[.int .i64 c.kind, .int .i64 c.client, .int .i64 c.no, .string c.set, .string c.name, .string c.tag, .int .i64 c.n, .slice a4 n4 c4] := by
    have := setL_heap [.int .i64 c.kind, .int .i64 c.client, .int .i64 c.no, .string c.set, .string c.name, .string c.tag, .int .i64 c.n, .slice a4 n4 c4] (w4.setCell ⟨w.heap.size, 7, none⟩ (.slice a4 n4 c4)) #[.int .i64 0, .int .i64 0, .int .i64 0, .string ⟨#[]⟩, .string ⟨#[]⟩, .string ⟨#[]⟩, .int .i64 0, .slice none 0 0] 0 (Y4.out.set_other ⟨w.heap.size, 7, none⟩ _ (by simp))
    rw [updL_eq [.int .i64 c.kind, .int .i64 c.client, .int .i64 c.no, .string c.set, .string c.name, .string c.tag, .int .i64 c.n, .slice a4 n4 c4] #[.int .i64 0, .int .i64 0, .int .i64 0, .string ⟨#[]⟩, .string ⟨#[]⟩, .string ⟨#[]⟩, .int .i64 0, .slice none 0 0] 0 (show 0 + 8 ≤ 8 by omega)] at this
    exact this
  have S5 : StO (setL (w4.setCell ⟨w.heap.size, 7, none⟩ (.slice a4 n4 c4)) (w.heap.size + 1) 0 [.int .i64 c.kind, .int .i64 c.client, .int .i64 c.no, .string c.set, .string c.name, .string c.tag, .int .i64 c.n, .slice a4 n4 c4]) w3.heap.size (.slice a4 n4 c4) c.ch := ⟨((hS.1.kept (grownBy_put w4 w.heap.size 7 _) (by omega)).kept G4 (by omega)), hS.2⟩
  have A5 : Af w (setL (w4.setCell ⟨w.heap.size, 7, none⟩ (.slice a4 n4 c4)) (w.heap.size + 1) 0 [.int .i64 c.kind, .int .i64 c.client, .int .i64 c.no, .string c.set, .string c.name, .string c.tag, .int .i64 c.n, .slice a4 n4 c4]) := (A4.out.set (p := ⟨w.heap.size, 7, none⟩) (Nat.le_refl _) (.slice a4 n4 c4)).grow G4 (fun k hk => by cases hk; omega)
  exact bodyPost_ret (results_cmd Try.results60 _ _ (w.heap.size + 1) _ _ _ _ _ _ _ _ rfl F4.c8') rfl ⟨⟨_, _, _, rfl, S5.mono (by omega)⟩, A5⟩
end Go.Proofs.Ythihihphbcaieaa
