/- A bundle of texts: CloneC, CpT, CpC, CpI, ApZ, CpS. -/
import Derived.Test.YtckeeadkhopljaaGreatDoorStrs
import Derived.Test.YtckeeadkhopljaaGreatDoorShelf
import Derived.Test.YtckeeadkhopljaaGreatDoorInCp
import Derived.Test.YtckeeadkhopljaaGreatDoorJnI
import Derived.Test.YtckeeadkhopljaaGreatDoorIdG
/- strings.Clone: the same string. -/
namespace Go.Proofs.YtckeeadkhopljaaGreatDoor
open Go.RowKit Go.PlainAid
set_option linter.unusedVariables false

set_option maxHeartbeats 400000 in
theorem clone_c (s : ByteArray) (w : World) (hs : s.size ≤ 1048576) : Calls Tryz.prog 100 #[.string s] w fun e w' => e = .returned (.string s) ∧ Below w.heap.size w w' := by
  go_enter Tryz.func100, Tryz.ntmps100
  go_wp2_with (go_at_call 112; refine (Tryz.stringslite_Clone s _ (by omega)).mono ?_; rintro e w' ⟨rfl, hb⟩)
  go_ret
  exact ⟨rfl, hb⟩

end Go.Proofs.YtckeeadkhopljaaGreatDoor
/- Strings and commands copied: the program's copyTexts and copyCmd, the model's l4Copy. -/
namespace Go.Proofs.YtckeeadkhopljaaGreatDoor
open Go.RowKit Go.PlainAid
set_option linter.unusedVariables false

/-- Each string is within the law's measure. -/
def Sml1 (l : List ByteArray) : Prop := l.length ≤ 1048576 ∧ ∀ j, j < l.length → (el l j).size ≤ 1048576
theorem take_el_succ (l : List ByteArray) (k : Nat) (h : k < l.length) : l.take (k + 1) = l.take k ++ [el l k] := by
  have g := strV_get l k h
  rw [List.take_add_one]
  congr 1
  rw [strV, List.getElem?_map] at g
  cases e : l[k]? with
  | none => rw [e] at g; cases g
  | some y => rw [e] at g; simp at g; rw [g]; rfl
set_option maxRecDepth 100000 in
set_option maxHeartbeats 1000000 in
theorem copy_texts (v : Value) (l : List ByteArray) (w : World) (hv : Strs w v l) (hs : Sml1 l) :
    Calls Tryz.prog 101 #[v] w fun e w' => (∃ u, e = .returned u ∧ StO w' w.heap.size u l) ∧ Below w.heap.size w w' := by
  have HSZ := Lib.hid hs
  obtain ⟨k1, k2, a, ca, rfl, hca, ha⟩ := hv
  obtain ⟨n, hn⟩ : ∃ n, l.length = n := ⟨_, rfl⟩
  have hln := hs.1
  rw [hn] at k1 k2 ha hca hln ⊢
  have HN := Lib.hid hn
  have HA := Lib.hid ha
  have HK := Lib.hid k2
  clear hn k2 ha hca hs
  go_enter Tryz.func101, Tryz.ntmps101
  go_wp2
  go_loopw [3, 8] (fun q i wr => ∃ (k : Nat) (a' : Option Addr) (n' c' : Nat), k ≤ n ∧ i = .int .i64 k ∧ q = .slice a' n' c' ∧ GrowsS wr w.heap.size (.slice a' n' c') (l.take k) ∧ Af w wr) (fun _ i _ => n - (intOf i).toNat)
  case atStart => exact ⟨0, _, _, _, by omega, rfl, rfl, by rw [List.take_zero]; exact growsS_nil _ _, Af.refl w⟩
  case round =>
    obtain ⟨k, a', n', c', hk, rfl, rfl, hr, haf⟩ := hrel
    have R := Lib.hid hr
    have A := Lib.hid haf
    clear hr haf
    by_cases hlt : k < n
    · obtain ⟨x, o, rfl, hx, hcx⟩ := HA.out (by omega)
      have c1 : wr.cell? ⟨x, o + k, none⟩ = some (.string (el l k)) := by rw [A.out.cell (p := ⟨x, o + k, none⟩) hx]; exact hcx k hlt
      have HE := Lib.hid (HSZ.out.2 k (by rw [HN.out]; exact hlt))
      have y1 : (k : Int) < (n : Int) := by omega
      have y0 : (0 : Int) ≤ (k : Int) := by omega
      have HT := Lib.hid (take_el_succ l k (by rw [HN.out]; exact hlt))
      clear hcx
      go_wp2_with fail
      clear c1
      refine (clone_c (el l k) _ HE.out).mono ?_
      rintro e w2 ⟨rfl, b2⟩
      have R2 := Lib.hid (R.out.later b2)
      have A2 := Lib.hid (A.out.after b2)
      clear b2 R A
      go_wp2_with (at_builtin; refine wp_append_str rfl (.tmp 12) (.tmp 15) rfl w.heap.size (.slice a' n' c') (l.take k) (el l k) rfl (R2.out.alloc _) w2.heap.size 1 rfl (by simp) (by rw [List.length_take]; omega) (by have := A2.out.size; simp; omega) ?_; intro v6 w6 hr6 hg6; obtain ⟨a6, n6, c6, hv6⟩ := hr6.form; subst hv6; have A6 := Lib.hid ((A2.out.alloc (.cells #[.string (el l k)] 9)).grow hg6 (fun k hk => (R2.out.lt _ hk).1)); have R6 := Lib.hid hr6; clear hr6 hg6)
      go_roundw
      case rel => exact ⟨k + 1, a6, n6, c6, by omega, by go_num, rfl, by rw [HT.out]; exact R6.out, A6.out⟩
      case measure => simp only [intOf]; omega
    · obtain rfl : k = n := by omega
      go_wp2
      go_ret
      exact ⟨⟨_, rfl, by have h := R.out; rw [← HN.out, List.take_length] at h; exact ⟨h, fun j hj => HK.out j (by rw [HN.out] at hj; exact hj)⟩⟩, A.out⟩
end Go.Proofs.YtckeeadkhopljaaGreatDoor
/- Commands copied: the program's copyCmd and the model's l4Copy. -/
namespace Go.Proofs.YtckeeadkhopljaaGreatDoor
open Go.RowKit Go.PlainAid
set_option linter.unusedVariables false

theorem Bx.c8' {w : World} {g : Nat} {t : TypeId} {x0 x1 x2 x3 x4 x5 x6 x7 : Value} (h : Bx w g t #[x0, x1, x2, x3, x4, x5, x6, x7]) : w.cell? ⟨g, 0, none⟩ = some x0 ∧ w.cell? ⟨g, 1, none⟩ = some x1 ∧ w.cell? ⟨g, 2, none⟩ = some x2 ∧ w.cell? ⟨g, 3, none⟩ = some x3 ∧ w.cell? ⟨g, 4, none⟩ = some x4 ∧ w.cell? ⟨g, 5, none⟩ = some x5 ∧ w.cell? ⟨g, 6, none⟩ = some x6 ∧ w.cell? ⟨g, 7, none⟩ = some x7 := ⟨h.cell 0 _ rfl, h.cell 1 _ rfl, h.cell 2 _ rfl, h.cell 3 _ rfl, h.cell 4 _ rfl, h.cell 5 _ rfl, h.cell 6 _ rfl, h.cell 7 _ rfl⟩
theorem Bx.f8' {w : World} {g : Nat} {t : TypeId} {cs : Array Value} (h : Bx w g t cs) : w.frozen? ⟨g, 0, none⟩ = false ∧ w.frozen? ⟨g, 1, none⟩ = false ∧ w.frozen? ⟨g, 2, none⟩ = false ∧ w.frozen? ⟨g, 3, none⟩ = false ∧ w.frozen? ⟨g, 4, none⟩ = false ∧ w.frozen? ⟨g, 5, none⟩ = false ∧ w.frozen? ⟨g, 6, none⟩ = false ∧ w.frozen? ⟨g, 7, none⟩ = false := ⟨h.frozen 0, h.frozen 1, h.frozen 2, h.frozen 3, h.frozen 4, h.frozen 5, h.frozen 6, h.frozen 7⟩
/-- The texts of a command are within the law's measure. -/
def SmlC (c : CmdM) : Prop := Sml1 c.ch ∧ c.set.size ≤ 1048576 ∧ c.name.size ≤ 1048576 ∧ c.tag.size ≤ 1048576
set_option maxRecDepth 100000 in
set_option maxHeartbeats 1000000 in
theorem copy_cmd (c : CmdM) (v : Value) (w : World) (hv : Strs w v c.ch) (hs : SmlC c) :
    Calls Tryz.prog 91 #[.agg #[.int .i64 c.kind, .int .i64 c.client, .int .i64 c.no, .string c.set, .string c.name, .string c.tag, .int .i64 c.n, v]] w fun e w' => (∃ a n cap, e = .returned (.agg #[.int .i64 c.kind, .int .i64 c.client, .int .i64 c.no, .string c.set, .string c.name, .string c.tag, .int .i64 c.n, .slice a n cap]) ∧ StO w' w.heap.size (.slice a n cap) c.ch) ∧ Below w.heap.size w w' := by
  obtain ⟨a1, n1, c1, rfl⟩ := hv.form
  have VH := Lib.hid hv
  have HSZ := Lib.hid hs
  have X0s := Lib.hid ((Bx.new w 64 #[.int .i64 c.kind, .int .i64 c.client, .int .i64 c.no, .string c.set, .string c.name, .string c.tag, .int .i64 c.n, .slice a1 n1 c1] _ rfl).alloc (.cells #[.int .i64 0, .int .i64 0, .int .i64 0, .string ⟨#[]⟩, .string ⟨#[]⟩, .string ⟨#[]⟩, .int .i64 0, .slice none 0 0] 64))
  have Y0s := Lib.hid (Bx.new (w.alloc (.cells #[.int .i64 c.kind, .int .i64 c.client, .int .i64 c.no, .string c.set, .string c.name, .string c.tag, .int .i64 c.n, .slice a1 n1 c1] 64)) 64 #[.int .i64 0, .int .i64 0, .int .i64 0, .string ⟨#[]⟩, .string ⟨#[]⟩, .string ⟨#[]⟩, .int .i64 0, .slice none 0 0] (w.heap.size + 1) (by simp))
  have A0s := Lib.hid (((Af.refl w).alloc (.cells #[.int .i64 c.kind, .int .i64 c.client, .int .i64 c.no, .string c.set, .string c.name, .string c.tag, .int .i64 c.n, .slice a1 n1 c1] 64)).alloc (.cells #[.int .i64 0, .int .i64 0, .int .i64 0, .string ⟨#[]⟩, .string ⟨#[]⟩, .string ⟨#[]⟩, .int .i64 0, .slice none 0 0] 64))
  clear hv hs
  go_enter Tryz.func91, Tryz.ntmps91
  go_wp2_with fail
  refine (clone_c c.set _ HSZ.out.2.1).mono ?_
  rintro e w1 ⟨rfl, b1⟩
  have X1 := Lib.hid (X0s.out.after b1)
  have Y1 := Lib.hid (Y0s.out.after b1)
  have A1 := Lib.hid (A0s.out.after b1)
  clear b1 X0s Y0s A0s
  obtain ⟨x0, x1, x2, x3, x4, x5, x6, x7⟩ := X1.out.c8'
  obtain ⟨f0, f1, f2, f3, f4, f5, f6, f7⟩ := X1.out.f8'
  go_wp2_with fail
  clear x0 x1 x2 x3 x4 x5 x6 x7 f0 f1 f2 f3 f4 f5 f6 f7
  have X1s := Lib.hid (show Bx (w1.setCell ⟨w.heap.size, 3, none⟩ (.string c.set)) w.heap.size 64 #[.int .i64 c.kind, .int .i64 c.client, .int .i64 c.no, .string c.set, .string c.name, .string c.tag, .int .i64 c.n, .slice a1 n1 c1] from X1.out.set 3 (.string c.set))
  have Y1s := Lib.hid (Y1.out.set_other ⟨w.heap.size, 3, none⟩ (.string c.set) (by simp))
  have A1s := Lib.hid (A1.out.set (p := ⟨w.heap.size, 3, none⟩) (Nat.le_refl _) (.string c.set))
  clear X1 Y1 A1
  refine (clone_c c.name _ HSZ.out.2.2.1).mono ?_
  rintro e w2 ⟨rfl, b2⟩
  have X2 := Lib.hid (X1s.out.after b2)
  have Y2 := Lib.hid (Y1s.out.after b2)
  have A2 := Lib.hid (A1s.out.after b2)
  clear b2 X1s Y1s A1s
  obtain ⟨x0, x1, x2, x3, x4, x5, x6, x7⟩ := X2.out.c8'
  obtain ⟨f0, f1, f2, f3, f4, f5, f6, f7⟩ := X2.out.f8'
  go_wp2_with fail
  clear x0 x1 x2 x3 x4 x5 x6 x7 f0 f1 f2 f3 f4 f5 f6 f7
  have X2s := Lib.hid (show Bx (w2.setCell ⟨w.heap.size, 4, none⟩ (.string c.name)) w.heap.size 64 #[.int .i64 c.kind, .int .i64 c.client, .int .i64 c.no, .string c.set, .string c.name, .string c.tag, .int .i64 c.n, .slice a1 n1 c1] from X2.out.set 4 (.string c.name))
  have Y2s := Lib.hid (Y2.out.set_other ⟨w.heap.size, 4, none⟩ (.string c.name) (by simp))
  have A2s := Lib.hid (A2.out.set (p := ⟨w.heap.size, 4, none⟩) (Nat.le_refl _) (.string c.name))
  clear X2 Y2 A2
  refine (clone_c c.tag _ HSZ.out.2.2.2).mono ?_
  rintro e w3 ⟨rfl, b3⟩
  have X3 := Lib.hid (X2s.out.after b3)
  have Y3 := Lib.hid (Y2s.out.after b3)
  have A3 := Lib.hid (A2s.out.after b3)
  clear b3 X2s Y2s A2s
  obtain ⟨x0, x1, x2, x3, x4, x5, x6, x7⟩ := X3.out.c8'
  obtain ⟨f0, f1, f2, f3, f4, f5, f6, f7⟩ := X3.out.f8'
  go_wp2_with fail
  clear x0 x1 x2 x3 x4 x5 x6 x7 f0 f1 f2 f3 f4 f5 f6 f7
  have X3s := Lib.hid (show Bx (w3.setCell ⟨w.heap.size, 5, none⟩ (.string c.tag)) w.heap.size 64 #[.int .i64 c.kind, .int .i64 c.client, .int .i64 c.no, .string c.set, .string c.name, .string c.tag, .int .i64 c.n, .slice a1 n1 c1] from X3.out.set 5 (.string c.tag))
  have Y3s := Lib.hid (Y3.out.set_other ⟨w.heap.size, 5, none⟩ (.string c.tag) (by simp))
  have A3s := Lib.hid (A3.out.set (p := ⟨w.heap.size, 5, none⟩) (Nat.le_refl _) (.string c.tag))
  clear X3 Y3 A3
  refine (copy_texts _ c.ch _ (VH.out.later A3s.out) HSZ.out.1).mono ?_
  rintro e w4 ⟨⟨u4, rfl, s4⟩, b4⟩
  obtain ⟨a4, n4, c4, rfl⟩ := s4.1.form
  have X4 := Lib.hid (X3s.out.after b4)
  have Y4 := Lib.hid (Y3s.out.after b4)
  have A4 := Lib.hid (A3s.out.after b4)
  have S4 := Lib.hid s4
  have hz : w.heap.size + 2 ≤ w3.heap.size := by have := Y3s.out.lt; simp at this; omega
  clear b4 s4 X3s Y3s A3s
  obtain ⟨x0, x1, x2, x3, x4, x5, x6, x7⟩ := X4.out.c8'
  obtain ⟨f0, f1, f2, f3, f4, f5, f6, f7⟩ := X4.out.f8'
  obtain ⟨y0, y1, y2, y3, y4, y5, y6, y7⟩ := Y4.out.c8'
  obtain ⟨g0, g1, g2, g3, g4, g5, g6, g7⟩ := Y4.out.f8'
  go_wp2
  clear x0 x1 x2 x3 x4 x5 x6 x7 f0 f1 f2 f3 f4 f5 f6 f7 y0 y1 y2 y3 y4 y5 y6 y7 g0 g1 g2 g3 g4 g5 g6 g7
  have hS : StO w4 w3.heap.size (.slice a4 n4 c4) c.ch := by have h := S4.out; simp only [World.size_setCell] at h; exact h
  have G4 := setL_grown (w.heap.size + 1) [.int .i64 c.kind, .int .i64 c.client, .int .i64 c.no, .string c.set, .string c.name, .string c.tag, .int .i64 c.n, .slice a4 n4 c4] (w4.setCell ⟨w.heap.size, 7, none⟩ (.slice a4 n4 c4)) 0
  have F4 : Bx (setL (w4.setCell ⟨w.heap.size, 7, none⟩ (.slice a4 n4 c4)) (w.heap.size + 1) 0 [.int .i64 c.kind, .int .i64 c.client, .int .i64 c.no, .string c.set, .string c.name, .string c.tag, .int .i64 c.n, .slice a4 n4 c4]) (w.heap.size + 1) 64 #[.int .i64 c.kind, .int .i64 c.client, .int .i64 c.no, .string c.set, .string c.name, .string c.tag, .int .i64 c.n, .slice a4 n4 c4] := by
    have := setL_heap [.int .i64 c.kind, .int .i64 c.client, .int .i64 c.no, .string c.set, .string c.name, .string c.tag, .int .i64 c.n, .slice a4 n4 c4] (w4.setCell ⟨w.heap.size, 7, none⟩ (.slice a4 n4 c4)) #[.int .i64 0, .int .i64 0, .int .i64 0, .string ⟨#[]⟩, .string ⟨#[]⟩, .string ⟨#[]⟩, .int .i64 0, .slice none 0 0] 0 (Y4.out.set_other ⟨w.heap.size, 7, none⟩ _ (by simp))
    rw [updL_eq [.int .i64 c.kind, .int .i64 c.client, .int .i64 c.no, .string c.set, .string c.name, .string c.tag, .int .i64 c.n, .slice a4 n4 c4] #[.int .i64 0, .int .i64 0, .int .i64 0, .string ⟨#[]⟩, .string ⟨#[]⟩, .string ⟨#[]⟩, .int .i64 0, .slice none 0 0] 0 (show 0 + 8 ≤ 8 by omega)] at this
    exact this
  have S5 : StO (setL (w4.setCell ⟨w.heap.size, 7, none⟩ (.slice a4 n4 c4)) (w.heap.size + 1) 0 [.int .i64 c.kind, .int .i64 c.client, .int .i64 c.no, .string c.set, .string c.name, .string c.tag, .int .i64 c.n, .slice a4 n4 c4]) w3.heap.size (.slice a4 n4 c4) c.ch := ⟨((hS.1.kept (grownBy_put w4 w.heap.size 7 _) (by omega)).kept G4 (by omega)), hS.2⟩
  have A5 : Af w (setL (w4.setCell ⟨w.heap.size, 7, none⟩ (.slice a4 n4 c4)) (w.heap.size + 1) 0 [.int .i64 c.kind, .int .i64 c.client, .int .i64 c.no, .string c.set, .string c.name, .string c.tag, .int .i64 c.n, .slice a4 n4 c4]) := (A4.out.set (p := ⟨w.heap.size, 7, none⟩) (Nat.le_refl _) (.slice a4 n4 c4)).grow G4 (fun k hk => by cases hk; omega)
  exact bodyPost_ret (results_cmd Tryz.results91 _ _ (w.heap.size + 1) _ _ _ _ _ _ _ _ rfl F4.c8') rfl ⟨⟨_, _, _, rfl, S5.mono (by omega)⟩, A5⟩
end Go.Proofs.YtckeeadkhopljaaGreatDoor
/- Instances copied: the program's copyInst. -/
namespace Go.Proofs.YtckeeadkhopljaaGreatDoor
open Go.RowKit Go.PlainAid
set_option linter.unusedVariables false

/-- An instance within the law's measure. -/
def SmlX (x : In) : Prop := SmlC x.cmd ∧ x.deps.length ≤ 1048576
set_option maxRecDepth 100000 in
set_option maxHeartbeats 2000000 in
theorem copy_inst (x : In) (u d : Value) (w : World) (h : Pts w x u d) (hs : SmlX x) :
    Calls Tryz.prog 74 #[.agg #[.int .i64 x.rep, .int .i64 x.slot, .int .i64 x.bal, .int .i64 x.vbal, .int .i64 x.st, .int .i64 x.cmd.kind, .int .i64 x.cmd.client, .int .i64 x.cmd.no, .string x.cmd.set, .string x.cmd.name, .string x.cmd.tag, .int .i64 x.cmd.n, u, .int .i64 x.seq, d, .bool x.same]] w fun e w' => (∃ a n c a' n' c', e = .returned (.agg #[.int .i64 x.rep, .int .i64 x.slot, .int .i64 x.bal, .int .i64 x.vbal, .int .i64 x.st, .int .i64 x.cmd.kind, .int .i64 x.cmd.client, .int .i64 x.cmd.no, .string x.cmd.set, .string x.cmd.name, .string x.cmd.tag, .int .i64 x.cmd.n, .slice a n c, .int .i64 x.seq, .slice a' n' c', .bool x.same]) ∧ PtO w' w.heap.size w'.heap.size x (.slice a n c) (.slice a' n' c')) ∧ Below w.heap.size w w' := by
  obtain ⟨⟨a1, n1, c1, rfl⟩, a2, n2, c2, rfl⟩ := h.form
  have PH := Lib.hid h
  have HSZ := Lib.hid hs
  have X0 := Lib.hid ((Bx.new w 67 #[.int .i64 x.rep, .int .i64 x.slot, .int .i64 x.bal, .int .i64 x.vbal, .int .i64 x.st, .int .i64 x.cmd.kind, .int .i64 x.cmd.client, .int .i64 x.cmd.no, .string x.cmd.set, .string x.cmd.name, .string x.cmd.tag, .int .i64 x.cmd.n, .slice a1 n1 c1, .int .i64 x.seq, .slice a2 n2 c2, .bool x.same] _ rfl).alloc (.cells #[.int .i64 0, .int .i64 0, .int .i64 0, .int .i64 0, .int .i64 0, .int .i64 0, .int .i64 0, .int .i64 0, .string ⟨#[]⟩, .string ⟨#[]⟩, .string ⟨#[]⟩, .int .i64 0, .slice none 0 0, .int .i64 0, .slice none 0 0, .bool false] 67))
  have Y0 := Lib.hid (Bx.new (w.alloc (.cells #[.int .i64 x.rep, .int .i64 x.slot, .int .i64 x.bal, .int .i64 x.vbal, .int .i64 x.st, .int .i64 x.cmd.kind, .int .i64 x.cmd.client, .int .i64 x.cmd.no, .string x.cmd.set, .string x.cmd.name, .string x.cmd.tag, .int .i64 x.cmd.n, .slice a1 n1 c1, .int .i64 x.seq, .slice a2 n2 c2, .bool x.same] 67)) 67 #[.int .i64 0, .int .i64 0, .int .i64 0, .int .i64 0, .int .i64 0, .int .i64 0, .int .i64 0, .int .i64 0, .string ⟨#[]⟩, .string ⟨#[]⟩, .string ⟨#[]⟩, .int .i64 0, .slice none 0 0, .int .i64 0, .slice none 0 0, .bool false] (w.heap.size + 1) (by simp))
  have A0 := Lib.hid (((Af.refl w).alloc (.cells #[.int .i64 x.rep, .int .i64 x.slot, .int .i64 x.bal, .int .i64 x.vbal, .int .i64 x.st, .int .i64 x.cmd.kind, .int .i64 x.cmd.client, .int .i64 x.cmd.no, .string x.cmd.set, .string x.cmd.name, .string x.cmd.tag, .int .i64 x.cmd.n, .slice a1 n1 c1, .int .i64 x.seq, .slice a2 n2 c2, .bool x.same] 67)).alloc (.cells #[.int .i64 0, .int .i64 0, .int .i64 0, .int .i64 0, .int .i64 0, .int .i64 0, .int .i64 0, .int .i64 0, .string ⟨#[]⟩, .string ⟨#[]⟩, .string ⟨#[]⟩, .int .i64 0, .slice none 0 0, .int .i64 0, .slice none 0 0, .bool false] 67))
  clear h hs
  go_enter Tryz.func74, Tryz.ntmps74
  go_wp2_with fail
  refine (copy_cmd x.cmd _ _ (PH.out.later A0.out).1 HSZ.out.1).mono ?_
  rintro e w1 ⟨⟨a3, n3, c3, rfl, s3⟩, b1⟩
  have X1 := Lib.hid (X0.out.after b1)
  have Y1 := Lib.hid (Y0.out.after b1)
  have A1 := Lib.hid (A0.out.after b1)
  have hs3 : StO w1 (w.heap.size + 2) (.slice a3 n3 c3) x.cmd.ch := by have h := s3; simp only [World.size_alloc] at h; exact h
  have S1 := Lib.hid hs3
  clear b1 s3 hs3 X0 Y0 A0
  obtain ⟨L8, hL8⟩ : ∃ L8 : List Value, L8 = [.int .i64 x.cmd.kind, .int .i64 x.cmd.client, .int .i64 x.cmd.no, .string x.cmd.set, .string x.cmd.name, .string x.cmd.tag, .int .i64 x.cmd.n, .slice a3 n3 c3] := ⟨_, rfl⟩
  have G1 := Lib.hid (setL_grown w.heap.size L8 w1 5)
  have Z1 := Lib.hid (setL_size w.heap.size L8 w1 5)
  have X1s := Lib.hid (show Bx (setL w1 w.heap.size 5 L8) w.heap.size 67 #[.int .i64 x.rep, .int .i64 x.slot, .int .i64 x.bal, .int .i64 x.vbal, .int .i64 x.st, .int .i64 x.cmd.kind, .int .i64 x.cmd.client, .int .i64 x.cmd.no, .string x.cmd.set, .string x.cmd.name, .string x.cmd.tag, .int .i64 x.cmd.n, .slice a3 n3 c3, .int .i64 x.seq, .slice a2 n2 c2, .bool x.same] by have := setL_heap L8 w1 #[.int .i64 x.rep, .int .i64 x.slot, .int .i64 x.bal, .int .i64 x.vbal, .int .i64 x.st, .int .i64 x.cmd.kind, .int .i64 x.cmd.client, .int .i64 x.cmd.no, .string x.cmd.set, .string x.cmd.name, .string x.cmd.tag, .int .i64 x.cmd.n, .slice a1 n1 c1, .int .i64 x.seq, .slice a2 n2 c2, .bool x.same] 5 X1.out; rw [updL_eq L8 #[.int .i64 x.rep, .int .i64 x.slot, .int .i64 x.bal, .int .i64 x.vbal, .int .i64 x.st, .int .i64 x.cmd.kind, .int .i64 x.cmd.client, .int .i64 x.cmd.no, .string x.cmd.set, .string x.cmd.name, .string x.cmd.tag, .int .i64 x.cmd.n, .slice a1 n1 c1, .int .i64 x.seq, .slice a2 n2 c2, .bool x.same] 5 (by rw [hL8]; show 5 + 8 ≤ 16; omega)] at this; rw [hL8] at this ⊢; exact this)
  have Y1s := Lib.hid (Y1.out.keep G1.out (by simp))
  have A1s := Lib.hid (A1.out.grow G1.out (fun k hk => by cases hk; exact Nat.le_refl _))
  have S1s := Lib.hid (show StO (setL w1 w.heap.size 5 L8) (w.heap.size + 2) (.slice a3 n3 c3) x.cmd.ch from ⟨S1.out.1.kept G1.out (by omega), S1.out.2⟩)
  obtain ⟨x0, x1, x2, x3, x4, x5, x6, x7, x8, x9, x10, x11, x12, x13, x14, x15⟩ := X1.out.c16
  obtain ⟨f0, f1, f2, f3, f4, f5, f6, f7, f8, f9, f10, f11, f12, f13, f14, f15⟩ := froz16 X1.out
  go_wp2_with fail
  clear x0 x1 x2 x3 x4 x5 x6 x7 x8 x9 x10 x11 x12 x13 x14 x15 f0 f1 f2 f3 f4 f5 f6 f7 f8 f9 f10 f11 f12 f13 f14 f15
  refine wp_worldC (W := (setL w1 w.heap.size 5 L8)) (by rw [hL8]; rfl) ?_
  refine (clone_ids _ x.deps _ (PH.out.later A1s.out).2.1 (by have := HSZ.out.2; omega)).mono ?_
  rintro e w2 ⟨⟨ud, rfl, r2⟩, b2⟩
  obtain ⟨a4, n4, c4, rfl⟩ := r2.own.form
  have X2 := Lib.hid (X1s.out.after b2)
  have Y2 := Lib.hid (Y1s.out.after b2)
  have A2 := Lib.hid (A1s.out.after b2)
  have S2 := Lib.hid (S1s.out.later b2)
  have hlo : w.heap.size + 2 ≤ (setL w1 w.heap.size 5 L8).heap.size := by have := Y1s.out.lt; omega
  have R2 := Lib.hid (r2.mono hlo)
  clear b2 r2 X1 Y1 A1 S1 X1s Y1s A1s S1s G1 Z1 hL8 hlo
  obtain ⟨x0, x1, x2, x3, x4, x5, x6, x7, x8, x9, x10, x11, x12, x13, x14, x15⟩ := cells16 X2.out
  obtain ⟨f0, f1, f2, f3, f4, f5, f6, f7, f8, f9, f10, f11, f12, f13, f14, f15⟩ := froz16 X2.out
  obtain ⟨y0, y1, y2, y3, y4, y5, y6, y7, y8, y9, y10, y11, y12, y13, y14, y15⟩ := cells16 Y2.out
  obtain ⟨g0, g1, g2, g3, g4, g5, g6, g7, g8, g9, g10, g11, g12, g13, g14, g15⟩ := froz16 Y2.out
  go_wp2
  clear x0 x1 x2 x3 x4 x5 x6 x7 x8 x9 x10 x11 x12 x13 x14 x15 f0 f1 f2 f3 f4 f5 f6 f7 f8 f9 f10 f11 f12 f13 f14 f15 y0 y1 y2 y3 y4 y5 y6 y7 y8 y9 y10 y11 y12 y13 y14 y15 g0 g1 g2 g3 g4 g5 g6 g7 g8 g9 g10 g11 g12 g13 g14 g15
  have Gp := grownBy_put w2 w.heap.size 14 (.slice a4 n4 c4)
  have Gs := setL_grown (w.heap.size + 1) (inA x (.slice a3 n3 c3) (.slice a4 n4 c4)) (w2.setCell ⟨w.heap.size, 14, none⟩ (.slice a4 n4 c4)) 0
  have Zs : (setL (w2.setCell ⟨w.heap.size, 14, none⟩ (.slice a4 n4 c4)) (w.heap.size + 1) 0 (inA x (.slice a3 n3 c3) (.slice a4 n4 c4))).heap.size = w2.heap.size := by rw [setL_size]; simp
  have F : Bx (setL (w2.setCell ⟨w.heap.size, 14, none⟩ (.slice a4 n4 c4)) (w.heap.size + 1) 0 (inA x (.slice a3 n3 c3) (.slice a4 n4 c4))) (w.heap.size + 1) 67 #[.int .i64 x.rep, .int .i64 x.slot, .int .i64 x.bal, .int .i64 x.vbal, .int .i64 x.st, .int .i64 x.cmd.kind, .int .i64 x.cmd.client, .int .i64 x.cmd.no, .string x.cmd.set, .string x.cmd.name, .string x.cmd.tag, .int .i64 x.cmd.n, .slice a3 n3 c3, .int .i64 x.seq, .slice a4 n4 c4, .bool x.same] := by
    have := setL_heap (inA x (.slice a3 n3 c3) (.slice a4 n4 c4)) (w2.setCell ⟨w.heap.size, 14, none⟩ (.slice a4 n4 c4)) #[.int .i64 0, .int .i64 0, .int .i64 0, .int .i64 0, .int .i64 0, .int .i64 0, .int .i64 0, .int .i64 0, .string ⟨#[]⟩, .string ⟨#[]⟩, .string ⟨#[]⟩, .int .i64 0, .slice none 0 0, .int .i64 0, .slice none 0 0, .bool false] 0 (Y2.out.set_other ⟨w.heap.size, 14, none⟩ _ (by simp))
    rw [updL_eq (inA x (.slice a3 n3 c3) (.slice a4 n4 c4)) #[.int .i64 0, .int .i64 0, .int .i64 0, .int .i64 0, .int .i64 0, .int .i64 0, .int .i64 0, .int .i64 0, .string ⟨#[]⟩, .string ⟨#[]⟩, .string ⟨#[]⟩, .int .i64 0, .slice none 0 0, .int .i64 0, .slice none 0 0, .bool false] 0 (show 0 + 16 ≤ 16 by omega)] at this
    exact this
  have S5 : StO (setL (w2.setCell ⟨w.heap.size, 14, none⟩ (.slice a4 n4 c4)) (w.heap.size + 1) 0 (inA x (.slice a3 n3 c3) (.slice a4 n4 c4))) (w.heap.size + 2) (.slice a3 n3 c3) x.cmd.ch := ⟨(S2.out.1.kept Gp (by omega)).kept Gs (by omega), S2.out.2⟩
  have D5 : IdOwn (setL (w2.setCell ⟨w.heap.size, 14, none⟩ (.slice a4 n4 c4)) (w.heap.size + 1) 0 (inA x (.slice a3 n3 c3) (.slice a4 n4 c4))) (w.heap.size + 2) (.slice a4 n4 c4) x.deps := (R2.out.own.kept Gp (fun k hk => by cases hk; omega)).kept Gs (fun k hk => by cases hk; omega)
  have A5 : Af w (setL (w2.setCell ⟨w.heap.size, 14, none⟩ (.slice a4 n4 c4)) (w.heap.size + 1) 0 (inA x (.slice a3 n3 c3) (.slice a4 n4 c4))) := (A2.out.set (p := ⟨w.heap.size, 14, none⟩) (Nat.le_refl _) (.slice a4 n4 c4)).grow Gs (fun k hk => by cases hk; omega)
  have BU : ∀ k, Value.ownBlock (.slice a3 n3 c3) = some k → w.heap.size ≤ k ∧ k < (setL (w2.setCell ⟨w.heap.size, 14, none⟩ (.slice a4 n4 c4)) (w.heap.size + 1) 0 (inA x (.slice a3 n3 c3) (.slice a4 n4 c4))).heap.size := fun k hk => by have h9 := S5.1.lt k hk; exact ⟨by omega, h9.2⟩
  have BD : ∀ k, Value.ownBlock (.slice a4 n4 c4) = some k → w.heap.size ≤ k ∧ k < (setL (w2.setCell ⟨w.heap.size, 14, none⟩ (.slice a4 n4 c4)) (w.heap.size + 1) 0 (inA x (.slice a3 n3 c3) (.slice a4 n4 c4))).heap.size := fun k hk => by have h9 := R2.out.lt k hk; rw [Zs]; omega
  exact bodyPost_ret (results_inst Tryz.results74 _ _ (w.heap.size + 1) _ _ _ _ _ _ _ _ _ _ _ _ _ _ _ _ rfl (cells16 F)) rfl ⟨⟨_, _, _, _, _, _, rfl, ⟨S5.mono (by omega), D5.mono (by omega), BU, BD, PH.out.2.2⟩⟩, A5⟩
end Go.Proofs.YtckeeadkhopljaaGreatDoor
/- Nothing is appended to a slice of Ids. -/
namespace Go.Proofs.YtckeeadkhopljaaGreatDoor
open Go.RowKit Go.PlainAid
set_option linter.unusedVariables false

theorem run_app_none (w : World) (base : Option Addr) (sLen sCap : Nat) (hle : sLen ≤ sCap) (a : Option Addr) (c : Nat) (ty : TypeId) :
    (Builtin.append_ #[65, 65] ty #[.slice base sLen sCap, .slice a 0 c]).run Tryz.prog w = .ok (.slice base sLen sCap) w := by
  obtain ⟨i, hi, hz, hs, hby⟩ := info_parts Tryz.infoId
  cases base <;> cases a <;> simp [Builtin.append_, run_underlying Tryz.underlying65, sizeOf, typeInfo, hi, hle, storeCells, go_sem]
/-- ids = append(ids, nothing...). -/
theorem wp_append_zero {w : World} {ops : Array Oper} {rest : List Oper} {o : Oper} {a : Act} {Q : Exit → Act → World → Prop} (hgd : o.guard = none) (s x : Operand)
    (ho : o.op = .call { callee := .builtin .append, args := #[s, x], argTypes := #[65, 65] }) (b : Option Addr) (n c : Nat) (hs : a.eval s = .slice b n c) (hle : n ≤ c) (ad : Option Addr) (c' : Nat) (hx : a.eval x = .slice ad 0 c')
    (hK : wpList Tryz.prog ops Q rest (a.put o.dst (.slice b n c)) w) : wpList Tryz.prog ops Q (o :: rest) a w := by
  have hr := run_app_none w b n c hle ad c' o.type
  refine wpList_plain hgd fun _ hK2 => ?_
  unfold Oper.wp execOp
  simp only [ho, resolve, invoke, builtin, Sem.run_bind, Sem.run_pure, Result.andThen_ok, List.map_toArray, List.map_cons, List.map_nil, hs, hx, hr]
  exact hK2 _ _ hK
theorem wpList_at {P : Program} {ops : Array Oper} {rest : List Oper} {a : Act} {w : World} {Q : Exit → Act → World → Prop} (R : World → Prop) (hR : R w) (h : ∀ w1, R w1 → wpList P ops Q rest a w1) : wpList P ops Q rest a w := h w hR
end Go.Proofs.YtckeeadkhopljaaGreatDoor
/- Commands and instances copied: the model's l4Copy and l8Copy. -/
namespace Go.Proofs.YtckeeadkhopljaaGreatDoor
open Go.RowKit Go.PlainAid
set_option linter.unusedVariables false

/-- texts = append(texts, others...). -/
theorem wp_append_strs {w : World} {ops : Array Oper} {rest : List Oper} {o : Oper} {a : Act} {Q : Exit → Act → World → Prop} (hgd : o.guard = none) (s x : Operand)
    (ho : o.op = .call { callee := .builtin .append, args := #[s, x], argTypes := #[50, 50] }) (base : Nat) (v : Value) (l l2 : List ByteArray) (hs : a.eval s = v) (hown : GrowsS w base v l)
    (b oo c : Nat) (hx : a.eval x = .slice (some ⟨b, oo, none⟩) l2.length c) (hX : ∀ j, j < l2.length → w.cell? ⟨b, oo + j, none⟩ = some (.string (el l2 j))) (hlen : l.length + l2.length ≤ 4194304) (hbase : base ≤ w.heap.size)
    (hK : ∀ v' w', GrowsS w' base v' (l ++ l2) → w.grownBy w' v.ownBlock → wpList Tryz.prog ops Q rest (a.put o.dst v') w') : wpList Tryz.prog ops Q (o :: rest) a w := by
  obtain ⟨i0, hi, hz0, hz1, hz2⟩ := info_parts Tryz.info9
  refine wpList_append_own w hgd s x 50 ho base 9 i0 (.string ByteArray.empty) 1 16 Tryz.underlying50 hi hz0 hz1 hz2 rfl (by decide) v l.length (strV l) hs hown ⟨b, oo, none⟩ l2.length c (strV l2) hx (by simp [strV]) ?_ (strV_one l2) (by unfold maxLen; omega) (by omega) hbase ?_
  · intro j u hj
    have hjl : j < l2.length := by have := (List.getElem?_eq_some_iff.1 hj).1; simpa [strV] using this
    rw [Go.WideShapes.add_plain, hX j hjl, ← strV_get l2 j hjl]
    exact hj
  · intro v' w' h1 h2 _
    refine hK v' w' ?_ h2
    unfold GrowsS
    rw [List.length_append]
    simpa [strV] using h1
theorem growsS_new (w : World) (base : Nat) (hb : base ≤ w.heap.size) : GrowsS (w.alloc (.cells #[] 9)) base (.slice (some ⟨w.heap.size, 0, none⟩) 0 0) [] := World.ownsRow_made w #[] 0 hb (Nat.zero_le _) rfl
set_option maxRecDepth 100000 in
set_option maxHeartbeats 1000000 in
theorem spec_copyC (c : CmdM) (v : Value) (w : World) (hv : Strs w v c.ch) (hs : c.ch.length ≤ 1048576) :
    Calls Tryz.prog 81 #[.agg #[.int .i64 c.kind, .int .i64 c.client, .int .i64 c.no, .string c.set, .string c.name, .string c.tag, .int .i64 c.n, v]] w fun e w' => (∃ a n cap, e = .returned (.agg #[.int .i64 c.kind, .int .i64 c.client, .int .i64 c.no, .string c.set, .string c.name, .string c.tag, .int .i64 c.n, .slice a n cap]) ∧ StO w' w.heap.size (.slice a n cap) c.ch) ∧ Below w.heap.size w w' := by
  have HK := Lib.hid hv.size
  obtain ⟨k1, k2, a1, c1, rfl, hca, ha⟩ := hv
  clear k2
  obtain ⟨n1, hn1⟩ : ∃ n, c.ch.length = n := ⟨_, rfl⟩
  have HN := Lib.hid hn1
  rw [hn1] at k1 hca ha hs ⊢
  have X0 := Lib.hid (((Bx.new w 64 #[.int .i64 c.kind, .int .i64 c.client, .int .i64 c.no, .string c.set, .string c.name, .string c.tag, .int .i64 c.n, .slice a1 n1 c1] _ rfl).alloc (.cells #[.int .i64 0, .int .i64 0, .int .i64 0, .string ⟨#[]⟩, .string ⟨#[]⟩, .string ⟨#[]⟩, .int .i64 0, .slice none 0 0] 64)).alloc (.cells #[] 9))
  have Y0 := Lib.hid ((Bx.new (w.alloc (.cells #[.int .i64 c.kind, .int .i64 c.client, .int .i64 c.no, .string c.set, .string c.name, .string c.tag, .int .i64 c.n, .slice a1 n1 c1] 64)) 64 #[.int .i64 0, .int .i64 0, .int .i64 0, .string ⟨#[]⟩, .string ⟨#[]⟩, .string ⟨#[]⟩, .int .i64 0, .slice none 0 0] (w.heap.size + 1) (by simp)).alloc (.cells #[] 9))
  have A0 := Lib.hid ((((Af.refl w).alloc (.cells #[.int .i64 c.kind, .int .i64 c.client, .int .i64 c.no, .string c.set, .string c.name, .string c.tag, .int .i64 c.n, .slice a1 n1 c1] 64)).alloc (.cells #[.int .i64 0, .int .i64 0, .int .i64 0, .string ⟨#[]⟩, .string ⟨#[]⟩, .string ⟨#[]⟩, .int .i64 0, .slice none 0 0] 64)).alloc (.cells #[] 9))
  have R0 := Lib.hid (show GrowsS (((w.alloc (.cells #[.int .i64 c.kind, .int .i64 c.client, .int .i64 c.no, .string c.set, .string c.name, .string c.tag, .int .i64 c.n, .slice a1 n1 c1] 64)).alloc (.cells #[.int .i64 0, .int .i64 0, .int .i64 0, .string ⟨#[]⟩, .string ⟨#[]⟩, .string ⟨#[]⟩, .int .i64 0, .slice none 0 0] 64)).alloc (.cells #[] 9)) (w.heap.size + 2) (.slice (some ⟨w.heap.size + 1 + 1, 0, none⟩) 0 0) [] by have h := growsS_new ((w.alloc (.cells #[.int .i64 c.kind, .int .i64 c.client, .int .i64 c.no, .string c.set, .string c.name, .string c.tag, .int .i64 c.n, .slice a1 n1 c1] 64)).alloc (.cells #[.int .i64 0, .int .i64 0, .int .i64 0, .string ⟨#[]⟩, .string ⟨#[]⟩, .string ⟨#[]⟩, .int .i64 0, .slice none 0 0] 64)) (w.heap.size + 2) (by simp); simpa using h)
  clear hn1
  by_cases hp : 0 < n1
  · obtain ⟨b, o, rfl, hb, hcl⟩ := ha hp
    have HCL := Lib.hid (fun j (hj : j < c.ch.length) => (by rw [HN.out] at hj; rw [A0.out.cell (p := ⟨b, o + j, none⟩) hb]; exact hcl j hj : (((w.alloc (.cells #[.int .i64 c.kind, .int .i64 c.client, .int .i64 c.no, .string c.set, .string c.name, .string c.tag, .int .i64 c.n, .slice (some ⟨b, o, none⟩) n1 c1] 64)).alloc (.cells #[.int .i64 0, .int .i64 0, .int .i64 0, .string ⟨#[]⟩, .string ⟨#[]⟩, .string ⟨#[]⟩, .int .i64 0, .slice none 0 0] 64)).alloc (.cells #[] 9)).cell? ⟨b, o + j, none⟩ = some (.string (el c.ch j))))
    obtain ⟨x0, x1, x2, x3, x4, x5, x6, x7⟩ := X0.out.c8'
    clear ha hcl
    go_enter Tryz.func81, Tryz.ntmps81
    go_wp2_with (at_builtin; go_loud (refine wp_append_strs rfl (.tmp 3) (.tmp 5) rfl (w.heap.size + 2) (.slice (some ⟨w.heap.size + 1 + 1, 0, none⟩) 0 0) [] c.ch rfl R0.out b o c1 (by rw [HN.out]; rfl) HCL.out (by rw [HN.out]; simp only [List.length_nil]; omega) (by simp) ?_; intro u4 w4 hr hg; rw [List.nil_append] at hr; obtain ⟨a4, n4, c4, hu⟩ := hr.form; subst hu; have S4 := Lib.hid (show StO w4 (w.heap.size + 2) (.slice a4 n4 c4) c.ch from ⟨hr, HK.out⟩); have X4 := Lib.hid (X0.out.keep hg (fun e => by have e2 : w.heap.size = w.heap.size + 1 + 1 := Option.some.inj e; omega)); have Y4 := Lib.hid (Y0.out.keep hg (fun e => by have e2 : w.heap.size + 1 = w.heap.size + 1 + 1 := Option.some.inj e; omega)); have A4 := Lib.hid (A0.out.grow hg (fun k hk => by cases hk; show w.heap.size ≤ w.heap.size + 1 + 1; omega)); clear hr hg x0 x1 x2 x3 x4 x5 x6 x7; obtain ⟨x0, x1, x2, x3, x4, x5, x6, x7⟩ := X4.out.c8'; obtain ⟨f0, f1, f2, f3, f4, f5, f6, f7⟩ := X4.out.f8'; obtain ⟨y0, y1, y2, y3, y4, y5, y6, y7⟩ := Y4.out.c8'; obtain ⟨g0, g1, g2, g3, g4, g5, g6, g7⟩ := Y4.out.f8'))
    clear x0 x1 x2 x3 x4 x5 x6 x7 f0 f1 f2 f3 f4 f5 f6 f7 y0 y1 y2 y3 y4 y5 y6 y7 g0 g1 g2 g3 g4 g5 g6 g7
    have Gp := grownBy_put w4 w.heap.size 7 (.slice a4 n4 c4)
    have G4 := setL_grown (w.heap.size + 1) [.int .i64 c.kind, .int .i64 c.client, .int .i64 c.no, .string c.set, .string c.name, .string c.tag, .int .i64 c.n, .slice a4 n4 c4] (w4.setCell ⟨w.heap.size, 7, none⟩ (.slice a4 n4 c4)) 0
    have F4 : Bx (setL (w4.setCell ⟨w.heap.size, 7, none⟩ (.slice a4 n4 c4)) (w.heap.size + 1) 0 [.int .i64 c.kind, .int .i64 c.client, .int .i64 c.no, .string c.set, .string c.name, .string c.tag, .int .i64 c.n, .slice a4 n4 c4]) (w.heap.size + 1) 64 #[.int .i64 c.kind, .int .i64 c.client, .int .i64 c.no, .string c.set, .string c.name, .string c.tag, .int .i64 c.n, .slice a4 n4 c4] := by
      have := setL_heap [.int .i64 c.kind, .int .i64 c.client, .int .i64 c.no, .string c.set, .string c.name, .string c.tag, .int .i64 c.n, .slice a4 n4 c4] (w4.setCell ⟨w.heap.size, 7, none⟩ (.slice a4 n4 c4)) #[.int .i64 0, .int .i64 0, .int .i64 0, .string ⟨#[]⟩, .string ⟨#[]⟩, .string ⟨#[]⟩, .int .i64 0, .slice none 0 0] 0 (Y4.out.set_other ⟨w.heap.size, 7, none⟩ _ (by simp))
      rw [updL_eq [.int .i64 c.kind, .int .i64 c.client, .int .i64 c.no, .string c.set, .string c.name, .string c.tag, .int .i64 c.n, .slice a4 n4 c4] #[.int .i64 0, .int .i64 0, .int .i64 0, .string ⟨#[]⟩, .string ⟨#[]⟩, .string ⟨#[]⟩, .int .i64 0, .slice none 0 0] 0 (show 0 + 8 ≤ 8 by omega)] at this
      exact this
    have S5 : StO (setL (w4.setCell ⟨w.heap.size, 7, none⟩ (.slice a4 n4 c4)) (w.heap.size + 1) 0 [.int .i64 c.kind, .int .i64 c.client, .int .i64 c.no, .string c.set, .string c.name, .string c.tag, .int .i64 c.n, .slice a4 n4 c4]) (w.heap.size + 2) (.slice a4 n4 c4) c.ch := ⟨(S4.out.1.kept Gp (by omega)).kept G4 (by omega), S4.out.2⟩
    have A5 : Af w (setL (w4.setCell ⟨w.heap.size, 7, none⟩ (.slice a4 n4 c4)) (w.heap.size + 1) 0 [.int .i64 c.kind, .int .i64 c.client, .int .i64 c.no, .string c.set, .string c.name, .string c.tag, .int .i64 c.n, .slice a4 n4 c4]) := (A4.out.set (p := ⟨w.heap.size, 7, none⟩) (Nat.le_refl _) (.slice a4 n4 c4)).grow G4 (fun k hk => by cases hk; omega)
    exact bodyPost_ret (results_cmd Tryz.results81 _ _ (w.heap.size + 1) _ _ _ _ _ _ _ _ rfl F4.c8') rfl ⟨⟨_, _, _, rfl, S5.mono (by omega)⟩, A5⟩
  · obtain rfl : n1 = 0 := by omega
    have e0 : c.ch = [] := List.eq_nil_of_length_eq_zero HN.out
    have E0 := Lib.hid e0
    clear ha e0 HK X0 Y0 A0 R0
    cases a1 with
    | none =>
      go_enter Tryz.func81, Tryz.ntmps81
      go_wp2
      exact bodyPost_ret (results_cmd Tryz.results81 _ _ (w.heap.size + 1) _ _ _ _ _ _ _ _ rfl ((Bx.new (w.alloc (.cells #[.int .i64 c.kind, .int .i64 c.client, .int .i64 c.no, .string c.set, .string c.name, .string c.tag, .int .i64 c.n, .slice (some ⟨w.heap.size + 1 + 1, 0, none⟩) 0 0] 64)) 64 #[.int .i64 c.kind, .int .i64 c.client, .int .i64 c.no, .string c.set, .string c.name, .string c.tag, .int .i64 c.n, .slice (some ⟨w.heap.size + 1 + 1, 0, none⟩) 0 0] (w.heap.size + 1) (by simp)).alloc _).c8') rfl ⟨⟨_, _, _, rfl, by have h := growsS_new ((w.alloc (.cells #[.int .i64 c.kind, .int .i64 c.client, .int .i64 c.no, .string c.set, .string c.name, .string c.tag, .int .i64 c.n, .slice (some ⟨w.heap.size + 1 + 1, 0, none⟩) 0 0] 64)).alloc (.cells #[.int .i64 c.kind, .int .i64 c.client, .int .i64 c.no, .string c.set, .string c.name, .string c.tag, .int .i64 c.n, .slice (some ⟨w.heap.size + 1 + 1, 0, none⟩) 0 0] 64)) w.heap.size (by simp; omega); rw [E0.out]; simpa using h, fun j hj => by rw [E0.out] at hj; simp at hj⟩, ((Af.refl w).alloc _).alloc _ |>.alloc _⟩
    | some ad =>
      go_enter Tryz.func81, Tryz.ntmps81
      go_wp2
      exact bodyPost_ret (results_cmd Tryz.results81 _ _ (w.heap.size + 1) _ _ _ _ _ _ _ _ rfl ((Bx.new (w.alloc (.cells #[.int .i64 c.kind, .int .i64 c.client, .int .i64 c.no, .string c.set, .string c.name, .string c.tag, .int .i64 c.n, .slice (some ⟨w.heap.size + 1 + 1, 0, none⟩) 0 0] 64)) 64 #[.int .i64 c.kind, .int .i64 c.client, .int .i64 c.no, .string c.set, .string c.name, .string c.tag, .int .i64 c.n, .slice (some ⟨w.heap.size + 1 + 1, 0, none⟩) 0 0] (w.heap.size + 1) (by simp)).alloc _).c8') rfl ⟨⟨_, _, _, rfl, by have h := growsS_new ((w.alloc (.cells #[.int .i64 c.kind, .int .i64 c.client, .int .i64 c.no, .string c.set, .string c.name, .string c.tag, .int .i64 c.n, .slice (some ⟨w.heap.size + 1 + 1, 0, none⟩) 0 0] 64)).alloc (.cells #[.int .i64 c.kind, .int .i64 c.client, .int .i64 c.no, .string c.set, .string c.name, .string c.tag, .int .i64 c.n, .slice (some ⟨w.heap.size + 1 + 1, 0, none⟩) 0 0] 64)) w.heap.size (by simp; omega); rw [E0.out]; simpa using h, fun j hj => by rw [E0.out] at hj; simp at hj⟩, ((Af.refl w).alloc _).alloc _ |>.alloc _⟩
set_option maxRecDepth 100000 in
set_option maxHeartbeats 2000000 in
theorem spec_copyI (x : In) (u d : Value) (w : World) (h : Pts w x u d) (hs : SmlX x) :
    Calls Tryz.prog 61 #[.agg #[.int .i64 x.rep, .int .i64 x.slot, .int .i64 x.bal, .int .i64 x.vbal, .int .i64 x.st, .int .i64 x.cmd.kind, .int .i64 x.cmd.client, .int .i64 x.cmd.no, .string x.cmd.set, .string x.cmd.name, .string x.cmd.tag, .int .i64 x.cmd.n, u, .int .i64 x.seq, d, .bool x.same]] w fun e w' => (∃ a n c a' n' c', e = .returned (.agg #[.int .i64 x.rep, .int .i64 x.slot, .int .i64 x.bal, .int .i64 x.vbal, .int .i64 x.st, .int .i64 x.cmd.kind, .int .i64 x.cmd.client, .int .i64 x.cmd.no, .string x.cmd.set, .string x.cmd.name, .string x.cmd.tag, .int .i64 x.cmd.n, .slice a n c, .int .i64 x.seq, .slice a' n' c', .bool x.same]) ∧ PtO w' w.heap.size w'.heap.size x (.slice a n c) (.slice a' n' c')) ∧ Below w.heap.size w w' := by
  obtain ⟨⟨a1, n1, c1, rfl⟩, a2, n2, c2, rfl⟩ := h.form
  have PH := Lib.hid h
  have HSZ := Lib.hid hs
  have X0 := Lib.hid ((Bx.new w 67 #[.int .i64 x.rep, .int .i64 x.slot, .int .i64 x.bal, .int .i64 x.vbal, .int .i64 x.st, .int .i64 x.cmd.kind, .int .i64 x.cmd.client, .int .i64 x.cmd.no, .string x.cmd.set, .string x.cmd.name, .string x.cmd.tag, .int .i64 x.cmd.n, .slice a1 n1 c1, .int .i64 x.seq, .slice a2 n2 c2, .bool x.same] _ rfl).alloc (.cells #[.int .i64 0, .int .i64 0, .int .i64 0, .int .i64 0, .int .i64 0, .int .i64 0, .int .i64 0, .int .i64 0, .string ⟨#[]⟩, .string ⟨#[]⟩, .string ⟨#[]⟩, .int .i64 0, .slice none 0 0, .int .i64 0, .slice none 0 0, .bool false] 67))
  have Y0 := Lib.hid (Bx.new (w.alloc (.cells #[.int .i64 x.rep, .int .i64 x.slot, .int .i64 x.bal, .int .i64 x.vbal, .int .i64 x.st, .int .i64 x.cmd.kind, .int .i64 x.cmd.client, .int .i64 x.cmd.no, .string x.cmd.set, .string x.cmd.name, .string x.cmd.tag, .int .i64 x.cmd.n, .slice a1 n1 c1, .int .i64 x.seq, .slice a2 n2 c2, .bool x.same] 67)) 67 #[.int .i64 0, .int .i64 0, .int .i64 0, .int .i64 0, .int .i64 0, .int .i64 0, .int .i64 0, .int .i64 0, .string ⟨#[]⟩, .string ⟨#[]⟩, .string ⟨#[]⟩, .int .i64 0, .slice none 0 0, .int .i64 0, .slice none 0 0, .bool false] (w.heap.size + 1) (by simp))
  have A0 := Lib.hid (((Af.refl w).alloc (.cells #[.int .i64 x.rep, .int .i64 x.slot, .int .i64 x.bal, .int .i64 x.vbal, .int .i64 x.st, .int .i64 x.cmd.kind, .int .i64 x.cmd.client, .int .i64 x.cmd.no, .string x.cmd.set, .string x.cmd.name, .string x.cmd.tag, .int .i64 x.cmd.n, .slice a1 n1 c1, .int .i64 x.seq, .slice a2 n2 c2, .bool x.same] 67)).alloc (.cells #[.int .i64 0, .int .i64 0, .int .i64 0, .int .i64 0, .int .i64 0, .int .i64 0, .int .i64 0, .int .i64 0, .string ⟨#[]⟩, .string ⟨#[]⟩, .string ⟨#[]⟩, .int .i64 0, .slice none 0 0, .int .i64 0, .slice none 0 0, .bool false] 67))
  clear h hs
  go_enter Tryz.func61, Tryz.ntmps61
  go_wp2_with fail
  refine (spec_copyC x.cmd _ _ (PH.out.later A0.out).1 HSZ.out.1.1.1).mono ?_
  rintro e w1 ⟨⟨a3, n3, c3, rfl, s3⟩, b1⟩
  have X1 := Lib.hid (X0.out.after b1)
  have Y1 := Lib.hid (Y0.out.after b1)
  have A1 := Lib.hid (A0.out.after b1)
  have hs3 : StO w1 (w.heap.size + 2) (.slice a3 n3 c3) x.cmd.ch := by have h := s3; simp only [World.size_alloc] at h; exact h
  have S1 := Lib.hid hs3
  have S1b := Lib.hid (fun k (hk : Value.ownBlock (.slice a3 n3 c3) = some k) => (hs3.1.lt k hk).2)
  clear b1 s3 hs3 X0 Y0 A0
  obtain ⟨L8, hL8⟩ : ∃ L8 : List Value, L8 = [.int .i64 x.cmd.kind, .int .i64 x.cmd.client, .int .i64 x.cmd.no, .string x.cmd.set, .string x.cmd.name, .string x.cmd.tag, .int .i64 x.cmd.n, .slice a3 n3 c3] := ⟨_, rfl⟩
  have G1 := Lib.hid (setL_grown w.heap.size L8 w1 5)
  have Z1 := Lib.hid (setL_size w.heap.size L8 w1 5)
  have X1s := Lib.hid (show Bx (setL w1 w.heap.size 5 L8) w.heap.size 67 #[.int .i64 x.rep, .int .i64 x.slot, .int .i64 x.bal, .int .i64 x.vbal, .int .i64 x.st, .int .i64 x.cmd.kind, .int .i64 x.cmd.client, .int .i64 x.cmd.no, .string x.cmd.set, .string x.cmd.name, .string x.cmd.tag, .int .i64 x.cmd.n, .slice a3 n3 c3, .int .i64 x.seq, .slice a2 n2 c2, .bool x.same] by have := setL_heap L8 w1 #[.int .i64 x.rep, .int .i64 x.slot, .int .i64 x.bal, .int .i64 x.vbal, .int .i64 x.st, .int .i64 x.cmd.kind, .int .i64 x.cmd.client, .int .i64 x.cmd.no, .string x.cmd.set, .string x.cmd.name, .string x.cmd.tag, .int .i64 x.cmd.n, .slice a1 n1 c1, .int .i64 x.seq, .slice a2 n2 c2, .bool x.same] 5 X1.out; rw [updL_eq L8 #[.int .i64 x.rep, .int .i64 x.slot, .int .i64 x.bal, .int .i64 x.vbal, .int .i64 x.st, .int .i64 x.cmd.kind, .int .i64 x.cmd.client, .int .i64 x.cmd.no, .string x.cmd.set, .string x.cmd.name, .string x.cmd.tag, .int .i64 x.cmd.n, .slice a1 n1 c1, .int .i64 x.seq, .slice a2 n2 c2, .bool x.same] 5 (by rw [hL8]; show 5 + 8 ≤ 16; omega)] at this; rw [hL8] at this ⊢; exact this)
  have Y1s := Lib.hid (Y1.out.keep G1.out (by simp))
  have A1s := Lib.hid (A1.out.grow G1.out (fun k hk => by cases hk; exact Nat.le_refl _))
  have S1s := Lib.hid (show StO (setL w1 w.heap.size 5 L8) (w.heap.size + 2) (.slice a3 n3 c3) x.cmd.ch from ⟨S1.out.1.kept G1.out (by omega), S1.out.2⟩)
  obtain ⟨x0, x1, x2, x3, x4, x5, x6, x7, x8, x9, x10, x11, x12, x13, x14, x15⟩ := X1.out.c16
  obtain ⟨f0, f1, f2, f3, f4, f5, f6, f7, f8, f9, f10, f11, f12, f13, f14, f15⟩ := froz16 X1.out
  have DH := Lib.hid (PH.out.later A1s.out).2.1
  have hz1 : w.heap.size + 2 ≤ w1.heap.size := by have := Y1.out.lt; omega
  have X2a := Lib.hid (X1s.out.alloc (.cells #[] 63))
  have Y2a := Lib.hid (Y1s.out.alloc (.cells #[] 63))
  have A2a := Lib.hid (A1s.out.alloc (.cells #[] 63))
  have S2a := Lib.hid (S1s.out.later ((Below.refl _ _).alloc (Nat.le_refl _) (.cells #[] 63)))
  have R2a := Lib.hid (show IdRow ((setL w1 w.heap.size 5 L8).alloc (.cells #[] 63)) w1.heap.size (.slice (some ⟨w1.heap.size, 0, none⟩) 0 0) [] by have h := idRow_new (setL w1 w.heap.size 5 L8) w1.heap.size (by rw [Z1.out]; exact Nat.le_refl _); rw [Z1.out] at h; exact h)
  rw [hL8] at X2a Y2a A2a S2a R2a DH
  simp only [setL, Nat.reduceAdd] at X2a Y2a A2a S2a R2a DH
  clear X1s Y1s A1s S1s G1 Y1 A1 S1
  obtain ⟨k1, ad, cd, hde, hcd, hdd⟩ := DH.out
  simp only [Value.slice.injEq] at hde
  obtain ⟨rfl, hn2, rfl⟩ := hde
  by_cases hd0 : 0 < x.deps.length
  · obtain ⟨b, o, rfl, hb, hcl⟩ := hdd hd0
    have HCL := Lib.hid (fun j hj => (hcl j hj).below ((Below.refl _ _).alloc (Nat.le_refl _) (.cells #[] 63)) hb)
    have HN2 := Lib.hid hn2
    have HB := Lib.hid hb
    clear hdd hcl hn2 hcd k1 hb hL8
    obtain ⟨q0, q1, q2, q3, q4, q5, q6, q7, q8, q9, q10, q11, q12, q13, q14, q15⟩ := cells16 X2a.out
    have lq : w.heap.size < w1.heap.size := by omega
    go_wp2_with (at_builtin; go_loud (refine wp_append_id rfl (.tmp 7) (.tmp 9) rfl w1.heap.size (.slice (some ⟨w1.heap.size, 0, none⟩) 0 0) [] x.deps rfl R2a.out b o c2 (by rw [← HN2.out]; rfl) HCL.out (by have := HSZ.out.2; simp only [List.length_nil]; omega) (by simp) ?_; intro u4 w2 hr hg; rw [List.nil_append] at hr; obtain ⟨a4, n4, c4, hu⟩ := hr.own.form; subst hu; have R2 := Lib.hid (hr.mono hz1); have X2 := Lib.hid (X2a.out.keep hg (fun e => by have e2 : w.heap.size = w1.heap.size := Option.some.inj e; omega)); have Y2 := Lib.hid (Y2a.out.keep hg (fun e => by have e2 : w.heap.size + 1 = w1.heap.size := Option.some.inj e; omega)); have A2 := Lib.hid (A2a.out.grow hg (fun k hk => by have hk' : w1.heap.size = k := Option.some.inj hk; omega)); have S2 := Lib.hid (show StO w2 (w.heap.size + 2) (.slice a3 n3 c3) x.cmd.ch from ⟨S2a.out.1.keepB hg (fun k hk e => by have hk' : w1.heap.size = k := Option.some.inj hk; have h9 := S1b.out k e; omega), S2a.out.2⟩); clear hr hg x0 x1 x2 x3 x4 x5 x6 x7 x8 x9 x10 x11 x12 x13 x14 x15 f0 f1 f2 f3 f4 f5 f6 f7 f8 f9 f10 f11 f12 f13 f14 f15 q0 q1 q2 q3 q4 q5 q6 q7 q8 q9 q10 q11 q12 q13 q14 q15; obtain ⟨x0, x1, x2, x3, x4, x5, x6, x7, x8, x9, x10, x11, x12, x13, x14, x15⟩ := cells16 X2.out; obtain ⟨f0, f1, f2, f3, f4, f5, f6, f7, f8, f9, f10, f11, f12, f13, f14, f15⟩ := froz16 X2.out; obtain ⟨y0, y1, y2, y3, y4, y5, y6, y7, y8, y9, y10, y11, y12, y13, y14, y15⟩ := cells16 Y2.out; obtain ⟨g0, g1, g2, g3, g4, g5, g6, g7, g8, g9, g10, g11, g12, g13, g14, g15⟩ := froz16 Y2.out))
    clear x0 x1 x2 x3 x4 x5 x6 x7 x8 x9 x10 x11 x12 x13 x14 x15 f0 f1 f2 f3 f4 f5 f6 f7 f8 f9 f10 f11 f12 f13 f14 f15 y0 y1 y2 y3 y4 y5 y6 y7 y8 y9 y10 y11 y12 y13 y14 y15 g0 g1 g2 g3 g4 g5 g6 g7 g8 g9 g10 g11 g12 g13 g14 g15
    have Gp := grownBy_put w2 w.heap.size 14 (.slice a4 n4 c4)
    have Gs := setL_grown (w.heap.size + 1) (inA x (.slice a3 n3 c3) (.slice a4 n4 c4)) (w2.setCell ⟨w.heap.size, 14, none⟩ (.slice a4 n4 c4)) 0
    have Zs : (setL (w2.setCell ⟨w.heap.size, 14, none⟩ (.slice a4 n4 c4)) (w.heap.size + 1) 0 (inA x (.slice a3 n3 c3) (.slice a4 n4 c4))).heap.size = w2.heap.size := by rw [setL_size]; simp
    have F : Bx (setL (w2.setCell ⟨w.heap.size, 14, none⟩ (.slice a4 n4 c4)) (w.heap.size + 1) 0 (inA x (.slice a3 n3 c3) (.slice a4 n4 c4))) (w.heap.size + 1) 67 #[.int .i64 x.rep, .int .i64 x.slot, .int .i64 x.bal, .int .i64 x.vbal, .int .i64 x.st, .int .i64 x.cmd.kind, .int .i64 x.cmd.client, .int .i64 x.cmd.no, .string x.cmd.set, .string x.cmd.name, .string x.cmd.tag, .int .i64 x.cmd.n, .slice a3 n3 c3, .int .i64 x.seq, .slice a4 n4 c4, .bool x.same] := by
      have := setL_heap (inA x (.slice a3 n3 c3) (.slice a4 n4 c4)) (w2.setCell ⟨w.heap.size, 14, none⟩ (.slice a4 n4 c4)) #[.int .i64 0, .int .i64 0, .int .i64 0, .int .i64 0, .int .i64 0, .int .i64 0, .int .i64 0, .int .i64 0, .string ⟨#[]⟩, .string ⟨#[]⟩, .string ⟨#[]⟩, .int .i64 0, .slice none 0 0, .int .i64 0, .slice none 0 0, .bool false] 0 (Y2.out.set_other ⟨w.heap.size, 14, none⟩ _ (by simp))
      rw [updL_eq (inA x (.slice a3 n3 c3) (.slice a4 n4 c4)) #[.int .i64 0, .int .i64 0, .int .i64 0, .int .i64 0, .int .i64 0, .int .i64 0, .int .i64 0, .int .i64 0, .string ⟨#[]⟩, .string ⟨#[]⟩, .string ⟨#[]⟩, .int .i64 0, .slice none 0 0, .int .i64 0, .slice none 0 0, .bool false] 0 (show 0 + 16 ≤ 16 by omega)] at this
      exact this
    have S5 : StO (setL (w2.setCell ⟨w.heap.size, 14, none⟩ (.slice a4 n4 c4)) (w.heap.size + 1) 0 (inA x (.slice a3 n3 c3) (.slice a4 n4 c4))) (w.heap.size + 2) (.slice a3 n3 c3) x.cmd.ch := ⟨(S2.out.1.kept Gp (by omega)).kept Gs (by omega), S2.out.2⟩
    have D5 : IdOwn (setL (w2.setCell ⟨w.heap.size, 14, none⟩ (.slice a4 n4 c4)) (w.heap.size + 1) 0 (inA x (.slice a3 n3 c3) (.slice a4 n4 c4))) (w.heap.size + 2) (.slice a4 n4 c4) x.deps := (R2.out.own.kept Gp (fun k hk => by cases hk; omega)).kept Gs (fun k hk => by cases hk; omega)
    have A5 : Af w (setL (w2.setCell ⟨w.heap.size, 14, none⟩ (.slice a4 n4 c4)) (w.heap.size + 1) 0 (inA x (.slice a3 n3 c3) (.slice a4 n4 c4))) := (A2.out.set (p := ⟨w.heap.size, 14, none⟩) (Nat.le_refl _) (.slice a4 n4 c4)).grow Gs (fun k hk => by cases hk; omega)
    have BU : ∀ k, Value.ownBlock (.slice a3 n3 c3) = some k → w.heap.size ≤ k ∧ k < (setL (w2.setCell ⟨w.heap.size, 14, none⟩ (.slice a4 n4 c4)) (w.heap.size + 1) 0 (inA x (.slice a3 n3 c3) (.slice a4 n4 c4))).heap.size := fun k hk => by have h9 := S5.1.lt k hk; exact ⟨by omega, h9.2⟩
    have BD : ∀ k, Value.ownBlock (.slice a4 n4 c4) = some k → w.heap.size ≤ k ∧ k < (setL (w2.setCell ⟨w.heap.size, 14, none⟩ (.slice a4 n4 c4)) (w.heap.size + 1) 0 (inA x (.slice a3 n3 c3) (.slice a4 n4 c4))).heap.size := fun k hk => by have h9 := R2.out.lt k hk; rw [Zs]; omega
    exact bodyPost_ret (results_inst Tryz.results61 _ _ (w.heap.size + 1) _ _ _ _ _ _ _ _ _ _ _ _ _ _ _ _ rfl (cells16 F)) rfl ⟨⟨_, _, _, _, _, _, rfl, ⟨S5.mono (by omega), D5.mono (by omega), BU, BD, PH.out.2.2⟩⟩, A5⟩
  · have e0 : x.deps = [] := List.eq_nil_of_length_eq_zero (by omega)
    obtain rfl : n2 = 0 := by omega
    have E0 := Lib.hid e0
    have R2b := Lib.hid (show IdRow ((((((((((w1.setCell ⟨w.heap.size, 5, none⟩ (.int .i64 x.cmd.kind)).setCell ⟨w.heap.size, 6, none⟩ (.int .i64 x.cmd.client)).setCell ⟨w.heap.size, 7, none⟩ (.int .i64 x.cmd.no)).setCell ⟨w.heap.size, 8, none⟩ (.string x.cmd.set)).setCell ⟨w.heap.size, 9, none⟩ (.string x.cmd.name)).setCell ⟨w.heap.size, 10, none⟩ (.string x.cmd.tag)).setCell ⟨w.heap.size, 11, none⟩ (.int .i64 x.cmd.n)).setCell ⟨w.heap.size, 12, none⟩ (.slice a3 n3 c3)).alloc (.cells #[] 63))) (w.heap.size + 2) (.slice (some ⟨w1.heap.size, 0, none⟩) 0 0) x.deps by rw [e0]; exact R2a.out.mono hz1)
    clear hdd e0 hcd k1 hL8 hn2 hd0
    obtain ⟨q0, q1, q2, q3, q4, q5, q6, q7, q8, q9, q10, q11, q12, q13, q14, q15⟩ := cells16 X2a.out
    have lq : w.heap.size < w1.heap.size := by omega
    go_wp2_with (at_builtin; go_loud (refine wp_append_zero rfl (.tmp 7) (.tmp 9) rfl (some ⟨w1.heap.size, 0, none⟩) 0 0 rfl (Nat.le_refl _) a2 c2 rfl ?_; refine wpList_at (fun W => Bx W w.heap.size 67 #[.int .i64 x.rep, .int .i64 x.slot, .int .i64 x.bal, .int .i64 x.vbal, .int .i64 x.st, .int .i64 x.cmd.kind, .int .i64 x.cmd.client, .int .i64 x.cmd.no, .string x.cmd.set, .string x.cmd.name, .string x.cmd.tag, .int .i64 x.cmd.n, .slice a3 n3 c3, .int .i64 x.seq, .slice a2 0 c2, .bool x.same] ∧ Bx W (w.heap.size + 1) 67 #[.int .i64 0, .int .i64 0, .int .i64 0, .int .i64 0, .int .i64 0, .int .i64 0, .int .i64 0, .int .i64 0, .string ⟨#[]⟩, .string ⟨#[]⟩, .string ⟨#[]⟩, .int .i64 0, .slice none 0 0, .int .i64 0, .slice none 0 0, .bool false] ∧ IdRow W (w.heap.size + 2) (.slice (some ⟨w1.heap.size, 0, none⟩) 0 0) x.deps ∧ StO W (w.heap.size + 2) (.slice a3 n3 c3) x.cmd.ch ∧ Af w W) ⟨X2a.out, Y2a.out, R2b.out, S2a.out, A2a.out⟩ ?_; rintro w2 ⟨hx2, hy2, hr2, hs2, ha2⟩; have Y2 := Lib.hid hy2; have R2 := Lib.hid hr2; have S2 := Lib.hid hs2; have A2 := Lib.hid ha2; clear hy2 hr2 hs2 ha2 x0 x1 x2 x3 x4 x5 x6 x7 x8 x9 x10 x11 x12 x13 x14 x15 f0 f1 f2 f3 f4 f5 f6 f7 f8 f9 f10 f11 f12 f13 f14 f15 q0 q1 q2 q3 q4 q5 q6 q7 q8 q9 q10 q11 q12 q13 q14 q15 X2a Y2a R2b S2a A2a; obtain ⟨x0, x1, x2, x3, x4, x5, x6, x7, x8, x9, x10, x11, x12, x13, x14, x15⟩ := cells16 hx2; obtain ⟨f0, f1, f2, f3, f4, f5, f6, f7, f8, f9, f10, f11, f12, f13, f14, f15⟩ := froz16 hx2; obtain ⟨y0, y1, y2, y3, y4, y5, y6, y7, y8, y9, y10, y11, y12, y13, y14, y15⟩ := cells16 Y2.out; obtain ⟨g0, g1, g2, g3, g4, g5, g6, g7, g8, g9, g10, g11, g12, g13, g14, g15⟩ := froz16 Y2.out; clear hx2))
    clear x0 x1 x2 x3 x4 x5 x6 x7 x8 x9 x10 x11 x12 x13 x14 x15 f0 f1 f2 f3 f4 f5 f6 f7 f8 f9 f10 f11 f12 f13 f14 f15 y0 y1 y2 y3 y4 y5 y6 y7 y8 y9 y10 y11 y12 y13 y14 y15 g0 g1 g2 g3 g4 g5 g6 g7 g8 g9 g10 g11 g12 g13 g14 g15
    have Gp := grownBy_put w2 w.heap.size 14 (.slice (some ⟨w1.heap.size, 0, none⟩) 0 0)
    have Gs := setL_grown (w.heap.size + 1) (inA x (.slice a3 n3 c3) (.slice (some ⟨w1.heap.size, 0, none⟩) 0 0)) (w2.setCell ⟨w.heap.size, 14, none⟩ (.slice (some ⟨w1.heap.size, 0, none⟩) 0 0)) 0
    have Zs : (setL (w2.setCell ⟨w.heap.size, 14, none⟩ (.slice (some ⟨w1.heap.size, 0, none⟩) 0 0)) (w.heap.size + 1) 0 (inA x (.slice a3 n3 c3) (.slice (some ⟨w1.heap.size, 0, none⟩) 0 0))).heap.size = w2.heap.size := by rw [setL_size]; simp
    have F : Bx (setL (w2.setCell ⟨w.heap.size, 14, none⟩ (.slice (some ⟨w1.heap.size, 0, none⟩) 0 0)) (w.heap.size + 1) 0 (inA x (.slice a3 n3 c3) (.slice (some ⟨w1.heap.size, 0, none⟩) 0 0))) (w.heap.size + 1) 67 #[.int .i64 x.rep, .int .i64 x.slot, .int .i64 x.bal, .int .i64 x.vbal, .int .i64 x.st, .int .i64 x.cmd.kind, .int .i64 x.cmd.client, .int .i64 x.cmd.no, .string x.cmd.set, .string x.cmd.name, .string x.cmd.tag, .int .i64 x.cmd.n, .slice a3 n3 c3, .int .i64 x.seq, .slice (some ⟨w1.heap.size, 0, none⟩) 0 0, .bool x.same] := by
      have := setL_heap (inA x (.slice a3 n3 c3) (.slice (some ⟨w1.heap.size, 0, none⟩) 0 0)) (w2.setCell ⟨w.heap.size, 14, none⟩ (.slice (some ⟨w1.heap.size, 0, none⟩) 0 0)) #[.int .i64 0, .int .i64 0, .int .i64 0, .int .i64 0, .int .i64 0, .int .i64 0, .int .i64 0, .int .i64 0, .string ⟨#[]⟩, .string ⟨#[]⟩, .string ⟨#[]⟩, .int .i64 0, .slice none 0 0, .int .i64 0, .slice none 0 0, .bool false] 0 (Y2.out.set_other ⟨w.heap.size, 14, none⟩ _ (by simp))
      rw [updL_eq (inA x (.slice a3 n3 c3) (.slice (some ⟨w1.heap.size, 0, none⟩) 0 0)) #[.int .i64 0, .int .i64 0, .int .i64 0, .int .i64 0, .int .i64 0, .int .i64 0, .int .i64 0, .int .i64 0, .string ⟨#[]⟩, .string ⟨#[]⟩, .string ⟨#[]⟩, .int .i64 0, .slice none 0 0, .int .i64 0, .slice none 0 0, .bool false] 0 (show 0 + 16 ≤ 16 by omega)] at this
      exact this
    have S5 : StO (setL (w2.setCell ⟨w.heap.size, 14, none⟩ (.slice (some ⟨w1.heap.size, 0, none⟩) 0 0)) (w.heap.size + 1) 0 (inA x (.slice a3 n3 c3) (.slice (some ⟨w1.heap.size, 0, none⟩) 0 0))) (w.heap.size + 2) (.slice a3 n3 c3) x.cmd.ch := ⟨(S2.out.1.kept Gp (by omega)).kept Gs (by omega), S2.out.2⟩
    have D5 : IdOwn (setL (w2.setCell ⟨w.heap.size, 14, none⟩ (.slice (some ⟨w1.heap.size, 0, none⟩) 0 0)) (w.heap.size + 1) 0 (inA x (.slice a3 n3 c3) (.slice (some ⟨w1.heap.size, 0, none⟩) 0 0))) (w.heap.size + 2) (.slice (some ⟨w1.heap.size, 0, none⟩) 0 0) x.deps := (R2.out.own.kept Gp (fun k hk => by cases hk; omega)).kept Gs (fun k hk => by cases hk; omega)
    have A5 : Af w (setL (w2.setCell ⟨w.heap.size, 14, none⟩ (.slice (some ⟨w1.heap.size, 0, none⟩) 0 0)) (w.heap.size + 1) 0 (inA x (.slice a3 n3 c3) (.slice (some ⟨w1.heap.size, 0, none⟩) 0 0))) := (A2.out.set (p := ⟨w.heap.size, 14, none⟩) (Nat.le_refl _) (.slice (some ⟨w1.heap.size, 0, none⟩) 0 0)).grow Gs (fun k hk => by cases hk; omega)
    have BU : ∀ k, Value.ownBlock (.slice a3 n3 c3) = some k → w.heap.size ≤ k ∧ k < (setL (w2.setCell ⟨w.heap.size, 14, none⟩ (.slice (some ⟨w1.heap.size, 0, none⟩) 0 0)) (w.heap.size + 1) 0 (inA x (.slice a3 n3 c3) (.slice (some ⟨w1.heap.size, 0, none⟩) 0 0))).heap.size := fun k hk => by have h9 := S5.1.lt k hk; exact ⟨by omega, h9.2⟩
    have BD : ∀ k, Value.ownBlock (.slice (some ⟨w1.heap.size, 0, none⟩) 0 0) = some k → w.heap.size ≤ k ∧ k < (setL (w2.setCell ⟨w.heap.size, 14, none⟩ (.slice (some ⟨w1.heap.size, 0, none⟩) 0 0)) (w.heap.size + 1) 0 (inA x (.slice a3 n3 c3) (.slice (some ⟨w1.heap.size, 0, none⟩) 0 0))).heap.size := fun k hk => by have h9 := R2.out.lt k hk; rw [Zs]; omega
    exact bodyPost_ret (results_inst Tryz.results61 _ _ (w.heap.size + 1) _ _ _ _ _ _ _ _ _ _ _ _ _ _ _ _ rfl (cells16 F)) rfl ⟨⟨_, _, _, _, _, _, rfl, ⟨S5.mono (by omega), D5.mono (by omega), BU, BD, PH.out.2.2⟩⟩, A5⟩
end Go.Proofs.YtckeeadkhopljaaGreatDoor
