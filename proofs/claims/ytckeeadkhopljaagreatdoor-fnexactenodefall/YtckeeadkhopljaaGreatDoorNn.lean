/- ENodeNew, its model, and the laws' words on a node without instances and Leads. -/
import Derived.Test.YtckeeadkhopljaaGreatDoorIdW
import Derived.Test.YtckeeadkhopljaaGreatDoorSpNode
namespace Go.Proofs.YtckeeadkhopljaaGreatDoor
open Go.RowKit Go.PlainAid
set_option linter.unusedVariables false

set_option maxRecDepth 100000 in
set_option maxHeartbeats 400000 in
theorem mark_insts_nil (s : Int) (w : World) :
    Calls Tryz.prog 21 #[.slice none 0 0, .int .i64 s] w fun e w' => e = .returned (.int .i64 s) ∧ w' = w := by
  go_enter Tryz.func21, Tryz.ntmps21
  go_wp2
  go_loop [1, 5] (fun kv i => kv = .int .i64 s ∧ i = .int .i64 0) (fun _ _ => 0)
  case atStart => exact ⟨rfl, rfl⟩
  case round =>
    obtain ⟨rfl, rfl⟩ := hrel
    go_wp2
    go_ret
    exact ⟨rfl, rfl⟩
set_option maxRecDepth 100000 in
set_option maxHeartbeats 400000 in
theorem mark_leads_nil (s : Int) (w : World) :
    Calls Tryz.prog 22 #[.slice none 0 0, .int .i64 s] w fun e w' => e = .returned (.int .i64 s) ∧ w' = w := by
  go_enter Tryz.func22, Tryz.ntmps22
  go_wp2
  go_loop [1, 5] (fun kv i => kv = .int .i64 s ∧ i = .int .i64 0) (fun _ _ => 0)
  case atStart => exact ⟨rfl, rfl⟩
  case round =>
    obtain ⟨rfl, rfl⟩ := hrel
    go_wp2
    go_ret
    exact ⟨rfl, rfl⟩
set_option maxRecDepth 100000 in
set_option maxHeartbeats 400000 in
theorem held_insts_nil (s : Int) (w : World) :
    Calls Tryz.prog 23 #[.slice none 0 0, .int .i64 s] w fun e w' => e = .returned (.int .i64 s) ∧ w' = w := by
  go_enter Tryz.func23, Tryz.ntmps23
  go_wp2
  go_loop [1, 5] (fun kv i => kv = .int .i64 s ∧ i = .int .i64 0) (fun _ _ => 0)
  case atStart => exact ⟨rfl, rfl⟩
  case round =>
    obtain ⟨rfl, rfl⟩ := hrel
    go_wp2
    go_ret
    exact ⟨rfl, rfl⟩
set_option maxRecDepth 100000 in
set_option maxHeartbeats 400000 in
theorem held_leads_nil (s : Int) (w : World) :
    Calls Tryz.prog 24 #[.slice none 0 0, .int .i64 s] w fun e w' => e = .returned (.int .i64 s) ∧ w' = w := by
  go_enter Tryz.func24, Tryz.ntmps24
  go_wp2
  go_loop [1, 5] (fun kv i => kv = .int .i64 s ∧ i = .int .i64 0) (fun _ _ => 0)
  case atStart => exact ⟨rfl, rfl⟩
  case round =>
    obtain ⟨rfl, rfl⟩ := hrel
    go_wp2
    go_ret
    exact ⟨rfl, rfl⟩
set_option maxHeartbeats 400000 in
theorem eq_insts_nil (w : World) :
    Calls Tryz.prog 19 #[.slice none 0 0, .slice none 0 0] w fun e w' => e = .returned (.bool true) ∧ w' = w := by
  go_enter Tryz.func19, Tryz.ntmps19
  go_wp2
  go_loop [5] (fun i => i = .int .i64 0) (fun _ => 0)
  case atStart => exact rfl
  case round =>
    obtain rfl := hrel
    go_wp2
    go_ret
    exact ⟨rfl, rfl⟩
set_option maxHeartbeats 400000 in
theorem eq_leads_nil (w : World) :
    Calls Tryz.prog 20 #[.slice none 0 0, .slice none 0 0] w fun e w' => e = .returned (.bool true) ∧ w' = w := by
  go_enter Tryz.func20, Tryz.ntmps20
  go_wp2
  go_loop [5] (fun i => i = .int .i64 0) (fun _ => 0)
  case atStart => exact rfl
  case round =>
    obtain rfl := hrel
    go_wp2
    go_ret
    exact ⟨rfl, rfl⟩
theorem cells4n {w : World} {g : Nat} {t : TypeId} {x0 x1 x2 x3 : Value} (h : Bx w g t #[x0, x1, x2, x3]) : w.cell? ⟨g, 0, none⟩ = some x0 ∧ w.cell? ⟨g, 1, none⟩ = some x1 ∧ w.cell? ⟨g, 2, none⟩ = some x2 ∧ w.cell? ⟨g, 3, none⟩ = some x3 :=
  ⟨h.cell 0 _ rfl, h.cell 1 _ rfl, h.cell 2 _ rfl, h.cell 3 _ rfl⟩
set_option maxHeartbeats 400000 in
theorem mark_node_nil (m n s : Int) (w : World) :
    Calls Tryz.prog 9 #[.agg #[.int .i64 m, .int .i64 n, .slice none 0 0, .slice none 0 0], .int .i64 s] w fun e w' => e = .returned (.int .i64 s) ∧ Below w.heap.size w w' := by
  have A := Lib.hid ((Af.refl w).alloc (.cells #[.int .i64 m, .int .i64 n, .slice none 0 0, .slice none 0 0] 30))
  go_enter Tryz.func9, Tryz.ntmps9
  go_wp2_with fail
  refine (mark_insts_nil _ _).mono ?_
  rintro e w1 ⟨rfl, rfl⟩
  go_wp2_with fail
  refine (mark_leads_nil _ _).mono ?_
  rintro e w1 ⟨rfl, rfl⟩
  go_wp2
  go_ret
  exact ⟨rfl, A.out⟩
set_option maxHeartbeats 400000 in
theorem held_node_nil (m n s : Int) (w : World) (hs : 0 ≤ s) :
    Calls Tryz.prog 10 #[.agg #[.int .i64 m, .int .i64 n, .slice none 0 0, .slice none 0 0], .int .i64 s] w fun e w' => e = .returned (.int .i64 s) ∧ Below w.heap.size w w' := by
  have A := Lib.hid ((Af.refl w).alloc (.cells #[.int .i64 m, .int .i64 n, .slice none 0 0, .slice none 0 0] 30))
  have hd : decide (s < 0) = false := dec_f (by omega)
  go_enter Tryz.func10, Tryz.ntmps10
  go_wp2_with fail
  refine (held_insts_nil _ _).mono ?_
  rintro e w1 ⟨rfl, rfl⟩
  go_wp2_with fail
  refine (held_leads_nil _ _).mono ?_
  rintro e w1 ⟨rfl, rfl⟩
  go_wp2
  go_ret
  exact ⟨rfl, A.out⟩
set_option maxHeartbeats 400000 in
theorem eq_node_nil (m n : Int) (w : World) :
    Calls Tryz.prog 8 #[.agg #[.int .i64 m, .int .i64 n, .slice none 0 0, .slice none 0 0], .agg #[.int .i64 m, .int .i64 n, .slice none 0 0, .slice none 0 0]] w fun e w' => e = .returned (.bool true) ∧ Below w.heap.size w w' := by
  have A := Lib.hid (((Af.refl w).alloc (.cells #[.int .i64 m, .int .i64 n, .slice none 0 0, .slice none 0 0] 30)).alloc (.cells #[.int .i64 m, .int .i64 n, .slice none 0 0, .slice none 0 0] 30))
  go_enter Tryz.func8, Tryz.ntmps8
  go_wp2_with fail
  refine (eq_insts_nil _).mono ?_
  rintro e w1 ⟨rfl, rfl⟩
  go_wp2_with fail
  refine (eq_leads_nil _).mono ?_
  rintro e w1 ⟨rfl, rfl⟩
  go_wp2
  go_ret
  exact ⟨rfl, A.out⟩
set_option maxHeartbeats 400000 in
theorem load_node0 (w : World) (g : Nat) (x0 x1 x2 x3 : Value) (h : w.cell? ⟨g, 0, none⟩ = some x0 ∧ w.cell? ⟨g, 1, none⟩ = some x1 ∧ w.cell? ⟨g, 2, none⟩ = some x2 ∧ w.cell? ⟨g, 3, none⟩ = some x3) : (loadVar 30 ⟨g, 0, none⟩).run Tryz.prog w = .ok (.agg #[x0, x1, x2, x3]) w := by
  obtain ⟨h0, h1, h2, h3⟩ := h
  go_simp
/-- A new node, or none. -/
@[irreducible] def newN (me : Int) : Int × Int × Bool := if iv me 0 2 = true then (me, 1, true) else (0, 0, false)
theorem newN_yes (me : Int) (h : iv me 0 2 = true) : newN me = (me, 1, true) := by unfold newN; rw [if_pos h]
theorem newN_no (me : Int) (h : iv me 0 2 = false) : newN me = (0, 0, false) := by unfold newN; rw [h]; rfl
end Go.Proofs.YtckeeadkhopljaaGreatDoor
