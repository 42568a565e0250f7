/- ENodeNew, its model, and the laws' words on a node without instances and Leads. -/
import Derived.Test.YtdokglckfabdaaaIdW
import Derived.Test.YtdokglckfabdaaaSpNode
namespace Go.Proofs.Ytdokglckfabdaaa
open Go.RowKit Go.PlainAid
set_option linter.unusedVariables false

set_option maxRecDepth 100000 in
set_option maxHeartbeats 400000 in
theorem mark_insts_nil (s : Int) (w : World) :
    Calls Try.prog 21 #[.slice none 0 0, .int .i64 s] w fun e w' => e = .returned (.int .i64 s) ∧ w' = w := by
  go_enter Try.func21, Try.ntmps21
  go_wp2
  go_loop [1, 5] (fun kv i => kv = .int .i64 s ∧ i = .int .i64 0) (fun _ _ => 0)
  case atStart => exact ⟨rfl, rfl⟩
  case round =>
    obtain ⟨rfl, rfl⟩ := hrel
    go_wp2
    go_ret
    exact ⟨rfl, rfl⟩
set_option maxRecDepth 100000 in
set_option maxHeartbeats 400000 in
theorem mark_leads_nil (s : Int) (w : World) :
    Calls Try.prog 22 #[.slice none 0 0, .int .i64 s] w fun e w' => e = .returned (.int .i64 s) ∧ w' = w := by
  go_enter Try.func22, Try.ntmps22
  go_wp2
  go_loop [1, 5] (fun kv i => kv = .int .i64 s ∧ i = .int .i64 0) (fun _ _ => 0)
  case atStart => exact ⟨rfl, rfl⟩
  case round =>
    obtain ⟨rfl, rfl⟩ := hrel
    go_wp2
    go_ret
    exact ⟨rfl, rfl⟩
set_option maxRecDepth 100000 in
set_option maxHeartbeats 400000 in
theorem held_insts_nil (s : Int) (w : World) :
    Calls Try.prog 26 #[.slice none 0 0, .int .i64 s] w fun e w' => e = .returned (.int .i64 s) ∧ w' = w := by
  go_enter Try.func26, Try.ntmps26
  go_wp2
  go_loop [1, 5] (fun kv i => kv = .int .i64 s ∧ i = .int .i64 0) (fun _ _ => 0)
  case atStart => exact ⟨rfl, rfl⟩
  case round =>
    obtain ⟨rfl, rfl⟩ := hrel
    go_wp2
    go_ret
    exact ⟨rfl, rfl⟩
set_option maxRecDepth 100000 in
set_option maxHeartbeats 400000 in
theorem held_leads_nil (s : Int) (w : World) :
    Calls Try.prog 27 #[.slice none 0 0, .int .i64 s] w fun e w' => e = .returned (.int .i64 s) ∧ w' = w := by
  go_enter Try.func27, Try.ntmps27
  go_wp2
  go_loop [1, 5] (fun kv i => kv = .int .i64 s ∧ i = .int .i64 0) (fun _ _ => 0)
  case atStart => exact ⟨rfl, rfl⟩
  case round =>
    obtain ⟨rfl, rfl⟩ := hrel
    go_wp2
    go_ret
    exact ⟨rfl, rfl⟩
set_option maxHeartbeats 400000 in
theorem eq_insts_nil (w : World) :
    Calls Try.prog 31 #[.slice none 0 0, .slice none 0 0] w fun e w' => e = .returned (.bool true) ∧ w' = w := by
  go_enter Try.func31, Try.ntmps31
  go_wp2
  go_loop [5] (fun i => i = .int .i64 0) (fun _ => 0)
  case atStart => exact rfl
  case round =>
    obtain rfl := hrel
    go_wp2
    go_ret
    exact ⟨rfl, rfl⟩
set_option maxHeartbeats 400000 in
theorem eq_leads_nil (w : World) :
    Calls Try.prog 32 #[.slice none 0 0, .slice none 0 0] w fun e w' => e = .returned (.bool true) ∧ w' = w := by
  go_enter Try.func32, Try.ntmps32
  go_wp2
  go_loop [5] (fun i => i = .int .i64 0) (fun _ => 0)
  case atStart => exact rfl
  case round =>
    obtain rfl := hrel
    go_wp2
    go_ret
    exact ⟨rfl, rfl⟩
theorem cells4n {w : World} {g : Nat} {t : TypeId} {x0 x1 x2 x3 : Value} (h : Bx w g t #[x0, x1, x2, x3]) : w.cell? ⟨g, 0, none⟩ = some x0 ∧ w.cell? ⟨g, 1, none⟩ = some x1 ∧ w.cell? ⟨g, 2, none⟩ = some x2 ∧ w.cell? ⟨g, 3, none⟩ = some x3 :=
  ⟨h.cell 0 _ rfl, h.cell 1 _ rfl, h.cell 2 _ rfl, h.cell 3 _ rfl⟩
set_option maxHeartbeats 400000 in
theorem eq_node_nil (m n : Int) (w : World) :
    Calls Try.prog 19 #[.agg #[.int .i64 m, .int .i64 n, .slice none 0 0, .slice none 0 0], .agg #[.int .i64 m, .int .i64 n, .slice none 0 0, .slice none 0 0]] w fun e w' => e = .returned (.bool true) ∧ Below w.heap.size w w' := by
  have A := Lib.hid (((Af.refl w).alloc (.cells #[.int .i64 m, .int .i64 n, .slice none 0 0, .slice none 0 0] 33)).alloc (.cells #[.int .i64 m, .int .i64 n, .slice none 0 0, .slice none 0 0] 33))
  go_enter Try.func19, Try.ntmps19
  go_wp2_with fail
  refine (eq_insts_nil _).mono ?_
  rintro e w1 ⟨rfl, rfl⟩
  go_wp2_with fail
  refine (eq_leads_nil _).mono ?_
  rintro e w1 ⟨rfl, rfl⟩
  go_wp2
  go_ret
  exact ⟨rfl, A.out⟩
set_option maxHeartbeats 400000 in
theorem load_node0 (w : World) (g : Nat) (x0 x1 x2 x3 : Value) (h : w.cell? ⟨g, 0, none⟩ = some x0 ∧ w.cell? ⟨g, 1, none⟩ = some x1 ∧ w.cell? ⟨g, 2, none⟩ = some x2 ∧ w.cell? ⟨g, 3, none⟩ = some x3) : (loadVar 33 ⟨g, 0, none⟩).run Try.prog w = .ok (.agg #[x0, x1, x2, x3]) w := by
  obtain ⟨h0, h1, h2, h3⟩ := h
  go_simp
/-- A new node, or none. -/
@[irreducible] def newN (me : Int) : Int × Int × Bool := if iv me 0 2 = true then (me, 1, true) else (0, 0, false)
theorem newN_yes (me : Int) (h : iv me 0 2 = true) : newN me = (me, 1, true) := by unfold newN; rw [if_pos h]
theorem newN_no (me : Int) (h : iv me 0 2 = false) : newN me = (0, 0, false) := by unfold newN; rw [h]; rfl
set_option maxHeartbeats 400000 in
theorem impl_new (me : Int) (w : World) :
    Calls Try.prog 10 #[.int .i64 me] w fun e w' => e = .returned (.tuple #[.agg #[.int .i64 (newN me).1, .int .i64 (newN me).2.1, .slice none 0 0, .slice none 0 0], .bool (newN me).2.2]) ∧ Below w.heap.size w w' := by
  cases h : iv me 0 2
  · rw [newN_no me h]
    go_enter Try.func10, Try.ntmps10
    go_wp2_with fail
    refine (impl_rep me _).mono ?_
    rintro e w1 ⟨rfl, rfl⟩
    rw [h]
    go_wp2
    exact bodyPost_ret (v := .tuple #[.agg #[.int .i64 0, .int .i64 0, .slice none 0 0, .slice none 0 0], .bool false]) (by simp [results, Try.results10, go_sem]) rfl ⟨rfl, (Below.refl _ _).alloc (Nat.le_refl _) _⟩
  · rw [newN_yes me h]
    go_enter Try.func10, Try.ntmps10
    go_wp2_with fail
    refine (impl_rep me _).mono ?_
    rintro e w1 ⟨rfl, rfl⟩
    rw [h]
    go_wp2
    exact bodyPost_ret (v := .tuple #[.agg #[.int .i64 me, .int .i64 1, .slice none 0 0, .slice none 0 0], .bool true]) (by simp [results, Try.results10, go_sem]) rfl ⟨rfl, (Below.refl _ _).alloc (Nat.le_refl _) _⟩
set_option maxHeartbeats 400000 in
theorem spec_new (me : Int) (w : World) :
    Calls Try.prog 9 #[.int .i64 me] w fun e w' => e = .returned (.tuple #[.agg #[.int .i64 (newN me).1, .int .i64 (newN me).2.1, .slice none 0 0, .slice none 0 0], .bool (newN me).2.2]) ∧ Below w.heap.size w w' := by
  cases h : iv me 0 2
  · rw [newN_no me h]
    go_enter Try.func9, Try.ntmps9
    go_wp2_with fail
    refine (spec_node me _).mono ?_
    rintro e w1 ⟨rfl, rfl⟩
    rw [h]
    go_wp2
    exact bodyPost_ret (v := .tuple #[.agg #[.int .i64 0, .int .i64 0, .slice none 0 0, .slice none 0 0], .bool false]) (by simp [results, Try.results9, go_sem]) rfl ⟨rfl, (Below.refl _ _).alloc (Nat.le_refl _) _⟩
  · rw [newN_yes me h]
    go_enter Try.func9, Try.ntmps9
    go_wp2_with fail
    refine (spec_node me _).mono ?_
    rintro e w1 ⟨rfl, rfl⟩
    rw [h]
    go_wp2
    exact bodyPost_ret (v := .tuple #[.agg #[.int .i64 me, .int .i64 1, .slice none 0 0, .slice none 0 0], .bool true]) (by simp [results, Try.results9, go_sem]) rfl ⟨rfl, (Below.refl _ _).alloc (Nat.le_refl _) _⟩
end Go.Proofs.Ytdokglckfabdaaa
