/- LogNew and its model. -/
import Derived.Test.YtemhhjkmolndbaaDoorSgA
namespace Go.Proofs.YtemhhjkmolndbaaDoor
open Go.RowKit Go.PlainAid
set_option linter.unusedVariables false

/-- The segments of a new log. -/
def newL : List Sg := [⟨1, ⟨#[]⟩⟩]
theorem new_own {w : World} {base g : Nat} (hb : base ≤ g) (h : w.heap[g]? = some (.cells #[.int .i64 1, .string ⟨#[]⟩] 63 (0, 0))) : SegOwn w base (.slice (some ⟨g, 0, none⟩) 1 1) newL := by
  refine ⟨_, 1, rfl, by decide, by decide, fun _ => ⟨g, 0, _, rfl, ⟨hb, by decide⟩, h, fun j hj => ?_⟩⟩
  match j, hj with
  | 0, _ => exact ⟨by rw [sF_of (x := ⟨1, ⟨#[]⟩⟩) rfl]; rfl, by rw [sT_of (x := ⟨1, ⟨#[]⟩⟩) rfl]; rfl⟩
theorem newL_small (j : Nat) (hj : j < newL.length) : (sT newL j).size ≤ 9223372036854775807 := by
  match j, hj with
  | 0, _ => rw [sT_of (x := ⟨1, ⟨#[]⟩⟩) rfl]; decide

set_option maxHeartbeats 400000 in
theorem impl_logNew (w : World) :
    Calls Tryd.prog 12 #[] w fun e w' => ∃ v, e = .returned (.agg #[v, .int .i64 1, .int .i64 0]) ∧ SegOwn w' w.heap.size v newL ∧ Below w.heap.size w w' := by
  go_enter Tryd.func12, Tryd.ntmps12
  go_wp2
  exact bodyPost_ret (v := .agg #[.slice (some ⟨w.heap.size + 1, 0, none⟩) 1 1, .int .i64 1, .int .i64 0]) (by simp [results, Tryd.results12, go_sem]) rfl ⟨_, rfl, new_own (Nat.le_succ _) (by have h := heap_alloc_new (w.alloc (.cells #[.slice (some ⟨w.heap.size + 1, 0, none⟩) 1 1, .int .i64 1, .int .i64 0] 26)) (.cells #[.int .i64 1, .string ⟨#[]⟩] 63); simpa using h), ((Below.refl _ _).alloc (Nat.le_refl _) _).alloc (by simp) _⟩
set_option maxHeartbeats 400000 in
theorem spec_logNew (w : World) :
    Calls Tryd.prog 85 #[] w fun e w' => ∃ v, e = .returned (.agg #[v, .int .i64 1, .int .i64 0]) ∧ SegOwn w' w.heap.size v newL ∧ Below w.heap.size w w' := by
  go_enter Tryd.func85, Tryd.ntmps85
  go_wp2
  exact bodyPost_ret (v := .agg #[.slice (some ⟨w.heap.size + 1, 0, none⟩) 1 1, .int .i64 1, .int .i64 0]) (by simp [results, Tryd.results85, go_sem]) rfl ⟨_, rfl, new_own (Nat.le_succ _) (by have h := heap_alloc_new (w.alloc (.cells #[.slice (some ⟨w.heap.size + 1, 0, none⟩) 1 1, .int .i64 1, .int .i64 0] 26)) (.cells #[.int .i64 1, .string ⟨#[]⟩] 63); simpa using h), ((Below.refl _ _).alloc (Nat.le_refl _) _).alloc (by simp) _⟩
end Go.Proofs.YtemhhjkmolndbaaDoor
