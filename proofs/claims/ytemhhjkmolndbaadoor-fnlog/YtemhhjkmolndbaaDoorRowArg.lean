/- A slice of bytes that came in: from its reading to the bytes that the draws take. -/
import Derived.Test.YtemhhjkmolndbaaDoorDrw
import Derived.OpenShut
namespace Go.Proofs.YtemhhjkmolndbaaDoor
open Go.RowKit Go.PlainAid
set_option linter.unusedVariables false

/-- The value .slice a len cap is nil, or it leads to a row of cap bytes zs. -/
def ByteRow (w : World) (a : Option Addr) (len cap : Nat) (zs : List Int) : Prop :=
  (a = none ∧ len = 0 ∧ cap = 0 ∧ zs = []) ∨
  ∃ x, a = some x ∧ len ≤ cap ∧ zs.length = cap ∧ (∀ i, i < zs.length → w.cell? (x.add i) = some (.int .u8 (zs.getD i 0))) ∧ ∀ n ∈ zs, (Lit.int .u8 n).wf = true
theorem code_of_row (w : World) (a : Option Addr) (len cap : Nat) (zs : List Int) (h : ByteRow w a len cap zs) (hl : len ≤ 1048576) : Code w (.slice a len cap) (zs.take len) := by
  rcases h with ⟨rfl, rfl, rfl, rfl⟩ | ⟨x, rfl, h1, h2, h3, h4⟩
  · exact ⟨(fun x hx => by cases hx), Nat.zero_le _, none, 0, rfl, (fun h0 => absurd h0 (by simp))⟩
  · have hlen : (zs.take len).length = len := by rw [List.length_take]; omega
    refine ⟨fun n hn => bounds_u8 (h4 n (List.mem_of_mem_take hn)), by omega, some x, cap, by rw [hlen], fun h0 => ?_⟩
    obtain ⟨b, off, rfl, hc⟩ := ints_at h3 (by omega)
    refine ⟨b, off, World.block_lt_of_cell? w ⟨b, off + 0, none⟩ (hc 0 (by omega)), rfl, fun i hi => ?_⟩
    rw [hc i (by omega)]
    have hi' : i < len := by omega
    simp [List.getD, hi']
end Go.Proofs.YtemhhjkmolndbaaDoor
