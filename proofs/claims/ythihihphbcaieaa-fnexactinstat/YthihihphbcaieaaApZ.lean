/- Nothing is appended to a slice of Ids. -/
import Derived.Test.YthihihphbcaieaaIdG
namespace Go.Proofs.Ythihihphbcaieaa
open Go.RowKit Go.PlainAid
set_option linter.unusedVariables false

theorem run_app_none (w : World) (base : Option Addr) (sLen sCap : Nat) (hle : sLen ≤ sCap) (a : Option Addr) (c : Nat) (ty : TypeId) :
    (Builtin.append_ #[25, 25] ty #[.slice base sLen sCap, .slice a 0 c]).run Try.prog w = .ok (.slice base sLen sCap) w := by
  obtain ⟨i, hi, hz, hs, hby⟩ := info_parts Try.infoId
  cases base <;> cases a <;> simp [Builtin.append_, run_underlying Try.underlying25, sizeOf, typeInfo, hi, hle, storeCells, go_sem]
/-- ids = append(ids, nothing...). -/
theorem wp_append_zero {w : World} {ops : Array Oper} {rest : List Oper} {o : Oper} {a : Act} {Q : Exit → Act → World → Prop} (hgd : o.guard = none) (s x : Operand)
    (ho : o.op = .call { callee := .builtin .append, args := #[s, x], argTypes := #[25, 25] }) (b : Option Addr) (n c : Nat) (hs : a.eval s = .slice b n c) (hle : n ≤ c) (ad : Option Addr) (c' : Nat) (hx : a.eval x = .slice ad 0 c')
    (hK : wpList Try.prog ops Q rest (a.put o.dst (.slice b n c)) w) : wpList Try.prog ops Q (o :: rest) a w := by
  have hr := run_app_none w b n c hle ad c' o.type
  refine wpList_plain hgd fun _ hK2 => ?_
  unfold Oper.wp execOp
  simp only [ho, resolve, invoke, builtin, Sem.run_bind, Sem.run_pure, Result.andThen_ok, List.map_toArray, List.map_cons, List.map_nil, hs, hx, hr]
  exact hK2 _ _ hK
theorem wpList_at {P : Program} {ops : Array Oper} {rest : List Oper} {a : Act} {w : World} {Q : Exit → Act → World → Prop} (R : World → Prop) (hR : R w) (h : ∀ w1, R w1 → wpList P ops Q rest a w1) : wpList P ops Q rest a w := h w hR
end Go.Proofs.Ythihihphbcaieaa
