/- What the two listed variables hold, from a row's condition. -/
import Derived.Test.YtemhhjkmolndbaaDoorLogO
import Derived.Test.YtemhhjkmolndbaaDoorWrt2
import Derived.Test.YtemhhjkmolndbaaDoorChk
import Derived.LaidHandle
import Derived.Lib.LaidTab
namespace Go.Proofs.YtemhhjkmolndbaaDoor
open Go Go.ChangeShapes Go.WideShapes Go.RowKit
set_option linter.unusedVariables false

theorem Tryd.laidEt : Tryd.prog.globalNamed "errors.errorType" = some 0 := by kernel_rfl
theorem Tryd.laidRt : (Tryd.prog.cutTypes.find? (·.1 == "internal/reflectlite.rtype")).map (·.2) = some 163 := by kernel_rfl
theorem Tryd.laidRow : ((List.range 235).filter fun t => Tryd.prog.rowNamed t [101, 114, 114, 111, 114]) = [66] := by kernel_rfl
theorem Tryd.laidSize : Tryd.prog.types.size = 235 := by kernel_rfl
theorem laid_facts {W : World} (h : laidMetH Tryd.prog [("errors.errorType", Rows.laid_errors_errorType), ("loop.example/g00954/impl.crcTable", Rows.laid_loop_example_g00954_impl_crcTable)] W) : ErrT W ∧ TabC W := by
  have h' : laidMet Tryd.prog [("loop.example/g00954/impl.crcTable", Lib.tabData .u32 crcTab)] W ∧ handlesMet Tryd.prog [("errors.errorType", Rows.laid_errors_errorType)] W := h
  constructor
  · obtain ⟨name, u, ty, e1, e2, e3, e4, e5⟩ := h'.2 _ (List.mem_singleton.2 rfl)
    have en : name = [101, 114, 114, 111, 114] := (Option.some.inj e1).symm
    subst en
    obtain rfl := Option.some.inj (Tryd.laidRt.symm.trans e2)
    have hm : ty ∈ (List.range 235).filter fun t => Tryd.prog.rowNamed t [101, 114, 114, 111, 114] := List.mem_filter.2 ⟨List.mem_range.2 (by rw [← Tryd.laidSize]; exact e3), e4⟩
    rw [Tryd.laidRow] at hm
    obtain rfl := List.mem_singleton.1 hm
    have hh : typeHandle Tryd.prog 66 = .pointer (some ⟨4, 66, none⟩) := by kernel_rfl
    rw [hh] at e5
    unfold ErrT
    simpa using World.var?_cell Tryd.laidEt e5 0
  · intro l hl
    exact Lib.TabIs.cell (name := "loop.example/g00954/impl.crcTable") (Lib.tabIs_of_head (g := 2) (t := 187) (e := 153) (n := 16) (by kernel_rfl) (by kernel_rfl) Tryd.underlying187 Tryd.underlying153 (by kernel_rfl) (by kernel_rfl) h'.1) (by kernel_rfl) l hl
end Go.Proofs.YtemhhjkmolndbaaDoor
