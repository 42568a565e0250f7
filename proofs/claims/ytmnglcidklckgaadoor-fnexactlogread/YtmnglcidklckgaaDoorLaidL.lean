/- What the two listed variables hold, from a row's condition. -/
import Derived.Test.YtmnglcidklckgaaDoorLogO
import Derived.Test.YtmnglcidklckgaaDoorWrt
import Derived.Test.YtmnglcidklckgaaDoorAs
import Derived.LaidHandle
import Derived.Lib.LaidTab
namespace Go.Proofs.YtmnglcidklckgaaDoor
open Go Go.ChangeShapes Go.WideShapes Go.RowKit
set_option linter.unusedVariables false

theorem Tryd.laidEt : Tryd.prog.globalNamed "errors.errorType" = some 0 := by kernel_rfl
theorem Tryd.laidRt : (Tryd.prog.cutTypes.find? (·.1 == "internal/reflectlite.rtype")).map (·.2) = some 123 := by kernel_rfl
theorem Tryd.laidRow : ((List.range 170).filter fun t => Tryd.prog.rowNamed t [101, 114, 114, 111, 114]) = [54] := by kernel_rfl
theorem Tryd.laidSize : Tryd.prog.types.size = 170 := by kernel_rfl
theorem laid_facts {W : World} (h : laidMetH Tryd.prog [("errors.errorType", Rows.laid_errors_errorType), ("loop.example/g00954/impl.crcTable", Rows.laid_loop_example_g00954_impl_crcTable)] W) : ErrT W ∧ TabC W := by
  have h' : laidMet Tryd.prog [("loop.example/g00954/impl.crcTable", Lib.tabData .u32 crcTab)] W ∧ handlesMet Tryd.prog [("errors.errorType", Rows.laid_errors_errorType)] W := h
  constructor
  · obtain ⟨name, u, ty, e1, e2, e3, e4, e5⟩ := h'.2 _ (List.mem_singleton.2 rfl)
    have en : name = [101, 114, 114, 111, 114] := (Option.some.inj e1).symm
    subst en
    obtain rfl := Option.some.inj (Tryd.laidRt.symm.trans e2)
    have hm : ty ∈ (List.range 170).filter fun t => Tryd.prog.rowNamed t [101, 114, 114, 111, 114] := List.mem_filter.2 ⟨List.mem_range.2 (by rw [← Tryd.laidSize]; exact e3), e4⟩
    rw [Tryd.laidRow] at hm
    obtain rfl := List.mem_singleton.1 hm
    have hh : typeHandle Tryd.prog 54 = .pointer (some ⟨2, 54, none⟩) := by kernel_rfl
    rw [hh] at e5
    unfold ErrT
    simpa using World.var?_cell Tryd.laidEt e5 0
  · intro l hl
    exact Lib.TabIs.cell (name := "loop.example/g00954/impl.crcTable") (Lib.tabIs_of_head (g := 1) (t := 141) (e := 138) (n := 16) (by kernel_rfl) (by kernel_rfl) Tryd.underlying141 Tryd.underlying138 (by kernel_rfl) (by kernel_rfl) h'.1) (by kernel_rfl) l hl
end Go.Proofs.YtmnglcidklckgaaDoor
