/- What the two listed tables hold, from a row's condition. -/
import Derived.Test.YtemhhjkmolndbaaDoorBkM
import Derived.Test.YtemhhjkmolndbaaDoorBlOp
import Derived.LaidHandle
import Derived.Lib.LaidTab
namespace Go.Proofs.YtemhhjkmolndbaaDoor
open Go Go.ChangeShapes Go.WideShapes Go.RowKit
set_option linter.unusedVariables false

theorem laid_eq : ([("loop.example/g00954/impl.shaStart", Rows.laid_loop_example_g00954_impl_shaStart), ("loop.example/g00954/impl.shaAdds", Rows.laid_loop_example_g00954_impl_shaAdds)] : List (String × DataW Unit)) = [("loop.example/g00954/impl.shaStart", Lib.tabData .u32 startZ), ("loop.example/g00954/impl.shaAdds", Lib.tabData .u32 keysZ)] := by kernel_rfl
theorem laid_tabs {W : World} (h : laidMetH Tryd.prog [("loop.example/g00954/impl.shaStart", Rows.laid_loop_example_g00954_impl_shaStart), ("loop.example/g00954/impl.shaAdds", Rows.laid_loop_example_g00954_impl_shaAdds)] W) : Tabs W := by
  rw [laid_eq, MakeChecks.laidMetH_plain _ _ _ (by kernel_rfl)] at h
  exact ⟨tabK_of h (by kernel_rfl), tabS_of h (by kernel_rfl)⟩
end Go.Proofs.YtemhhjkmolndbaaDoor
