/- The laws over Sha, Short and their models: they return true at every string, where the two tables hold what the program's text lays. -/
import Derived.Test.YtpmcgiegppllpaaDoorShaA
import Derived.Test.YtpmcgiegppllpaaDoorShaC
import Derived.Lib.LaidTab
import Derived.LaidSub
import Derived.MakeChecks
namespace Go.Proofs.YtpmcgiegppllpaaDoor
open Go.RowKit Go.PlainAid
set_option linter.unusedVariables false

theorem dig_size (S : Reg) : (strOfNums (digL S 8)).size = 32 := by rw [strOfNums_size, digL_length]
theorem impl_short (s : ByteArray) (hs : s.size ≤ 1048577) (w : World) (ht : TabK w) (h0 : TabS w) :
    Calls Tryd.prog 10 #[.string s] w fun e w' => e = .returned (.string ((strOfNums (digL (shaS s) 8)).extract 0 8)) ∧ Below w.heap.size w w' := by
  have hd := dig_size (shaS s)
  have hc := impl_sha s hs w ht h0
  generalize strOfNums (digL (shaS s) 8) = D at hd hc
  have HC := Lib.hid hc
  clear hc ht h0
  go_enter Tryd.func10, Tryd.ntmps10
  go_wp2_with (go_at_call 8; refine HC.out.mono ?_; rintro e w1 ⟨rfl, hb1⟩)
  go_ret
  exact ⟨rfl, hb1⟩
theorem spec_short (s : ByteArray) (hs : s.size ≤ 1048577) (w : World) :
    Calls Tryd.prog 12 #[.string s] w fun e w' => e = .returned (.string ((strOfNums (digL (shaS s) 8)).extract 0 8)) ∧ Below w.heap.size w w' := by
  have hd := dig_size (shaS s)
  have hc := spec_sha s hs w
  generalize strOfNums (digL (shaS s) 8) = D at hd hc
  have HC := Lib.hid hc
  clear hc
  go_enter Tryd.func12, Tryd.ntmps12
  go_wp2_with (go_at_call 9; refine HC.out.mono ?_; rintro e w1 ⟨rfl, hb1⟩)
  go_ret
  exact ⟨rfl, hb1⟩

set_option maxHeartbeats 400000 in
theorem law_sha (s : ByteArray) (w : World) (hs : s.size ≤ maxLen) (ht : TabK w) (h0 : TabS w) :
    Calls Tryd.prog 4 #[.string s] w fun e w' => e = .returned (.bool true) ∧ Below w.heap.size w w' := by
  unfold maxLen at hs
  have HT := Lib.hid ht
  have H0 := Lib.hid h0
  clear ht h0
  by_cases hb : (1048576 : Int) < s.size
  · go_enter Tryd.func4, Tryd.ntmps4
    go_wp2
    go_ret
    exact ⟨rfl, Below.refl _ _⟩
  · have hs2 : s.size ≤ 1048577 := by omega
    go_enter Tryd.func4, Tryd.ntmps4
    go_wp2_with (first | (go_at_call 9; refine (spec_sha s hs2 _).mono ?_; rintro e w1 ⟨rfl, hb1⟩; have HB1 := Lib.hid hb1; clear hb1) | (go_at_call 8; refine (impl_sha s hs2 _ (HT.out.later HB1.out) (H0.out.later HB1.out)).mono ?_; rintro e w2 ⟨rfl, hb2⟩))
    go_ret
    exact ⟨rfl, HB1.out.trans (hb2.mono HB1.out.size)⟩
set_option maxHeartbeats 400000 in
theorem law_short (s : ByteArray) (w : World) (hs : s.size ≤ maxLen) (ht : TabK w) (h0 : TabS w) :
    Calls Tryd.prog 5 #[.string s] w fun e w' => e = .returned (.bool true) ∧ Below w.heap.size w w' := by
  unfold maxLen at hs
  have HT := Lib.hid ht
  have H0 := Lib.hid h0
  clear ht h0
  by_cases hb : (1048576 : Int) < s.size
  · go_enter Tryd.func5, Tryd.ntmps5
    go_wp2
    go_ret
    exact ⟨rfl, Below.refl _ _⟩
  · have hs2 : s.size ≤ 1048577 := by omega
    go_enter Tryd.func5, Tryd.ntmps5
    go_wp2_with (first | (go_at_call 12; refine (spec_short s hs2 _).mono ?_; rintro e w1 ⟨rfl, hb1⟩; have HB1 := Lib.hid hb1; clear hb1) | (go_at_call 10; refine (impl_short s hs2 _ (HT.out.later HB1.out) (H0.out.later HB1.out)).mono ?_; rintro e w2 ⟨rfl, hb2⟩))
    go_ret
    exact ⟨rfl, HB1.out.trans (hb2.mono HB1.out.size)⟩

def keysZ : List Int := keysL.map Int.ofNat
def startZ : List Int := startL.map Int.ofNat
theorem keysZ_at (l : Nat) : keysZ.getD l 0 = ((keyN l : Nat) : Int) := by
  unfold keysZ keyN
  rw [List.getD_eq_getElem?_getD, List.getD_eq_getElem?_getD, List.getElem?_map]
  cases keysL[l]? <;> rfl
theorem startZ_at : ∀ l : Fin 8, startZ.getD l.val 0 = ((st0.at l.val : Nat) : Int) := by decide
theorem tabs_of {W : World} (h : laidMetH Tryd.prog [("loop.example/g00954/impl.shaStart", Lib.tabData .u32 startZ), ("loop.example/g00954/impl.shaAdds", Lib.tabData .u32 keysZ)] W) : TabK W ∧ TabS W := by
  rw [MakeChecks.laidMetH_plain _ _ _ (by kernel_rfl)] at h
  have h1 : Lib.TabIs Tryd.prog W "loop.example/g00954/impl.shaStart" .u32 startZ := Lib.tabIs_of_head (g := 0) (t := 33) (e := 31) (n := 8) (by kernel_rfl) (by kernel_rfl) Tryd.underlying33 Tryd.underlying31 (by kernel_rfl) (by kernel_rfl) h
  have h2 := laidMet.filter (fun x => x.1 == "loop.example/g00954/impl.shaAdds") h
  have e : List.filter (fun x : String × DataW Unit => x.1 == "loop.example/g00954/impl.shaAdds") [("loop.example/g00954/impl.shaStart", Lib.tabData .u32 startZ), ("loop.example/g00954/impl.shaAdds", Lib.tabData .u32 keysZ)] = [("loop.example/g00954/impl.shaAdds", Lib.tabData .u32 keysZ)] := by kernel_rfl
  rw [e] at h2
  have h3 : Lib.TabIs Tryd.prog W "loop.example/g00954/impl.shaAdds" .u32 keysZ := Lib.tabIs_of_head (g := 1) (t := 46) (e := 31) (n := 64) (by kernel_rfl) (by kernel_rfl) Tryd.underlying46 Tryd.underlying31 (by kernel_rfl) (by kernel_rfl) h2
  constructor
  · intro l hl
    rw [Lib.TabIs.cell h3 (g := 1) (by kernel_rfl) l (by simpa [keysZ, keysL] using hl), keysZ_at]
  · intro l hl
    rw [Lib.TabIs.cell h1 (g := 0) (by kernel_rfl) l (by simpa [startZ, startL] using hl), startZ_at ⟨l, hl⟩]
theorem laid_sha : Rows.fnExactShaRow.laid = [("loop.example/g00954/impl.shaStart", Lib.tabData .u32 startZ), ("loop.example/g00954/impl.shaAdds", Lib.tabData .u32 keysZ)] := by kernel_rfl
theorem laid_short : Rows.fnExactShortRow.laid = [("loop.example/g00954/impl.shaStart", Lib.tabData .u32 startZ), ("loop.example/g00954/impl.shaAdds", Lib.tabData .u32 keysZ)] := by kernel_rfl
end Go.Proofs.YtpmcgiegppllpaaDoor
