/- Short and its model, and from a row's condition to the two tables' cells, whatever else the row lists. -/
import Derived.Test.YtemhhjkmolndbaaDoorShaA
import Derived.Test.YtemhhjkmolndbaaDoorShaC
import Derived.Lib.LaidTab
import Derived.LaidSub
namespace Go.Proofs.YtemhhjkmolndbaaDoor
open Go.RowKit Go.PlainAid
set_option linter.unusedVariables false

/-- A string's digest. -/
@[irreducible] def shaD (t : ByteArray) : ByteArray := strOfNums (digL (shaS t) 8)
theorem shaD_size (t : ByteArray) : (shaD t).size = 32 := by rw [shaD, strOfNums_size, digL_length]
theorem impl_shaD (s : ByteArray) (hs : s.size ≤ 1048577) (w : World) (ht : TabK w) (h0 : TabS w) :
    Calls Tryd.prog 95 #[.string s] w fun e w' => e = .returned (.string (shaD s)) ∧ Below w.heap.size w w' := by
  rw [shaD]
  exact impl_sha s hs w ht h0
theorem spec_shaD (s : ByteArray) (hs : s.size ≤ 1048577) (w : World) :
    Calls Tryd.prog 66 #[.string s] w fun e w' => e = .returned (.string (shaD s)) ∧ Below w.heap.size w w' := by
  rw [shaD]
  exact spec_sha s hs w
theorem impl_short (s : ByteArray) (hs : s.size ≤ 1048577) (w : World) (ht : TabK w) (h0 : TabS w) :
    Calls Tryd.prog 60 #[.string s] w fun e w' => e = .returned (.string ((shaD s).extract 0 8)) ∧ Below w.heap.size w w' := by
  have hd := shaD_size s
  have HC := Lib.hid (impl_shaD s hs w ht h0)
  clear ht h0
  go_enter Tryd.func60, Tryd.ntmps60
  go_wp2_with (go_at_call 95; refine HC.out.mono ?_; rintro e w1 ⟨rfl, hb1⟩)
  go_ret
  exact ⟨rfl, hb1⟩
theorem spec_short (s : ByteArray) (hs : s.size ≤ 1048577) (w : World) :
    Calls Tryd.prog 31 #[.string s] w fun e w' => e = .returned (.string ((shaD s).extract 0 8)) ∧ Below w.heap.size w w' := by
  have hd := shaD_size s
  have HC := Lib.hid (spec_shaD s hs w)
  go_enter Tryd.func31, Tryd.ntmps31
  go_wp2_with (go_at_call 66; refine HC.out.mono ?_; rintro e w1 ⟨rfl, hb1⟩)
  go_ret
  exact ⟨rfl, hb1⟩

def keysZ : List Int := keysL.map Int.ofNat
def startZ : List Int := startL.map Int.ofNat
theorem keysZ_at (l : Nat) : keysZ.getD l 0 = ((keyN l : Nat) : Int) := by
  unfold keysZ keyN
  rw [List.getD_eq_getElem?_getD, List.getD_eq_getElem?_getD, List.getElem?_map]
  cases keysL[l]? <;> rfl
theorem startZ_at : ∀ l : Fin 8, startZ.getD l.val 0 = ((st0.at l.val : Nat) : Int) := by decide
/-- 'e' by kernel_rfl at the row's own list. -/
theorem tabS_of {W : World} {l : List (String × DataW Unit)} (h : laidMet Tryd.prog l W)
    (e : l.filter (fun x => x.1 == "loop.example/g00954/impl.shaStart") = [("loop.example/g00954/impl.shaStart", Lib.tabData .u32 startZ)]) : TabS W := by
  have h2 := laidMet.filter (fun x => x.1 == "loop.example/g00954/impl.shaStart") h
  rw [e] at h2
  have h1 : Lib.TabIs Tryd.prog W "loop.example/g00954/impl.shaStart" .u32 startZ := Lib.tabIs_of_head (g := 1) (t := 155) (e := 153) (n := 8) (by kernel_rfl) (by kernel_rfl) Tryd.underlying155 Tryd.underlying153 (by kernel_rfl) (by kernel_rfl) h2
  intro l hl
  rw [Lib.TabIs.cell h1 (g := 1) (by kernel_rfl) l (by simpa [startZ, startL] using hl), startZ_at ⟨l, hl⟩]
theorem tabK_of {W : World} {l : List (String × DataW Unit)} (h : laidMet Tryd.prog l W)
    (e : l.filter (fun x => x.1 == "loop.example/g00954/impl.shaAdds") = [("loop.example/g00954/impl.shaAdds", Lib.tabData .u32 keysZ)]) : TabK W := by
  have h2 := laidMet.filter (fun x => x.1 == "loop.example/g00954/impl.shaAdds") h
  rw [e] at h2
  have h3 : Lib.TabIs Tryd.prog W "loop.example/g00954/impl.shaAdds" .u32 keysZ := Lib.tabIs_of_head (g := 3) (t := 184) (e := 153) (n := 64) (by kernel_rfl) (by kernel_rfl) Tryd.underlying184 Tryd.underlying153 (by kernel_rfl) (by kernel_rfl) h2
  intro l hl
  rw [Lib.TabIs.cell h3 (g := 3) (by kernel_rfl) l (by simpa [keysZ, keysL] using hl), keysZ_at]
end Go.Proofs.YtemhhjkmolndbaaDoor
