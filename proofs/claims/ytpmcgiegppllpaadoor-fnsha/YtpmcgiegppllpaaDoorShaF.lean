/- The law FnSha, walked: it returns true at every argument. -/
import Derived.Test.YtpmcgiegppllpaaDoorShaD
import Derived.Test.YtpmcgiegppllpaaDoorShaK
import Derived.Test.YtpmcgiegppllpaaDoorHexI
import Derived.Test.YtpmcgiegppllpaaDoorShaLaw
namespace Go.Proofs.YtpmcgiegppllpaaDoor
open Go.RowKit Go.PlainAid
set_option linter.unusedVariables false

set_option maxHeartbeats 400000 in
theorem big_no (a : Option Addr) (n cap : Nat) (w : World) (h : n ≤ 1048576) : Calls Tryd.prog 6 #[.slice a n cap] w fun e w' => e = .returned (.bool false) ∧ w = w' := by
  have hd : decide ((1048576 : Int) < (n : Int)) = false := by simp; omega
  go_enter Tryd.func6, Tryd.ntmps6
  go_wp2
  go_ret
  exact ⟨rfl, rfl⟩
set_option maxHeartbeats 400000 in
theorem big_yes (a : Option Addr) (n cap : Nat) (w : World) (h : 1048576 < n) : Calls Tryd.prog 6 #[.slice a n cap] w fun e w' => e = .returned (.bool true) ∧ w = w' := by
  have hd : decide ((1048576 : Int) < (n : Int)) = true := by simp; omega
  go_enter Tryd.func6, Tryd.ntmps6
  go_wp2
  go_ret
  exact ⟨rfl, rfl⟩

/-- A string's digest. -/
@[irreducible] def shaD (t : ByteArray) : ByteArray := strOfNums (digL (shaS t) 8)
theorem shaD_size (t : ByteArray) : (shaD t).size = 32 := by rw [shaD]; exact dig_size _
/-- A world later than w, in which all that stood in w stands. -/
def Later (w0 w : World) : Prop := Below w0.heap.size w0 w
theorem Later.trans {w0 w w' : World} (h : Later w0 w) (hb : Below w.heap.size w w') : Later w0 w' := Below.trans h (hb.mono (Below.size h))
theorem l_impl (t : ByteArray) (ht : t.size ≤ 1048577) (w0 : World) (hk : TabK w0) (h0 : TabS w0) (w : World) (h : Later w0 w) :
    Calls Tryd.prog 8 #[.string t] w fun e w' => e = .returned (.string (shaD t)) ∧ Later w0 w' := by
  refine (impl_sha t ht w (hk.later h) (h0.later h)).mono fun e w' ⟨he, hb⟩ => ⟨?_, h.trans hb⟩
  rw [he, shaD]
theorem l_spec (t : ByteArray) (ht : t.size ≤ 1048577) (w0 : World) (w : World) (h : Later w0 w) :
    Calls Tryd.prog 9 #[.string t] w fun e w' => e = .returned (.string (shaD t)) ∧ Later w0 w' := by
  refine (spec_sha t ht w).mono fun e w' ⟨he, hb⟩ => ⟨?_, h.trans hb⟩
  rw [he, shaD]
theorem l_short (t : ByteArray) (ht : t.size ≤ 1048577) (w0 : World) (hk : TabK w0) (h0 : TabS w0) (w : World) (h : Later w0 w) :
    Calls Tryd.prog 10 #[.string t] w fun e w' => e = .returned (.string ((shaD t).extract 0 8)) ∧ Later w0 w' := by
  refine (impl_short t ht w (hk.later h) (h0.later h)).mono fun e w' ⟨he, hb⟩ => ⟨?_, h.trans hb⟩
  rw [he, shaD]
theorem l_hex (w0 : World) (w : World) (h : Later w0 w) :
    Calls Tryd.prog 11 #[.string (shaD ⟨#[97, 98, 99]⟩)] w fun e w' => e = .returned (.string ⟨#[98, 97, 55, 56, 49, 54, 98, 102, 56, 102, 48, 49, 99, 102, 101, 97, 52, 49, 52, 49, 52, 48, 100, 101, 53, 100, 97, 101, 50, 50, 50, 51, 98, 48, 48, 51, 54, 49, 97, 51, 57, 54, 49, 55, 55, 97, 57, 99, 98, 52, 49, 48, 102, 102, 54, 49, 102, 50, 48, 48, 49, 53, 97, 100]⟩) ∧ Later w0 w' := by
  have hs := shaD_size ⟨#[97, 98, 99]⟩
  refine (impl_hex (shaD ⟨#[97, 98, 99]⟩) w (by omega)).mono fun e w' ⟨he, hb⟩ => ⟨?_, h.trans hb⟩
  have hx := abc_hex
  rw [he, hs]
  have e : shaD ⟨#[97, 98, 99]⟩ = strOfNums (digL (shaS abcS) 8) := by rw [shaD]; rfl
  rw [e, hx]

set_option maxRecDepth 100000 in
set_option maxHeartbeats 2000000 in
theorem law_fnsha (xs : List Int) (w : World) (v : Value) (hC : Code w v xs) (ht : TabK w) (h0 : TabS w) :
    Calls Tryd.prog 3 #[v] w fun e w' => e = .returned (.bool true) ∧ Below w.heap.size w w' := by
  obtain ⟨r, hr, hR⟩ := draw_sha xs
  have HR := Lib.hid hR
  have HT := Lib.hid ht
  have H0 := Lib.hid h0
  have hd := shaD_size r
  have hr1 : r.size ≤ 1048577 := by omega
  have hr2 : (r ++ (⟨#[120]⟩ : ByteArray)).size ≤ 1048577 := by rw [ByteArray.size_append]; show r.size + 1 ≤ _; omega
  have HR1 := Lib.hid hr1
  have HR2 := Lib.hid hr2
  clear hR ht h0 hr1 hr2
  obtain ⟨_, hlen, ad, cap, hv, _⟩ := id hC
  subst hv
  have HC := Lib.hid hC
  clear hC
  go_enter Tryd.func3, Tryd.ntmps3
  go_wp2_with fail
  refine (big_no ad _ cap _ hlen).mono ?_
  rintro e w' ⟨rfl, rfl⟩
  go_wp2_with fail
  refine (HR.out _ _ HC.out).mono ?_
  rintro e w1 ⟨rfl, hb1⟩
  have L1 : Later w w1 := hb1
  have HL1 := Lib.hid L1
  clear hb1 L1
  go_wp2_with fail
  refine (l_impl r HR1.out w HT.out H0.out _ HL1.out).mono ?_
  rintro e w2 ⟨rfl, L2⟩
  have HL2 := Lib.hid L2
  clear L2
  go_wp2_with fail
  refine wp_region_quiet (C := Later w) (by kernel_rfl) (by kernel_rfl) (show Later w w2.drew from Below.drew HL2.out) ?_
  dsimp only
  repeat (first | go_big_quiet_skip | (go_big_quiet_want; go_big_quiet_op; (first | go_big_quiet_on | (refine ⟨_, fun _ _ => rfl, ?_⟩; go_big_quiet_on))))
  go_big_quiet_want
  go_big_quiet_op
  refine ⟨_, fun w' hw' => l_spec r HR1.out w w' hw', ?_⟩
  go_big_quiet_on
  repeat (first | go_big_quiet_skip | (go_big_quiet_want; go_big_quiet_op; (first | go_big_quiet_on | (refine ⟨_, fun _ _ => rfl, ?_⟩; go_big_quiet_on))))
  go_big_quiet_want
  go_big_quiet_op
  refine ⟨_, fun w' hw' => l_impl _ HR2.out w HT.out H0.out w' hw', ?_⟩
  go_big_quiet_on
  repeat (first | go_big_quiet_skip | (go_big_quiet_want; go_big_quiet_op; (first | go_big_quiet_on | (refine ⟨_, fun _ _ => rfl, ?_⟩; go_big_quiet_on))))
  go_big_quiet_want
  go_big_quiet_op
  refine ⟨_, fun w' hw' => l_spec _ HR2.out w w' hw', ?_⟩
  go_big_quiet_on
  repeat (first | go_big_quiet_skip | (go_big_quiet_want; go_big_quiet_op; (first | go_big_quiet_on | (refine ⟨_, fun _ _ => rfl, ?_⟩; go_big_quiet_on))))
  go_big_quiet_want
  go_big_quiet_op
  refine ⟨_, fun w' hw' => l_short r HR1.out w HT.out H0.out w' hw', ?_⟩
  go_big_quiet_on
  repeat (first | go_big_quiet_skip | (go_big_quiet_want; go_big_quiet_op; (first | go_big_quiet_on | (refine ⟨_, fun _ _ => rfl, ?_⟩; go_big_quiet_on))))
  go_big_quiet_want
  go_big_quiet_op
  refine ⟨_, fun w' hw' => l_impl _ (by decide) w HT.out H0.out w' hw', ?_⟩
  go_big_quiet_on
  repeat (first | go_big_quiet_skip | (go_big_quiet_want; go_big_quiet_op; (first | go_big_quiet_on | (refine ⟨_, fun _ _ => rfl, ?_⟩; go_big_quiet_on))))
  go_big_quiet_want
  go_big_quiet_op
  refine ⟨_, fun w' hw' => l_hex w w' hw', ?_⟩
  go_big_quiet_on
  repeat (first | go_big_quiet_skip | (go_big_quiet_want; go_big_quiet_op; (first | go_big_quiet_on | (refine ⟨_, fun _ _ => rfl, ?_⟩; go_big_quiet_on))))
  refine wpQuiet_nil ?_
  intro w3 L3
  have HL3 := Lib.hid L3
  clear L3
  go_wp2
  go_ret
  exact ⟨rfl, HL3.out⟩

set_option maxRecDepth 100000 in
set_option maxHeartbeats 400000 in
theorem law_fnsha_big (a : Option Addr) (len cap : Nat) (w : World) (h : 1048576 < len) :
    Calls Tryd.prog 3 #[.slice a len cap] w fun e w' => e = .returned (.bool true) ∧ Below w.heap.size w w' := by
  go_enter Tryd.func3, Tryd.ntmps3
  go_wp2_with (go_at_call 6; refine (big_yes a len cap _ h).mono ?_; rintro e w' ⟨rfl, rfl⟩)
  go_ret
  exact ⟨rfl, Below.refl _ _⟩
theorem law_fnsha_any (a : Option Addr) (len cap : Nat) (zs : List Int) (w : World) (hr : ByteRow w a len cap zs) (ht : TabK w) (h0 : TabS w) :
    Calls Tryd.prog 3 #[.slice a len cap] w fun e w' => e = .returned (.bool true) ∧ Below w.heap.size w w' := by
  by_cases h : len ≤ 1048576
  · exact law_fnsha _ w _ (code_of_row w a len cap zs hr h) ht h0
  · exact law_fnsha_big a len cap w (by omega)
theorem laid_fnsha : Rows.fnShaRow.laid = [("loop.example/g00954/impl.shaStart", Lib.tabData .u32 startZ), ("loop.example/g00954/impl.shaAdds", Lib.tabData .u32 keysZ)] := by kernel_rfl
end Go.Proofs.YtpmcgiegppllpaaDoor
