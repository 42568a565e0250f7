/- Frame and its model, by one contract each. -/
import Derived.Test.YtmnglcidklckgaaDoorFrM
import Derived.Test.YtmnglcidklckgaaDoorCrcI
import Derived.Test.YtmnglcidklckgaaDoorCrcS
import Derived.Test.YtmnglcidklckgaaDoorFixedI
import Derived.Test.YtmnglcidklckgaaDoorFixedS
import Derived.Test.YtmnglcidklckgaaDoorTextI
import Derived.Test.YtmnglcidklckgaaDoorTextS
namespace Go.Proofs.YtmnglcidklckgaaDoor
open Go.RowKit Go.PlainAid
set_option linter.unusedVariables false

theorem TabC.later {w w' : World} {B : Nat} (h : TabC w) (hb : Below B w w') (hB : w.heap.size ≤ B) : TabC w' := by
  intro l hl
  have hc := h l hl
  have := cell_lt hc
  rw [hb.cell (p := ⟨1, l, none⟩) (Nat.lt_of_lt_of_le this hB)]
  exact hc
theorem TabC.lt {w : World} (h : TabC w) : 1 < w.heap.size := cell_lt (h 0 (by decide))
theorem TabC.below {w w' : World} {B : Nat} (h : TabC w) (hb : Below B w w') (hB : 1 < B) : TabC w' := by
  intro l hl
  rw [hb.cell (p := ⟨1, l, none⟩) hB]
  exact h l hl
theorem impl_crcV (s : ByteArray) (w : World) (hs : s.size ≤ 1048600) (ht : TabC w) :
    Calls Tryd.prog 85 #[.string s] w fun e w' => e = .returned (.int .i64 (crcV s)) ∧ Below w.heap.size w w' := by
  rw [← crcV_eq]
  exact impl_crc s w (by unfold maxLen; omega) ht
theorem spec_crcV (s : ByteArray) (w : World) (hs : s.size ≤ 1048600) :
    Calls Tryd.prog 75 #[.string s] w fun e w' => e = .returned (.int .i64 (crcV s)) ∧ w = w' := by
  rw [← crcV_eq]
  exact spec_crc s w (by unfold maxLen; omega)
theorem impl_fix4 (n : Int) (w : World) (h0 : 0 ≤ n) (h1 : n ≤ 4294967295) :
    Calls Tryd.prog 84 #[.int .i64 n, .int .i64 4] w fun e w' => e = .returned (.string (fix4 n)) ∧ Below w.heap.size w w' := by
  rw [← fix4_eq]
  exact impl_fixed n 4 w (by decide) (by decide) h0 (by omega) (dv4 n h0 h1)
theorem spec_fix4 (n : Int) (w : World) (h0 : 0 ≤ n) (h1 : n ≤ 4294967295) :
    Calls Tryd.prog 74 #[.int .i64 n, .int .i64 4] w fun e w' => e = .returned (.string (fix4 n)) ∧ Below w.heap.size w w' := by
  rw [← fix4_eq]
  exact spec_fixed n 4 w (by decide) (by decide) h0 (by omega) (dv4 n h0 h1)

set_option maxHeartbeats 400000 in
theorem impl_frame (s : ByteArray) (w : World) (hs : s.size ≤ 1048576) (ht : TabC w) :
    Calls Tryd.prog 59 #[.string s] w fun e w' => e = .returned (.string (frameS s)) ∧ Below w.heap.size w w' := by
  by_cases hb : (200 : Int) < s.size
  · rw [frameS_big s (by omega)]
    go_enter Tryd.func59, Tryd.ntmps59
    go_wp2
    go_ret
    exact ⟨rfl, Below.refl _ _⟩
  · have hF := frameS_ok s (by omega)
    have h7 := showT_size s
    have h8 := fix4_size (crcV (showT s))
    have c0 := crcV_nonneg (showT s)
    have c1 := crcV_le (showT s)
    have a1 := fun W => run_string_add_sum (P := Tryd.prog) (w := W) (fix4 (crcV (showT s))) (showT s) (by omega)
    rw [hF]
    have HT := Lib.hid ht
    clear ht hF
    go_enter Tryd.func59, Tryd.ntmps59
    go_wp2_with (first
      | (go_at_call 83; refine (show_text s _ hs).mono ?_; rintro e w1 ⟨rfl, hb1⟩; have HT1 := Lib.hid (HT.out.later hb1 (Nat.le_refl _)))
      | (go_at_call 85; refine (impl_crcV (showT s) _ (by omega) HT1.out).mono ?_; rintro e w2 ⟨rfl, hb2⟩)
      | (go_at_call 84; refine (impl_fix4 (crcV (showT s)) _ c0 c1).mono ?_; rintro e w3 ⟨rfl, hb3⟩))
    go_ret
    exact ⟨rfl, hb1.trans ((hb2.trans (hb3.mono hb2.size)).mono hb1.size)⟩
set_option maxHeartbeats 400000 in
theorem spec_frame (s : ByteArray) (w : World) (hs : s.size ≤ 1048576) :
    Calls Tryd.prog 49 #[.string s] w fun e w' => e = .returned (.string (frameS s)) ∧ Below w.heap.size w w' := by
  by_cases hb : (200 : Int) < s.size
  · rw [frameS_big s (by omega)]
    go_enter Tryd.func49, Tryd.ntmps49
    go_wp2
    go_ret
    exact ⟨rfl, Below.refl _ _⟩
  · have hF := frameS_ok s (by omega)
    have h7 := showT_size s
    have h8 := fix4_size (crcV (showT s))
    have c0 := crcV_nonneg (showT s)
    have c1 := crcV_le (showT s)
    have a1 := fun W => run_string_add_sum (P := Tryd.prog) (w := W) (fix4 (crcV (showT s))) (showT s) (by omega)
    rw [hF]
    clear hF
    go_enter Tryd.func49, Tryd.ntmps49
    go_wp2_with (first
      | (go_at_call 73; refine (show_piece s _ hs).mono ?_; rintro e w1 ⟨rfl, hb1⟩)
      | (go_at_call 75; refine (spec_crcV (showT s) _ (by omega)).mono ?_; rintro e w2 ⟨rfl, rfl⟩)
      | (go_at_call 74; refine (spec_fix4 (crcV (showT s)) _ c0 c1).mono ?_; rintro e w3 ⟨rfl, hb3⟩))
    go_ret
    exact ⟨rfl, hb1.trans (hb3.mono hb1.size)⟩
end Go.Proofs.YtmnglcidklckgaaDoor
