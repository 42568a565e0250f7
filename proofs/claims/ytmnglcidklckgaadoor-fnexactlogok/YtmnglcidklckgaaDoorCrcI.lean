/- The walks of the program's Crc, for every string, where the table holds what the program's text lays. -/
import Derived.Test.YtmnglcidklckgaaDoorCrcM
import Derived.Test.YtmnglcidklckgaaDoorRows
import Derived.WalkKit
import Derived.WalkSpells
import Derived.WalkLawsBesides
import Derived.Lib.Hide
import Derived.Lib.LaidTab
import Derived.Laws.RangeAny
namespace Go.Proofs.YtmnglcidklckgaaDoor
open Go.RowKit Go.PlainAid
set_option linter.unusedVariables false

/-- The table that crcBytes reads. -/
def TabC (w : World) : Prop := ∀ l : Nat, l < 16 → w.cell? ⟨1, l, none⟩ = some (.int .u32 (crcTab.getD l 0))

set_option maxHeartbeats 400000 in
theorem crc_bytes (c : Nat) (s : ByteArray) (w : World) (hc : c < 4294967296) (hs : s.size ≤ maxLen) (ht : TabC w) :
    Calls Tryd.prog 97 #[.int .u32 c, .string s] w fun e w' => e = .returned (.int .u32 (crcF c s s.size : Nat)) ∧ w = w' := by
  unfold maxLen at hs
  have HT := Lib.hid ht
  clear ht
  go_enter Tryd.func97, Tryd.ntmps97
  go_wp2
  go_loop [0, 8] (fun a i => ∃ k : Nat, k ≤ s.size ∧ i = .int .i64 k ∧ a = .int .u32 (crcF c s k : Nat)) (fun _ i => s.size - (intOf i).toNat)
  case atStart => exact ⟨0, by omega, rfl, rfl⟩
  case round =>
    obtain ⟨k, hk, rfl, rfl⟩ := hrel
    by_cases hlt : k < s.size
    · have hC := crcF_lt c hc s k
      have hg := get_bt s k hlt
      have b0 := bt_nonneg s k
      have b1 := bt_le s k
      have hX := xor_bt_lt _ hC s k
      have x1 := u32_xor (crcF c s k : Nat) (bt s k) (by omega) (by omega) (by omega) (by omega)
      rw [Int.toNat_natCast] at x1
      have hnext : crcF c s (k + 1) = stepsN (stepsN (crcF c s k ^^^ (bt s k).toNat) 4) 4 := by rw [crcF, stepsN_add]
      generalize crcF c s k ^^^ (bt s k).toNat = X at hX x1 hnext
      have hY := stepsN_lt X 4 hX
      have a1 := u32_and15 X hX
      have c1 := HT.out (X % 16) (by omega)
      rw [tab_at _ (by omega)] at c1
      have y1 := u32_xor_nat (stepsN (X % 16) 4) (X / 16) (stepsN_lt _ _ (by omega)) (by omega)
      rw [nib, show ((X / 16 : Nat) : Int) = (X : Int) / 16 by omega] at y1
      generalize stepsN X 4 = Y at hY y1 hnext
      have a2 := u32_and15 Y hY
      have c2 := HT.out (Y % 16) (by omega)
      rw [tab_at _ (by omega)] at c2
      have y2 := u32_xor_nat (stepsN (Y % 16) 4) (Y / 16) (stepsN_lt _ _ (by omega)) (by omega)
      rw [nib, show ((Y / 16 : Nat) : Int) = (Y : Int) / 16 by omega] at y2
      have HN := Lib.hid hnext
      clear hnext
      go_wp2
      go_round
      case rel => exact ⟨k + 1, by omega, by go_num, by rw [HN.out]⟩
      case measure => simp [intOf]; omega
    · obtain rfl : k = s.size := by omega
      go_wp2
      go_ret
      exact ⟨rfl, rfl⟩

theorem TabC.iter {w : World} (h : TabC w) (s : ByteArray) (p : Nat) : TabC (w.iter s p) := by
  intro l hl
  have := h l hl
  exact cell_later ((Below.refl _ _).alloc (Nat.le_refl _) _) this

theorem width_pos (s : ByteArray) (pos : Nat) (h : pos < s.size) : 1 ≤ (Utf8.decode s pos).2 := by
  by_cases ha : (s[pos]'h).toNat < 128
  · rw [decode_ascii s pos h ha]
    exact Nat.le_refl _
  · exact (decode_high s pos h (by omega)).2

set_option maxHeartbeats 400000 in
theorem impl_crc (s : ByteArray) (w : World) (hs : s.size ≤ maxLen) (ht : TabC w) :
    Calls Tryd.prog 85 #[.string s] w fun e w' => e = .returned (.int .i64 (4294967295 - (crcF 4294967295 s s.size : Nat))) ∧ Below w.heap.size w w' := by
  unfold maxLen at hs
  have HT := Lib.hid ht
  clear ht
  go_enter Tryd.func85, Tryd.ntmps85
  go_wp2
  go_loopw [3, 4] (fun c d wr => ∃ pos k : Nat, k ≤ pos ∧ k ≤ s.size ∧ wr = w.iter s pos ∧ c = .int .u32 (crcF 4294967295 s k : Nat) ∧ d = .int .i64 k) (fun _ _ wr => s.size - wr.iterPos w.heap.size)
  case atStart => exact ⟨0, 0, by omega, by omega, rfl, rfl, rfl⟩
  case round =>
    obtain ⟨pos, k, hkp, hks, rfl, rfl, rfl⟩ := hrel
    have hC := crcF_lt 4294967295 (by decide) s k
    by_cases hp : pos < s.size
    · have hnx : ∀ ty, (Instr.next (.pointer (some ⟨w.heap.size, 0, none⟩)) true ty).run Tryd.prog (w.iter s pos) = _ := fun ty => run_next_any w s pos ty hp
      have hwd := width_pos s pos hp
      go_wp2_with (go_at_call 97; refine (crc_bytes _ _ _ hC ?_ (HT.out.iter _ _)).mono ?_; (· rw [ByteArray.size_extract]; unfold maxLen; omega); rintro e w' ⟨rfl, rfl⟩)
      go_roundw
      case rel =>
        refine ⟨pos + (Utf8.decode s pos).2, pos, by omega, by omega, rfl, ?_, rfl⟩
        rw [crcF_extract 4294967295 s k pos _ (by omega) (by omega)]
        rw [show k + (min pos s.size - k) = pos by omega]
      case measure => simp; omega
    · have hnx : ∀ ty, (Instr.next (.pointer (some ⟨w.heap.size, 0, none⟩)) true ty).run Tryd.prog (w.iter s pos) = _ := fun ty => run_next_end w s pos ty hp
      go_wp2_with (go_at_call 97; refine (crc_bytes _ _ _ hC ?_ (HT.out.iter _ _)).mono ?_; (· rw [ByteArray.size_extract]; unfold maxLen; omega); rintro e w' ⟨rfl, rfl⟩)
      go_ret
      have e : crcF (crcF 4294967295 s k) (s.extract k s.size) (s.size - k) = crcF 4294967295 s s.size := by
        rw [crcF_extract 4294967295 s k s.size _ (by omega) (by omega)]
        rw [show k + (s.size - k) = s.size by omega]
      have hE := crcF_lt 4294967295 (by decide) s s.size
      refine ⟨?_, (Below.refl _ _).alloc (Nat.le_refl _) _⟩
      rw [e]
      show Ending.returned (Value.int .i64 ((4294967295 - ((crcF 4294967295 s s.size : Nat) : Int)) % 4294967296)) = _
      rw [Int.emod_eq_of_lt (by omega) (by omega)]
end Go.Proofs.YtmnglcidklckgaaDoor
