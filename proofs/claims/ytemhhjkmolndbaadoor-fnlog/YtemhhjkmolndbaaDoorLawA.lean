/- What the laws over a code take of it: big, at, fresh. -/
import Derived.Test.YtemhhjkmolndbaaDoorDrw
import Derived.Test.YtemhhjkmolndbaaDoorRowArg
import Derived.Test.YtemhhjkmolndbaaDoorBytes
namespace Go.Proofs.YtemhhjkmolndbaaDoor
open Go.RowKit Go.PlainAid
set_option linter.unusedVariables false

set_option maxHeartbeats 400000 in
theorem big_no (a : Option Addr) (n cap : Nat) (w : World) (h : n ≤ 1048576) : Calls Tryd.prog 11 #[.slice a n cap] w fun e w' => e = .returned (.bool false) ∧ w = w' := by
  have hd : decide ((1048576 : Int) < (n : Int)) = false := by simp; omega
  go_enter Tryd.func11, Tryd.ntmps11
  go_wp2
  go_ret
  exact ⟨rfl, rfl⟩
set_option maxHeartbeats 400000 in
theorem big_yes (a : Option Addr) (n cap : Nat) (w : World) (h : 1048576 < n) : Calls Tryd.prog 11 #[.slice a n cap] w fun e w' => e = .returned (.bool true) ∧ w = w' := by
  have hd : decide ((1048576 : Int) < (n : Int)) = true := by simp; omega
  go_enter Tryd.func11, Tryd.ntmps11
  go_wp2
  go_ret
  exact ⟨rfl, rfl⟩
set_option maxHeartbeats 800000 in
/-- Some number, the world as it was. -/
theorem at_any (xs : List Int) (i : Nat) (hi : i ≤ 1000) (w : World) (v : Value) (hC : Code w v xs) :
    Calls Tryd.prog 13 #[v, .int .i64 i] w fun e w' => (∃ x : Nat, e = .returned (.int .i64 x) ∧ x ≤ 255) ∧ w = w' := by
  obtain ⟨hr, hl, a, cap, rfl, hc⟩ := hC
  by_cases h0 : i < xs.length
  · obtain ⟨b, off, hlt, rfl, hcl⟩ := hc (by omega)
    have c0 := hcl i h0
    have r0 := getD_range xs hr i
    obtain ⟨x, hx⟩ := Int.eq_ofNat_of_zero_le r0.1
    rw [hx] at c0 r0
    have hd : (i : Int) < (xs.length : Int) := by omega
    have HR := Lib.hid r0
    obtain ⟨r1, r2⟩ := r0
    clear hr hc hcl hx
    go_enter Tryd.func13, Tryd.ntmps13
    go_wp2
    go_ret
    exact ⟨⟨x, rfl, by have := HR.out.2; omega⟩, rfl⟩
  · have hd : ¬ (i : Int) < (xs.length : Int) := by omega
    generalize xs.length = n at *
    clear hr hc h0
    go_enter Tryd.func13, Tryd.ntmps13
    go_wp2
    go_ret
    refine ⟨⟨((i : Int) * 37 + (n : Int) * 11).toNat % 256, ?_, by omega⟩, rfl⟩
    congr 2
theorem grows_one (w : World) (b : Int) : Grows (w.alloc (.cells #[.int .u8 b] 5)) w.heap.size (.slice (some ⟨w.heap.size, 0, none⟩) 1 1) [b] :=
  ⟨by simp [u8s], .inr ⟨w.heap.size, 1, #[.int .u8 b], rfl, Nat.le_refl _, heap_alloc_new w _, Nat.le_refl _, by decide, rfl, by simp [u8s]⟩⟩
set_option maxRecDepth 100000 in
set_option maxHeartbeats 2000000 in
/-- A slice of its own, of one byte at least. -/
theorem fresh_any (xs : List Int) (i : Nat) (hi : i ≤ 1000) (w : World) (v : Value) (hC : Code w v xs) :
    Calls Tryd.prog 15 #[v, .int .i64 i] w fun e w' => (∃ u : Value, e = .returned u ∧ ∃ l : List Int, Grows w' w.heap.size u l ∧ 1 ≤ l.length ∧ l.length ≤ 601) ∧ Below w.heap.size w w' := by
  obtain ⟨hr, hl, a, cap, rfl, hc⟩ := hC
  have HC := Lib.hid hc
  have HRR := Lib.hid hr
  have hE := fun b => grows_one w b
  generalize hn : xs.length = n at *
  have HN := Lib.hid hn
  clear hr hc hn
  go_enter Tryd.func15, Tryd.ntmps15
  go_wp2
  go_loopw [5, 6] (fun o kv wr => ∃ (k : Nat) (l : List Int), k ≤ n ∧ k ≤ 600 ∧ kv = .int .i64 k ∧ l.length = k + 1 ∧ Grows wr w.heap.size o l ∧ Below w.heap.size w wr) (fun _ kv _ => n - (intOf kv).toNat)
  case atStart => exact ⟨0, _, by omega, by omega, rfl, rfl, hE _, (Below.refl _ _).alloc (Nat.le_refl _) _⟩
  case round =>
    clear hE
    obtain ⟨k, l, hk, hk6, rfl, hll, hgr, hW⟩ := hrel
    have hws := hW.size
    by_cases hlt : k < n
    · by_cases h6 : k < 600
      · obtain ⟨b, off, hlb, rfl, hcl⟩ := HC.out (by omega)
        have c0 : wr.cell? ⟨b, off + k, none⟩ = some (.int .u8 (xs.getD k 0)) := by rw [hW.cell (p := ⟨b, off + k, none⟩) hlb]; exact hcl k hlt
        have r0 := getD_range xs HRR.out k
        obtain ⟨x, hx⟩ := Int.eq_ofNat_of_zero_le r0.1
        rw [hx] at c0 r0
        clear hcl hx
        have m7 : k % 7 ≤ 6 := by omega
        have HWW := Lib.hid hW
        clear hW
        go_wp2_with (at_builtin; refine wp_append_bytes rfl (.tmp 20) (.tmp 34) rfl w.heap.size _ l [_] rfl (hgr.alloc _) wr.heap.size 1 1 rfl rfl (src_one wr _) (by omega) (by simp; omega) ?_; intro v' w' hgr' hb')
        have hb3 : Below w.heap.size wr w' := ((Below.refl _ _).alloc hws _).trans hb'
        go_roundw
        case rel => exact ⟨k + 1, _, by omega, by omega, by go_num, by rw [List.length_append, hll]; rfl, hgr', HWW.out.trans hb3⟩
        case measure => simp only [intOf]; omega
      · have hd : ¬ (k : Int) < 600 := by omega
        go_wp2
        go_ret
        exact ⟨⟨_, rfl, l, hgr, by omega, by omega⟩, hW⟩
    · have hd : ¬ (k : Int) < (n : Int) := by omega
      go_wp2
      go_ret
      exact ⟨⟨_, rfl, l, hgr, by omega, by omega⟩, hW⟩
end Go.Proofs.YtemhhjkmolndbaaDoor
