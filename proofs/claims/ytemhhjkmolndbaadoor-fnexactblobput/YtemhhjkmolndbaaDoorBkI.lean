/- The program's blobOk, dataSize and BlobsOk. -/
import Derived.Test.YtemhhjkmolndbaaDoorBkM
namespace Go.Proofs.YtemhhjkmolndbaaDoor
open Go.RowKit Go.PlainAid
set_option linter.unusedVariables false

theorem rng_yes (a b c : Int) (w : World) (h1 : b ≤ a) (h2 : a ≤ c) : Calls Tryd.prog 69 #[.int .i64 a, .int .i64 b, .int .i64 c] w fun e w' => e = .returned (.bool true) ∧ w = w' := by
  go_enter Tryd.func69, Tryd.ntmps69
  go_wp2
  go_ret
  exact ⟨rfl, rfl⟩
theorem rng_no (a b c : Int) (w : World) (h : a < b ∨ c < a) : Calls Tryd.prog 69 #[.int .i64 a, .int .i64 b, .int .i64 c] w fun e w' => e = .returned (.bool false) ∧ w = w' := by
  by_cases h1 : b ≤ a
  · have h2 : decide (a ≤ c) = false := by simp; omega
    clear h
    go_enter Tryd.func69, Tryd.ntmps69
    go_wp2
    go_ret
    exact ⟨rfl, rfl⟩
  · clear h
    go_enter Tryd.func69, Tryd.ntmps69
    go_wp2
    go_ret
    exact ⟨rfl, rfl⟩
theorem impl_sh8 (s : ByteArray) (hs : s.size ≤ 1048577) (w : World) (h : Tabs w) : Calls Tryd.prog 60 #[.string s] w fun e w' => e = .returned (.string (sh8 s)) ∧ Below w.heap.size w w' := by
  rw [sh8_eq]
  exact impl_short s hs w h.k h.s
set_option maxHeartbeats 800000 in
theorem impl_blobOk (i d : ByteArray) (b : Bool) (w : World) (hd : d.size ≤ 1048576) (hT : Tabs w) :
    Calls Tryd.prog 70 #[.agg #[.string i, .string d, .bool b]] w fun e w' => e = .returned (.bool (okOne i d b)) ∧ Below w.heap.size w w' := by
  have hb0 : Below w.heap.size w (w.alloc (.cells #[.string i, .string d, .bool b] 89)) := (Below.refl _ _).alloc (Nat.le_refl _) _
  by_cases h40 : d.size ≤ 40
  · have h40' : ¬ (40 : Int) < (d.size : Int) := by omega
    cases b with
    | true =>
      clear hT
      by_cases h8 : i.size = 8
      · rw [(okOne_iff i d true).2 ⟨h40, h8, fun h => by cases h⟩]
        have h8' : ((i.size : Int) == 8) = true := by simp [h8]
        clear h8 h40
        go_enter Tryd.func70, Tryd.ntmps70
        go_wp2
        go_ret
        exact ⟨rfl, hb0⟩
      · rw [okOne_no (fun h => h8 h.2.1)]
        have h8' : ((i.size : Int) == 8) = false := beq_no (by omega)
        clear h8 h40
        go_enter Tryd.func70, Tryd.ntmps70
        go_wp2
        go_ret
        exact ⟨rfl, hb0⟩
    | false =>
      have X := Lib.hid (Bx.new w 89 #[.string i, .string d, .bool false] _ rfl)
      have hs8 := sh8_size d
      have HS := Lib.hid (impl_sh8 d (by omega) _ (hT.alloc (.cells #[.string i, .string d, .bool false] 89)).drew)
      have hok : okOne i d false = (i.toList == (sh8 d).toList) := by
        by_cases e : i = sh8 d
        · rw [(okOne_iff i d false).2 ⟨h40, by rw [e, hs8], fun _ => e⟩, e, beq_self_eq_true]
        · rw [okOne_no (fun h => e (h.2.2 rfl)), ne_list e]
      rw [hok]
      generalize sh8 d = z at *
      obtain ⟨x0, x1, x2⟩ := X.out.cells3
      clear hT hok hs8 h40
      have HB0 := Lib.hid hb0
      clear hb0
      go_enter Tryd.func70, Tryd.ntmps70
      go_wp2_with fail
      go_region_held3 (fun w' => w'.cell? ⟨w.heap.size, 0, none⟩ = some (.string i) ∧ w'.cell? ⟨w.heap.size, 1, none⟩ = some (.string d) ∧ w'.cell? ⟨w.heap.size, 2, none⟩ = some (.bool false)) (first | (with_reducible exact ⟨x0, x1, x2⟩) | (with_reducible exact CY.out) | go_keep)
        (first | (go_at_call 60; refine HS.out.mono ?_; rintro e w2 ⟨rfl, hb⟩; have CY := Lib.hid (X.out.drew.after hb).cells3; have HB2 := Lib.hid (((Af.refl w).alloc (.cells #[.string i, .string d, .bool false] 89)).drew.after hb); clear hb))
      go_wp2
      go_ret
      exact ⟨rfl, HB2.out⟩
  · rw [okOne_no (fun h => h40 h.1)]
    have h40' : (40 : Int) < (d.size : Int) := by omega
    clear hT
    go_enter Tryd.func70, Tryd.ntmps70
    go_wp2
    go_ret
    exact ⟨rfl, hb0⟩
set_option maxRecDepth 100000 in
set_option maxHeartbeats 1000000 in
theorem impl_dataSize (v : Value) (l : List Bb) (w : World) (hv : Blbs w v l) (hl : l.length ≤ 1048576) (hs : Sml l) :
    Calls Tryd.prog 64 #[v] w fun e w' => e = .returned (.int .i64 (dS l l.length : Nat)) ∧ Below w.heap.size w w' := by
  obtain ⟨k1, k2, a, ca, rfl, hca, ha⟩ := hv
  obtain ⟨n, hn⟩ : ∃ n, l.length = n := ⟨_, rfl⟩
  have HD := Lib.hid (fun k hk => dS_le hs k hk)
  have HSM := Lib.hid hs
  rw [hn] at k1 k2 hca ha hl HD ⊢
  have HN := Lib.hid hn
  have HA := Lib.hid ha
  clear hn ha k2 hca hs
  go_enter Tryd.func64, Tryd.ntmps64
  go_wp2
  go_loopw [3, 8] (fun r i wr => ∃ k : Nat, k ≤ n ∧ i = .int .i64 k ∧ r = .int .i64 (dS l k : Nat) ∧ Below w.heap.size w wr) (fun _ i _ => n - (intOf i).toNat)
  case atStart => exact ⟨0, by omega, rfl, rfl, Below.refl _ _⟩
  case round =>
    obtain ⟨k, hk, rfl, rfl, hb⟩ := hrel
    have HB := Lib.hid hb
    clear hb
    by_cases hlt : k < n
    · obtain ⟨y, o, rfl, hy, hcy⟩ := HA.out (by omega)
      obtain ⟨c1, c2, c3⟩ := (hcy k hlt).below HB.out hy
      have hd0 := HD.out k (by omega)
      have hdk := (HSM.out k (by rw [HN.out]; exact hlt)).2
      have HST := Lib.hid (dS_succ l k)
      have HB2 := Lib.hid (HB.out.alloc HB.out.size (.cells #[.string (bI l k), .string (bD l k), .bool (bX l k)] 89))
      obtain ⟨z, hz⟩ : ∃ z, dS l k = z := ⟨_, rfl⟩
      have HZ := Lib.hid hz
      rw [hz] at hd0 ⊢
      clear hcy hz
      go_wp2
      go_roundw
      case rel => exact ⟨k + 1, by omega, by go_num, by rw [HST.out, HZ.out]; go_num, HB2.out⟩
      case measure => simp only [intOf]; omega
    · obtain rfl : k = n := by omega
      go_wp2
      go_ret
      exact ⟨rfl, HB.out⟩
end Go.Proofs.YtemhhjkmolndbaaDoor
