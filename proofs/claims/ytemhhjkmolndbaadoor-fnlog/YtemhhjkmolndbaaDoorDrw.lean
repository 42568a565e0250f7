import Derived.Test.YtemhhjkmolndbaaDoorBytes
import Derived.Test.YtemhhjkmolndbaaDoorDrawM
import Derived.Deep.QuietTactic
import Derived.BigQuiet
import Derived.Maps.AppendAt
import Derived.Deep.RegionWith
/- The model's cursor over the bytes of a draw: what each draw gives and what it leaves, as functions of the bytes alone. -/
namespace Go.Proofs.YtemhhjkmolndbaaDoor
open Go.RowKit Go.PlainAid
set_option linter.unusedVariables false

/-- The value v is a slice that holds the bytes xs. -/
def Code (w : World) (v : Value) (xs : List Int) : Prop := (∀ x ∈ xs, 0 ≤ x ∧ x ≤ 255) ∧ xs.length ≤ 1048576 ∧ ∃ a cap, v = .slice a xs.length cap ∧
  (0 < xs.length → ∃ b off, b < w.heap.size ∧ a = some ⟨b, off, none⟩ ∧ ∀ i, i < xs.length → w.cell? ⟨b, off + i, none⟩ = some (.int .u8 (xs.getD i 0)))
/-- Block g is a cursor at s over the slice v. -/
def Cur (w : World) (g : Nat) (v : Value) (s : St) : Prop := w.heap[g]? = some (.cells #[v, .int .i64 s.1, .int .i64 s.2] 112 (0, 0))
/-- The slice v of the bytes xs, apart from block g. -/
def CodeX (w : World) (g : Nat) (v : Value) (xs : List Int) : Prop := (∀ x ∈ xs, 0 ≤ x ∧ x ≤ 255) ∧ xs.length ≤ 1048576 ∧ ∃ a cap, v = .slice a xs.length cap ∧
  (0 < xs.length → ∃ b off, b ≠ g ∧ b < w.heap.size ∧ a = some ⟨b, off, none⟩ ∧ ∀ i, i < xs.length → w.cell? ⟨b, off + i, none⟩ = some (.int .u8 (xs.getD i 0)))

theorem Cur.lt {w : World} {g : Nat} {v : Value} {s : St} (h : Cur w g v s) : g < w.heap.size := by
  unfold Cur at h
  rcases Nat.lt_or_ge g w.heap.size with h' | h'
  · exact h'
  · rw [Array.getElem?_eq_none h'] at h; cases h
theorem Code.below {w w' : World} {v : Value} {xs : List Int} (h : Code w v xs) (hb : Below w.heap.size w w') : Code w' v xs := by
  obtain ⟨h1, h2, a, cap, rfl, h3⟩ := h
  refine ⟨h1, h2, a, cap, rfl, fun h0 => ?_⟩
  obtain ⟨b, off, hlt, ha, hc⟩ := h3 h0
  exact ⟨b, off, Nat.lt_of_lt_of_le hlt hb.size, ha, fun i hi => (hb.cell (p := ⟨b, off + i, none⟩) hlt).trans (hc i hi)⟩
theorem Code.apart {w w' : World} {v : Value} {xs : List Int} {g : Nat} (h : Code w v xs) (hb : Below w.heap.size w w') (hg : w.heap.size ≤ g) : CodeX w' g v xs := by
  obtain ⟨h1, h2, a, cap, rfl, h3⟩ := h
  refine ⟨h1, h2, a, cap, rfl, fun h0 => ?_⟩
  obtain ⟨b, off, hlt, ha, hc⟩ := h3 h0
  exact ⟨b, off, by omega, Nat.lt_of_lt_of_le hlt hb.size, ha, fun i hi => (hb.cell (p := ⟨b, off + i, none⟩) hlt).trans (hc i hi)⟩
theorem CodeX.grown {w w' : World} {g : Nat} {v : Value} {xs : List Int} (h : CodeX w g v xs) (hb : w.grownBy w' (some g)) : CodeX w' g v xs := by
  obtain ⟨h1, h2, a, cap, rfl, h3⟩ := h
  refine ⟨h1, h2, a, cap, rfl, fun h0 => ?_⟩
  obtain ⟨b, off, hne, hlt, ha, hc⟩ := h3 h0
  exact ⟨b, off, hne, Nat.lt_of_lt_of_le hlt hb.size, ha, fun i hi => hb.cell (hc i hi) (by simpa using hne)⟩
theorem Cur.other {w w' : World} {g k : Nat} {v : Value} {s : St} (h : Cur w g v s) (hb : w.grownBy w' (some k)) (hne : g ≠ k) : Cur w' g v s := by
  have := h.lt
  unfold Cur at *
  rw [hb.block g this (by simpa using hne)]
  exact h
theorem grown_set (w : World) (g o : Nat) (x : Value) : w.grownBy (w.setCell ⟨g, o, none⟩ x) (some g) :=
  ⟨rfl, rfl, rfl, by simp, fun k _ hne => heap_setCell_other w ⟨g, o, none⟩ k x (fun e => hne (by simp [e]))⟩
theorem grown_drewN (w : World) (n : Nat) (row : Option Nat) : w.grownBy (w.drewN n) row := ⟨rfl, rfl, rfl, Nat.le_refl _, fun _ _ _ => rfl⟩
theorem Cur.setH {w : World} {g i : Nat} {h h' : Int} {v : Value} (hc : Cur w g v (i, h)) : Cur (w.setCell ⟨g, 2, none⟩ (.int .i64 h')) g v (i, h') := by
  unfold Cur at *
  rw [heap_setCell_same w g 2 _ _ _ hc]
  rfl
theorem Cur.setI {w : World} {g i i' : Nat} {h : Int} {v : Value} (hc : Cur w g v (i, h)) : Cur (w.setCell ⟨g, 1, none⟩ (.int .i64 i')) g v (i', h) := by
  unfold Cur at *
  rw [heap_setCell_same w g 1 _ _ _ hc]
  rfl
theorem Cur.drewN {w : World} {g : Nat} {v : Value} {s : St} (h : Cur w g v s) (n : Nat) : Cur (w.drewN n) g v s := h
theorem Cur.c0 {w : World} {g : Nat} {v : Value} {s : St} (h : Cur w g v s) : w.cell? ⟨g, 0, none⟩ = some v := by rw [Joins.cell_of_block h]; rfl
theorem Cur.c1 {w : World} {g : Nat} {v : Value} {s : St} (h : Cur w g v s) : w.cell? ⟨g, 1, none⟩ = some (.int .i64 s.1) := by rw [Joins.cell_of_block h]; rfl
theorem Cur.c2 {w : World} {g : Nat} {v : Value} {s : St} (h : Cur w g v s) : w.cell? ⟨g, 2, none⟩ = some (.int .i64 s.2) := by rw [Joins.cell_of_block h]; rfl
theorem Cur.free {w : World} {g : Nat} {v : Value} {s : St} (h : Cur w g v s) (i : Nat) : w.frozen? ⟨g, i, none⟩ = false := Joins.unfrozen_of_block h i

set_option maxHeartbeats 400000 in
theorem byte_more (w : World) (g i b off len cap : Nat) (h x : Int) (hc : Cur w g (.slice (some ⟨b, off, none⟩) len cap) (i, h)) (hlt : i < len) (hl : len ≤ 1048576) (hne : b ≠ g) (hx : w.cell? ⟨b, off + i, none⟩ = some (.int .u8 x)) (x0 : 0 ≤ x) (x1 : x ≤ 255) :
    Calls Tryd.prog 90 #[.pointer (some ⟨g, 0, none⟩)] w fun e w' => e = .returned (.int .i64 (bits .and .i64 (raw (hNext h) + x) 255)) ∧ Cur w' g (.slice (some ⟨b, off, none⟩) len cap) (i + 1, hNext h) ∧ w.grownBy w' (some g) := by
  have a0 := hc.c0
  have a1 := hc.c1
  have a2 := hc.c2
  have f1 := hc.free 1
  have f2 := hc.free 2
  have H := Lib.hid hc
  clear hc
  simp only at a1 a2
  go_enter Tryd.func90, Tryd.ntmps90
  go_wp2
  rw [show wrap64 (wrap64 (h * 6364136223846793005) + 1442695040888963407) = hNext h from rfl]
  have hc1 := H.out.setH (h' := hNext h)
  have hg1 := grown_set w g 2 (.int .i64 (hNext h))
  have hx1 := hg1.cell hx (by simpa using hne)
  have hr := hNext_range h
  generalize hw1 : w.setCell ⟨g, 2, none⟩ (.int .i64 (hNext h)) = w1 at *
  generalize hh : hNext h = h1 at *
  have HH := Lib.hid hh
  clear hw1 hx a0 a1 a2 f1 f2 H hh
  have a0 := hc1.c0
  have a1 := hc1.c1
  have a2 := hc1.c2
  have f1 := hc1.free 1
  have HC := Lib.hid hc1
  have HG := Lib.hid hg1
  clear hc1 hg1
  simp only at a1 a2
  have er : bits .and .i64 (bits .xor .i64 (h1 / 8589934592) (h1 / 35184372088832)) 255 = raw h1 := rfl
  have rr := raw_range h1
  have e8 : IntKind.i64.wrap x = x := IntWalk.i64_in _ (by omega)
  have e9 : IntKind.i64.wrap (raw h1 + x) = raw h1 + x := IntWalk.i64_in _ (by omega)
  go_quiet (fail)
  go_wp2
  go_quiet (fail)
  go_wp2
  go_quiet (fail)
  go_wp2
  go_ret
  refine ⟨by rw [HH.out]; rfl, ?_, ?_⟩
  · rw [HH.out]
    exact (HC.out.drewN _).setI
  · exact (HG.out.trans (grown_drewN _ _ _)).trans (grown_set _ _ _ _)

set_option maxHeartbeats 400000 in
theorem byte_none (w : World) (g i len cap : Nat) (a : Option Addr) (h : Int) (hc : Cur w g (.slice a len cap) (i, h)) (hge : len ≤ i) (hl : len ≤ 1048576) (hi : i ≤ 1048576) :
    Calls Tryd.prog 90 #[.pointer (some ⟨g, 0, none⟩)] w fun e w' => e = .returned (.int .i64 (raw (hNext h))) ∧ Cur w' g (.slice a len cap) (i, hNext h) ∧ w.grownBy w' (some g) := by
  have a0 := hc.c0
  have a1 := hc.c1
  have a2 := hc.c2
  have f2 := hc.free 2
  have H := Lib.hid hc
  clear hc
  simp only at a1 a2
  go_enter Tryd.func90, Tryd.ntmps90
  go_wp2
  rw [show wrap64 (wrap64 (h * 6364136223846793005) + 1442695040888963407) = hNext h from rfl]
  have hc1 := H.out.setH (h' := hNext h)
  have hg1 := grown_set w g 2 (.int .i64 (hNext h))
  have hr := hNext_range h
  generalize hw1 : w.setCell ⟨g, 2, none⟩ (.int .i64 (hNext h)) = w1 at *
  generalize hh : hNext h = h1 at *
  have HH := Lib.hid hh
  clear hw1 a0 a1 a2 f2 H hh
  have a0 := hc1.c0
  have a1 := hc1.c1
  have a2 := hc1.c2
  have HC := Lib.hid hc1
  have HG := Lib.hid hg1
  clear hc1 hg1
  simp only at a1 a2
  have er : bits .and .i64 (bits .xor .i64 (h1 / 8589934592) (h1 / 35184372088832)) 255 = raw h1 := rfl
  have rr := raw_range h1
  have hd : decide (i < len) = false := by simp; omega
  go_quiet (fail)
  go_wp2
  go_quiet (fail)
  go_wp2
  go_ret
  refine ⟨by rw [HH.out]; rfl, ?_, ?_⟩
  · rw [HH.out]
    exact HC.out
  · exact HG.out.trans ⟨rfl, rfl, rfl, Nat.le_refl _, fun _ _ _ => rfl⟩

/-- The next byte: for every state of the cursor. -/
theorem byte_any (xs : List Int) (w : World) (g : Nat) (v : Value) (s : St) (hc : Cur w g v s) (hx : CodeX w g v xs) (hi : s.1 ≤ xs.length) :
    Calls Tryd.prog 90 #[.pointer (some ⟨g, 0, none⟩)] w fun e w' => e = .returned (.int .i64 (bV xs s)) ∧ Cur w' g v (sN xs s) ∧ w.grownBy w' (some g) := by
  obtain ⟨i, h⟩ := s
  obtain ⟨h1, h2, a, cap, rfl, h3⟩ := hx
  simp only at hi
  unfold bV sN
  by_cases hlt : i < xs.length
  · obtain ⟨b, off, hne, _, rfl, hcell⟩ := h3 (by omega)
    have hm : xs.getD i 0 ∈ xs := by
      rw [List.getD_eq_getElem?_getD, List.getElem?_eq_getElem hlt]
      exact List.getElem_mem hlt
    have r := h1 _ hm
    simp only [if_pos hlt]
    exact byte_more w g i b off xs.length cap h _ hc hlt h2 hne (hcell i hlt) r.1 r.2
  · simp only [if_neg hlt]
    exact byte_none w g i xs.length cap a h hc (by omega) h2 (by omega)
theorem sN_le (xs : List Int) (s : St) (h : s.1 ≤ xs.length) : (sN xs s).1 ≤ xs.length := by
  unfold sN; simp only; split <;> omega
theorem itS_le (xs : List Int) (s : St) (h : s.1 ≤ xs.length) (k : Nat) : (itS xs s k).1 ≤ xs.length := by
  induction k with
  | zero => exact h
  | succ k ih => exact sN_le xs _ ih
theorem beS_le (xs : List Int) (n : Int) (s : St) (h : s.1 ≤ xs.length) : (beS xs n s).1 ≤ xs.length := by
  unfold beS; split
  · exact h
  · split
    · exact itS_le xs s h 1
    · exact itS_le xs s h 4
theorem teS_le (xs : List Int) (m : Int) (s : St) (h : s.1 ≤ xs.length) : (teS xs m s).1 ≤ xs.length := itS_le _ _ (beS_le _ _ _ (beS_le _ _ _ h)) _

/-- A cursor over the bytes xs in block g, at s. -/
structure At (xs : List Int) (w : World) (g : Nat) (v : Value) (s : St) : Prop where
  cur : Cur w g v s
  code : CodeX w g v xs
  le : s.1 ≤ xs.length
theorem At.other {xs : List Int} {w w' : World} {g : Nat} {v : Value} {s : St} (h : At xs w g v s) (hb : w.grownBy w' none) : At xs w' g v s := by
  have hlt := h.cur.lt
  refine ⟨?_, ?_, h.le⟩
  · have := h.cur
    unfold Cur at *
    rw [hb.block g hlt (by simp)]
    exact this
  · obtain ⟨h1, h2, a, cap, rfl, h3⟩ := h.code
    refine ⟨h1, h2, a, cap, rfl, fun h0 => ?_⟩
    obtain ⟨b, off, hne, hlt, ha, hc⟩ := h3 h0
    exact ⟨b, off, hne, Nat.lt_of_lt_of_le hlt hb.size, ha, fun i hi => hb.cell (hc i hi) (by simp)⟩
theorem byte_at (xs : List Int) (w : World) (g : Nat) (v : Value) (s : St) (h : At xs w g v s) :
    Calls Tryd.prog 90 #[.pointer (some ⟨g, 0, none⟩)] w fun e w' => e = .returned (.int .i64 (bV xs s)) ∧ At xs w' g v (sN xs s) ∧ w.grownBy w' (some g) :=
  (byte_any xs w g v s h.cur h.code h.le).mono fun e w' ⟨he, hc, hg⟩ => ⟨he, ⟨hc, h.code.grown hg, sN_le xs s h.le⟩, hg⟩

set_option maxHeartbeats 400000 in
theorem below_at (xs : List Int) (n : Int) (w : World) (g : Nat) (v : Value) (s : St) (h : At xs w g v s) (hn : n ≤ 9223372036854775807) :
    Calls Tryd.prog 52 #[.pointer (some ⟨g, 0, none⟩), .int .i64 n] w fun e w' => e = .returned (.int .i64 (beV xs n s)) ∧ At xs w' g v (beS xs n s) ∧ w.grownBy w' (some g) := by
  unfold beV beS
  by_cases h0 : n ≤ 0
  · simp only [if_pos h0]
    go_enter Tryd.func52, Tryd.ntmps52
    go_wp2
    go_ret
    exact ⟨rfl, h, World.grownBy.refl _ _⟩
  · by_cases h256 : n ≤ 256
    · simp only [if_neg h0, if_pos h256, itS]
      have r := bV_range xs s
      go_enter Tryd.func52, Tryd.ntmps52
      go_wp2_with (go_at_call 90; refine (byte_at xs _ g v s h).mono ?_; rintro e w1 ⟨rfl, hA, hg⟩)
      go_ret
      exact ⟨rfl, hA, hg⟩
    · simp only [if_neg h0, if_neg h256, itS]
      have r0 := bV_range xs s
      have r1 := bV_range xs (sN xs s)
      have r2 := bV_range xs (sN xs (sN xs s))
      have r3 := bV_range xs (sN xs (sN xs (sN xs s)))
      go_enter Tryd.func52, Tryd.ntmps52
      go_wp2_with fail
      refine (byte_at xs _ g v _ h).mono ?_
      rintro e w1 ⟨rfl, hA1, hg1⟩
      go_wp2_with fail
      refine (byte_at xs _ g v _ hA1).mono ?_
      rintro e w2 ⟨rfl, hA2, hg2⟩
      go_wp2_with fail
      refine (byte_at xs _ g v _ hA2).mono ?_
      rintro e w3 ⟨rfl, hA3, hg3⟩
      go_wp2_with fail
      refine (byte_at xs _ g v _ hA3).mono ?_
      rintro e w4 ⟨rfl, hA4, hg4⟩
      go_wp2
      go_ret
      exact ⟨rfl, hA4, ((hg1.trans hg2).trans hg3).trans hg4⟩
end Go.Proofs.YtemhhjkmolndbaaDoor
/- The model's cursor: how it is made, and what a text and a number that are drawn are. -/
namespace Go.Proofs.YtemhhjkmolndbaaDoor
open Go.RowKit Go.PlainAid
set_option linter.unusedVariables false

theorem getD_range (xs : List Int) (h : ∀ x ∈ xs, 0 ≤ x ∧ x ≤ 255) (k : Nat) : 0 ≤ xs.getD k 0 ∧ xs.getD k 0 ≤ 255 := by
  by_cases hk : k < xs.length
  · rw [List.getD_eq_getElem?_getD, List.getElem?_eq_getElem hk]
    exact h _ (List.getElem_mem hk)
  · rw [List.getD_eq_getElem?_getD, List.getElem?_eq_none (by omega)]
    decide

set_option maxRecDepth 100000 in
set_option maxHeartbeats 400000 in
theorem new_some (xs : List Int) (w : World) (b off cap M : Nat) (hM : M = min xs.length 4000) (hr : ∀ x ∈ xs, 0 ≤ x ∧ x ≤ 255) (hl : xs.length ≤ 1048576)
    (hc : ∀ i, i < xs.length → w.cell? ⟨b, off + i, none⟩ = some (.int .u8 (xs.getD i 0))) :
    Calls Tryd.prog 50 #[.slice (some ⟨b, off, none⟩) xs.length cap] w fun e w' => e = .returned (.pointer (some ⟨w.heap.size, 0, none⟩)) ∧
      w' = w.alloc (.cells #[.slice (some ⟨b, off, none⟩) xs.length cap, .int .i64 0, .int .i64 (hS xs M)] 112) := by
  have HM := Lib.hid hM
  clear hM
  have HC := Lib.hid hc
  have HR := Lib.hid hr
  clear hc hr
  obtain ⟨n, hn⟩ : ∃ n, n = xs.length := ⟨_, rfl⟩
  rw [← hn] at hl ⊢
  have HN := Lib.hid hn
  clear hn
  have hMn : M ≤ n ∧ (M : Int) ≤ 4000 ∧ (M = n ∨ (M : Int) = 4000) := by have := HM.out; rw [← HN.out] at this; omega
  have HMn := Lib.hid hMn
  clear hMn
  go_enter Tryd.func50, Tryd.ntmps50
  go_wp2
  go_loop [3, 4] (fun hv iv => ∃ k : Nat, k ≤ n ∧ (k : Int) ≤ 4000 ∧ iv = .int .i64 k ∧ hv = .int .i64 (hS xs k)) (fun _ iv => (4000 - intOf iv).toNat)
  case atStart => exact ⟨0, by omega, by omega, rfl, by rw [hS, HN.out]⟩
  case round =>
    obtain ⟨k, hk, hk4, rfl, rfl⟩ := hrel
    have h0 := hS_range xs (by rw [← HN.out]; exact hl) k
    by_cases hin : k < n ∧ (k : Int) < 4000
    · obtain ⟨h1, h2⟩ := hin
      have g1 : decide (k < n) = true := by simpa using h1
      have hx := HC.out k (by rw [← HN.out]; exact h1)
      have r := getD_range xs HR.out k
      have hs : hS xs (k + 1) = (hS xs k * 131 + xs.getD k 0 + 7) % 1073741824 := rfl
      have HS := Lib.hid hs
      clear hs
      generalize xs.getD k 0 = x at *
      have e := and30 (hS xs k * 131 + x + 7) (by omega) (by omega)
      go_wp2
      go_round
      case rel => exact ⟨k + 1, by omega, by omega, by go_num, by rw [HS.out]⟩
      case measure => simp only [intOf]; omega
    · have hmin : M = k := by have := HMn.out; omega
      by_cases h1 : k < n
      · have g1 : decide (k < n) = true := by simpa using h1
        have HK := Lib.hid hmin
        clear hmin
        go_wp2
        go_ret
        exact ⟨rfl, by rw [HK.out]⟩
      · have g1 : decide (k < n) = false := by simpa using h1
        have HK := Lib.hid hmin
        clear hmin
        go_wp2
        go_ret
        exact ⟨rfl, by rw [HK.out]⟩

set_option maxHeartbeats 400000 in
theorem new_empty (w : World) (a : Option Addr) (cap : Nat) :
    Calls Tryd.prog 50 #[.slice a 0 cap] w fun e w' => e = .returned (.pointer (some ⟨w.heap.size, 0, none⟩)) ∧
      w' = w.alloc (.cells #[.slice a 0 cap, .int .i64 0, .int .i64 10101] 112) := by
  go_enter Tryd.func50, Tryd.ntmps50
  go_wp2
  refine wp_loop_rounds 1 ?_
  rw [rounds_succ]
  go_wp2
  go_ret
  exact ⟨rfl, rfl⟩

theorem at_new (xs : List Int) (w : World) (v : Value) (h : Code w v xs) : At xs (w.alloc (.cells #[v, .int .i64 ((cur0 xs).1 : Nat), .int .i64 (cur0 xs).2] 112)) w.heap.size v (cur0 xs) := by
  refine ⟨?_, h.apart ((Below.refl _ _).alloc (Nat.le_refl _) _) (Nat.le_refl _), Nat.zero_le _⟩
  unfold Cur
  show (w.heap.push _)[w.heap.size]? = _
  simp
theorem new_at (xs : List Int) (w : World) (v : Value) (h : Code w v xs) :
    Calls Tryd.prog 50 #[v] w fun e w' => e = .returned (.pointer (some ⟨w.heap.size, 0, none⟩)) ∧ At xs w' w.heap.size v (cur0 xs) ∧ w.grownBy w' none := by
  have ha := at_new xs w v h
  obtain ⟨h1, h2, a, cap, rfl, h3⟩ := h
  by_cases h0 : 0 < xs.length
  · obtain ⟨b, off, _, rfl, hc⟩ := h3 h0
    refine (new_some xs w b off cap _ rfl h1 h2 hc).mono fun e w' ⟨he, hw⟩ => ⟨he, ?_, ?_⟩
    · rw [hw]; exact ha
    · rw [hw]; exact World.grownBy_alloc w _ none
  · obtain rfl : xs = [] := List.eq_nil_of_length_eq_zero (by omega)
    refine (new_empty w a cap).mono fun e w' ⟨he, hw⟩ => ⟨he, ?_, ?_⟩
    · rw [hw]; exact ha
    · rw [hw]; exact World.grownBy_alloc w _ none
end Go.Proofs.YtemhhjkmolndbaaDoor
/- The model's cursor: a text that is drawn. -/
namespace Go.Proofs.YtemhhjkmolndbaaDoor
open Go.RowKit Go.PlainAid
set_option linter.unusedVariables false

theorem grown_below {w w1 w2 : World} {g : Nat} (h : w.grownBy w1 (some g)) (hb : Below w.heap.size w1 w2) : w.grownBy w2 (some g) :=
  ⟨hb.os.trans h.os, hb.tape.trans h.tape, hb.output.trans h.output, Nat.le_trans h.size hb.size, fun k hk hne => (hb.block k hk).trans (h.block k hk hne)⟩
theorem below_cur {w w1 : World} {g B : Nat} (h : w.grownBy w1 (some g)) (hB : B ≤ g) (hg : g < w.heap.size) : Below B w w1 :=
  (Below.refl _ _).grown h (by omega) (fun k hk => by have := Option.some.inj hk; omega)
theorem Grows.byte {w w' : World} {base g : Nat} {v : Value} {l : List Int} (h : Grows w base v l) (hg : w.grownBy w' (some g)) (hlt : g < base) : Grows w' base v l := by
  refine World.ownsRow.kept h hg ?_
  match hv : v.ownBlock with
  | none => exact .inl rfl
  | some k =>
    right
    have := (World.ownsRow.lt h k hv).1
    intro e
    have := Option.some.inj e
    omega
theorem At.append {xs : List Int} {w w' : World} {g B : Nat} {v : Value} {s : St} (h : At xs w g v s) (hb : Below B w w') (hg : g < B)
    (hc : ∀ b, b ≠ g → b < B → w'.heap[b]? = w.heap[b]?) (hB : ∀ (a : Option Addr) (n c : Nat), v = .slice a n c → 0 < n → ∀ b off, a = some ⟨b, off, none⟩ → b < B) : At xs w' g v s := by
  refine ⟨?_, ?_, h.le⟩
  · have := h.cur
    unfold Cur at *
    rw [hb.block g hg]
    exact this
  · obtain ⟨h1, h2, a, cap, rfl, h3⟩ := h.code
    refine ⟨h1, h2, a, cap, rfl, fun h0 => ?_⟩
    obtain ⟨b, off, hne, hlt, ha, hcell⟩ := h3 h0
    have hbB := hB a _ _ rfl h0 b off ha
    exact ⟨b, off, hne, Nat.lt_of_lt_of_le hlt hb.size, ha, fun i hi => (hb.cell (p := ⟨b, off + i, none⟩) hbB).trans (hcell i hi)⟩
/-- Where the code's cells lie: below B. -/
def Under (v : Value) (B : Nat) : Prop := ∀ (a : Option Addr) (n c : Nat), v = .slice a n c → 0 < n → ∀ b off, a = some ⟨b, off, none⟩ → b < B
theorem At.under {xs : List Int} {w : World} {g : Nat} {v : Value} {s : St} (h : At xs w g v s) : Under v w.heap.size := by
  intro a n c hv h0 b off ha
  obtain ⟨_, _, a', cap, hv', h3⟩ := h.code
  rw [hv] at hv'
  simp only [Value.slice.injEq] at hv'
  obtain ⟨rfl, hn, rfl⟩ := hv'
  obtain ⟨b', off', _, hlt, ha', _⟩ := h3 (by omega)
  rw [ha] at ha'
  simp only [Option.some.injEq, Addr.mk.injEq] at ha'
  omega
theorem At.keep {xs : List Int} {w w' : World} {g B : Nat} {v : Value} {s : St} (h : At xs w g v s) (hb : Below B w w') (hg : g < B) (hu : Under v B) : At xs w' g v s :=
  h.append hb hg (fun b _ hlt => hb.block b hlt) hu

set_option maxHeartbeats 1000000 in
theorem text_at (xs : List Int) (most : Int) (w : World) (g : Nat) (v : Value) (s : St) (h : At xs w g v s) (h0 : 0 ≤ most) (h1 : most ≤ 1000) :
    Calls Tryd.prog 88 #[.pointer (some ⟨g, 0, none⟩), .int .i64 most] w fun e w' => e = .returned (.string (strOfNums (teL xs most s))) ∧ At xs w' g v (teS xs most s) ∧ w.grownBy w' (some g) := by
  have hu := h.under
  have hg := h.cur.lt
  have hA0 : At xs (w.alloc (.cells #[] 5)) g v s := h.other (World.grownBy_alloc w _ none)
  have hE := grows_empty w
  have hW0 : w.grownBy (w.alloc (.cells #[] 5)) (some g) := World.grownBy_alloc w _ _
  unfold teL teS
  have r4 := beV_range xs 4 s (by omega)
  have rm := beV_range xs (most + 1) (beS xs 4 s) (by omega)
  go_enter Tryd.func88, Tryd.ntmps88
  go_wp2_with fail
  refine (below_at xs _ _ g v s hA0 (by omega)).mono ?_
  rintro e w1 ⟨rfl, hA1, hg1⟩
  go_wp2_with fail
  refine (below_at xs _ _ g v _ hA1 (by omega)).mono ?_
  rintro e w2 ⟨rfl, hA2, hg2⟩
  have hE2 := (hE.byte hg1 hg).byte hg2 hg
  have hW2 := (hW0.trans hg1).trans hg2
  clear hA0 hA1 hE hW0 hg1 hg2 h
  generalize hst : beV xs 4 s = style at *
  generalize hnn : beV xs (most + 1) (beS xs 4 s) = n at *
  generalize hs2 : beS xs (most + 1) (beS xs 4 s) = s2 at *
  have HST := Lib.hid hst
  have HNN := Lib.hid hnn
  have HS2 := Lib.hid hs2
  clear hst hnn hs2
  go_wp2
  go_loopw [5, 7] (fun o nv wr => ∃ k : Nat, (k : Int) ≤ n ∧ nv = .int .i64 (n - k) ∧ Grows wr w.heap.size o (tL xs style s2 k) ∧ At xs wr g v (itS xs s2 k) ∧ w.grownBy wr (some g)) (fun _ nv _ => (intOf nv).toNat)
  case atStart => exact ⟨0, by omega, by go_num, hE2, hA2, hW2⟩
  case round =>
    obtain ⟨k, hk, rfl, hgr, hA, hW⟩ := hrel
    have hl : (tL xs style s2 k).length ≤ 1000 := by rw [tL_length]; omega
    have rb := bV_range xs (itS xs s2 k)
    have ht : tL xs style s2 (k + 1) = tL xs style s2 k ++ [tB style (bV xs (itS xs s2 k))] := rfl
    have hi : itS xs s2 (k + 1) = sN xs (itS xs s2 k) := rfl
    by_cases hlt : (k : Int) < n
    · have HT := Lib.hid ht
      have HI := Lib.hid hi
      clear ht hi
      have hws : w.heap.size ≤ wr.heap.size := hW.size
      by_cases e1 : style = 1
      · have hb : tB style (bV xs (itS xs s2 k)) = bV xs (itS xs s2 k) % 2 := by unfold tB; rw [if_pos e1]
        have z1 : (style == 1) = true := by simpa using e1
        have z2 : (style == 2) = false := by rw [e1]; rfl
        have HB := Lib.hid hb
        clear hb e1
        go_wp2_with (first | (go_at_call 90; refine (byte_at xs _ g v _ hA).mono ?_; rintro e w3 ⟨rfl, hA3, hg3⟩; have hgr3 := hgr.byte hg3 hg; have hs3 := hg3.size) | (at_builtin; refine wp_append_bytes rfl (.tmp 31) (.tmp 34) rfl w.heap.size _ (tL xs style s2 k) [_] rfl (hgr3.alloc _) w3.heap.size 1 1 rfl rfl (src_one w3 _) (by omega) (by simp; omega) ?_; intro v' w' hgr' hb'))
        have hb3 : Below w.heap.size w3 w' := ((Below.refl _ _).alloc (by omega) _).trans hb'
        go_roundw
        case rel =>
          refine ⟨k + 1, by omega, by go_num, ?_, ?_, grown_below (hW.trans hg3) hb3⟩
          · rw [HT.out, HB.out]; exact hgr'
          · rw [HI.out]; exact hA3.keep hb3 hg hu
        case measure => simp only [intOf]; omega
      · have z1 : (style == 1) = false := by simpa using e1
        by_cases e2 : style = 2
        · have hb : tB style (bV xs (itS xs s2 k)) = 97 + bV xs (itS xs s2 k) % 4 := by unfold tB; rw [if_neg e1, if_pos e2]
          have z2 : (style == 2) = true := by simpa using e2
          have HB := Lib.hid hb
          clear hb e1 e2
          go_wp2_with (first | (go_at_call 90; refine (byte_at xs _ g v _ hA).mono ?_; rintro e w3 ⟨rfl, hA3, hg3⟩; have hgr3 := hgr.byte hg3 hg; have hs3 := hg3.size) | (at_builtin; refine wp_append_bytes rfl (.tmp 31) (.tmp 34) rfl w.heap.size _ (tL xs style s2 k) [_] rfl (hgr3.alloc _) w3.heap.size 1 1 rfl rfl (src_one w3 _) (by omega) (by simp; omega) ?_; intro v' w' hgr' hb'))
          have hb3 : Below w.heap.size w3 w' := ((Below.refl _ _).alloc (by omega) _).trans hb'
          go_roundw
          case rel =>
            refine ⟨k + 1, by omega, by go_num, ?_, ?_, grown_below (hW.trans hg3) hb3⟩
            · rw [HT.out, HB.out]; exact hgr'
            · rw [HI.out]; exact hA3.keep hb3 hg hu
          case measure => simp only [intOf]; omega
        · have hb : tB style (bV xs (itS xs s2 k)) = bV xs (itS xs s2 k) := by unfold tB; rw [if_neg e1, if_neg e2]
          have z2 : (style == 2) = false := by simpa using e2
          have HB := Lib.hid hb
          clear hb e1 e2
          go_wp2_with (first | (go_at_call 90; refine (byte_at xs _ g v _ hA).mono ?_; rintro e w3 ⟨rfl, hA3, hg3⟩; have hgr3 := hgr.byte hg3 hg; have hs3 := hg3.size) | (at_builtin; refine wp_append_bytes rfl (.tmp 31) (.tmp 34) rfl w.heap.size _ (tL xs style s2 k) [_] rfl (hgr3.alloc _) w3.heap.size 1 1 rfl rfl (src_one w3 _) (by omega) (by simp; omega) ?_; intro v' w' hgr' hb'))
          have hb3 : Below w.heap.size w3 w' := ((Below.refl _ _).alloc (by omega) _).trans hb'
          go_roundw
          case rel =>
            refine ⟨k + 1, by omega, by go_num, ?_, ?_, grown_below (hW.trans hg3) hb3⟩
            · rw [HT.out, HB.out]; exact hgr'
            · rw [HI.out]; exact hA3.keep hb3 hg hu
          case measure => simp only [intOf]; omega
    · have hk2 : n.toNat = k := by omega
      have HK := Lib.hid hk2
      clear hk2 ht hi
      have hconv := conv_grows wr w.heap.size _ _ hgr
      go_wp2
      go_ret
      exact ⟨by rw [HST.out, HS2.out, HNN.out, HK.out]; rfl, by rw [HS2.out, HNN.out, HK.out]; exact hA, hW⟩
end Go.Proofs.YtemhhjkmolndbaaDoor
/- The model's cursor: a string that is spoilt. -/
namespace Go.Proofs.YtemhhjkmolndbaaDoor
open Go.RowKit Go.PlainAid
set_option linter.unusedVariables false

theorem At.drew {xs : List Int} {w : World} {g : Nat} {v : Value} {s : St} (h : At xs w g v s) : At xs w.drew g v s := ⟨h.cur, h.code, h.le⟩
theorem grown_drew (w : World) (row : Option Nat) : w.grownBy w.drew row := ⟨rfl, rfl, rfl, Nat.le_refl _, fun _ _ _ => rfl⟩
/-- What a drawing function gives, a string here, and where it leaves the cursor, is settled by the bytes and the cursor's state. -/
def StrDet (f : Nat) (pre : Array Value) (xs : List Int) (s : St) (r : ByteArray) (s' : St) : Prop :=
  ∀ w g v, At xs w g v s → Calls Tryd.prog f (#[.pointer (some ⟨g, 0, none⟩)] ++ pre) w fun e w' => e = .returned (.string r) ∧ At xs w' g v s' ∧ w.grownBy w' (some g)

theorem nil_str (t : ByteArray) (h : t.size = 0) : t = ByteArray.empty := by
  apply ByteArray.ext
  apply Array.toList_inj.1
  have : t.data.toList = [] := List.eq_nil_of_length_eq_zero (by simpa using h)
  rw [this]; rfl

set_option maxHeartbeats 1000000 in
theorem spoil_empty (xs : List Int) (s : St) : StrDet 89 #[.string ByteArray.empty] xs s (strOfNums (teL xs 3 s)) (teS xs 3 s) := by
  intro w g v h
  go_enter Tryd.func89, Tryd.ntmps89
  go_wp2_with (go_at_call 88; refine (text_at xs 3 _ g v s h (by omega) (by omega)).mono ?_; rintro e w1 ⟨rfl, hA, hg⟩)
  go_ret
  exact ⟨rfl, hA, hg⟩

theorem ext_le (t : ByteArray) (a b : Nat) : (t.extract a b).size ≤ t.size := by simp only [ByteArray.size_extract]; omega

set_option maxHeartbeats 1000000 in
theorem spoil0 (xs : List Int) (t : ByteArray) (s : St) (k : Nat) (h0 : 0 < t.size) (h1 : t.size ≤ 1000) (hk : beV xs t.size s = k) (hc : beV xs 4 (beS xs t.size s) = 0) :
    StrDet 89 #[.string t] xs s (t.extract 0 k ++ t.extract (k + 1) t.size) (beS xs 4 (beS xs t.size s)) := by
  intro w g v h
  have r := beV_range xs t.size s (by omega)
  rw [hk] at r
  have z0 : ((t.size : Int) == 0) = false := beq_eq_false_iff_ne.2 (by omega)
  have HK := Lib.hid hk
  have HC := Lib.hid hc
  clear hk hc
  have kt : k ≤ t.size := by omega
  have kt1 : k + 1 ≤ t.size := by omega
  have x1 := ext_le t 0 k
  have x2 := ext_le t (k + 1) t.size
  have hsz : (t.extract 0 k).size + (t.extract (k + 1) t.size).size ≤ 9223372036854775807 := by omega
  have e1 : IntKind.i64.wrap ((k : Int) + 1) = (k : Int) + 1 := IntWalk.i64_in _ (by omega)
  have e2 : ((k : Int) + 1).toNat = k + 1 := by omega
  go_enter Tryd.func89, Tryd.ntmps89
  go_wp2_with fail
  refine (below_at xs _ _ g v s h (by omega)).mono ?_
  rw [HK.out]
  rintro e w1 ⟨rfl, hA1, hg1⟩
  go_wp2_with fail
  refine (below_at xs _ _ g v _ hA1 (by omega)).mono ?_
  rw [HC.out]
  rintro e w2 ⟨rfl, hA2, hg2⟩
  go_wp2
  go_quiet (fail)
  go_wp2
  go_ret
  exact ⟨rfl, ⟨hA2.cur, hA2.code, hA2.le⟩, (hg1.trans hg2).trans ⟨rfl, rfl, rfl, Nat.le_refl _, fun _ _ _ => rfl⟩⟩

set_option maxHeartbeats 1000000 in
theorem spoil2 (xs : List Int) (t : ByteArray) (s : St) (k : Nat) (h0 : 0 < t.size) (h1 : t.size ≤ 1000) (hk : beV xs t.size s = k) (hc : beV xs 4 (beS xs t.size s) = 2) :
    StrDet 89 #[.string t] xs s (t.extract 0 k) (beS xs 4 (beS xs t.size s)) := by
  intro w g v h
  have r := beV_range xs t.size s (by omega)
  rw [hk] at r
  have z0 : ((t.size : Int) == 0) = false := beq_eq_false_iff_ne.2 (by omega)
  have HK := Lib.hid hk
  have HC := Lib.hid hc
  clear hk hc
  have kt : k ≤ t.size := by omega
  have kt1 : k + 1 ≤ t.size := by omega
  go_enter Tryd.func89, Tryd.ntmps89
  go_wp2_with fail
  refine (below_at xs _ _ g v s h (by omega)).mono ?_
  rw [HK.out]
  rintro e w1 ⟨rfl, hA1, hg1⟩
  go_wp2_with fail
  refine (below_at xs _ _ g v _ hA1 (by omega)).mono ?_
  rw [HC.out]
  rintro e w2 ⟨rfl, hA2, hg2⟩
  go_wp2
  go_ret
  exact ⟨rfl, hA2, hg1.trans hg2⟩

set_option maxHeartbeats 1000000 in
theorem spoil1 (xs : List Int) (t : ByteArray) (s : St) (k : Nat) (h0 : 0 < t.size) (h1 : t.size ≤ 1000) (hk : beV xs t.size s = k) (hc : beV xs 4 (beS xs t.size s) = 1) :
    StrDet 89 #[.string t] xs s (t.extract 0 k ++ strOfNums [bV xs (beS xs 4 (beS xs t.size s))] ++ t.extract k t.size) (sN xs (beS xs 4 (beS xs t.size s))) := by
  intro w g v h
  have r := beV_range xs t.size s (by omega)
  rw [hk] at r
  have z0 : ((t.size : Int) == 0) = false := beq_eq_false_iff_ne.2 (by omega)
  have HK := Lib.hid hk
  have HC := Lib.hid hc
  clear hk hc
  have kt : k ≤ t.size := by omega
  have kt1 : k + 1 ≤ t.size := by omega
  have x1 := ext_le t 0 k
  have x2 := ext_le t k t.size
  have rb := bV_range xs (beS xs 4 (beS xs t.size s))
  have hconv := conv_one
  have q1 : (t.extract 0 k).size + (strOfNums [bV xs (beS xs 4 (beS xs t.size s))]).size ≤ 9223372036854775807 := by rw [strOfNums_size]; simp only [List.length_singleton]; omega
  have q2 : (t.extract 0 k ++ strOfNums [bV xs (beS xs 4 (beS xs t.size s))]).size + (t.extract k t.size).size ≤ 9223372036854775807 := by rw [ByteArray.size_append, strOfNums_size]; simp only [List.length_singleton]; omega
  clear x1 x2
  have s1 := fun W => run_string_add_sum (P := Tryd.prog) W _ _ q1
  have s2 := fun W => run_string_add_sum (P := Tryd.prog) W _ _ q2
  have e8 : IntKind.u8.wrap (bV xs (beS xs 4 (beS xs t.size s))) = bV xs (beS xs 4 (beS xs t.size s)) := IntWalk.u8_in _ rb
  go_enter Tryd.func89, Tryd.ntmps89
  go_wp2_with fail
  refine (below_at xs _ _ g v s h (by omega)).mono ?_
  rw [HK.out]
  rintro e w1 ⟨rfl, hA1, hg1⟩
  go_wp2_with fail
  refine (below_at xs _ _ g v _ hA1 (by omega)).mono ?_
  rw [HC.out]
  rintro e w2 ⟨rfl, hA2, hg2⟩
  go_wp2
  go_region_with ((go_at_call 90; refine (byte_at xs _ g v _ hA2.drew).mono ?_; rintro e w3 ⟨rfl, hA3, hg3⟩))
  all_goals go_wp2
  all_goals go_ret
  all_goals exact ⟨rfl, hA3.other (World.grownBy_alloc w3 _ none), (((hg1.trans hg2).trans (grown_drew w2 _)).trans hg3).trans (World.grownBy_alloc w3 _ _)⟩

set_option maxHeartbeats 1000000 in
theorem spoil3 (xs : List Int) (t : ByteArray) (s : St) (k : Nat) (h0 : 0 < t.size) (h1 : t.size ≤ 1000) (hk : beV xs t.size s = k) (hc : beV xs 4 (beS xs t.size s) = 3) :
    StrDet 89 #[.string t] xs s (t.extract 0 k ++ strOfNums [bits .xor .i64 (bt t k) (1 + beV xs 255 (beS xs 4 (beS xs t.size s))) % 256] ++ t.extract (k + 1) t.size) (beS xs 255 (beS xs 4 (beS xs t.size s))) := by
  intro w g v h
  have r := beV_range xs t.size s (by omega)
  rw [hk] at r
  have z0 : ((t.size : Int) == 0) = false := beq_eq_false_iff_ne.2 (by omega)
  have HK := Lib.hid hk
  have HC := Lib.hid hc
  clear hk hc
  have kt : k ≤ t.size := by omega
  have kt1 : k + 1 ≤ t.size := by omega
  have x1 := ext_le t 0 k
  have x2 := ext_le t (k + 1) t.size
  have rb := beV_range xs 255 (beS xs 4 (beS xs t.size s)) (by omega)
  have hconv := conv_one
  have q1 : ∀ y : Int, (t.extract 0 k).size + (strOfNums [y]).size ≤ 9223372036854775807 := fun y => by rw [strOfNums_size]; simp only [List.length_singleton]; omega
  have q2 : ∀ y : Int, (t.extract 0 k ++ strOfNums [y]).size + (t.extract (k + 1) t.size).size ≤ 9223372036854775807 := fun y => by rw [ByteArray.size_append, strOfNums_size]; simp only [List.length_singleton]; omega
  have p1 := q1 (bits .xor .i64 (bt t k) (1 + beV xs 255 (beS xs 4 (beS xs t.size s))) % 256)
  have p2 := q2 (bits .xor .i64 (bt t k) (1 + beV xs 255 (beS xs 4 (beS xs t.size s))) % 256)
  clear x1 x2 q1 q2
  have hks : k < t.size := by omega
  have hgb := get_bt t k hks
  have b0 := bt_nonneg t k
  have b1 := bt_le t k
  have e1 : IntKind.i64.wrap (bt t k) = bt t k := IntWalk.i64_in _ (by omega)
  have e2 : IntKind.i64.wrap (1 + beV xs 255 (beS xs 4 (beS xs t.size s))) = 1 + beV xs 255 (beS xs 4 (beS xs t.size s)) := IntWalk.i64_in _ (by omega)
  have e3 : IntKind.i64.wrap ((k : Int) + 1) = (k : Int) + 1 := IntWalk.i64_in _ (by omega)
  have e4 : ((k : Int) + 1).toNat = k + 1 := by omega
  have s1 := fun W => run_string_add_sum (P := Tryd.prog) W _ _ p1
  have s2 := fun W => run_string_add_sum (P := Tryd.prog) W _ _ p2
  have e8 : IntKind.u8.wrap (bits .xor .i64 (bt t k) (1 + beV xs 255 (beS xs 4 (beS xs t.size s)))) = bits .xor .i64 (bt t k) (1 + beV xs 255 (beS xs 4 (beS xs t.size s))) % 256 := IntKind.wrap_u8' _
  go_enter Tryd.func89, Tryd.ntmps89
  go_wp2_with fail
  refine (below_at xs _ _ g v s h (by omega)).mono ?_
  rw [HK.out]
  rintro e w1 ⟨rfl, hA1, hg1⟩
  go_wp2_with fail
  refine (below_at xs _ _ g v _ hA1 (by omega)).mono ?_
  rw [HC.out]
  rintro e w2 ⟨rfl, hA2, hg2⟩
  go_wp2
  go_region_with ((go_at_call 52; refine (below_at xs _ _ g v _ hA2.drew (by omega)).mono ?_; rintro e w3 ⟨rfl, hA3, hg3⟩))
  all_goals go_wp2
  all_goals go_ret
  all_goals exact ⟨rfl, hA3.other (World.grownBy_alloc w3 _ none), (((hg1.trans hg2).trans (grown_drew w2 _)).trans hg3).trans (World.grownBy_alloc w3 _ _)⟩
end Go.Proofs.YtemhhjkmolndbaaDoor
/- What the model draws off the bytes of a law's argument: settled by the bytes. -/
namespace Go.Proofs.YtemhhjkmolndbaaDoor
open Go.RowKit Go.PlainAid
set_option linter.unusedVariables false

theorem spoil_det (xs : List Int) (t : ByteArray) (s : St) (h1 : t.size ≤ 1000) : ∃ (r : ByteArray) (s' : St), r.size ≤ 2 * t.size + 3 ∧ StrDet 89 #[.string t] xs s r s' := by
  by_cases h0 : t.size = 0
  · obtain rfl := nil_str t h0
    refine ⟨_, _, ?_, spoil_empty xs s⟩
    rw [strOfNums_size]
    have := teL_length xs 3 s (by omega)
    omega
  · have r := beV_range xs t.size s (by omega)
    obtain ⟨k, hk⟩ := Int.eq_ofNat_of_zero_le r.1
    have r4 := beV_range xs 4 (beS xs t.size s) (by omega)
    have x1 := ext_le t 0 k
    have x2 := ext_le t (k + 1) t.size
    have x3 := ext_le t k t.size
    have hc : beV xs 4 (beS xs t.size s) = 0 ∨ beV xs 4 (beS xs t.size s) = 1 ∨ beV xs 4 (beS xs t.size s) = 2 ∨ beV xs 4 (beS xs t.size s) = 3 := by omega
    rcases hc with hc | hc | hc | hc
    · exact ⟨_, _, by rw [ByteArray.size_append]; omega, spoil0 xs t s k (by omega) h1 hk hc⟩
    · exact ⟨_, _, by rw [ByteArray.size_append, ByteArray.size_append, strOfNums_size]; simp only [List.length_singleton]; omega, spoil1 xs t s k (by omega) h1 hk hc⟩
    · exact ⟨_, _, by omega, spoil2 xs t s k (by omega) h1 hk hc⟩
    · exact ⟨_, _, by rw [ByteArray.size_append, ByteArray.size_append, strOfNums_size]; simp only [List.length_singleton]; omega, spoil3 xs t s k (by omega) h1 hk hc⟩
end Go.Proofs.YtemhhjkmolndbaaDoor
/- The cursor's draws, without what they are settled by. -/
namespace Go.Proofs.YtemhhjkmolndbaaDoor
open Go.RowKit Go.PlainAid
set_option linter.unusedVariables false

/-- A cursor in block g; what it reads lies below B. -/
def Dr (B : Nat) (w : World) (g : Nat) : Prop := g < B ∧ ∃ xs v s, At xs w g v s ∧ Under v B
theorem Dr.keep {B g : Nat} {w w' : World} (h : Dr B w g) (hb : Below B w w') : Dr B w' g := by
  obtain ⟨hg, xs, v, s, ha, hu⟩ := h
  exact ⟨hg, xs, v, s, ha.keep hb hg hu, hu⟩
theorem dr_below (B g : Nat) (n : Int) (w : World) (h : Dr B w g) (h0 : 0 < n) (h1 : n ≤ 1000) :
    Calls Tryd.prog 52 #[.pointer (some ⟨g, 0, none⟩), .int .i64 n] w fun e w' => (∃ x : Int, e = .returned (.int .i64 x) ∧ 0 ≤ x ∧ x < n) ∧ Dr B w' g ∧ w.grownBy w' (some g) := by
  obtain ⟨hg, xs, v, s, ha, hu⟩ := h
  have r := beV_range xs n s (by omega)
  exact (below_at xs n w g v s ha (by omega)).mono fun e w' ⟨he, hA, hgr⟩ => ⟨⟨_, he, r.1, r.2⟩, ⟨hg, xs, v, _, hA, hu⟩, hgr⟩
theorem dr_textN (B g : Nat) (m : Int) (w : World) (h : Dr B w g) (h0 : 0 ≤ m) (h1 : m ≤ 1000) :
    Calls Tryd.prog 88 #[.pointer (some ⟨g, 0, none⟩), .int .i64 m] w fun e w' => (∃ t : ByteArray, e = .returned (.string t) ∧ (t.size : Int) ≤ m) ∧ Dr B w' g ∧ w.grownBy w' (some g) := by
  obtain ⟨hg, xs, v, s, ha, hu⟩ := h
  have hl := teL_length xs m s (by omega)
  exact (text_at xs m w g v s ha (by omega) (by omega)).mono fun e w' ⟨he, hA, hgr⟩ => ⟨⟨_, he, by rw [strOfNums_size]; omega⟩, ⟨hg, xs, v, _, hA, hu⟩, hgr⟩
theorem dr_spoil (B g : Nat) (t : ByteArray) (w : World) (h : Dr B w g) (h1 : t.size ≤ 1000) :
    Calls Tryd.prog 89 #[.pointer (some ⟨g, 0, none⟩), .string t] w fun e w' => (∃ r : ByteArray, e = .returned (.string r) ∧ r.size ≤ 2003) ∧ Dr B w' g ∧ w.grownBy w' (some g) := by
  obtain ⟨hg, xs, v, s, ha, hu⟩ := h
  obtain ⟨r, s', hr, hd⟩ := spoil_det xs t s h1
  exact (hd w g v ha).mono fun e w' ⟨he, hA, hgr⟩ => ⟨⟨r, he, by omega⟩, ⟨hg, xs, v, _, hA, hu⟩, hgr⟩
theorem dr_new {xs : List Int} {w : World} {g : Nat} {v : Value} {s : St} (h : At xs w g v s) : Dr w.heap.size w g := ⟨h.cur.lt, xs, v, s, h, h.under⟩
end Go.Proofs.YtemhhjkmolndbaaDoor
