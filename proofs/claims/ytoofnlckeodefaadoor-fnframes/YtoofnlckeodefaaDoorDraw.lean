/- The model's cursor over the bytes of a draw: what each draw gives and what it leaves, as functions of the bytes alone. -/
import Derived.Test.YtoofnlckeodefaaDoorBytes
import Derived.Test.YtoofnlckeodefaaDoorDrawM
import Derived.Deep.QuietTactic
import Derived.BigQuiet
import Derived.Maps.AppendAt
namespace Go.Proofs.YtoofnlckeodefaaDoor
open Go.RowKit Go.PlainAid
set_option linter.unusedVariables false

/-- The value v is a slice that holds the bytes xs. -/
def Code (w : World) (v : Value) (xs : List Int) : Prop := (∀ x ∈ xs, 0 ≤ x ∧ x ≤ 255) ∧ xs.length ≤ 1048576 ∧ ∃ a cap, v = .slice a xs.length cap ∧
  (0 < xs.length → ∃ b off, b < w.heap.size ∧ a = some ⟨b, off, none⟩ ∧ ∀ i, i < xs.length → w.cell? ⟨b, off + i, none⟩ = some (.int .u8 (xs.getD i 0)))
/-- Block g is a cursor at s over the slice v. -/
def Cur (w : World) (g : Nat) (v : Value) (s : St) : Prop := w.heap[g]? = some (.cells #[v, .int .i64 s.1, .int .i64 s.2] 47 (0, 0))
/-- The slice v of the bytes xs, apart from block g. -/
def CodeX (w : World) (g : Nat) (v : Value) (xs : List Int) : Prop := (∀ x ∈ xs, 0 ≤ x ∧ x ≤ 255) ∧ xs.length ≤ 1048576 ∧ ∃ a cap, v = .slice a xs.length cap ∧
  (0 < xs.length → ∃ b off, b ≠ g ∧ b < w.heap.size ∧ a = some ⟨b, off, none⟩ ∧ ∀ i, i < xs.length → w.cell? ⟨b, off + i, none⟩ = some (.int .u8 (xs.getD i 0)))

theorem Cur.lt {w : World} {g : Nat} {v : Value} {s : St} (h : Cur w g v s) : g < w.heap.size := by
  unfold Cur at h
  rcases Nat.lt_or_ge g w.heap.size with h' | h'
  · exact h'
  · rw [Array.getElem?_eq_none h'] at h; cases h
theorem Code.below {w w' : World} {v : Value} {xs : List Int} (h : Code w v xs) (hb : Below w.heap.size w w') : Code w' v xs := by
  obtain ⟨h1, h2, a, cap, rfl, h3⟩ := h
  refine ⟨h1, h2, a, cap, rfl, fun h0 => ?_⟩
  obtain ⟨b, off, hlt, ha, hc⟩ := h3 h0
  exact ⟨b, off, Nat.lt_of_lt_of_le hlt hb.size, ha, fun i hi => (hb.cell (p := ⟨b, off + i, none⟩) hlt).trans (hc i hi)⟩
theorem Code.apart {w w' : World} {v : Value} {xs : List Int} {g : Nat} (h : Code w v xs) (hb : Below w.heap.size w w') (hg : w.heap.size ≤ g) : CodeX w' g v xs := by
  obtain ⟨h1, h2, a, cap, rfl, h3⟩ := h
  refine ⟨h1, h2, a, cap, rfl, fun h0 => ?_⟩
  obtain ⟨b, off, hlt, ha, hc⟩ := h3 h0
  exact ⟨b, off, by omega, Nat.lt_of_lt_of_le hlt hb.size, ha, fun i hi => (hb.cell (p := ⟨b, off + i, none⟩) hlt).trans (hc i hi)⟩
theorem CodeX.grown {w w' : World} {g : Nat} {v : Value} {xs : List Int} (h : CodeX w g v xs) (hb : w.grownBy w' (some g)) : CodeX w' g v xs := by
  obtain ⟨h1, h2, a, cap, rfl, h3⟩ := h
  refine ⟨h1, h2, a, cap, rfl, fun h0 => ?_⟩
  obtain ⟨b, off, hne, hlt, ha, hc⟩ := h3 h0
  exact ⟨b, off, hne, Nat.lt_of_lt_of_le hlt hb.size, ha, fun i hi => hb.cell (hc i hi) (by simpa using hne)⟩
theorem Cur.other {w w' : World} {g k : Nat} {v : Value} {s : St} (h : Cur w g v s) (hb : w.grownBy w' (some k)) (hne : g ≠ k) : Cur w' g v s := by
  have := h.lt
  unfold Cur at *
  rw [hb.block g this (by simpa using hne)]
  exact h
theorem grown_set (w : World) (g o : Nat) (x : Value) : w.grownBy (w.setCell ⟨g, o, none⟩ x) (some g) :=
  ⟨rfl, rfl, rfl, by simp, fun k _ hne => heap_setCell_other w ⟨g, o, none⟩ k x (fun e => hne (by simp [e]))⟩
theorem grown_drewN (w : World) (n : Nat) (row : Option Nat) : w.grownBy (w.drewN n) row := ⟨rfl, rfl, rfl, Nat.le_refl _, fun _ _ _ => rfl⟩
theorem Cur.setH {w : World} {g i : Nat} {h h' : Int} {v : Value} (hc : Cur w g v (i, h)) : Cur (w.setCell ⟨g, 2, none⟩ (.int .i64 h')) g v (i, h') := by
  unfold Cur at *
  rw [heap_setCell_same w g 2 _ _ _ hc]
  rfl
theorem Cur.setI {w : World} {g i i' : Nat} {h : Int} {v : Value} (hc : Cur w g v (i, h)) : Cur (w.setCell ⟨g, 1, none⟩ (.int .i64 i')) g v (i', h) := by
  unfold Cur at *
  rw [heap_setCell_same w g 1 _ _ _ hc]
  rfl
theorem Cur.drewN {w : World} {g : Nat} {v : Value} {s : St} (h : Cur w g v s) (n : Nat) : Cur (w.drewN n) g v s := h
theorem Cur.c0 {w : World} {g : Nat} {v : Value} {s : St} (h : Cur w g v s) : w.cell? ⟨g, 0, none⟩ = some v := by rw [Joins.cell_of_block h]; rfl
theorem Cur.c1 {w : World} {g : Nat} {v : Value} {s : St} (h : Cur w g v s) : w.cell? ⟨g, 1, none⟩ = some (.int .i64 s.1) := by rw [Joins.cell_of_block h]; rfl
theorem Cur.c2 {w : World} {g : Nat} {v : Value} {s : St} (h : Cur w g v s) : w.cell? ⟨g, 2, none⟩ = some (.int .i64 s.2) := by rw [Joins.cell_of_block h]; rfl
theorem Cur.free {w : World} {g : Nat} {v : Value} {s : St} (h : Cur w g v s) (i : Nat) : w.frozen? ⟨g, i, none⟩ = false := Joins.unfrozen_of_block h i

set_option maxHeartbeats 400000 in
theorem byte_more (w : World) (g i b off len cap : Nat) (h x : Int) (hc : Cur w g (.slice (some ⟨b, off, none⟩) len cap) (i, h)) (hlt : i < len) (hl : len ≤ 1048576) (hne : b ≠ g) (hx : w.cell? ⟨b, off + i, none⟩ = some (.int .u8 x)) (x0 : 0 ≤ x) (x1 : x ≤ 255) :
    Calls Tryd.prog 30 #[.pointer (some ⟨g, 0, none⟩)] w fun e w' => e = .returned (.int .i64 (bits .and .i64 (raw (hNext h) + x) 255)) ∧ Cur w' g (.slice (some ⟨b, off, none⟩) len cap) (i + 1, hNext h) ∧ w.grownBy w' (some g) := by
  have a0 := hc.c0
  have a1 := hc.c1
  have a2 := hc.c2
  have f1 := hc.free 1
  have f2 := hc.free 2
  have H := Lib.hid hc
  clear hc
  simp only at a1 a2
  go_enter Tryd.func30, Tryd.ntmps30
  go_wp2
  rw [show wrap64 (wrap64 (h * 6364136223846793005) + 1442695040888963407) = hNext h from rfl]
  have hc1 := H.out.setH (h' := hNext h)
  have hg1 := grown_set w g 2 (.int .i64 (hNext h))
  have hx1 := hg1.cell hx (by simpa using hne)
  have hr := hNext_range h
  generalize hw1 : w.setCell ⟨g, 2, none⟩ (.int .i64 (hNext h)) = w1 at *
  generalize hh : hNext h = h1 at *
  have HH := Lib.hid hh
  clear hw1 hx a0 a1 a2 f1 f2 H hh
  have a0 := hc1.c0
  have a1 := hc1.c1
  have a2 := hc1.c2
  have f1 := hc1.free 1
  have HC := Lib.hid hc1
  have HG := Lib.hid hg1
  clear hc1 hg1
  simp only at a1 a2
  have er : bits .and .i64 (bits .xor .i64 (h1 / 8589934592) (h1 / 35184372088832)) 255 = raw h1 := rfl
  have rr := raw_range h1
  have e8 : IntKind.i64.wrap x = x := IntWalk.i64_in _ (by omega)
  have e9 : IntKind.i64.wrap (raw h1 + x) = raw h1 + x := IntWalk.i64_in _ (by omega)
  go_quiet (fail)
  go_wp2
  go_quiet (fail)
  go_wp2
  go_quiet (fail)
  go_wp2
  go_ret
  refine ⟨by rw [HH.out]; rfl, ?_, ?_⟩
  · rw [HH.out]
    exact (HC.out.drewN _).setI
  · exact (HG.out.trans (grown_drewN _ _ _)).trans (grown_set _ _ _ _)

set_option maxHeartbeats 400000 in
theorem byte_none (w : World) (g i len cap : Nat) (a : Option Addr) (h : Int) (hc : Cur w g (.slice a len cap) (i, h)) (hge : len ≤ i) (hl : len ≤ 1048576) (hi : i ≤ 1048576) :
    Calls Tryd.prog 30 #[.pointer (some ⟨g, 0, none⟩)] w fun e w' => e = .returned (.int .i64 (raw (hNext h))) ∧ Cur w' g (.slice a len cap) (i, hNext h) ∧ w.grownBy w' (some g) := by
  have a0 := hc.c0
  have a1 := hc.c1
  have a2 := hc.c2
  have f2 := hc.free 2
  have H := Lib.hid hc
  clear hc
  simp only at a1 a2
  go_enter Tryd.func30, Tryd.ntmps30
  go_wp2
  rw [show wrap64 (wrap64 (h * 6364136223846793005) + 1442695040888963407) = hNext h from rfl]
  have hc1 := H.out.setH (h' := hNext h)
  have hg1 := grown_set w g 2 (.int .i64 (hNext h))
  have hr := hNext_range h
  generalize hw1 : w.setCell ⟨g, 2, none⟩ (.int .i64 (hNext h)) = w1 at *
  generalize hh : hNext h = h1 at *
  have HH := Lib.hid hh
  clear hw1 a0 a1 a2 f2 H hh
  have a0 := hc1.c0
  have a1 := hc1.c1
  have a2 := hc1.c2
  have HC := Lib.hid hc1
  have HG := Lib.hid hg1
  clear hc1 hg1
  simp only at a1 a2
  have er : bits .and .i64 (bits .xor .i64 (h1 / 8589934592) (h1 / 35184372088832)) 255 = raw h1 := rfl
  have rr := raw_range h1
  have hd : decide (i < len) = false := by simp; omega
  go_quiet (fail)
  go_wp2
  go_quiet (fail)
  go_wp2
  go_ret
  refine ⟨by rw [HH.out]; rfl, ?_, ?_⟩
  · rw [HH.out]
    exact HC.out
  · exact HG.out.trans ⟨rfl, rfl, rfl, Nat.le_refl _, fun _ _ _ => rfl⟩

/-- The next byte: for every state of the cursor. -/
theorem byte_any (xs : List Int) (w : World) (g : Nat) (v : Value) (s : St) (hc : Cur w g v s) (hx : CodeX w g v xs) (hi : s.1 ≤ xs.length) :
    Calls Tryd.prog 30 #[.pointer (some ⟨g, 0, none⟩)] w fun e w' => e = .returned (.int .i64 (bV xs s)) ∧ Cur w' g v (sN xs s) ∧ w.grownBy w' (some g) := by
  obtain ⟨i, h⟩ := s
  obtain ⟨h1, h2, a, cap, rfl, h3⟩ := hx
  simp only at hi
  unfold bV sN
  by_cases hlt : i < xs.length
  · obtain ⟨b, off, hne, _, rfl, hcell⟩ := h3 (by omega)
    have hm : xs.getD i 0 ∈ xs := by
      rw [List.getD_eq_getElem?_getD, List.getElem?_eq_getElem hlt]
      exact List.getElem_mem hlt
    have r := h1 _ hm
    simp only [if_pos hlt]
    exact byte_more w g i b off xs.length cap h _ hc hlt h2 hne (hcell i hlt) r.1 r.2
  · simp only [if_neg hlt]
    exact byte_none w g i xs.length cap a h hc (by omega) h2 (by omega)
theorem sN_le (xs : List Int) (s : St) (h : s.1 ≤ xs.length) : (sN xs s).1 ≤ xs.length := by
  unfold sN; simp only; split <;> omega
theorem itS_le (xs : List Int) (s : St) (h : s.1 ≤ xs.length) (k : Nat) : (itS xs s k).1 ≤ xs.length := by
  induction k with
  | zero => exact h
  | succ k ih => exact sN_le xs _ ih
theorem beS_le (xs : List Int) (n : Int) (s : St) (h : s.1 ≤ xs.length) : (beS xs n s).1 ≤ xs.length := by
  unfold beS; split
  · exact h
  · split
    · exact itS_le xs s h 1
    · exact itS_le xs s h 4
theorem teS_le (xs : List Int) (m : Int) (s : St) (h : s.1 ≤ xs.length) : (teS xs m s).1 ≤ xs.length := itS_le _ _ (beS_le _ _ _ (beS_le _ _ _ h)) _

/-- A cursor over the bytes xs in block g, at s. -/
structure At (xs : List Int) (w : World) (g : Nat) (v : Value) (s : St) : Prop where
  cur : Cur w g v s
  code : CodeX w g v xs
  le : s.1 ≤ xs.length
theorem At.other {xs : List Int} {w w' : World} {g : Nat} {v : Value} {s : St} (h : At xs w g v s) (hb : w.grownBy w' none) : At xs w' g v s := by
  have hlt := h.cur.lt
  refine ⟨?_, ?_, h.le⟩
  · have := h.cur
    unfold Cur at *
    rw [hb.block g hlt (by simp)]
    exact this
  · obtain ⟨h1, h2, a, cap, rfl, h3⟩ := h.code
    refine ⟨h1, h2, a, cap, rfl, fun h0 => ?_⟩
    obtain ⟨b, off, hne, hlt, ha, hc⟩ := h3 h0
    exact ⟨b, off, hne, Nat.lt_of_lt_of_le hlt hb.size, ha, fun i hi => hb.cell (hc i hi) (by simp)⟩
theorem byte_at (xs : List Int) (w : World) (g : Nat) (v : Value) (s : St) (h : At xs w g v s) :
    Calls Tryd.prog 30 #[.pointer (some ⟨g, 0, none⟩)] w fun e w' => e = .returned (.int .i64 (bV xs s)) ∧ At xs w' g v (sN xs s) ∧ w.grownBy w' (some g) :=
  (byte_any xs w g v s h.cur h.code h.le).mono fun e w' ⟨he, hc, hg⟩ => ⟨he, ⟨hc, h.code.grown hg, sN_le xs s h.le⟩, hg⟩

set_option maxHeartbeats 400000 in
theorem below_at (xs : List Int) (n : Int) (w : World) (g : Nat) (v : Value) (s : St) (h : At xs w g v s) (hn : n ≤ 9223372036854775807) :
    Calls Tryd.prog 18 #[.pointer (some ⟨g, 0, none⟩), .int .i64 n] w fun e w' => e = .returned (.int .i64 (beV xs n s)) ∧ At xs w' g v (beS xs n s) ∧ w.grownBy w' (some g) := by
  unfold beV beS
  by_cases h0 : n ≤ 0
  · simp only [if_pos h0]
    go_enter Tryd.func18, Tryd.ntmps18
    go_wp2
    go_ret
    exact ⟨rfl, h, World.grownBy.refl _ _⟩
  · by_cases h256 : n ≤ 256
    · simp only [if_neg h0, if_pos h256, itS]
      have r := bV_range xs s
      go_enter Tryd.func18, Tryd.ntmps18
      go_wp2_with (go_at_call 30; refine (byte_at xs _ g v s h).mono ?_; rintro e w1 ⟨rfl, hA, hg⟩)
      go_ret
      exact ⟨rfl, hA, hg⟩
    · simp only [if_neg h0, if_neg h256, itS]
      have r0 := bV_range xs s
      have r1 := bV_range xs (sN xs s)
      have r2 := bV_range xs (sN xs (sN xs s))
      have r3 := bV_range xs (sN xs (sN xs (sN xs s)))
      go_enter Tryd.func18, Tryd.ntmps18
      go_wp2_with fail
      refine (byte_at xs _ g v _ h).mono ?_
      rintro e w1 ⟨rfl, hA1, hg1⟩
      go_wp2_with fail
      refine (byte_at xs _ g v _ hA1).mono ?_
      rintro e w2 ⟨rfl, hA2, hg2⟩
      go_wp2_with fail
      refine (byte_at xs _ g v _ hA2).mono ?_
      rintro e w3 ⟨rfl, hA3, hg3⟩
      go_wp2_with fail
      refine (byte_at xs _ g v _ hA3).mono ?_
      rintro e w4 ⟨rfl, hA4, hg4⟩
      go_wp2
      go_ret
      exact ⟨rfl, hA4, ((hg1.trans hg2).trans hg3).trans hg4⟩
end Go.Proofs.YtoofnlckeodefaaDoor
