/- The law's marks on a slice of instances: which memory they write, whatever it holds. -/
import Derived.Test.YtlbebeedkcdgpaaDoorInMk
namespace Go.Proofs.YtlbebeedkcdgpaaDoor
open Go.RowKit Go.PlainAid
set_option linter.unusedVariables false

abbrev m3 : TypeId → Bool := fun t => (t == 9) || ((t == 30) || (t == 48))
/-- A row of n instances at o in block g: its slices are U and D; all that changed since w0 is within [lo, hi). -/
def Mk (w0 : World) (lo hi g o n : Nat) (U D : Nat → Value) (w : World) : Prop :=
  ∃ cur : Array Value, w.heap[g]? = some (.cells cur 48 (0, 0)) ∧ o + n * 16 ≤ cur.size ∧ (∀ j, j < n → cur[o + j * 16 + 12]? = some (U j) ∧ cur[o + j * 16 + 14]? = some (D j)) ∧ (lo ≤ g ∧ g < hi) ∧ Chg m3 lo hi w0 w
theorem Mk.chg0 {w0 w : World} {lo hi g o n : Nat} {U D : Nat → Value} (h : Mk w0 lo hi g o n U D w) : Chg m3 lo hi w0 w := by
  obtain ⟨_, _, _, _, _, h⟩ := h; exact h
theorem Mk.set {w0 w : World} {lo hi g o n : Nat} {U D : Nat → Value} (h : Mk w0 lo hi g o n U D w) (j i : Nat) (hj : j < n) (hi16 : i < 16) (h12 : i ≠ 12) (h14 : i ≠ 14) (y : Value) : Mk w0 lo hi g o n U D (w.setCell ⟨g, o + j * 16 + i, none⟩ y) := by
  obtain ⟨cur, r1, r2, r3, r4, r5⟩ := h
  refine ⟨_, heap_setCell_same w g (o + j * 16 + i) cur _ y r1, by simpa using r2, fun k hk => ?_, r4, r5.trans (chg_set r1 r4.1 r4.2 (by simp) y)⟩
  rw [Array.getElem?_setIfInBounds, Array.getElem?_setIfInBounds, if_neg (by omega), if_neg (by omega)]
  exact r3 k hk
theorem Mk.later {w0 w w' : World} {lo hi g o n : Nat} {U D : Nat → Value} (h : Mk w0 lo hi g o n U D w) (hb : Below w.heap.size w w') : Mk w0 lo hi g o n U D w' := by
  obtain ⟨cur, r1, r2, r3, r4, r5⟩ := h
  exact ⟨cur, (hb.block g (Array.getElem?_eq_some_iff.1 r1).1).trans r1, r2, r3, r4, r5.trans (chg_below hb)⟩
theorem Mk.chg {w0 w w' : World} {lo hi g o n : Nat} {U D : Nat → Value} {m : TypeId → Bool} (h : Mk w0 lo hi g o n U D w) (hc : Chg m lo hi w w') (hm : m 48 = false) (hw : ∀ t, m3 t = false → m t = false) : Mk w0 lo hi g o n U D w' := by
  obtain ⟨cur, r1, r2, r3, r4, r5⟩ := h
  obtain ⟨c', e', s', q'⟩ := hc.shape g cur _ r1
  rw [q' hm] at e'
  exact ⟨cur, e', r2, r3, r4, r5.trans (hc.weaken hw)⟩
theorem Mk.cells {w0 w : World} {lo hi g o n : Nat} {U D : Nat → Value} (h : Mk w0 lo hi g o n U D w) (j : Nat) (hj : j < n) :
    ∃ z0 z1 z2 z3 z4 z5 z6 z7 z8 z9 z10 z11 z13 z15 : Value, (w.cell? ⟨g, o + j * 16, none⟩ = some (z0) ∧ w.cell? ⟨g, o + j * 16 + 1, none⟩ = some (z1) ∧ w.cell? ⟨g, o + j * 16 + 2, none⟩ = some (z2) ∧ w.cell? ⟨g, o + j * 16 + 3, none⟩ = some (z3) ∧ w.cell? ⟨g, o + j * 16 + 4, none⟩ = some (z4) ∧ w.cell? ⟨g, o + j * 16 + 5, none⟩ = some (z5) ∧ w.cell? ⟨g, o + j * 16 + 6, none⟩ = some (z6) ∧ w.cell? ⟨g, o + j * 16 + 7, none⟩ = some (z7) ∧ w.cell? ⟨g, o + j * 16 + 8, none⟩ = some (z8) ∧ w.cell? ⟨g, o + j * 16 + 9, none⟩ = some (z9) ∧ w.cell? ⟨g, o + j * 16 + 10, none⟩ = some (z10) ∧ w.cell? ⟨g, o + j * 16 + 11, none⟩ = some (z11) ∧ w.cell? ⟨g, o + j * 16 + 12, none⟩ = some (U j) ∧ w.cell? ⟨g, o + j * 16 + 13, none⟩ = some (z13) ∧ w.cell? ⟨g, o + j * 16 + 14, none⟩ = some (D j) ∧ w.cell? ⟨g, o + j * 16 + 15, none⟩ = some (z15)) ∧ w.frozen? ⟨g, o + j * 16, none⟩ = false ∧ w.frozen? ⟨g, o + j * 16 + 1, none⟩ = false ∧ w.frozen? ⟨g, o + j * 16 + 2, none⟩ = false ∧ w.frozen? ⟨g, o + j * 16 + 3, none⟩ = false ∧ w.frozen? ⟨g, o + j * 16 + 4, none⟩ = false ∧ w.frozen? ⟨g, o + j * 16 + 5, none⟩ = false ∧ w.frozen? ⟨g, o + j * 16 + 6, none⟩ = false ∧ w.frozen? ⟨g, o + j * 16 + 7, none⟩ = false ∧ w.frozen? ⟨g, o + j * 16 + 8, none⟩ = false ∧ w.frozen? ⟨g, o + j * 16 + 9, none⟩ = false ∧ w.frozen? ⟨g, o + j * 16 + 10, none⟩ = false ∧ w.frozen? ⟨g, o + j * 16 + 11, none⟩ = false ∧ w.frozen? ⟨g, o + j * 16 + 12, none⟩ = false ∧ w.frozen? ⟨g, o + j * 16 + 13, none⟩ = false ∧ w.frozen? ⟨g, o + j * 16 + 14, none⟩ = false ∧ w.frozen? ⟨g, o + j * 16 + 15, none⟩ = false := by
  obtain ⟨cur, r1, r2, r3, r4, r5⟩ := h
  have hc : ∀ i, i < 16 → w.cell? ⟨g, o + j * 16 + i, none⟩ = some (cur[o + j * 16 + i]?.getD undef) := fun i hi => by
    rw [cell_of_row w g _ cur _ (0, 0) r1, Array.getElem?_eq_getElem (by omega)]; rfl
  have hf : ∀ i, w.frozen? ⟨g, i, none⟩ = false := fun i => frozen_of_row w g i _ _ r1
  have h12 : w.cell? ⟨g, o + j * 16 + 12, none⟩ = some (U j) := by rw [cell_of_row w g _ cur _ (0, 0) r1]; exact (r3 j hj).1
  have h14 : w.cell? ⟨g, o + j * 16 + 14, none⟩ = some (D j) := by rw [cell_of_row w g _ cur _ (0, 0) r1]; exact (r3 j hj).2
  exact ⟨_, _, _, _, _, _, _, _, _, _, _, _, _, _, ⟨hc 0 (by omega), hc 1 (by omega), hc 2 (by omega), hc 3 (by omega), hc 4 (by omega), hc 5 (by omega), hc 6 (by omega), hc 7 (by omega), hc 8 (by omega), hc 9 (by omega), hc 10 (by omega), hc 11 (by omega), h12, hc 13 (by omega), h14, hc 15 (by omega)⟩, hf _, hf _, hf _, hf _, hf _, hf _, hf _, hf _, hf _, hf _, hf _, hf _, hf _, hf _, hf _, hf _⟩
/-- A slice of n instances that may be written. -/
def WrL (w : World) (lo hi : Nat) (v : Value) (n : Nat) : Prop :=
  ∃ a cap, v = .slice a n cap ∧ (0 < n → ∃ (g o : Nat) (U D : Nat → Value) (NU ND : Nat → Nat), a = some ⟨g, o, none⟩ ∧ Mk w lo hi g o n U D w ∧ ∀ j, j < n → Wr w 9 1 lo hi (U j) (NU j) ∧ NU j ≤ 1048576 ∧ Wr w 30 2 lo hi (D j) (ND j) ∧ ND j ≤ 1048576)
theorem Chg.wr9 {w w' : World} {lo hi : Nat} (h : Chg (fun t => t == 9) lo hi w w') : ∀ t, m3 t = false → (fun t => t == 9) t = false := fun t h => by simp only [m3, Bool.or_eq_false_iff] at h; exact h.1
theorem Chg.wrI {w w' : World} {lo hi : Nat} (h : Chg (fun t => t == 30) lo hi w w') : ∀ t, m3 t = false → (fun t => t == 30) t = false := fun t h => by simp only [m3, Bool.or_eq_false_iff] at h; exact h.2.1
set_option maxRecDepth 100000 in
set_option maxHeartbeats 4000000 in
theorem mark_instsW (v : Value) (n : Nat) (lo hi : Nat) (w : World) (hv : WrL w lo hi v n) (hn : n ≤ 1048576) :
    Calls Tryd.prog 12 #[v, .int .i64 1] w fun e w' => ∃ z : Int, e = .returned (.int .i64 z) ∧ 1 ≤ z ∧ z ≤ 1 + (n : Int) * 4194304 ∧ Chg m3 lo hi w w' := by
  obtain ⟨a, cap, rfl, h3⟩ := hv
  by_cases h0 : 0 < n
  case neg =>
    obtain rfl : n = 0 := by omega
    go_enter Tryd.func12, Tryd.ntmps12
    go_wp2
    go_loop [1, 5] (fun kv i => kv = .int .i64 1 ∧ i = .int .i64 0) (fun _ _ => 0)
    case atStart => exact ⟨rfl, rfl⟩
    case round =>
      obtain ⟨rfl, rfl⟩ := hrel
      go_wp2
      go_ret
      exact ⟨1, rfl, by omega, by omega, Chg.refl _ _ _ _⟩
  obtain ⟨g, o, U, D, NU, ND, rfl, hmk, hwr⟩ := h3 h0
  have HMK := Lib.hid hmk
  have HWR := Lib.hid hwr
  clear h3 hmk hwr
  go_enter Tryd.func12, Tryd.ntmps12
  go_wp2
  go_loopw [1, 5] (fun kv i wr => ∃ (j sn : Nat), j ≤ n ∧ i = .int .i64 j ∧ kv = .int .i64 sn ∧ 1 ≤ sn ∧ sn ≤ 1 + j * 4194304 ∧ Mk w lo hi g o n U D wr) (fun _ i _ => n - (intOf i).toNat)
  case atStart => exact ⟨0, 1, by omega, rfl, rfl, by omega, by omega, HMK.out⟩
  case round =>
    obtain ⟨j, sn, hj, rfl, rfl, hs1, hs2, hm⟩ := hrel
    by_cases hlt : j < n
    · have M0 := Lib.hid hm
      have y1 : (j : Int) < (n : Int) := by omega
      have y0 : (0 : Int) ≤ (j : Int) := by omega
      have hwj := HWR.out j hlt
      obtain ⟨z0, z1, z2, z3, z4, z5, z6, z7, z8, z9, z10, z11, z13, z15, ⟨m0, m1, m2, m3, m4, m5, m6, m7, m8, m9, m10, m11, m12, m13, m14, m15⟩, f0, f1, f2, f3, f4, f5, f6, f7, f8, f9, f10, f11, f12, f13, f14, f15⟩ := hm.cells j hlt
      clear hm
      have T1 := Lib.hid (fun W => (by have := mark_textW (sn + 8) W (by omega) (by omega); rw [show ((sn + 8 : Nat) : Int) = (sn : Int) + 1 + 1 + 1 + 1 + 1 + 1 + 1 + 1 by omega] at this; exact this))
      have T2 := Lib.hid (fun W => (by have := mark_textW (sn + 9) W (by omega) (by omega); rw [show ((sn + 9 : Nat) : Int) = (sn : Int) + 1 + 1 + 1 + 1 + 1 + 1 + 1 + 1 + 1 by omega] at this; exact this))
      have T3 := Lib.hid (fun W => (by have := mark_textW (sn + 10) W (by omega) (by omega); rw [show ((sn + 10 : Nat) : Int) = (sn : Int) + 1 + 1 + 1 + 1 + 1 + 1 + 1 + 1 + 1 + 1 by omega] at this; exact this))
      have b1 : (1 : Int) ≤ (sn : Int) := by omega
      have b2 : (sn : Int) ≤ 4398046511105 := by omega
      go_wp2_with fail
      clear m0 m1 m2 m3 m4 m5 m6 m7 m8 m9 m10 m11 m12 m13 m14 m15 f0 f1 f2 f3 f4 f5 f6 f7 f8 f9 f10 f11 f12 f13 f14 f15
      have MA := Lib.hid ((((((((M0.out.set j 0 hlt (by omega) (by omega) (by omega) (.int .i64 ((sn : Int)))).set j 1 hlt (by omega) (by omega) (by omega) (.int .i64 ((sn : Int) + 1))).set j 2 hlt (by omega) (by omega) (by omega) (.int .i64 ((sn : Int) + 1 + 1))).set j 3 hlt (by omega) (by omega) (by omega) (.int .i64 ((sn : Int) + 1 + 1 + 1))).set j 4 hlt (by omega) (by omega) (by omega) (.int .i64 ((sn : Int) + 1 + 1 + 1 + 1))).set j 5 hlt (by omega) (by omega) (by omega) (.int .i64 ((sn : Int) + 1 + 1 + 1 + 1 + 1))).set j 6 hlt (by omega) (by omega) (by omega) (.int .i64 ((sn : Int) + 1 + 1 + 1 + 1 + 1 + 1))).set j 7 hlt (by omega) (by omega) (by omega) (.int .i64 ((sn : Int) + 1 + 1 + 1 + 1 + 1 + 1 + 1)))
      refine (T1.out _).mono ?_
      rintro e w2 ⟨rfl, b2'⟩
      have M2 := Lib.hid (MA.out.later b2')
      clear b2' MA M0 T1
      obtain ⟨z0, z1, z2, z3, z4, z5, z6, z7, z8, z9, z10, z11, z13, z15, ⟨m0, m1, m2, m3, m4, m5, m6, m7, m8, m9, m10, m11, m12, m13, m14, m15⟩, f0, f1, f2, f3, f4, f5, f6, f7, f8, f9, f10, f11, f12, f13, f14, f15⟩ := M2.out.cells j hlt
      go_wp2_with fail
      clear m0 m1 m2 m3 m4 m5 m6 m7 m8 m9 m10 m11 m12 m13 m14 m15 f0 f1 f2 f3 f4 f5 f6 f7 f8 f9 f10 f11 f12 f13 f14 f15
      have MB := Lib.hid (M2.out.set j 8 hlt (by omega) (by omega) (by omega) (.string (mkT (sn + 8))))
      refine (T2.out _).mono ?_
      rintro e w3 ⟨rfl, b3⟩
      have M3 := Lib.hid (MB.out.later b3)
      clear b3 MB M2 T2
      obtain ⟨z0, z1, z2, z3, z4, z5, z6, z7, z8, z9, z10, z11, z13, z15, ⟨m0, m1, m2, m3, m4, m5, m6, m7, m8, m9, m10, m11, m12, m13, m14, m15⟩, f0, f1, f2, f3, f4, f5, f6, f7, f8, f9, f10, f11, f12, f13, f14, f15⟩ := M3.out.cells j hlt
      go_wp2_with fail
      clear m0 m1 m2 m3 m4 m5 m6 m7 m8 m9 m10 m11 m12 m13 m14 m15 f0 f1 f2 f3 f4 f5 f6 f7 f8 f9 f10 f11 f12 f13 f14 f15
      have MC := Lib.hid (M3.out.set j 9 hlt (by omega) (by omega) (by omega) (.string (mkT (sn + 9))))
      refine (T3.out _).mono ?_
      rintro e w4 ⟨rfl, b4⟩
      have M4 := Lib.hid (MC.out.later b4)
      clear b4 MC M3 T3
      obtain ⟨z0, z1, z2, z3, z4, z5, z6, z7, z8, z9, z10, z11, z13, z15, ⟨m0, m1, m2, m3, m4, m5, m6, m7, m8, m9, m10, m11, m12, m13, m14, m15⟩, f0, f1, f2, f3, f4, f5, f6, f7, f8, f9, f10, f11, f12, f13, f14, f15⟩ := M4.out.cells j hlt
      obtain ⟨au, nu, cu, hU⟩ : ∃ a n c, U j = .slice a n c := by obtain ⟨a, c, e, _⟩ := hwj.1; exact ⟨a, _, c, e⟩
      obtain ⟨ad, nd, cd, hD⟩ : ∃ a n c, D j = .slice a n c := by obtain ⟨a, c, e, _⟩ := hwj.2.2.1; exact ⟨a, _, c, e⟩
      rw [hU] at m12
      go_wp2_with fail
      clear m0 m1 m2 m3 m4 m5 m6 m7 m8 m9 m10 m11 m12 m13 m14 m15 f0 f1 f2 f3 f4 f5 f6 f7 f8 f9 f10 f11 f12 f13 f14 f15
      have MD := Lib.hid ((M4.out.set j 10 hlt (by omega) (by omega) (by omega) (.string (mkT (sn + 10)))).set j 11 hlt (by omega) (by omega) (by omega) (.int .i64 ((sn : Int) + 1 + 1 + 1 + 1 + 1 + 1 + 1 + 1 + 1 + 1 + 1)))
      have hw1 := hwj.1.chg MD.out.chg0
      rw [hU] at hw1
      refine (mark_strW _ (NU j) lo hi _ _ hw1 hwj.2.1 (by omega) (by omega)).mono ?_
      rintro e w5 ⟨rfl, c5⟩
      have M5 := Lib.hid (MD.out.chg c5 rfl c5.wr9)
      clear c5 hw1 MD M4
      obtain ⟨k5, hk5⟩ : ∃ k5 : Int, (sn : Int) + 1 + 1 + 1 + 1 + 1 + 1 + 1 + 1 + 1 + 1 + 1 + 1 + (NU j : Int) = k5 := ⟨_, rfl⟩
      rw [hk5]
      have k5a : 1 ≤ k5 := by omega
      have k5b : k5 ≤ 4398047559700 := by have := hwj.2.1; omega
      have K5 := Lib.hid hk5
      clear hk5
      obtain ⟨z0, z1, z2, z3, z4, z5, z6, z7, z8, z9, z10, z11, z13, z15, ⟨m0, m1, m2, m3, m4, m5, m6, m7, m8, m9, m10, m11, m12, m13, m14, m15⟩, f0, f1, f2, f3, f4, f5, f6, f7, f8, f9, f10, f11, f12, f13, f14, f15⟩ := M5.out.cells j hlt
      rw [hD] at m14
      go_wp2_with fail
      clear m0 m1 m2 m3 m4 m5 m6 m7 m8 m9 m10 m11 m12 m13 m14 m15 f0 f1 f2 f3 f4 f5 f6 f7 f8 f9 f10 f11 f12 f13 f14 f15
      have ME := Lib.hid (M5.out.set j 13 hlt (by omega) (by omega) (by omega) (.int .i64 k5))
      have hw2 := hwj.2.2.1.chg ME.out.chg0
      rw [hD] at hw2
      refine (mark_idW _ (ND j) lo hi _ _ hw2 hwj.2.2.2 (by omega) (by omega)).mono ?_
      rintro e w6 ⟨rfl, c6⟩
      have M6 := Lib.hid (ME.out.chg c6 rfl c6.wrI)
      clear c6 hw2 ME M5
      obtain ⟨k6, hk6⟩ : ∃ k6 : Nat, k5 + 1 + 2 * (ND j : Int) = (k6 : Int) := ⟨(k5 + 1 + 2 * (ND j : Int)).toNat, by omega⟩
      rw [hk6]
      have k6b : k6 ≤ sn + 4194000 := by have := K5.out; have := hwj.2.1; have := hwj.2.2.2; omega
      have k6a : 1 ≤ k6 := by omega
      have k6c : (k6 : Int) ≤ 4398061511105 := by omega
      clear hk6 K5 k5a k5b
      obtain ⟨z0, z1, z2, z3, z4, z5, z6, z7, z8, z9, z10, z11, z13, z15, ⟨m0, m1, m2, m3, m4, m5, m6, m7, m8, m9, m10, m11, m12, m13, m14, m15⟩, f0, f1, f2, f3, f4, f5, f6, f7, f8, f9, f10, f11, f12, f13, f14, f15⟩ := M6.out.cells j hlt
      go_wp2
      go_roundw
      case rel => exact ⟨j + 1, k6 + 1, by omega, by go_num, by go_num, by omega, by omega, M6.out.set j 15 hlt (by omega) (by omega) (by omega) _⟩
      case measure => simp only [intOf]; omega
    · obtain rfl : j = n := by omega
      go_wp2
      go_ret
      exact ⟨sn, rfl, by omega, by omega, hm.chg0⟩
end Go.Proofs.YtlbebeedkcdgpaaDoor
