/- A bundle of texts: InMk, InMw, InWr. -/
import Derived.Test.YtckeeadkhopljaaGreatDoorInCs
import Derived.Test.YtckeeadkhopljaaGreatDoorMkA
/- The law's marks on instances: which memory they write, whatever it holds. -/
namespace Go.Proofs.YtckeeadkhopljaaGreatDoor
open Go.RowKit Go.PlainAid
set_option linter.unusedVariables false

set_option maxRecDepth 100000 in
set_option maxHeartbeats 1000000 in
theorem mark_textW (k : Nat) (w : World) (h1 : 1 ≤ k) (h4 : k ≤ 35184372088832) : Calls Tryz.prog 46 #[.int .i64 k] w fun e w' => e = .returned (.string (mkT k)) ∧ Below w.heap.size w w' := by
  have hM : mkT k = ⟨#[109]⟩ ++ finT k k ⟨#[]⟩ := by unfold mkT; rfl
  rw [hM]
  have hconv := conv_one
  clear hM
  obtain ⟨R, hR⟩ : ∃ R, finT k k ⟨#[]⟩ = R := ⟨_, rfl⟩
  have HR := Lib.hid hR
  have hRz : R.size ≤ k + 0 := by rw [← hR]; exact finT_size k k _
  rw [hR]
  clear hR
  go_enter Tryz.func46, Tryz.ntmps46
  go_wp2
  go_loopw [0, 3] (fun a o wr => ∃ (f m : Nat) (t : ByteArray), m ≤ f ∧ f + t.size ≤ k ∧ a = .int .i64 m ∧ o = .string t ∧ finT f m t = R ∧ Below w.heap.size w wr) (fun a _ _ => (intOf a).toNat)
  case atStart => exact ⟨k, k, ⟨#[]⟩, Nat.le_refl _, Nat.le_refl _, rfl, rfl, HR.out, Below.refl _ _⟩
  case round =>
    obtain ⟨f, m, t, hmf, hft, rfl, rfl, hfin, hbw⟩ := hrel
    have HF := Lib.hid hfin
    have HB := Lib.hid hbw
    clear hfin hbw HR
    by_cases h0 : m = 0
    · subst h0
      have ht : t = R := by rw [← HF.out]; exact (finT_zero f t).symm
      subst ht
      have hss : ({ data := #[109] } : ByteArray).size + t.size ≤ 9223372036854775807 := by
        have e : ({ data := #[109] } : ByteArray).size = 1 := rfl
        rw [e]
        omega
      go_wp2
      go_ret
      exact ⟨rfl, HB.out⟩
    · have hm1 : 1 ≤ m := by omega
      obtain ⟨f', rfl⟩ : ∃ f', f = f' + 1 := ⟨f - 1, by omega⟩
      have hst := finT_step f' m t h0
      rw [HF.out] at hst
      have HST := Lib.hid hst
      have hz1 : (strOfNums [48 + (m : Int) % 10]).size = 1 := by rw [strOfNums_size]; rfl
      have hss : (strOfNums [48 + (m : Int) % 10]).size + t.size ≤ 9223372036854775807 := by rw [hz1]; omega
      clear hst HF h0
      go_wp2
      go_roundw
      case rel => exact ⟨f', m / 10, _, by omega, by rw [ByteArray.size_append, hz1]; omega, by go_num, rfl, HST.out.symm, HB.out.alloc HB.out.size _⟩
      case measure => simp only [intOf]; omega
/-- From w to w' only rows of the types m in blocks of [lo, hi) are written; each keeps its type and size. -/
structure Chg (m : TypeId → Bool) (lo hi : Nat) (w w' : World) : Prop where
  os : w'.os = w.os
  tape : w'.tape = w.tape
  output : w'.output = w.output
  size : w.heap.size ≤ w'.heap.size
  out : ∀ k, k < w.heap.size → (k < lo ∨ hi ≤ k) → w'.heap[k]? = w.heap[k]?
  shape : ∀ (k : Nat) (cur : Array Value) (t : TypeId), w.heap[k]? = some (Obj.cells cur t (0, 0)) → ∃ cur' : Array Value, w'.heap[k]? = some (Obj.cells cur' t (0, 0)) ∧ cur'.size = cur.size ∧ (m t = false → cur' = cur)
theorem Chg.refl (m : TypeId → Bool) (lo hi : Nat) (w : World) : Chg m lo hi w w := ⟨rfl, rfl, rfl, Nat.le_refl _, fun _ _ _ => rfl, fun k cur t h => ⟨cur, h, rfl, fun _ => rfl⟩⟩
theorem Chg.trans {m : TypeId → Bool} {lo hi : Nat} {w w1 w2 : World} (h : Chg m lo hi w w1) (h2 : Chg m lo hi w1 w2) : Chg m lo hi w w2 :=
  ⟨h2.os.trans h.os, h2.tape.trans h.tape, h2.output.trans h.output, Nat.le_trans h.size h2.size, fun k hk hr => (h2.out k (Nat.lt_of_lt_of_le hk h.size) hr).trans (h.out k hk hr), fun k cur t hk => by
    obtain ⟨c1, e1, s1, q1⟩ := h.shape k cur t hk
    obtain ⟨c2, e2, s2, q2⟩ := h2.shape k c1 t e1
    exact ⟨c2, e2, s2.trans s1, fun hm => (q2 hm).trans (q1 hm)⟩⟩
theorem Chg.weaken {m m' : TypeId → Bool} {lo hi : Nat} {w w' : World} (h : Chg m lo hi w w') (hm : ∀ t, m' t = false → m t = false) : Chg m' lo hi w w' :=
  ⟨h.os, h.tape, h.output, h.size, h.out, fun k cur t hk => by
    obtain ⟨c1, e1, s1, q1⟩ := h.shape k cur t hk
    exact ⟨c1, e1, s1, fun q => q1 (hm t q)⟩⟩
theorem chg_below {m : TypeId → Bool} {lo hi : Nat} {w w' : World} (hb : Below w.heap.size w w') : Chg m lo hi w w' :=
  ⟨hb.os, hb.tape, hb.output, hb.size, fun k hk _ => hb.block k hk, fun k cur t hk => ⟨cur, (hb.block k (Array.getElem?_eq_some_iff.1 hk).1).trans hk, rfl, fun _ => rfl⟩⟩
theorem chg_set {m : TypeId → Bool} {lo hi g o : Nat} {w : World} {cur : Array Value} {t : TypeId} (hg : w.heap[g]? = some (.cells cur t (0, 0))) (h1 : lo ≤ g) (h2 : g < hi) (hm : m t = true) (y : Value) : Chg m lo hi w (w.setCell ⟨g, o, none⟩ y) := by
  refine ⟨rfl, rfl, rfl, by simp, fun k hk hr => heap_setCell_other w ⟨g, o, none⟩ k y (show k ≠ g by omega), fun k c t' hk => ?_⟩
  by_cases e : k = g
  · subst e
    rw [hg] at hk
    simp only [Option.some.injEq, Obj.cells.injEq] at hk
    obtain ⟨rfl, rfl, _⟩ := hk
    exact ⟨_, heap_setCell_same w k o cur t y hg, by simp, fun q => by rw [hm] at q; cases q⟩
  · exact ⟨c, (heap_setCell_other w ⟨g, o, none⟩ k y e).trans hk, rfl, fun _ => rfl⟩
theorem Af.chg {w0 w w' : World} {m : TypeId → Bool} {lo hi : Nat} (h : Af w0 w) (hc : Chg m lo hi w w') (hl : w0.heap.size ≤ lo) : Af w0 w' :=
  Below.trans h ⟨hc.os, hc.tape, hc.output, hc.size, fun k hk => hc.out k (Nat.lt_of_lt_of_le hk h.size) (.inl (by omega))⟩
/-- A slice whose n elements of k cells may be written. -/
def Wr (w : World) (t : TypeId) (z lo hi : Nat) (v : Value) (n : Nat) : Prop :=
  ∃ a cap, v = .slice a n cap ∧ (0 < n → ∃ g o cur, a = some ⟨g, o, none⟩ ∧ (lo ≤ g ∧ g < hi) ∧ w.heap[g]? = some (.cells cur t (0, 0)) ∧ o + n * z ≤ cur.size)
theorem Wr.chg {w w' : World} {t : TypeId} {z lo hi n : Nat} {v : Value} {m : TypeId → Bool} {lo' hi' : Nat} (h : Wr w t z lo hi v n) (hc : Chg m lo' hi' w w') : Wr w' t z lo hi v n := by
  obtain ⟨a, cap, e, h3⟩ := h
  refine ⟨a, cap, e, fun h0 => ?_⟩
  obtain ⟨g, o, cur, r1, r2, r3, r4⟩ := h3 h0
  obtain ⟨c', e', s', _⟩ := hc.shape g cur t r3
  exact ⟨g, o, c', r1, r2, e', by rw [s']; exact r4⟩
theorem wr_cell {w : World} {g o i : Nat} {cur : Array Value} {t : TypeId} (hg : w.heap[g]? = some (.cells cur t (0, 0))) (hi : o + i < cur.size) : (∃ y, w.cell? ⟨g, o + i, none⟩ = some y) ∧ w.frozen? ⟨g, o + i, none⟩ = false :=
  ⟨⟨_, by rw [cell_of_row w g _ cur _ (0, 0) hg, Array.getElem?_eq_getElem hi]⟩, frozen_of_row w g _ _ _ hg⟩
set_option maxRecDepth 100000 in
set_option maxHeartbeats 1000000 in
theorem mark_strW (v : Value) (n : Nat) (lo hi : Nat) (s : Int) (w : World) (hv : Wr w 9 1 lo hi v n) (hn : n ≤ 1048576) (hs0 : 1 ≤ s) (hs1 : s ≤ 17592186044416) :
    Calls Tryz.prog 47 #[v, .int .i64 s] w fun e w' => e = .returned (.int .i64 (s + n)) ∧ Chg (fun t => t == 9) lo hi w w' := by
  obtain ⟨sn, hsn⟩ : ∃ sn : Nat, s = (sn : Int) := ⟨s.toNat, by omega⟩
  subst hsn
  have HV0 := Lib.hid hv
  obtain ⟨a, cap, rfl, h3⟩ := hv
  clear h3
  go_enter Tryz.func47, Tryz.ntmps47
  go_wp2
  go_loopw [1, 5] (fun kv i wr => ∃ j : Nat, j ≤ n ∧ i = .int .i64 j ∧ kv = .int .i64 ((sn : Int) + j) ∧ Chg (fun t => t == 9) lo hi w wr) (fun _ i _ => n - (intOf i).toNat)
  case atStart => exact ⟨0, by omega, rfl, by simp, Chg.refl _ _ _ _⟩
  case round =>
    obtain ⟨j, hj, rfl, rfl, hc⟩ := hrel
    have HC := Lib.hid hc
    clear hc
    by_cases hlt : j < n
    · obtain ⟨a', cap', e, h3⟩ := HV0.out
      simp only [Value.slice.injEq] at e
      obtain ⟨g, o, cur, rfl, hgl, hg, hsz⟩ := h3 (by omega)
      obtain ⟨rfl, _, rfl⟩ := e
      have HM1 := Lib.hid (fun W => (by have := mark_textW (sn + j) W (by omega) (by omega); rw [show ((sn + j : Nat) : Int) = (sn : Int) + (j : Int) by omega] at this; exact this))
      have y1 : (j : Int) < (n : Int) := by omega
      have y0 : (0 : Int) ≤ (j : Int) := by omega
      have HGL := Lib.hid hgl
      have HG := Lib.hid hg
      clear h3 hg hgl
      go_wp2_with fail
      refine (HM1.out _).mono ?_
      rintro e w2 ⟨rfl, b2⟩
      have C2 := Lib.hid (HC.out.trans (chg_below b2))
      obtain ⟨c', e', s', _⟩ := C2.out.shape g cur 9 HG.out
      obtain ⟨⟨y, d1⟩, f1⟩ := wr_cell (o := o) (i := j) e' (by omega)
      have C3 := Lib.hid (C2.out.trans (chg_set e' HGL.out.1 HGL.out.2 rfl (o := o + j) (.string (mkT (sn + j)))))
      clear b2 e' C2 HC
      go_wp2
      go_roundw
      case rel => exact ⟨j + 1, by omega, by go_num, by go_num, C3.out⟩
      case measure => simp only [intOf]; omega
    · obtain rfl : j = n := by omega
      go_wp2
      go_ret
      exact ⟨rfl, HC.out⟩
set_option maxRecDepth 100000 in
set_option maxHeartbeats 1000000 in
theorem mark_idW (v : Value) (n : Nat) (lo hi : Nat) (s : Int) (w : World) (hv : Wr w 63 2 lo hi v n) (hn : n ≤ 1048576) (hs0 : 1 ≤ s) (hs1 : s ≤ 17592186044416) :
    Calls Tryz.prog 48 #[v, .int .i64 s] w fun e w' => e = .returned (.int .i64 (s + 2 * (n : Int))) ∧ Chg (fun t => t == 63) lo hi w w' := by
  have HV0 := Lib.hid hv
  obtain ⟨a, cap, rfl, h3⟩ := hv
  clear h3
  go_enter Tryz.func48, Tryz.ntmps48
  go_wp2
  go_loopw [1, 5] (fun kv i wr => ∃ j : Nat, j ≤ n ∧ i = .int .i64 j ∧ kv = .int .i64 (s + 2 * (j : Int)) ∧ Chg (fun t => t == 63) lo hi w wr) (fun _ i _ => n - (intOf i).toNat)
  case atStart => exact ⟨0, by omega, rfl, by simp, Chg.refl _ _ _ _⟩
  case round =>
    obtain ⟨j, hj, rfl, rfl, hc⟩ := hrel
    have HC := Lib.hid hc
    clear hc
    by_cases hlt : j < n
    · obtain ⟨a', cap', e, h3⟩ := HV0.out
      simp only [Value.slice.injEq] at e
      obtain ⟨g, o, cur, rfl, hgl, hg, hsz⟩ := h3 (by omega)
      obtain ⟨rfl, _, rfl⟩ := e
      obtain ⟨c', e', s', _⟩ := HC.out.shape g cur 63 hg
      obtain ⟨⟨y, d1⟩, f1⟩ := wr_cell (o := o) (i := j * 2) e' (by omega)
      obtain ⟨⟨z, d2⟩, f2⟩ := wr_cell (o := o + j * 2) (i := 1) e' (by omega)
      have C2 := Lib.hid (HC.out.trans (chg_set (m := fun t => t == 63) e' hgl.1 hgl.2 rfl (o := o + j * 2) (.int .i64 (s + 2 * (j : Int)))))
      obtain ⟨c3, e3, s3, _⟩ := C2.out.shape g cur 63 hg
      have C3 := Lib.hid (C2.out.trans (chg_set (m := fun t => t == 63) e3 hgl.1 hgl.2 rfl (o := o + j * 2 + 1) (.int .i64 (s + 2 * (j : Int) + 1))))
      have y1 : (j : Int) < (n : Int) := by omega
      have y0 : (0 : Int) ≤ (j : Int) := by omega
      clear h3 hg e' e3 C2 HC
      go_wp2
      go_roundw
      case rel => exact ⟨j + 1, by omega, by go_num, by go_num, C3.out⟩
      case measure => simp only [intOf]; omega
    · obtain rfl : j = n := by omega
      go_wp2
      go_ret
      exact ⟨rfl, HC.out⟩
end Go.Proofs.YtckeeadkhopljaaGreatDoor
/- The law's marks on a slice of instances: which memory they write, whatever it holds. -/
namespace Go.Proofs.YtckeeadkhopljaaGreatDoor
open Go.RowKit Go.PlainAid
set_option linter.unusedVariables false

abbrev m3 : TypeId → Bool := fun t => (t == 9) || ((t == 63) || (t == 67))
/-- A row of n instances at o in block g: its slices are U and D; all that changed since w0 is within [lo, hi). -/
def Mk (w0 : World) (lo hi g o n : Nat) (U D : Nat → Value) (w : World) : Prop :=
  ∃ cur : Array Value, w.heap[g]? = some (.cells cur 67 (0, 0)) ∧ o + n * 16 ≤ cur.size ∧ (∀ j, j < n → cur[o + j * 16 + 12]? = some (U j) ∧ cur[o + j * 16 + 14]? = some (D j)) ∧ (lo ≤ g ∧ g < hi) ∧ Chg m3 lo hi w0 w
theorem Mk.chg0 {w0 w : World} {lo hi g o n : Nat} {U D : Nat → Value} (h : Mk w0 lo hi g o n U D w) : Chg m3 lo hi w0 w := by
  obtain ⟨_, _, _, _, _, h⟩ := h; exact h
theorem Mk.set {w0 w : World} {lo hi g o n : Nat} {U D : Nat → Value} (h : Mk w0 lo hi g o n U D w) (j i : Nat) (hj : j < n) (hi16 : i < 16) (h12 : i ≠ 12) (h14 : i ≠ 14) (y : Value) : Mk w0 lo hi g o n U D (w.setCell ⟨g, o + j * 16 + i, none⟩ y) := by
  obtain ⟨cur, r1, r2, r3, r4, r5⟩ := h
  refine ⟨_, heap_setCell_same w g (o + j * 16 + i) cur _ y r1, by simpa using r2, fun k hk => ?_, r4, r5.trans (chg_set r1 r4.1 r4.2 (by simp) y)⟩
  rw [Array.getElem?_setIfInBounds, Array.getElem?_setIfInBounds, if_neg (by omega), if_neg (by omega)]
  exact r3 k hk
theorem Mk.later {w0 w w' : World} {lo hi g o n : Nat} {U D : Nat → Value} (h : Mk w0 lo hi g o n U D w) (hb : Below w.heap.size w w') : Mk w0 lo hi g o n U D w' := by
  obtain ⟨cur, r1, r2, r3, r4, r5⟩ := h
  exact ⟨cur, (hb.block g (Array.getElem?_eq_some_iff.1 r1).1).trans r1, r2, r3, r4, r5.trans (chg_below hb)⟩
theorem Mk.chg {w0 w w' : World} {lo hi g o n : Nat} {U D : Nat → Value} {m : TypeId → Bool} (h : Mk w0 lo hi g o n U D w) (hc : Chg m lo hi w w') (hm : m 67 = false) (hw : ∀ t, m3 t = false → m t = false) : Mk w0 lo hi g o n U D w' := by
  obtain ⟨cur, r1, r2, r3, r4, r5⟩ := h
  obtain ⟨c', e', s', q'⟩ := hc.shape g cur _ r1
  rw [q' hm] at e'
  exact ⟨cur, e', r2, r3, r4, r5.trans (hc.weaken hw)⟩
theorem Mk.cells {w0 w : World} {lo hi g o n : Nat} {U D : Nat → Value} (h : Mk w0 lo hi g o n U D w) (j : Nat) (hj : j < n) :
    ∃ z0 z1 z2 z3 z4 z5 z6 z7 z8 z9 z10 z11 z13 z15 : Value, (w.cell? ⟨g, o + j * 16, none⟩ = some (z0) ∧ w.cell? ⟨g, o + j * 16 + 1, none⟩ = some (z1) ∧ w.cell? ⟨g, o + j * 16 + 2, none⟩ = some (z2) ∧ w.cell? ⟨g, o + j * 16 + 3, none⟩ = some (z3) ∧ w.cell? ⟨g, o + j * 16 + 4, none⟩ = some (z4) ∧ w.cell? ⟨g, o + j * 16 + 5, none⟩ = some (z5) ∧ w.cell? ⟨g, o + j * 16 + 6, none⟩ = some (z6) ∧ w.cell? ⟨g, o + j * 16 + 7, none⟩ = some (z7) ∧ w.cell? ⟨g, o + j * 16 + 8, none⟩ = some (z8) ∧ w.cell? ⟨g, o + j * 16 + 9, none⟩ = some (z9) ∧ w.cell? ⟨g, o + j * 16 + 10, none⟩ = some (z10) ∧ w.cell? ⟨g, o + j * 16 + 11, none⟩ = some (z11) ∧ w.cell? ⟨g, o + j * 16 + 12, none⟩ = some (U j) ∧ w.cell? ⟨g, o + j * 16 + 13, none⟩ = some (z13) ∧ w.cell? ⟨g, o + j * 16 + 14, none⟩ = some (D j) ∧ w.cell? ⟨g, o + j * 16 + 15, none⟩ = some (z15)) ∧ w.frozen? ⟨g, o + j * 16, none⟩ = false ∧ w.frozen? ⟨g, o + j * 16 + 1, none⟩ = false ∧ w.frozen? ⟨g, o + j * 16 + 2, none⟩ = false ∧ w.frozen? ⟨g, o + j * 16 + 3, none⟩ = false ∧ w.frozen? ⟨g, o + j * 16 + 4, none⟩ = false ∧ w.frozen? ⟨g, o + j * 16 + 5, none⟩ = false ∧ w.frozen? ⟨g, o + j * 16 + 6, none⟩ = false ∧ w.frozen? ⟨g, o + j * 16 + 7, none⟩ = false ∧ w.frozen? ⟨g, o + j * 16 + 8, none⟩ = false ∧ w.frozen? ⟨g, o + j * 16 + 9, none⟩ = false ∧ w.frozen? ⟨g, o + j * 16 + 10, none⟩ = false ∧ w.frozen? ⟨g, o + j * 16 + 11, none⟩ = false ∧ w.frozen? ⟨g, o + j * 16 + 12, none⟩ = false ∧ w.frozen? ⟨g, o + j * 16 + 13, none⟩ = false ∧ w.frozen? ⟨g, o + j * 16 + 14, none⟩ = false ∧ w.frozen? ⟨g, o + j * 16 + 15, none⟩ = false := by
  obtain ⟨cur, r1, r2, r3, r4, r5⟩ := h
  have hc : ∀ i, i < 16 → w.cell? ⟨g, o + j * 16 + i, none⟩ = some (cur[o + j * 16 + i]?.getD undef) := fun i hi => by
    rw [cell_of_row w g _ cur _ (0, 0) r1, Array.getElem?_eq_getElem (by omega)]; rfl
  have hf : ∀ i, w.frozen? ⟨g, i, none⟩ = false := fun i => frozen_of_row w g i _ _ r1
  have h12 : w.cell? ⟨g, o + j * 16 + 12, none⟩ = some (U j) := by rw [cell_of_row w g _ cur _ (0, 0) r1]; exact (r3 j hj).1
  have h14 : w.cell? ⟨g, o + j * 16 + 14, none⟩ = some (D j) := by rw [cell_of_row w g _ cur _ (0, 0) r1]; exact (r3 j hj).2
  exact ⟨_, _, _, _, _, _, _, _, _, _, _, _, _, _, ⟨hc 0 (by omega), hc 1 (by omega), hc 2 (by omega), hc 3 (by omega), hc 4 (by omega), hc 5 (by omega), hc 6 (by omega), hc 7 (by omega), hc 8 (by omega), hc 9 (by omega), hc 10 (by omega), hc 11 (by omega), h12, hc 13 (by omega), h14, hc 15 (by omega)⟩, hf _, hf _, hf _, hf _, hf _, hf _, hf _, hf _, hf _, hf _, hf _, hf _, hf _, hf _, hf _, hf _⟩
/-- A slice of n instances that may be written. -/
def WrL (w : World) (lo hi : Nat) (v : Value) (n : Nat) : Prop :=
  ∃ a cap, v = .slice a n cap ∧ (0 < n → ∃ (g o : Nat) (U D : Nat → Value) (NU ND : Nat → Nat), a = some ⟨g, o, none⟩ ∧ Mk w lo hi g o n U D w ∧ ∀ j, j < n → Wr w 9 1 lo hi (U j) (NU j) ∧ NU j ≤ 1048576 ∧ Wr w 63 2 lo hi (D j) (ND j) ∧ ND j ≤ 1048576)
theorem Chg.wr9 {w w' : World} {lo hi : Nat} (h : Chg (fun t => t == 9) lo hi w w') : ∀ t, m3 t = false → (fun t => t == 9) t = false := fun t h => by simp only [m3, Bool.or_eq_false_iff] at h; exact h.1
theorem Chg.wrI {w w' : World} {lo hi : Nat} (h : Chg (fun t => t == 63) lo hi w w') : ∀ t, m3 t = false → (fun t => t == 63) t = false := fun t h => by simp only [m3, Bool.or_eq_false_iff] at h; exact h.2.1
set_option maxRecDepth 100000 in
set_option maxHeartbeats 4000000 in
theorem mark_instsW (v : Value) (n : Nat) (lo hi : Nat) (w : World) (hv : WrL w lo hi v n) (hn : n ≤ 1048576) :
    Calls Tryz.prog 21 #[v, .int .i64 1] w fun e w' => ∃ z : Int, e = .returned (.int .i64 z) ∧ 1 ≤ z ∧ z ≤ 1 + (n : Int) * 4194304 ∧ Chg m3 lo hi w w' := by
  obtain ⟨a, cap, rfl, h3⟩ := hv
  by_cases h0 : 0 < n
  case neg =>
    obtain rfl : n = 0 := by omega
    go_enter Tryz.func21, Tryz.ntmps21
    go_wp2
    go_loop [1, 5] (fun kv i => kv = .int .i64 1 ∧ i = .int .i64 0) (fun _ _ => 0)
    case atStart => exact ⟨rfl, rfl⟩
    case round =>
      obtain ⟨rfl, rfl⟩ := hrel
      go_wp2
      go_ret
      exact ⟨1, rfl, by omega, by omega, Chg.refl _ _ _ _⟩
  obtain ⟨g, o, U, D, NU, ND, rfl, hmk, hwr⟩ := h3 h0
  have HMK := Lib.hid hmk
  have HWR := Lib.hid hwr
  clear h3 hmk hwr
  go_enter Tryz.func21, Tryz.ntmps21
  go_wp2
  go_loopw [1, 5] (fun kv i wr => ∃ (j sn : Nat), j ≤ n ∧ i = .int .i64 j ∧ kv = .int .i64 sn ∧ 1 ≤ sn ∧ sn ≤ 1 + j * 4194304 ∧ Mk w lo hi g o n U D wr) (fun _ i _ => n - (intOf i).toNat)
  case atStart => exact ⟨0, 1, by omega, rfl, rfl, by omega, by omega, HMK.out⟩
  case round =>
    obtain ⟨j, sn, hj, rfl, rfl, hs1, hs2, hm⟩ := hrel
    by_cases hlt : j < n
    · have M0 := Lib.hid hm
      have y1 : (j : Int) < (n : Int) := by omega
      have y0 : (0 : Int) ≤ (j : Int) := by omega
      have hwj := HWR.out j hlt
      obtain ⟨z0, z1, z2, z3, z4, z5, z6, z7, z8, z9, z10, z11, z13, z15, ⟨m0, m1, m2, m3, m4, m5, m6, m7, m8, m9, m10, m11, m12, m13, m14, m15⟩, f0, f1, f2, f3, f4, f5, f6, f7, f8, f9, f10, f11, f12, f13, f14, f15⟩ := hm.cells j hlt
      clear hm
      have T1 := Lib.hid (fun W => (by have := mark_textW (sn + 8) W (by omega) (by omega); rw [show ((sn + 8 : Nat) : Int) = (sn : Int) + 1 + 1 + 1 + 1 + 1 + 1 + 1 + 1 by omega] at this; exact this))
      have T2 := Lib.hid (fun W => (by have := mark_textW (sn + 9) W (by omega) (by omega); rw [show ((sn + 9 : Nat) : Int) = (sn : Int) + 1 + 1 + 1 + 1 + 1 + 1 + 1 + 1 + 1 by omega] at this; exact this))
      have T3 := Lib.hid (fun W => (by have := mark_textW (sn + 10) W (by omega) (by omega); rw [show ((sn + 10 : Nat) : Int) = (sn : Int) + 1 + 1 + 1 + 1 + 1 + 1 + 1 + 1 + 1 + 1 by omega] at this; exact this))
      have b1 : (1 : Int) ≤ (sn : Int) := by omega
      have b2 : (sn : Int) ≤ 4398046511105 := by omega
      go_wp2_with fail
      clear m0 m1 m2 m3 m4 m5 m6 m7 m8 m9 m10 m11 m12 m13 m14 m15 f0 f1 f2 f3 f4 f5 f6 f7 f8 f9 f10 f11 f12 f13 f14 f15
      have MA := Lib.hid ((((((((M0.out.set j 0 hlt (by omega) (by omega) (by omega) (.int .i64 ((sn : Int)))).set j 1 hlt (by omega) (by omega) (by omega) (.int .i64 ((sn : Int) + 1))).set j 2 hlt (by omega) (by omega) (by omega) (.int .i64 ((sn : Int) + 1 + 1))).set j 3 hlt (by omega) (by omega) (by omega) (.int .i64 ((sn : Int) + 1 + 1 + 1))).set j 4 hlt (by omega) (by omega) (by omega) (.int .i64 ((sn : Int) + 1 + 1 + 1 + 1))).set j 5 hlt (by omega) (by omega) (by omega) (.int .i64 ((sn : Int) + 1 + 1 + 1 + 1 + 1))).set j 6 hlt (by omega) (by omega) (by omega) (.int .i64 ((sn : Int) + 1 + 1 + 1 + 1 + 1 + 1))).set j 7 hlt (by omega) (by omega) (by omega) (.int .i64 ((sn : Int) + 1 + 1 + 1 + 1 + 1 + 1 + 1)))
      refine (T1.out _).mono ?_
      rintro e w2 ⟨rfl, b2'⟩
      have M2 := Lib.hid (MA.out.later b2')
      clear b2' MA M0 T1
      obtain ⟨z0, z1, z2, z3, z4, z5, z6, z7, z8, z9, z10, z11, z13, z15, ⟨m0, m1, m2, m3, m4, m5, m6, m7, m8, m9, m10, m11, m12, m13, m14, m15⟩, f0, f1, f2, f3, f4, f5, f6, f7, f8, f9, f10, f11, f12, f13, f14, f15⟩ := M2.out.cells j hlt
      go_wp2_with fail
      clear m0 m1 m2 m3 m4 m5 m6 m7 m8 m9 m10 m11 m12 m13 m14 m15 f0 f1 f2 f3 f4 f5 f6 f7 f8 f9 f10 f11 f12 f13 f14 f15
      have MB := Lib.hid (M2.out.set j 8 hlt (by omega) (by omega) (by omega) (.string (mkT (sn + 8))))
      refine (T2.out _).mono ?_
      rintro e w3 ⟨rfl, b3⟩
      have M3 := Lib.hid (MB.out.later b3)
      clear b3 MB M2 T2
      obtain ⟨z0, z1, z2, z3, z4, z5, z6, z7, z8, z9, z10, z11, z13, z15, ⟨m0, m1, m2, m3, m4, m5, m6, m7, m8, m9, m10, m11, m12, m13, m14, m15⟩, f0, f1, f2, f3, f4, f5, f6, f7, f8, f9, f10, f11, f12, f13, f14, f15⟩ := M3.out.cells j hlt
      go_wp2_with fail
      clear m0 m1 m2 m3 m4 m5 m6 m7 m8 m9 m10 m11 m12 m13 m14 m15 f0 f1 f2 f3 f4 f5 f6 f7 f8 f9 f10 f11 f12 f13 f14 f15
      have MC := Lib.hid (M3.out.set j 9 hlt (by omega) (by omega) (by omega) (.string (mkT (sn + 9))))
      refine (T3.out _).mono ?_
      rintro e w4 ⟨rfl, b4⟩
      have M4 := Lib.hid (MC.out.later b4)
      clear b4 MC M3 T3
      obtain ⟨z0, z1, z2, z3, z4, z5, z6, z7, z8, z9, z10, z11, z13, z15, ⟨m0, m1, m2, m3, m4, m5, m6, m7, m8, m9, m10, m11, m12, m13, m14, m15⟩, f0, f1, f2, f3, f4, f5, f6, f7, f8, f9, f10, f11, f12, f13, f14, f15⟩ := M4.out.cells j hlt
      obtain ⟨au, nu, cu, hU⟩ : ∃ a n c, U j = .slice a n c := by obtain ⟨a, c, e, _⟩ := hwj.1; exact ⟨a, _, c, e⟩
      obtain ⟨ad, nd, cd, hD⟩ : ∃ a n c, D j = .slice a n c := by obtain ⟨a, c, e, _⟩ := hwj.2.2.1; exact ⟨a, _, c, e⟩
      rw [hU] at m12
      go_wp2_with fail
      clear m0 m1 m2 m3 m4 m5 m6 m7 m8 m9 m10 m11 m12 m13 m14 m15 f0 f1 f2 f3 f4 f5 f6 f7 f8 f9 f10 f11 f12 f13 f14 f15
      have MD := Lib.hid ((M4.out.set j 10 hlt (by omega) (by omega) (by omega) (.string (mkT (sn + 10)))).set j 11 hlt (by omega) (by omega) (by omega) (.int .i64 ((sn : Int) + 1 + 1 + 1 + 1 + 1 + 1 + 1 + 1 + 1 + 1 + 1)))
      have hw1 := hwj.1.chg MD.out.chg0
      rw [hU] at hw1
      refine (mark_strW _ (NU j) lo hi _ _ hw1 hwj.2.1 (by omega) (by omega)).mono ?_
      rintro e w5 ⟨rfl, c5⟩
      have M5 := Lib.hid (MD.out.chg c5 rfl c5.wr9)
      clear c5 hw1 MD M4
      obtain ⟨k5, hk5⟩ : ∃ k5 : Int, (sn : Int) + 1 + 1 + 1 + 1 + 1 + 1 + 1 + 1 + 1 + 1 + 1 + 1 + (NU j : Int) = k5 := ⟨_, rfl⟩
      rw [hk5]
      have k5a : 1 ≤ k5 := by omega
      have k5b : k5 ≤ 4398047559700 := by have := hwj.2.1; omega
      have K5 := Lib.hid hk5
      clear hk5
      obtain ⟨z0, z1, z2, z3, z4, z5, z6, z7, z8, z9, z10, z11, z13, z15, ⟨m0, m1, m2, m3, m4, m5, m6, m7, m8, m9, m10, m11, m12, m13, m14, m15⟩, f0, f1, f2, f3, f4, f5, f6, f7, f8, f9, f10, f11, f12, f13, f14, f15⟩ := M5.out.cells j hlt
      rw [hD] at m14
      go_wp2_with fail
      clear m0 m1 m2 m3 m4 m5 m6 m7 m8 m9 m10 m11 m12 m13 m14 m15 f0 f1 f2 f3 f4 f5 f6 f7 f8 f9 f10 f11 f12 f13 f14 f15
      have ME := Lib.hid (M5.out.set j 13 hlt (by omega) (by omega) (by omega) (.int .i64 k5))
      have hw2 := hwj.2.2.1.chg ME.out.chg0
      rw [hD] at hw2
      refine (mark_idW _ (ND j) lo hi _ _ hw2 hwj.2.2.2 (by omega) (by omega)).mono ?_
      rintro e w6 ⟨rfl, c6⟩
      have M6 := Lib.hid (ME.out.chg c6 rfl c6.wrI)
      clear c6 hw2 ME M5
      obtain ⟨k6, hk6⟩ : ∃ k6 : Nat, k5 + 1 + 2 * (ND j : Int) = (k6 : Int) := ⟨(k5 + 1 + 2 * (ND j : Int)).toNat, by omega⟩
      rw [hk6]
      have k6b : k6 ≤ sn + 4194000 := by have := K5.out; have := hwj.2.1; have := hwj.2.2.2; omega
      have k6a : 1 ≤ k6 := by omega
      have k6c : (k6 : Int) ≤ 4398061511105 := by omega
      clear hk6 K5 k5a k5b
      obtain ⟨z0, z1, z2, z3, z4, z5, z6, z7, z8, z9, z10, z11, z13, z15, ⟨m0, m1, m2, m3, m4, m5, m6, m7, m8, m9, m10, m11, m12, m13, m14, m15⟩, f0, f1, f2, f3, f4, f5, f6, f7, f8, f9, f10, f11, f12, f13, f14, f15⟩ := M6.out.cells j hlt
      go_wp2
      go_roundw
      case rel => exact ⟨j + 1, k6 + 1, by omega, by go_num, by go_num, by omega, by omega, M6.out.set j 15 hlt (by omega) (by omega) (by omega) _⟩
      case measure => simp only [intOf]; omega
    · obtain rfl : j = n := by omega
      go_wp2
      go_ret
      exact ⟨sn, rfl, by omega, by omega, hm.chg0⟩
end Go.Proofs.YtckeeadkhopljaaGreatDoor
/- Instances that a call owns may be marked. -/
namespace Go.Proofs.YtckeeadkhopljaaGreatDoor
open Go.RowKit Go.PlainAid
set_option linter.unusedVariables false

theorem InOwn.wr {w : World} {lo hi : Nat} {v : Value} {l : List In} (h : InOwn w lo hi v l) (hs : Sm l) : WrL w lo hi v l.length := by
  obtain ⟨a, cap, e, h1, h2, h3⟩ := h
  refine ⟨a, cap, e, fun h0 => ?_⟩
  obtain ⟨g, o, cur, r1, r2, r3, r4⟩ := h3 h0
  have hex : ∀ j, ∃ p : Value × Value, j < l.length → InB cur (o + j * 16) (nth l j) p.1 p.2 ∧ PtO w lo hi (nth l j) p.1 p.2 := fun j => by
    by_cases hj : j < l.length
    · obtain ⟨u, d, q1, q2, _⟩ := r4 j hj
      exact ⟨(u, d), fun _ => ⟨q1, q2⟩⟩
    · exact ⟨(undef, undef), fun h => absurd h hj⟩
  obtain ⟨f, hf⟩ := Classical.axiomOfChoice hex
  refine ⟨g, o, fun j => (f j).1, fun j => (f j).2, fun j => (nth l j).cmd.ch.length, fun j => (nth l j).deps.length, r1, ⟨cur, r3, by omega, fun j hj => ⟨(hf j hj).1 12 (by omega), (hf j hj).1 14 (by omega)⟩, ⟨r2.1, r2.2.1⟩, Chg.refl _ _ _ _⟩, fun j hj => ?_⟩
  obtain ⟨_, q2⟩ := hf j hj
  refine ⟨?_, (hs.2 j hj).1, ?_, (hs.2 j hj).2⟩
  · dsimp only
    have hb := q2.bu
    obtain ⟨hg, _⟩ := q2.st
    rcases hg.2 with ⟨hn, hz⟩ | ⟨g', cap', cur', hn, hb', hh, hc1, hc2, hc3, hc4⟩
    · exact ⟨none, 0, by rw [hn, hz], fun h => by omega⟩
    · refine ⟨_, cap', hn, fun _ => ⟨g', 0, cur', rfl, ?_, hh, by omega⟩⟩
      exact hb g' (by rw [hn]; rfl)
  · dsimp only
    have hb := q2.bd
    obtain ⟨a', cap', e', i1, i2, i3⟩ := q2.ids
    refine ⟨a', cap', e', fun hp => ?_⟩
    obtain ⟨g', o', cur', q1, q3, q4, _⟩ := i3 hp
    refine ⟨g', o', cur', q1, hb g' (by rw [e', q1]; rfl), q4, ?_⟩
    have := q3.2
    omega
end Go.Proofs.YtckeeadkhopljaaGreatDoor
