/- The law's marks on instances: which memory they write, whatever it holds. -/
import Derived.Test.YtlbebeedkcdgpaaDoorInCs
import Derived.Test.YtlbebeedkcdgpaaDoorMarkT
namespace Go.Proofs.YtlbebeedkcdgpaaDoor
open Go.RowKit Go.PlainAid
set_option linter.unusedVariables false

set_option maxRecDepth 100000 in
set_option maxHeartbeats 1000000 in
theorem mark_textW (k : Nat) (w : World) (h1 : 1 ≤ k) (h4 : k ≤ 35184372088832) : Calls Tryd.prog 25 #[.int .i64 k] w fun e w' => e = .returned (.string (mkT k)) ∧ Below w.heap.size w w' := by
  have hM : mkT k = ⟨#[109]⟩ ++ finT k k ⟨#[]⟩ := by unfold mkT; rfl
  rw [hM]
  have hconv := conv_one
  clear hM
  obtain ⟨R, hR⟩ : ∃ R, finT k k ⟨#[]⟩ = R := ⟨_, rfl⟩
  have HR := Lib.hid hR
  have hRz : R.size ≤ k + 0 := by rw [← hR]; exact finT_size k k _
  rw [hR]
  clear hR
  go_enter Tryd.func25, Tryd.ntmps25
  go_wp2
  go_loopw [0, 3] (fun a o wr => ∃ (f m : Nat) (t : ByteArray), m ≤ f ∧ f + t.size ≤ k ∧ a = .int .i64 m ∧ o = .string t ∧ finT f m t = R ∧ Below w.heap.size w wr) (fun a _ _ => (intOf a).toNat)
  case atStart => exact ⟨k, k, ⟨#[]⟩, Nat.le_refl _, Nat.le_refl _, rfl, rfl, HR.out, Below.refl _ _⟩
  case round =>
    obtain ⟨f, m, t, hmf, hft, rfl, rfl, hfin, hbw⟩ := hrel
    have HF := Lib.hid hfin
    have HB := Lib.hid hbw
    clear hfin hbw HR
    by_cases h0 : m = 0
    · subst h0
      have ht : t = R := by rw [← HF.out]; exact (finT_zero f t).symm
      subst ht
      have hss : ({ data := #[109] } : ByteArray).size + t.size ≤ 9223372036854775807 := by
        have e : ({ data := #[109] } : ByteArray).size = 1 := rfl
        rw [e]
        omega
      go_wp2
      go_ret
      exact ⟨rfl, HB.out⟩
    · have hm1 : 1 ≤ m := by omega
      obtain ⟨f', rfl⟩ : ∃ f', f = f' + 1 := ⟨f - 1, by omega⟩
      have hst := finT_step f' m t h0
      rw [HF.out] at hst
      have HST := Lib.hid hst
      have hz1 : (strOfNums [48 + (m : Int) % 10]).size = 1 := by rw [strOfNums_size]; rfl
      have hss : (strOfNums [48 + (m : Int) % 10]).size + t.size ≤ 9223372036854775807 := by rw [hz1]; omega
      clear hst HF h0
      go_wp2
      go_roundw
      case rel => exact ⟨f', m / 10, _, by omega, by rw [ByteArray.size_append, hz1]; omega, by go_num, rfl, HST.out.symm, HB.out.alloc HB.out.size _⟩
      case measure => simp only [intOf]; omega
/-- From w to w' only rows of the types m in blocks of [lo, hi) are written; each keeps its type and size. -/
structure Chg (m : TypeId → Bool) (lo hi : Nat) (w w' : World) : Prop where
  os : w'.os = w.os
  tape : w'.tape = w.tape
  output : w'.output = w.output
  size : w.heap.size ≤ w'.heap.size
  out : ∀ k, k < w.heap.size → (k < lo ∨ hi ≤ k) → w'.heap[k]? = w.heap[k]?
  shape : ∀ (k : Nat) (cur : Array Value) (t : TypeId), w.heap[k]? = some (Obj.cells cur t (0, 0)) → ∃ cur' : Array Value, w'.heap[k]? = some (Obj.cells cur' t (0, 0)) ∧ cur'.size = cur.size ∧ (m t = false → cur' = cur)
theorem Chg.refl (m : TypeId → Bool) (lo hi : Nat) (w : World) : Chg m lo hi w w := ⟨rfl, rfl, rfl, Nat.le_refl _, fun _ _ _ => rfl, fun k cur t h => ⟨cur, h, rfl, fun _ => rfl⟩⟩
theorem Chg.trans {m : TypeId → Bool} {lo hi : Nat} {w w1 w2 : World} (h : Chg m lo hi w w1) (h2 : Chg m lo hi w1 w2) : Chg m lo hi w w2 :=
  ⟨h2.os.trans h.os, h2.tape.trans h.tape, h2.output.trans h.output, Nat.le_trans h.size h2.size, fun k hk hr => (h2.out k (Nat.lt_of_lt_of_le hk h.size) hr).trans (h.out k hk hr), fun k cur t hk => by
    obtain ⟨c1, e1, s1, q1⟩ := h.shape k cur t hk
    obtain ⟨c2, e2, s2, q2⟩ := h2.shape k c1 t e1
    exact ⟨c2, e2, s2.trans s1, fun hm => (q2 hm).trans (q1 hm)⟩⟩
theorem Chg.weaken {m m' : TypeId → Bool} {lo hi : Nat} {w w' : World} (h : Chg m lo hi w w') (hm : ∀ t, m' t = false → m t = false) : Chg m' lo hi w w' :=
  ⟨h.os, h.tape, h.output, h.size, h.out, fun k cur t hk => by
    obtain ⟨c1, e1, s1, q1⟩ := h.shape k cur t hk
    exact ⟨c1, e1, s1, fun q => q1 (hm t q)⟩⟩
theorem chg_below {m : TypeId → Bool} {lo hi : Nat} {w w' : World} (hb : Below w.heap.size w w') : Chg m lo hi w w' :=
  ⟨hb.os, hb.tape, hb.output, hb.size, fun k hk _ => hb.block k hk, fun k cur t hk => ⟨cur, (hb.block k (Array.getElem?_eq_some_iff.1 hk).1).trans hk, rfl, fun _ => rfl⟩⟩
theorem chg_set {m : TypeId → Bool} {lo hi g o : Nat} {w : World} {cur : Array Value} {t : TypeId} (hg : w.heap[g]? = some (.cells cur t (0, 0))) (h1 : lo ≤ g) (h2 : g < hi) (hm : m t = true) (y : Value) : Chg m lo hi w (w.setCell ⟨g, o, none⟩ y) := by
  refine ⟨rfl, rfl, rfl, by simp, fun k hk hr => heap_setCell_other w ⟨g, o, none⟩ k y (show k ≠ g by omega), fun k c t' hk => ?_⟩
  by_cases e : k = g
  · subst e
    rw [hg] at hk
    simp only [Option.some.injEq, Obj.cells.injEq] at hk
    obtain ⟨rfl, rfl, _⟩ := hk
    exact ⟨_, heap_setCell_same w k o cur t y hg, by simp, fun q => by rw [hm] at q; cases q⟩
  · exact ⟨c, (heap_setCell_other w ⟨g, o, none⟩ k y e).trans hk, rfl, fun _ => rfl⟩
theorem Af.chg {w0 w w' : World} {m : TypeId → Bool} {lo hi : Nat} (h : Af w0 w) (hc : Chg m lo hi w w') (hl : w0.heap.size ≤ lo) : Af w0 w' :=
  Below.trans h ⟨hc.os, hc.tape, hc.output, hc.size, fun k hk => hc.out k (Nat.lt_of_lt_of_le hk h.size) (.inl (by omega))⟩
/-- A slice whose n elements of k cells may be written. -/
def Wr (w : World) (t : TypeId) (z lo hi : Nat) (v : Value) (n : Nat) : Prop :=
  ∃ a cap, v = .slice a n cap ∧ (0 < n → ∃ g o cur, a = some ⟨g, o, none⟩ ∧ (lo ≤ g ∧ g < hi) ∧ w.heap[g]? = some (.cells cur t (0, 0)) ∧ o + n * z ≤ cur.size)
theorem Wr.chg {w w' : World} {t : TypeId} {z lo hi n : Nat} {v : Value} {m : TypeId → Bool} {lo' hi' : Nat} (h : Wr w t z lo hi v n) (hc : Chg m lo' hi' w w') : Wr w' t z lo hi v n := by
  obtain ⟨a, cap, e, h3⟩ := h
  refine ⟨a, cap, e, fun h0 => ?_⟩
  obtain ⟨g, o, cur, r1, r2, r3, r4⟩ := h3 h0
  obtain ⟨c', e', s', _⟩ := hc.shape g cur t r3
  exact ⟨g, o, c', r1, r2, e', by rw [s']; exact r4⟩
theorem wr_cell {w : World} {g o i : Nat} {cur : Array Value} {t : TypeId} (hg : w.heap[g]? = some (.cells cur t (0, 0))) (hi : o + i < cur.size) : (∃ y, w.cell? ⟨g, o + i, none⟩ = some y) ∧ w.frozen? ⟨g, o + i, none⟩ = false :=
  ⟨⟨_, by rw [cell_of_row w g _ cur _ (0, 0) hg, Array.getElem?_eq_getElem hi]⟩, frozen_of_row w g _ _ _ hg⟩
set_option maxRecDepth 100000 in
set_option maxHeartbeats 1000000 in
theorem mark_strW (v : Value) (n : Nat) (lo hi : Nat) (s : Int) (w : World) (hv : Wr w 9 1 lo hi v n) (hn : n ≤ 1048576) (hs0 : 1 ≤ s) (hs1 : s ≤ 17592186044416) :
    Calls Tryd.prog 26 #[v, .int .i64 s] w fun e w' => e = .returned (.int .i64 (s + n)) ∧ Chg (fun t => t == 9) lo hi w w' := by
  obtain ⟨sn, hsn⟩ : ∃ sn : Nat, s = (sn : Int) := ⟨s.toNat, by omega⟩
  subst hsn
  have HV0 := Lib.hid hv
  obtain ⟨a, cap, rfl, h3⟩ := hv
  clear h3
  go_enter Tryd.func26, Tryd.ntmps26
  go_wp2
  go_loopw [1, 5] (fun kv i wr => ∃ j : Nat, j ≤ n ∧ i = .int .i64 j ∧ kv = .int .i64 ((sn : Int) + j) ∧ Chg (fun t => t == 9) lo hi w wr) (fun _ i _ => n - (intOf i).toNat)
  case atStart => exact ⟨0, by omega, rfl, by simp, Chg.refl _ _ _ _⟩
  case round =>
    obtain ⟨j, hj, rfl, rfl, hc⟩ := hrel
    have HC := Lib.hid hc
    clear hc
    by_cases hlt : j < n
    · obtain ⟨a', cap', e, h3⟩ := HV0.out
      simp only [Value.slice.injEq] at e
      obtain ⟨g, o, cur, rfl, hgl, hg, hsz⟩ := h3 (by omega)
      obtain ⟨rfl, _, rfl⟩ := e
      have HM1 := Lib.hid (fun W => (by have := mark_textW (sn + j) W (by omega) (by omega); rw [show ((sn + j : Nat) : Int) = (sn : Int) + (j : Int) by omega] at this; exact this))
      have y1 : (j : Int) < (n : Int) := by omega
      have y0 : (0 : Int) ≤ (j : Int) := by omega
      have HGL := Lib.hid hgl
      have HG := Lib.hid hg
      clear h3 hg hgl
      go_wp2_with fail
      refine (HM1.out _).mono ?_
      rintro e w2 ⟨rfl, b2⟩
      have C2 := Lib.hid (HC.out.trans (chg_below b2))
      obtain ⟨c', e', s', _⟩ := C2.out.shape g cur 9 HG.out
      obtain ⟨⟨y, d1⟩, f1⟩ := wr_cell (o := o) (i := j) e' (by omega)
      have C3 := Lib.hid (C2.out.trans (chg_set e' HGL.out.1 HGL.out.2 rfl (o := o + j) (.string (mkT (sn + j)))))
      clear b2 e' C2 HC
      go_wp2
      go_roundw
      case rel => exact ⟨j + 1, by omega, by go_num, by go_num, C3.out⟩
      case measure => simp only [intOf]; omega
    · obtain rfl : j = n := by omega
      go_wp2
      go_ret
      exact ⟨rfl, HC.out⟩
set_option maxRecDepth 100000 in
set_option maxHeartbeats 1000000 in
theorem mark_idW (v : Value) (n : Nat) (lo hi : Nat) (s : Int) (w : World) (hv : Wr w 30 2 lo hi v n) (hn : n ≤ 1048576) (hs0 : 1 ≤ s) (hs1 : s ≤ 17592186044416) :
    Calls Tryd.prog 13 #[v, .int .i64 s] w fun e w' => e = .returned (.int .i64 (s + 2 * (n : Int))) ∧ Chg (fun t => t == 30) lo hi w w' := by
  have HV0 := Lib.hid hv
  obtain ⟨a, cap, rfl, h3⟩ := hv
  clear h3
  go_enter Tryd.func13, Tryd.ntmps13
  go_wp2
  go_loopw [1, 5] (fun kv i wr => ∃ j : Nat, j ≤ n ∧ i = .int .i64 j ∧ kv = .int .i64 (s + 2 * (j : Int)) ∧ Chg (fun t => t == 30) lo hi w wr) (fun _ i _ => n - (intOf i).toNat)
  case atStart => exact ⟨0, by omega, rfl, by simp, Chg.refl _ _ _ _⟩
  case round =>
    obtain ⟨j, hj, rfl, rfl, hc⟩ := hrel
    have HC := Lib.hid hc
    clear hc
    by_cases hlt : j < n
    · obtain ⟨a', cap', e, h3⟩ := HV0.out
      simp only [Value.slice.injEq] at e
      obtain ⟨g, o, cur, rfl, hgl, hg, hsz⟩ := h3 (by omega)
      obtain ⟨rfl, _, rfl⟩ := e
      obtain ⟨c', e', s', _⟩ := HC.out.shape g cur 30 hg
      obtain ⟨⟨y, d1⟩, f1⟩ := wr_cell (o := o) (i := j * 2) e' (by omega)
      obtain ⟨⟨z, d2⟩, f2⟩ := wr_cell (o := o + j * 2) (i := 1) e' (by omega)
      have C2 := Lib.hid (HC.out.trans (chg_set (m := fun t => t == 30) e' hgl.1 hgl.2 rfl (o := o + j * 2) (.int .i64 (s + 2 * (j : Int)))))
      obtain ⟨c3, e3, s3, _⟩ := C2.out.shape g cur 30 hg
      have C3 := Lib.hid (C2.out.trans (chg_set (m := fun t => t == 30) e3 hgl.1 hgl.2 rfl (o := o + j * 2 + 1) (.int .i64 (s + 2 * (j : Int) + 1))))
      have y1 : (j : Int) < (n : Int) := by omega
      have y0 : (0 : Int) ≤ (j : Int) := by omega
      clear h3 hg e' e3 C2 HC
      go_wp2
      go_roundw
      case rel => exact ⟨j + 1, by omega, by go_num, by go_num, C3.out⟩
      case measure => simp only [intOf]; omega
    · obtain rfl : j = n := by omega
      go_wp2
      go_ret
      exact ⟨rfl, HC.out⟩
end Go.Proofs.YtlbebeedkcdgpaaDoor
