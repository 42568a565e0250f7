/- ReadVar, and the program's reader of fields. -/
import Derived.Test.YtmdacoppkjclmaaDoorReadM
import Derived.Test.YtmdacoppkjclmaaDoorReadVarI
import Derived.Test.YtmdacoppkjclmaaDoorStrG
import Derived.Test.YtmdacoppkjclmaaDoorShelf
namespace Go.Proofs.YtmdacoppkjclmaaDoor
open Go.RowKit Go.PlainAid
set_option linter.unusedVariables false

theorem impl_rv (s : ByteArray) (w : World) (hs : s.size ≤ 1048576) : Calls Tryd.prog 74 #[.string s] w fun e w' => e = .returned (.tuple #[.int .i64 (rvN s), .int .i64 (rvK s : Nat)]) ∧ w = w' := by
  have hm : s.size ≤ maxLen := by unfold maxLen; omega
  by_cases h : rvK s = 0
  · have hn : rvN s = 0 := by unfold rvN; rw [if_pos h]
    rw [h, hn]
    rcases first_low s with ⟨t, ht, h6, hh, hb⟩ | hh
    · have e := rv_hit s t ht h6 hh hb
      have hz : ¬ (t = 0 ∨ bt s t ≠ 0) := by
        intro hz
        unfold rvK at h
        rw [e] at h
        simp only at h
        rw [if_pos hz] at h
        omega
      have hb0 : bt s t = 0 := Decidable.byContradiction fun h => hz (Or.inr h)
      exact impl_rv_zero s t w hm ht h6 hh hb0 (by omega)
    · exact impl_rv_none s w hm hh
  · obtain ⟨t, e, ht, h6, hh, hb, hz⟩ := rvK_pos s h
    have hn : rvN s = acc s (t + 1) := by unfold rvN; rw [if_neg h, e]
    rw [hn, e]
    exact (impl_rv_hit s t w hm ht h6 hh hb hz).mono fun e' w' ⟨he, hw⟩ => ⟨by rw [he]; simp, hw⟩

/-- Block g is a reader with r before it. -/
def Rdr (w : World) (g : Nat) (r : ByteArray) (t : Bool) : Prop := w.heap[g]? = some (.cells #[.string r, .bool t] 82 (0, 0))
theorem Rdr.lt {w : World} {g : Nat} {r : ByteArray} {t : Bool} (h : Rdr w g r t) : g < w.heap.size := (Array.getElem?_eq_some_iff.1 h).1
theorem Rdr.c0 {w : World} {g : Nat} {r : ByteArray} {t : Bool} (h : Rdr w g r t) : w.cell? ⟨g, 0, none⟩ = some (.string r) := by rw [Joins.cell_of_block h]; rfl
theorem Rdr.c1 {w : World} {g : Nat} {r : ByteArray} {t : Bool} (h : Rdr w g r t) : w.cell? ⟨g, 1, none⟩ = some (.bool t) := by rw [Joins.cell_of_block h]; rfl
theorem Rdr.free {w : World} {g : Nat} {r : ByteArray} {t : Bool} (h : Rdr w g r t) (i : Nat) : w.frozen? ⟨g, i, none⟩ = false := Joins.unfrozen_of_block h i
theorem Rdr.setR {w : World} {g : Nat} {r : ByteArray} {t : Bool} (h : Rdr w g r t) (q : ByteArray) : Rdr (w.setCell ⟨g, 0, none⟩ (.string q)) g q t := by
  unfold Rdr at *
  rw [heap_setCell_same w g 0 _ _ _ h]
  rfl
theorem Rdr.setT {w : World} {g : Nat} {r : ByteArray} {t : Bool} (h : Rdr w g r t) (q : Bool) : Rdr (w.setCell ⟨g, 1, none⟩ (.bool q)) g r q := by
  unfold Rdr at *
  rw [heap_setCell_same w g 1 _ _ _ h]
  rfl
theorem Rdr.other {w w' : World} {g k : Nat} {r : ByteArray} {t : Bool} (h : Rdr w g r t) (hb : w.grownBy w' (some k)) (hne : g ≠ k) : Rdr w' g r t := by
  have := h.lt
  unfold Rdr at *
  rw [hb.block g this (by simpa using hne)]
  exact h
theorem Rdr.after {w w' : World} {g : Nat} {r : ByteArray} {t : Bool} (h : Rdr w g r t) (hb : Below w.heap.size w w') : Rdr w' g r t := by
  have := h.lt
  unfold Rdr at *
  rw [hb.block g this]
  exact h
theorem setG (w : World) (g o : Nat) (x : Value) : w.grownBy (w.setCell ⟨g, o, none⟩ x) (some g) :=
  ⟨rfl, rfl, rfl, by simp, fun k _ hne => heap_setCell_other w ⟨g, o, none⟩ k x (fun e => hne (by simp [e]))⟩
/-- The reader at a state of the plain words. -/
def RdrO (w : World) (g : Nat) : Option ByteArray → Prop
  | some r => Rdr w g r false ∧ r.size ≤ 1048576
  | none => ∃ r, Rdr w g r true ∧ r.size ≤ 1048576
theorem RdrO.other {w w' : World} {g k : Nat} {st : Option ByteArray} (h : RdrO w g st) (hb : w.grownBy w' (some k)) (hne : g ≠ k) : RdrO w' g st := by
  cases st with
  | none => obtain ⟨r, h1, h2⟩ := h; exact ⟨r, h1.other hb hne, h2⟩
  | some r => exact ⟨h.1.other hb hne, h.2⟩
theorem RdrO.after {w w' : World} {g : Nat} {st : Option ByteArray} (h : RdrO w g st) (hb : Below w.heap.size w w') : RdrO w' g st := by
  cases st with
  | none => obtain ⟨r, h1, h2⟩ := h; exact ⟨r, h1.after hb, h2⟩
  | some r => exact ⟨h.1.after hb, h.2⟩
theorem RdrO.lt {w : World} {g : Nat} {st : Option ByteArray} (h : RdrO w g st) : g < w.heap.size := by
  cases st with
  | none => obtain ⟨r, h1, _⟩ := h; exact h1.lt
  | some r => exact h.1.lt

set_option maxHeartbeats 1000000 in
theorem number_c (w : World) (g : Nat) (st : Option ByteArray) (hR : RdrO w g st) :
    Calls Tryd.prog 58 #[.pointer (some ⟨g, 0, none⟩)] w fun e w' => e = .returned (.int .i64 (oN st).1) ∧ RdrO w' g (oN st).2 ∧ w.grownBy w' (some g) := by
  cases st with
  | none =>
    obtain ⟨r, h, hr⟩ := hR
    have a0 := h.c0
    have a1 := h.c1
    have f1 := h.free 1
    have H := Lib.hid h
    clear h
    rw [oN_none]
    cases hk : (((rvK r : Nat) : Int) == 0)
    · go_enter Tryd.func58, Tryd.ntmps58
      go_wp2_with (go_at_call 74; refine (impl_rv r _ hr).mono ?_; rintro e w' ⟨rfl, rfl⟩)
      go_ret
      exact ⟨rfl, ⟨r, H.out, hr⟩, World.grownBy.refl _ _⟩
    · go_enter Tryd.func58, Tryd.ntmps58
      go_wp2_with (go_at_call 74; refine (impl_rv r _ hr).mono ?_; rintro e w' ⟨rfl, rfl⟩)
      go_ret
      exact ⟨rfl, ⟨r, H.out.setT true, hr⟩, setG _ _ _ _⟩
  | some r =>
    obtain ⟨h, hr⟩ := hR
    have a0 := h.c0
    have a1 := h.c1
    have f0 := h.free 0
    have f1 := h.free 1
    have H := Lib.hid h
    clear h
    by_cases hk0 : rvK r = 0
    · rw [oN_bad r hk0]
      have hk : (((rvK r : Nat) : Int) == 0) = true := by rw [hk0]; rfl
      clear hk0
      go_enter Tryd.func58, Tryd.ntmps58
      go_wp2_with (go_at_call 74; refine (impl_rv r _ hr).mono ?_; rintro e w' ⟨rfl, rfl⟩)
      go_ret
      exact ⟨rfl, ⟨r, H.out.setT true, hr⟩, setG _ _ _ _⟩
    · rw [oN_ok r hk0]
      have hk : (((rvK r : Nat) : Int) == 0) = false := beq_no (by omega)
      have hle := rvK_le r
      clear hk0
      go_enter Tryd.func58, Tryd.ntmps58
      go_wp2_with (go_at_call 74; refine (impl_rv r _ hr).mono ?_; rintro e w' ⟨rfl, rfl⟩)
      go_ret
      have hsz : (r.extract (rvK r) r.size).size ≤ 1048576 := by rw [ext_size r _ _ (Nat.le_refl _)]; omega
      exact ⟨rfl, ⟨H.out.setR _, hsz⟩, setG _ _ _ _⟩

set_option maxHeartbeats 400000 in
theorem clone_c (s : ByteArray) (w : World) (hs : s.size ≤ 1048576) : Calls Tryd.prog 82 #[.string s] w fun e w' => e = .returned (.string s) ∧ Below w.heap.size w w' := by
  go_enter Tryd.func82, Tryd.ntmps82
  go_wp2_with (go_at_call 86; refine (Tryd.stringslite_Clone s _ (by omega)).mono ?_; rintro e w' ⟨rfl, hb⟩)
  go_ret
  exact ⟨rfl, hb⟩

set_option maxHeartbeats 1000000 in
theorem bytes_c (w : World) (g : Nat) (n : Int) (st : Option ByteArray) (hR : RdrO w g st) (h0 : 0 ≤ n) :
    Calls Tryd.prog 75 #[.pointer (some ⟨g, 0, none⟩), .int .i64 n] w fun e w' => e = .returned (.string (oB n st).1) ∧ RdrO w' g (oB n st).2 ∧ w.grownBy w' (some g) := by
  cases st with
  | none =>
    obtain ⟨r, h, hr⟩ := hR
    have a0 := h.c0
    have a1 := h.c1
    have f1 := h.free 1
    have H := Lib.hid h
    clear h
    rw [oB_none]
    by_cases hk : (r.size : Int) < n
    · go_enter Tryd.func75, Tryd.ntmps75
      go_wp2
      go_ret
      exact ⟨rfl, ⟨r, H.out.setT true, hr⟩, setG _ _ _ _⟩
    · go_enter Tryd.func75, Tryd.ntmps75
      go_wp2
      go_ret
      exact ⟨rfl, ⟨r, H.out, hr⟩, World.grownBy.refl _ _⟩
  | some r =>
    obtain ⟨h, hr⟩ := hR
    have a0 := h.c0
    have a1 := h.c1
    have f0 := h.free 0
    have f1 := h.free 1
    have H := Lib.hid h
    clear h
    by_cases hk : (r.size : Int) < n
    · rw [oB_bad r n hk]
      go_enter Tryd.func75, Tryd.ntmps75
      go_wp2
      go_ret
      exact ⟨rfl, ⟨r, H.out.setT true, hr⟩, setG _ _ _ _⟩
    · rw [oB_ok r n (by omega)]
      obtain ⟨m, rfl⟩ := Int.eq_ofNat_of_zero_le h0
      have hm : m ≤ r.size := by omega
      have es : (r.extract 0 m).size ≤ 1048576 := by rw [ext_size r 0 m hm]; omega
      have es2 : (r.extract m r.size).size ≤ 1048576 := by rw [ext_size r m _ (Nat.le_refl _)]; omega
      have ES2 := Lib.hid es2
      clear es2
      simp only [Int.toNat_natCast]
      go_enter Tryd.func75, Tryd.ntmps75
      go_wp2_with fail
      refine (clone_c _ _ es).mono ?_
      rintro e w1 ⟨rfl, hb⟩
      have H1 := Lib.hid (H.out.after hb)
      have G1 := Lib.hid (grown_of_below hb (some g))
      clear a0 a1 f0 f1 H hb
      have a0 := H1.out.c0
      have f0 := H1.out.free 0
      go_wp2
      go_ret
      exact ⟨rfl, ⟨H1.out.setR _, ES2.out⟩, G1.out.trans (setG _ _ _ _)⟩

set_option maxHeartbeats 400000 in
theorem text_c (w : World) (g : Nat) (st : Option ByteArray) (hR : RdrO w g st) :
    Calls Tryd.prog 59 #[.pointer (some ⟨g, 0, none⟩)] w fun e w' => e = .returned (.string (oT st).1) ∧ RdrO w' g (oT st).2 ∧ w.grownBy w' (some g) := by
  go_enter Tryd.func59, Tryd.ntmps59
  go_wp2_with fail
  refine (number_c _ g st hR).mono ?_
  rintro e w1 ⟨rfl, h1, g1⟩
  go_wp2_with fail
  refine (bytes_c _ g _ _ h1 (oN_nonneg st)).mono ?_
  rintro e w2 ⟨rfl, h2, g2⟩
  go_wp2
  go_ret
  exact ⟨rfl, h2, g1.trans g2⟩
end Go.Proofs.YtmdacoppkjclmaaDoor
