/- A bundle of texts: ReadVarI, RvI, CloneC, ReadR, ReadI, ReadP, ReadQ, ReadC. -/
import Derived.Test.YtkeoeempdkpafaaDoorVarMath
import Derived.Test.YtkeoeempdkpafaaDoorRows
import Derived.WalkKit
import Derived.WalkSpells
import Derived.WalkLawsBesides
import Derived.Lib.Hide
import Derived.Test.YtkeoeempdkpafaaDoorRD
import Derived.Test.YtkeoeempdkpafaaDoorStrs
import Derived.Test.YtkeoeempdkpafaaDoorShelf
import Derived.Test.YtkeoeempdkpafaaDoorStrG
import Derived.Test.YtkeoeempdkpafaaDoorOkC
import Derived.Laws.ResultCell
/- The walks of the program's ReadVar, for every string. -/
namespace Go.Proofs.YtkeoeempdkpafaaDoor
open Go.RowKit Go.PlainAid
set_option linter.unusedVariables false


set_option maxHeartbeats 400000 in
theorem impl_rv_hit (s : ByteArray) (t : Nat) (w : World) (hs : s.size ≤ maxLen) (ht : t < s.size) (h6 : t ≤ 6) (hh : ∀ i, i < t → 128 ≤ bt s i) (hb : bt s t < 128) (hz : t = 0 ∨ bt s t ≠ 0) :
    Calls Tryd.prog 90 #[.string s] w fun e w' => e = .returned (.tuple #[.int .i64 (acc s (t + 1)), .int .i64 ((t : Int) + 1)]) ∧ w = w' := by
  unfold maxLen at hs
  have HH := Lib.hid hh
  have HB := Lib.hid hb
  have HZ := Lib.hid hz
  clear hh hb hz
  go_enter Tryd.func90, Tryd.ntmps90
  go_wp2
  all_goals
    go_loop [4, 10] (fun a i => ∃ k : Nat, k ≤ t ∧ i = .int .i64 k ∧ a = .int .i64 (acc s k)) (fun _ i => (7 - intOf i).toNat)
    case atStart => exact ⟨0, by omega, rfl, rfl⟩
    case round =>
      obtain ⟨k, hk, rfl, rfl⟩ := hrel
      have hks : k < s.size := by omega
      have hg := get_bt s k hks
      have b0 := bt_nonneg s k
      have b1 := bt_le s k
      have a0 := acc_nonneg s k
      have sg := shl_group s k (by omega)
      have og := or_group s k (by omega)
      by_cases hlt : k < t
      · have h128 : 128 ≤ bt s k := HH.out k hlt
        go_wp2
        go_round
        case rel => exact ⟨k + 1, by omega, by go_num, rfl⟩
        case measure => simp only [intOf]; omega
      · obtain rfl : k = t := by omega
        have h128 : bt s k < 128 := HB.out
        go_wp2
        all_goals first | (go_ret2; exact ⟨rfl, rfl⟩) | (exfalso; rcases HZ.out with h | h <;> omega)

set_option maxHeartbeats 400000 in
theorem impl_rv_zero (s : ByteArray) (t : Nat) (w : World) (hs : s.size ≤ maxLen) (ht : t < s.size) (h6 : t ≤ 6) (hh : ∀ i, i < t → 128 ≤ bt s i) (hb : bt s t = 0) (hz : 0 < t) :
    Calls Tryd.prog 90 #[.string s] w fun e w' => e = .returned (.tuple #[.int .i64 0, .int .i64 0]) ∧ w = w' := by
  unfold maxLen at hs
  have HH := Lib.hid hh
  have HB := Lib.hid hb
  clear hh hb
  go_enter Tryd.func90, Tryd.ntmps90
  go_wp2
  all_goals
    go_loop [4, 10] (fun a i => ∃ k : Nat, k ≤ t ∧ i = .int .i64 k ∧ a = .int .i64 (acc s k)) (fun _ i => (7 - intOf i).toNat)
    case atStart => exact ⟨0, by omega, rfl, rfl⟩
    case round =>
      obtain ⟨k, hk, rfl, rfl⟩ := hrel
      have hks : k < s.size := by omega
      have hg := get_bt s k hks
      have b0 := bt_nonneg s k
      have b1 := bt_le s k
      have a0 := acc_nonneg s k
      have sg := shl_group s k (by omega)
      have og := or_group s k (by omega)
      by_cases hlt : k < t
      · have h128 : 128 ≤ bt s k := HH.out k hlt
        go_wp2
        go_round
        case rel => exact ⟨k + 1, by omega, by go_num, rfl⟩
        case measure => simp only [intOf]; omega
      · obtain rfl : k = t := by omega
        have h128 : bt s k < 1 := by have := HB.out; omega
        go_wp2
        go_ret2
        exact ⟨rfl, rfl⟩

set_option maxHeartbeats 400000 in
theorem impl_rv_none (s : ByteArray) (w : World) (hs : s.size ≤ maxLen) (hh : ∀ i, i < 7 → i < s.size → 128 ≤ bt s i) :
    Calls Tryd.prog 90 #[.string s] w fun e w' => e = .returned (.tuple #[.int .i64 0, .int .i64 0]) ∧ w = w' := by
  unfold maxLen at hs
  have HH := Lib.hid hh
  clear hh
  go_enter Tryd.func90, Tryd.ntmps90
  go_wp2
  all_goals
    go_loop [4, 10] (fun a i => ∃ k : Nat, k ≤ 7 ∧ k ≤ s.size ∧ i = .int .i64 k ∧ a = .int .i64 (acc s k)) (fun _ i => (7 - intOf i).toNat)
    case atStart => exact ⟨0, by omega, by omega, rfl, rfl⟩
    case round =>
      obtain ⟨k, hk, hk2, rfl, rfl⟩ := hrel
      by_cases hlt : k < 7 ∧ k < s.size
      · obtain ⟨hl7, hks⟩ := hlt
        have hg := get_bt s k hks
        have b0 := bt_nonneg s k
        have b1 := bt_le s k
        have a0 := acc_nonneg s k
        have sg := shl_group s k (by omega)
        have og := or_group s k (by omega)
        have h128 : 128 ≤ bt s k := HH.out k hl7 hks
        go_wp2
        go_round
        case rel => exact ⟨k + 1, by omega, by omega, by go_num, rfl⟩
        case measure => simp only [intOf]; omega
      · go_wp2
        go_ret2
        exact ⟨rfl, rfl⟩
end Go.Proofs.YtkeoeempdkpafaaDoor
/- ReadVar, by one contract. -/
namespace Go.Proofs.YtkeoeempdkpafaaDoor
open Go.RowKit Go.PlainAid
set_option linter.unusedVariables false

theorem impl_rv (s : ByteArray) (w : World) (hs : s.size ≤ 1048576) : Calls Tryd.prog 90 #[.string s] w fun e w' => e = .returned (.tuple #[.int .i64 (rvN s), .int .i64 (rvK s : Nat)]) ∧ w = w' := by
  have hm : s.size ≤ maxLen := by unfold maxLen; omega
  by_cases h : rvK s = 0
  · have hn : rvN s = 0 := by unfold rvN; rw [if_pos h]
    rw [h, hn]
    rcases first_low s with ⟨t, ht, h6, hh, hb⟩ | hh
    · have e := rv_hit s t ht h6 hh hb
      have hz : ¬ (t = 0 ∨ bt s t ≠ 0) := by
        intro hz
        unfold rvK at h
        rw [e] at h
        simp only at h
        rw [if_pos hz] at h
        omega
      have hb0 : bt s t = 0 := Decidable.byContradiction fun h => hz (Or.inr h)
      exact impl_rv_zero s t w hm ht h6 hh hb0 (by omega)
    · exact impl_rv_none s w hm hh
  · obtain ⟨t, e, ht, h6, hh, hb, hz⟩ := rvK_pos s h
    have hn : rvN s = acc s (t + 1) := by unfold rvN; rw [if_neg h, e]
    rw [hn, e]
    exact (impl_rv_hit s t w hm ht h6 hh hb hz).mono fun e' w' ⟨he, hw⟩ => ⟨by rw [he]; simp, hw⟩

end Go.Proofs.YtkeoeempdkpafaaDoor
/- strings.Clone: the same string. -/
namespace Go.Proofs.YtkeoeempdkpafaaDoor
open Go.RowKit Go.PlainAid
set_option linter.unusedVariables false

set_option maxHeartbeats 400000 in
theorem clone_c (s : ByteArray) (w : World) (hs : s.size ≤ 1048576) : Calls Tryd.prog 128 #[.string s] w fun e w' => e = .returned (.string s) ∧ Below w.heap.size w w' := by
  go_enter Tryd.func128, Tryd.ntmps128
  go_wp2_with (go_at_call 134; refine (Tryd.stringslite_Clone s _ (by omega)).mono ?_; rintro e w' ⟨rfl, hb⟩)
  go_ret
  exact ⟨rfl, hb⟩

end Go.Proofs.YtkeoeempdkpafaaDoor
/- ReadVar, and the program's reader of fields. -/
namespace Go.Proofs.YtkeoeempdkpafaaDoor
open Go.RowKit Go.PlainAid
set_option linter.unusedVariables false

/-- Block g is a reader, of whatever type, with r before it. -/
def Rdr (w : World) (g : Nat) (r : ByteArray) (t : Bool) : Prop := ∃ ty, w.heap[g]? = some (.cells #[.string r, .bool t] ty (0, 0))
theorem Rdr.lt {w : World} {g : Nat} {r : ByteArray} {t : Bool} (h : Rdr w g r t) : g < w.heap.size := by obtain ⟨_, h⟩ := h; exact (Array.getElem?_eq_some_iff.1 h).1
theorem Rdr.c0 {w : World} {g : Nat} {r : ByteArray} {t : Bool} (h : Rdr w g r t) : w.cell? ⟨g, 0, none⟩ = some (.string r) := by obtain ⟨_, h⟩ := h; rw [Joins.cell_of_block h]; rfl
theorem Rdr.c1 {w : World} {g : Nat} {r : ByteArray} {t : Bool} (h : Rdr w g r t) : w.cell? ⟨g, 1, none⟩ = some (.bool t) := by obtain ⟨_, h⟩ := h; rw [Joins.cell_of_block h]; rfl
theorem Rdr.free {w : World} {g : Nat} {r : ByteArray} {t : Bool} (h : Rdr w g r t) (i : Nat) : w.frozen? ⟨g, i, none⟩ = false := by obtain ⟨_, h⟩ := h; exact Joins.unfrozen_of_block h i
theorem Rdr.setR {w : World} {g : Nat} {r : ByteArray} {t : Bool} (h : Rdr w g r t) (q : ByteArray) : Rdr (w.setCell ⟨g, 0, none⟩ (.string q)) g q t := by
  obtain ⟨ty, h⟩ := h
  refine ⟨ty, ?_⟩
  rw [heap_setCell_same w g 0 _ _ _ h]
  rfl
theorem Rdr.setT {w : World} {g : Nat} {r : ByteArray} {t : Bool} (h : Rdr w g r t) (q : Bool) : Rdr (w.setCell ⟨g, 1, none⟩ (.bool q)) g r q := by
  obtain ⟨ty, h⟩ := h
  refine ⟨ty, ?_⟩
  rw [heap_setCell_same w g 1 _ _ _ h]
  rfl
theorem Rdr.other {w w' : World} {g k : Nat} {r : ByteArray} {t : Bool} (h : Rdr w g r t) (hb : w.grownBy w' (some k)) (hne : g ≠ k) : Rdr w' g r t := by
  have := h.lt
  unfold Rdr at *
  rw [hb.block g this (by simpa using hne)]
  exact h
theorem Rdr.after {w w' : World} {g : Nat} {r : ByteArray} {t : Bool} (h : Rdr w g r t) (hb : Below w.heap.size w w') : Rdr w' g r t := by
  have := h.lt
  unfold Rdr at *
  rw [hb.block g this]
  exact h
theorem setG (w : World) (g o : Nat) (x : Value) : w.grownBy (w.setCell ⟨g, o, none⟩ x) (some g) :=
  ⟨rfl, rfl, rfl, by simp, fun k _ hne => heap_setCell_other w ⟨g, o, none⟩ k x (fun e => hne (by simp [e]))⟩
/-- The reader at a state of the plain words. -/
def RdrO (w : World) (g : Nat) : Option ByteArray → Prop
  | some r => Rdr w g r false ∧ r.size ≤ 1048576
  | none => ∃ r, Rdr w g r true ∧ r.size ≤ 1048576
theorem RdrO.other {w w' : World} {g k : Nat} {st : Option ByteArray} (h : RdrO w g st) (hb : w.grownBy w' (some k)) (hne : g ≠ k) : RdrO w' g st := by
  cases st with
  | none => obtain ⟨r, h1, h2⟩ := h; exact ⟨r, h1.other hb hne, h2⟩
  | some r => exact ⟨h.1.other hb hne, h.2⟩
theorem RdrO.after {w w' : World} {g : Nat} {st : Option ByteArray} (h : RdrO w g st) (hb : Below w.heap.size w w') : RdrO w' g st := by
  cases st with
  | none => obtain ⟨r, h1, h2⟩ := h; exact ⟨r, h1.after hb, h2⟩
  | some r => exact ⟨h.1.after hb, h.2⟩
theorem RdrO.lt {w : World} {g : Nat} {st : Option ByteArray} (h : RdrO w g st) : g < w.heap.size := by
  cases st with
  | none => obtain ⟨r, h1, _⟩ := h; exact h1.lt
  | some r => exact h.1.lt

set_option maxHeartbeats 1000000 in
theorem number_c (w : World) (g : Nat) (st : Option ByteArray) (hR : RdrO w g st) :
    Calls Tryd.prog 50 #[.pointer (some ⟨g, 0, none⟩)] w fun e w' => e = .returned (.int .i64 (oN st).1) ∧ RdrO w' g (oN st).2 ∧ w.grownBy w' (some g) := by
  cases st with
  | none =>
    obtain ⟨r, h, hr⟩ := hR
    have a0 := h.c0
    have a1 := h.c1
    have f1 := h.free 1
    have H := Lib.hid h
    clear h
    rw [oN_none]
    cases hk : (((rvK r : Nat) : Int) == 0)
    · go_enter Tryd.func50, Tryd.ntmps50
      go_wp2_with (go_at_call 90; refine (impl_rv r _ hr).mono ?_; rintro e w' ⟨rfl, rfl⟩)
      go_ret
      exact ⟨rfl, ⟨r, H.out, hr⟩, World.grownBy.refl _ _⟩
    · go_enter Tryd.func50, Tryd.ntmps50
      go_wp2_with (go_at_call 90; refine (impl_rv r _ hr).mono ?_; rintro e w' ⟨rfl, rfl⟩)
      go_ret
      exact ⟨rfl, ⟨r, H.out.setT true, hr⟩, setG _ _ _ _⟩
  | some r =>
    obtain ⟨h, hr⟩ := hR
    have a0 := h.c0
    have a1 := h.c1
    have f0 := h.free 0
    have f1 := h.free 1
    have H := Lib.hid h
    clear h
    by_cases hk0 : rvK r = 0
    · rw [oN_bad r hk0]
      have hk : (((rvK r : Nat) : Int) == 0) = true := by rw [hk0]; rfl
      clear hk0
      go_enter Tryd.func50, Tryd.ntmps50
      go_wp2_with (go_at_call 90; refine (impl_rv r _ hr).mono ?_; rintro e w' ⟨rfl, rfl⟩)
      go_ret
      exact ⟨rfl, ⟨r, H.out.setT true, hr⟩, setG _ _ _ _⟩
    · rw [oN_ok r hk0]
      have hk : (((rvK r : Nat) : Int) == 0) = false := beq_no (by omega)
      have hle := rvK_le r
      clear hk0
      go_enter Tryd.func50, Tryd.ntmps50
      go_wp2_with (go_at_call 90; refine (impl_rv r _ hr).mono ?_; rintro e w' ⟨rfl, rfl⟩)
      go_ret
      have hsz : (r.extract (rvK r) r.size).size ≤ 1048576 := by rw [ext_size r _ _ (Nat.le_refl _)]; omega
      exact ⟨rfl, ⟨H.out.setR _, hsz⟩, setG _ _ _ _⟩

set_option maxHeartbeats 1000000 in
theorem bytes_c (w : World) (g : Nat) (n : Int) (st : Option ByteArray) (hR : RdrO w g st) (h0 : 0 ≤ n) :
    Calls Tryd.prog 110 #[.pointer (some ⟨g, 0, none⟩), .int .i64 n] w fun e w' => e = .returned (.string (oB n st).1) ∧ RdrO w' g (oB n st).2 ∧ w.grownBy w' (some g) := by
  cases st with
  | none =>
    obtain ⟨r, h, hr⟩ := hR
    have a0 := h.c0
    have a1 := h.c1
    have f1 := h.free 1
    have H := Lib.hid h
    clear h
    rw [oB_none]
    by_cases hk : (r.size : Int) < n
    · go_enter Tryd.func110, Tryd.ntmps110
      go_wp2
      go_ret
      exact ⟨rfl, ⟨r, H.out.setT true, hr⟩, setG _ _ _ _⟩
    · go_enter Tryd.func110, Tryd.ntmps110
      go_wp2
      go_ret
      exact ⟨rfl, ⟨r, H.out, hr⟩, World.grownBy.refl _ _⟩
  | some r =>
    obtain ⟨h, hr⟩ := hR
    have a0 := h.c0
    have a1 := h.c1
    have f0 := h.free 0
    have f1 := h.free 1
    have H := Lib.hid h
    clear h
    by_cases hk : (r.size : Int) < n
    · rw [oB_bad r n hk]
      go_enter Tryd.func110, Tryd.ntmps110
      go_wp2
      go_ret
      exact ⟨rfl, ⟨r, H.out.setT true, hr⟩, setG _ _ _ _⟩
    · rw [oB_ok r n (by omega)]
      obtain ⟨m, rfl⟩ := Int.eq_ofNat_of_zero_le h0
      have hm : m ≤ r.size := by omega
      have es : (r.extract 0 m).size ≤ 1048576 := by rw [ext_size r 0 m hm]; omega
      have es2 : (r.extract m r.size).size ≤ 1048576 := by rw [ext_size r m _ (Nat.le_refl _)]; omega
      have ES2 := Lib.hid es2
      clear es2
      simp only [Int.toNat_natCast]
      go_enter Tryd.func110, Tryd.ntmps110
      go_wp2_with fail
      refine (clone_c _ _ es).mono ?_
      rintro e w1 ⟨rfl, hb⟩
      have H1 := Lib.hid (H.out.after hb)
      have G1 := Lib.hid (grown_of_below hb (some g))
      clear a0 a1 f0 f1 H hb
      have a0 := H1.out.c0
      have f0 := H1.out.free 0
      go_wp2
      go_ret
      exact ⟨rfl, ⟨H1.out.setR _, ES2.out⟩, G1.out.trans (setG _ _ _ _)⟩

set_option maxHeartbeats 400000 in
theorem text_c (w : World) (g : Nat) (st : Option ByteArray) (hR : RdrO w g st) :
    Calls Tryd.prog 92 #[.pointer (some ⟨g, 0, none⟩)] w fun e w' => e = .returned (.string (oT st).1) ∧ RdrO w' g (oT st).2 ∧ w.grownBy w' (some g) := by
  go_enter Tryd.func92, Tryd.ntmps92
  go_wp2_with fail
  refine (number_c _ g st hR).mono ?_
  rintro e w1 ⟨rfl, h1, g1⟩
  go_wp2_with fail
  refine (bytes_c _ g _ _ h1 (oN_nonneg st)).mono ?_
  rintro e w2 ⟨rfl, h2, g2⟩
  go_wp2
  go_ret
  exact ⟨rfl, h2, g1.trans g2⟩
end Go.Proofs.YtkeoeempdkpafaaDoor
/- A command's chunks off the reader. -/
namespace Go.Proofs.YtkeoeempdkpafaaDoor
open Go.RowKit Go.PlainAid
set_option linter.unusedVariables false

def sI (st : Option ByteArray) : List ByteArray × Option ByteArray := if 4 < (oN st).1 then ([], none) else oI (oN st).2 (oN st).1.toNat
theorem s9_eq (s : ByteArray) : s9 s = sI (s7 s).2 := rfl
theorem RdrO.form {w : World} {g : Nat} {st : Option ByteArray} (h : RdrO w g st) : ∃ r t, Rdr w g r t ∧ r.size ≤ 1048576 := by
  cases st with
  | none => obtain ⟨r, h1, h2⟩ := h; exact ⟨r, true, h1, h2⟩
  | some r => exact ⟨r, false, h.1, h.2⟩
theorem RdrO.keep {w w' : World} {g : Nat} {row : Option Nat} {st : Option ByteArray} (h : RdrO w g st) (hb : w.grownBy w' row) (hne : some g ≠ row) : RdrO w' g st := by
  have hl := h.lt
  have hk : w'.heap[g]? = w.heap[g]? := hb.block g hl (by simpa using hne)
  cases st with
  | none => obtain ⟨r, h1, h2⟩ := h; exact ⟨r, by unfold Rdr at *; rw [hk]; exact h1, h2⟩
  | some r => exact ⟨by have h1 := h.1; unfold Rdr at *; rw [hk]; exact h1, h.2⟩
theorem grown_then {a b c : World} {row row' : Option Nat} (h : a.grownBy b row) (k : b.grownBy c row') (hr : ∀ j, row' = some j → a.heap.size ≤ j) : a.grownBy c row :=
  ⟨k.os.trans h.os, k.tape.trans h.tape, k.output.trans h.output, Nat.le_trans h.size k.size, fun i hi hne => by
    rw [k.block i (Nat.lt_of_lt_of_le hi h.size) (fun e => by have := hr i e.symm; omega)]
    exact h.block i hi hne⟩
set_option maxHeartbeats 1000000 in
theorem chunk_c (w : World) (g : Nat) (st : Option ByteArray) (hR : RdrO w g st) :
    Calls Tryd.prog 127 #[.pointer (some ⟨g, 0, none⟩)] w fun e w' => (∃ v, e = .returned v ∧ GrowsS w' w.heap.size v (sI st).1) ∧ RdrO w' g (sI st).2 ∧ w.grownBy w' (some g) := by
  have hgl := hR.lt
  have HG := Lib.hid hgl
  clear hgl
  by_cases h4 : 4 < (oN st).1
  · have e : sI st = ([], none) := by unfold sI; rw [if_pos h4]
    rw [e]
    clear e
    go_enter Tryd.func127, Tryd.ntmps127
    go_wp2_with fail
    refine (number_c _ g st hR).mono ?_
    rintro e w1 ⟨rfl, h1, g1⟩
    obtain ⟨r, t, hr, hsz⟩ := h1.form
    have a1 := hr.c1
    have f1 := hr.free 1
    have H1 := Lib.hid hr
    have G1 := Lib.hid g1
    clear h1 g1 hr
    go_wp2
    go_ret
    exact ⟨⟨_, rfl, growsS_nil _ _⟩, ⟨r, H1.out.setT true, hsz⟩, G1.out.trans (setG _ _ _ _)⟩
  · have e : sI st = oI (oN st).2 (oN st).1.toNat := by unfold sI; rw [if_neg h4]
    rw [e]
    clear e
    obtain ⟨m, hm⟩ := Int.eq_ofNat_of_zero_le (oN_nonneg st)
    have hm4 : m ≤ 4 := by omega
    rw [hm]
    simp only [Int.toNat_natCast]
    have hN := number_c w g st hR
    rw [hm] at hN
    clear h4 hR hm
    generalize (oN st).2 = st8 at *
    have HN := Lib.hid hN
    clear hN
    go_enter Tryd.func127, Tryd.ntmps127
    go_wp2_with fail
    refine HN.out.mono ?_
    rintro e w1 ⟨rfl, h1, g1⟩
    have H1 := Lib.hid h1
    have G1 := Lib.hid g1
    clear h1 g1 HN
    go_wp2
    go_loopw [4, 13] (fun v i wr => ∃ k : Nat, k ≤ m ∧ i = .int .i64 k ∧ GrowsS wr w.heap.size v (oI st8 k).1 ∧ RdrO wr g (oI st8 k).2 ∧ w.grownBy wr (some g)) (fun _ i _ => m - (intOf i).toNat)
    case atStart => exact ⟨0, by omega, rfl, growsS_nil _ _, H1.out, G1.out⟩
    case round =>
      clear H1 G1
      obtain ⟨k, hk, rfl, hv, hr, hg⟩ := hrel
      have HV := Lib.hid hv
      have HR := Lib.hid hr
      have HW := Lib.hid hg
      have hl : (oI st8 k).1.length ≤ 4 := by rw [oI_length]; omega
      clear hv hr hg
      by_cases hlt : k < m
      · go_wp2_with fail
        refine (bytes_c _ g 8 _ HR.out (by decide)).mono ?_
        rintro e w2 ⟨rfl, h2, g2⟩
        have HV2 := Lib.hid (HV.out.kept g2 HG.out)
        have HR2 := Lib.hid h2
        have HW2 := Lib.hid (HW.out.trans g2)
        clear HV HR HW h2 g2
        have hsz := HW2.out.size
        go_wp2_with (at_builtin; refine wp_append_str rfl (.tmp 15) (.tmp 18) rfl w.heap.size _ (oI st8 k).1 _ rfl (HV2.out.alloc _) w2.heap.size 1 rfl (by simp; rfl) (by omega) (by simp; omega) ?_; intro v' w' hv' hg')
        have hown : ∀ j, Value.ownBlock _ = some j → w.heap.size ≤ j := fun j hj => (World.ownsRow.lt HV2.out j hj).1
        go_roundw
        case rel =>
          refine ⟨k + 1, by omega, by go_num, hv', ?_, ?_⟩
          · refine ((HR2.out.after ((Below.refl _ _).alloc (Nat.le_refl _) _)).keep hg' ?_)
            intro e
            have := hown g e.symm
            have := HG.out
            omega
          · exact grown_then (HW2.out.trans (World.grownBy_alloc _ _ _)) hg' hown
        case measure => simp only [intOf]; omega
      · obtain rfl : k = m := by omega
        go_wp2
        go_ret
        exact ⟨⟨_, rfl, HV.out⟩, HR.out, HW.out⟩
end Go.Proofs.YtkeoeempdkpafaaDoor
/- The program's parseCmd, as far as its test. -/
namespace Go.Proofs.YtkeoeempdkpafaaDoor
open Go.RowKit Go.PlainAid
set_option linter.unusedVariables false

theorem rdr_new (w : World) (s : ByteArray) (g : Nat) (hg : w.heap.size = g) : Rdr (w.alloc (.cells #[.string s, .bool false] 95)) g s false := by
  subst hg
  exact ⟨_, heap_alloc_new w _⟩
theorem Box.keep {w w' : World} {g : Nat} {t : TypeId} {cs : Array Value} {row : Option Nat} (h : Box w g t cs) (hb : w.grownBy w' row) (hne : some g ≠ row) : Box w' g t cs := by
  have := h.lt
  unfold Box at *
  rw [hb.block g this (by simpa using hne)]
  exact h
theorem Box.set {w : World} {g : Nat} {t : TypeId} {cs : Array Value} (h : Box w g t cs) (j : Nat) (x : Value) : Box (w.setCell ⟨g, j, none⟩ x) g t (cs.setIfInBounds j x) := by
  unfold Box at *
  rw [heap_setCell_same w g j _ _ _ h]
theorem Box.set_other {w : World} {g : Nat} {t : TypeId} {cs : Array Value} (h : Box w g t cs) (a : Addr) (x : Value) (hne : g ≠ a.block) : Box (w.setCell a x) g t cs := by
  unfold Box at *
  rw [heap_setCell_other w a g x hne]
  exact h
theorem Aft.grow {w0 w w' : World} {row : Option Nat} (h : Aft w0 w) (hb : w.grownBy w' row) (hr : ∀ k, row = some k → w0.heap.size ≤ k) : Aft w0 w' := Below.grown h hb (Below.size h) hr
theorem Aft.grow1 {w0 w w' : World} {g : Nat} (h : Aft w0 w) (hb : w.grownBy w' (some g)) (hg : w0.heap.size ≤ g) : Aft w0 w' := h.grow hb (fun k hk => by cases hk; exact hg)
theorem Aft.set8 {w0 w : World} (h : Aft w0 w) (g : Nat) (hg : w0.heap.size ≤ g) (x0 x1 x2 x3 x4 x5 x6 x7 : Value) :
    Below w0.heap.size w0 ((((((((w.setCell ⟨g, 0, none⟩ x0).setCell ⟨g, 1, none⟩ x1).setCell ⟨g, 2, none⟩ x2).setCell ⟨g, 3, none⟩ x3).setCell ⟨g, 4, none⟩ x4).setCell ⟨g, 5, none⟩ x5).setCell ⟨g, 6, none⟩ x6).setCell ⟨g, 7, none⟩ x7) :=
  (((((((Below.setCell h hg x0).setCell hg x1).setCell hg x2).setCell hg x3).setCell hg x4).setCell hg x5).setCell hg x6).setCell hg x7
theorem Aft.size {w0 w : World} (h : Aft w0 w) : w0.heap.size ≤ w.heap.size := Below.size h
theorem wp_world {P : Program} {c : Code} {Q : Exit → Act → World → Prop} {a : Act} {w : World} (R : World → Prop) (hR : R w) (h : ∀ w1, R w1 → Code.wp P c Q a w1) : Code.wp P c Q a w := h w hR
theorem rdr_not {w : World} {g : Nat} {s : ByteArray} (h : RdrO w g (s9 s).2) (hn : wholeB s = false) : ∃ r t, Rdr w g r t ∧ (t = true ∨ (t = false ∧ r.toList.isEmpty = false)) := by
  unfold wholeB at hn
  cases e : (s9 s).2 with
  | none =>
    rw [e] at h
    obtain ⟨r, h1, _⟩ := h
    exact ⟨r, true, h1, .inl rfl⟩
  | some r =>
    rw [e] at h hn
    have hr := of_decide_eq_false hn
    refine ⟨r, false, h.1, .inr ⟨rfl, ?_⟩⟩
    cases e : r.toList.isEmpty
    · rfl
    · exfalso
      apply hr
      have : r = ⟨#[]⟩ := str_eq (by rw [List.isEmpty_iff.1 e, Lib.toList_data])
      rw [this]; rfl
theorem rdr_yes {w : World} {g : Nat} {s : ByteArray} (h : RdrO w g (s9 s).2) (hn : wholeB s = true) : Rdr w g ⟨#[]⟩ false := by
  unfold wholeB at hn
  cases e : (s9 s).2 with
  | none => rw [e] at hn; cases hn
  | some r =>
    rw [e] at h hn
    have hr := of_decide_eq_true hn
    rw [← size_zero hr]
    exact h.1
theorem results_cmd2 {fn : Func} {p u : Tmp} (h : fn.results = #[.cell p 33, .tmp u]) (tmps : Array Value) (w : World) (g : Nat) (x0 x1 x2 x3 x4 x5 x6 x7 y : Value)
    (hp : tmps.getD p undef = .pointer (some ⟨g, 0, none⟩)) (hu : tmps.getD u undef = y) (hc : Cells8 w g x0 x1 x2 x3 x4 x5 x6 x7) : (results fn tmps).run Tryd.prog w = .ok (.tuple #[.agg #[x0, x1, x2, x3, x4, x5, x6, x7], y]) w := by
  rw [results_cell_tmp h, hp, asAddr_ptr]
  simp only [Result.andThen]
  rw [load_cmd w g x0 x1 x2 x3 x4 x5 x6 x7 hc, hu]

set_option maxRecDepth 100000 in
set_option maxHeartbeats 8000000 in
theorem parse_no (s : ByteArray) (a : Addr) (w : World) (hS : Sent w a) (hs : s.size ≤ 1048576) (hno : wholeB s = false) :
    Calls Tryd.prog 109 #[.string s] w fun e w' => e = .returned (.tuple #[.agg #[.int .i64 0, .int .i64 0, .int .i64 0, .string ⟨#[]⟩, .string ⟨#[]⟩, .string ⟨#[]⟩, .int .i64 0, .slice none 0 0], .iface 164 (.pointer (some a))]) ∧ Below w.heap.size w w' := by
  have HNO := Lib.hid hno
  clear hno
  have HS := Lib.hid hS
  clear hS
  go_enter Tryd.func109, Tryd.ntmps109
  go_wp2_with fail
  have B0 := Lib.hid (((Box.new w 33 #[.int .i64 0, .int .i64 0, .int .i64 0, .string ⟨#[]⟩, .string ⟨#[]⟩, .string ⟨#[]⟩, .int .i64 0, .slice none 0 0] w.heap.size rfl).alloc (.cells #[.string s, .bool false] 95)).alloc (.cells #[.int .i64 0, .int .i64 0, .int .i64 0, .string ⟨#[]⟩, .string ⟨#[]⟩, .string ⟨#[]⟩, .int .i64 0, .slice none 0 0] 33))
  have HR := Lib.hid (show RdrO (((w.alloc (.cells #[.int .i64 0, .int .i64 0, .int .i64 0, .string ⟨#[]⟩, .string ⟨#[]⟩, .string ⟨#[]⟩, .int .i64 0, .slice none 0 0] 33)).alloc (.cells #[.string s, .bool false] 95)).alloc (.cells #[.int .i64 0, .int .i64 0, .int .i64 0, .string ⟨#[]⟩, .string ⟨#[]⟩, .string ⟨#[]⟩, .int .i64 0, .slice none 0 0] 33)) (w.heap.size + 1) (some s) from ⟨(rdr_new _ s (w.heap.size + 1) (by simp)).after ((Below.refl _ _).alloc (Nat.le_refl _) _), hs⟩)
  have B2 := Lib.hid (Box.new ((w.alloc (.cells #[.int .i64 0, .int .i64 0, .int .i64 0, .string ⟨#[]⟩, .string ⟨#[]⟩, .string ⟨#[]⟩, .int .i64 0, .slice none 0 0] 33)).alloc (.cells #[.string s, .bool false] 95)) 33 #[.int .i64 0, .int .i64 0, .int .i64 0, .string ⟨#[]⟩, .string ⟨#[]⟩, .string ⟨#[]⟩, .int .i64 0, .slice none 0 0] (w.heap.size + 1 + 1) (by simp))
  have HW := Lib.hid ((((Aft.refl w).alloc (.cells #[.int .i64 0, .int .i64 0, .int .i64 0, .string ⟨#[]⟩, .string ⟨#[]⟩, .string ⟨#[]⟩, .int .i64 0, .slice none 0 0] 33)).alloc (.cells #[.string s, .bool false] 95)).alloc (.cells #[.int .i64 0, .int .i64 0, .int .i64 0, .string ⟨#[]⟩, .string ⟨#[]⟩, .string ⟨#[]⟩, .int .i64 0, .slice none 0 0] 33))
  refine (number_c _ (w.heap.size + 1) (some s) HR.out).mono ?_
  rintro e w1 ⟨rfl, hr, hg⟩
  have C0 := Lib.hid (B0.out.keep hg (by simp))
  have C2 := Lib.hid (B2.out.keep hg (by simp))
  have CR := Lib.hid hr
  have CW := Lib.hid (HW.out.grow1 hg (by omega))
  clear hr hg B0 B2 HR HW
  have f := C2.out.frozen 0
  have x := C2.out.cell 0 _ rfl
  have l2 := C2.out.lt
  go_wp2_with fail
  clear f x l2
  have B2 := Lib.hid (C2.out.set 0 (.int .i64 (s1 s).1))
  have B0 := Lib.hid (C0.out.set_other ⟨(w.heap.size + 1 + 1), 0, none⟩ (.int .i64 (s1 s).1) (by simp only [ne_eq]; omega))
  have HR := Lib.hid (CR.out.keep (setG _ (w.heap.size + 1 + 1) 0 (.int .i64 (s1 s).1)) (by simp))
  have HW := Lib.hid (CW.out.grow1 (setG _ (w.heap.size + 1 + 1) 0 (.int .i64 (s1 s).1)) (by omega))
  clear C0 C2 CR CW
  refine (number_c _ (w.heap.size + 1) ((s1 s).2) HR.out).mono ?_
  rintro e w2 ⟨rfl, hr, hg⟩
  have C0 := Lib.hid (B0.out.keep hg (by simp))
  have C2 := Lib.hid (B2.out.keep hg (by simp))
  have CR := Lib.hid hr
  have CW := Lib.hid (HW.out.grow1 hg (by omega))
  clear hr hg B0 B2 HR HW
  have f := C2.out.frozen 1
  have x := C2.out.cell 1 _ rfl
  have l2 := C2.out.lt
  go_wp2_with fail
  clear f x l2
  have B2 := Lib.hid (C2.out.set 1 (.int .i64 (s2 s).1))
  have B0 := Lib.hid (C0.out.set_other ⟨(w.heap.size + 1 + 1), 1, none⟩ (.int .i64 (s2 s).1) (by simp only [ne_eq]; omega))
  have HR := Lib.hid (CR.out.keep (setG _ (w.heap.size + 1 + 1) 1 (.int .i64 (s2 s).1)) (by simp))
  have HW := Lib.hid (CW.out.grow1 (setG _ (w.heap.size + 1 + 1) 1 (.int .i64 (s2 s).1)) (by omega))
  clear C0 C2 CR CW
  refine (number_c _ (w.heap.size + 1) ((s2 s).2) HR.out).mono ?_
  rintro e w3 ⟨rfl, hr, hg⟩
  have C0 := Lib.hid (B0.out.keep hg (by simp))
  have C2 := Lib.hid (B2.out.keep hg (by simp))
  have CR := Lib.hid hr
  have CW := Lib.hid (HW.out.grow1 hg (by omega))
  clear hr hg B0 B2 HR HW
  have f := C2.out.frozen 2
  have x := C2.out.cell 2 _ rfl
  have l2 := C2.out.lt
  go_wp2_with fail
  clear f x l2
  have B2 := Lib.hid (C2.out.set 2 (.int .i64 (s3 s).1))
  have B0 := Lib.hid (C0.out.set_other ⟨(w.heap.size + 1 + 1), 2, none⟩ (.int .i64 (s3 s).1) (by simp only [ne_eq]; omega))
  have HR := Lib.hid (CR.out.keep (setG _ (w.heap.size + 1 + 1) 2 (.int .i64 (s3 s).1)) (by simp))
  have HW := Lib.hid (CW.out.grow1 (setG _ (w.heap.size + 1 + 1) 2 (.int .i64 (s3 s).1)) (by omega))
  clear C0 C2 CR CW
  refine (number_c _ (w.heap.size + 1) ((s3 s).2) HR.out).mono ?_
  rintro e w4 ⟨rfl, hr, hg⟩
  have C0 := Lib.hid (B0.out.keep hg (by simp))
  have C2 := Lib.hid (B2.out.keep hg (by simp))
  have CR := Lib.hid hr
  have CW := Lib.hid (HW.out.grow1 hg (by omega))
  clear hr hg B0 B2 HR HW
  have f := C2.out.frozen 6
  have x := C2.out.cell 6 _ rfl
  have l2 := C2.out.lt
  go_wp2_with fail
  clear f x l2
  have B2 := Lib.hid (C2.out.set 6 (.int .i64 (s4 s).1))
  have B0 := Lib.hid (C0.out.set_other ⟨(w.heap.size + 1 + 1), 6, none⟩ (.int .i64 (s4 s).1) (by simp only [ne_eq]; omega))
  have HR := Lib.hid (CR.out.keep (setG _ (w.heap.size + 1 + 1) 6 (.int .i64 (s4 s).1)) (by simp))
  have HW := Lib.hid (CW.out.grow1 (setG _ (w.heap.size + 1 + 1) 6 (.int .i64 (s4 s).1)) (by omega))
  clear C0 C2 CR CW
  refine (text_c _ (w.heap.size + 1) ((s4 s).2) HR.out).mono ?_
  rintro e w5 ⟨rfl, hr, hg⟩
  have C0 := Lib.hid (B0.out.keep hg (by simp))
  have C2 := Lib.hid (B2.out.keep hg (by simp))
  have CR := Lib.hid hr
  have CW := Lib.hid (HW.out.grow1 hg (by omega))
  clear hr hg B0 B2 HR HW
  have f := C2.out.frozen 3
  have x := C2.out.cell 3 _ rfl
  have l2 := C2.out.lt
  go_wp2_with fail
  clear f x l2
  have B2 := Lib.hid (C2.out.set 3 (.string (s5 s).1))
  have B0 := Lib.hid (C0.out.set_other ⟨(w.heap.size + 1 + 1), 3, none⟩ (.string (s5 s).1) (by simp only [ne_eq]; omega))
  have HR := Lib.hid (CR.out.keep (setG _ (w.heap.size + 1 + 1) 3 (.string (s5 s).1)) (by simp))
  have HW := Lib.hid (CW.out.grow1 (setG _ (w.heap.size + 1 + 1) 3 (.string (s5 s).1)) (by omega))
  clear C0 C2 CR CW
  refine (text_c _ (w.heap.size + 1) ((s5 s).2) HR.out).mono ?_
  rintro e w6 ⟨rfl, hr, hg⟩
  have C0 := Lib.hid (B0.out.keep hg (by simp))
  have C2 := Lib.hid (B2.out.keep hg (by simp))
  have CR := Lib.hid hr
  have CW := Lib.hid (HW.out.grow1 hg (by omega))
  clear hr hg B0 B2 HR HW
  have f := C2.out.frozen 4
  have x := C2.out.cell 4 _ rfl
  have l2 := C2.out.lt
  go_wp2_with fail
  clear f x l2
  have B2 := Lib.hid (C2.out.set 4 (.string (s6 s).1))
  have B0 := Lib.hid (C0.out.set_other ⟨(w.heap.size + 1 + 1), 4, none⟩ (.string (s6 s).1) (by simp only [ne_eq]; omega))
  have HR := Lib.hid (CR.out.keep (setG _ (w.heap.size + 1 + 1) 4 (.string (s6 s).1)) (by simp))
  have HW := Lib.hid (CW.out.grow1 (setG _ (w.heap.size + 1 + 1) 4 (.string (s6 s).1)) (by omega))
  clear C0 C2 CR CW
  refine (text_c _ (w.heap.size + 1) ((s6 s).2) HR.out).mono ?_
  rintro e w7 ⟨rfl, hr, hg⟩
  have C0 := Lib.hid (B0.out.keep hg (by simp))
  have C2 := Lib.hid (B2.out.keep hg (by simp))
  have CR := Lib.hid hr
  have CW := Lib.hid (HW.out.grow1 hg (by omega))
  clear hr hg B0 B2 HR HW
  have f := C2.out.frozen 5
  have x := C2.out.cell 5 _ rfl
  have l2 := C2.out.lt
  go_wp2_with fail
  clear f x l2
  have B2 := Lib.hid (C2.out.set 5 (.string (s7 s).1))
  have B0 := Lib.hid (C0.out.set_other ⟨(w.heap.size + 1 + 1), 5, none⟩ (.string (s7 s).1) (by simp only [ne_eq]; omega))
  have HR := Lib.hid (CR.out.keep (setG _ (w.heap.size + 1 + 1) 5 (.string (s7 s).1)) (by simp))
  have HW := Lib.hid (CW.out.grow1 (setG _ (w.heap.size + 1 + 1) 5 (.string (s7 s).1)) (by omega))
  clear C0 C2 CR CW
  refine (chunk_c _ (w.heap.size + 1) ((s7 s).2) HR.out).mono ?_
  rintro e w8 ⟨⟨cv, rfl, hcv⟩, hr, hg⟩
  have hsz7 := HW.out.size
  have C0 := Lib.hid (B0.out.keep hg (by simp))
  have C2 := Lib.hid (B2.out.keep hg (by simp))
  have CR := Lib.hid hr
  have CW := Lib.hid (HW.out.grow1 hg (by omega))
  have l27 := B2.out.lt
  have hcv2 := hcv.mono (base' := w.heap.size + 1 + 1 + 1) (by simp at l27 ⊢; omega)
  have CV := Lib.hid hcv2
  obtain ⟨ca, cn, ccap, rfl⟩ := hcv.form
  clear hr hg B0 B2 HR HW hcv hcv2 hsz7 l27
  have f := C2.out.frozen 7
  have x := C2.out.cell 7 _ rfl
  have l2 := C2.out.lt
  obtain ⟨r, t, hR, ht⟩ := rdr_not CR.out HNO.out
  have HRD := Lib.hid hR
  have a0 := hR.c0
  have a1 := hR.c1
  have hs8 := HS.out.later CW.out
  have HS8 := Lib.hid hs8
  clear hR hs8
  rcases ht with rfl | ⟨rfl, hb⟩
  all_goals
    go_wp2_with fail
    clear f x l2 a0 a1
    refine wp_world (fun w9 => Box w9 w.heap.size 33 #[.int .i64 0, .int .i64 0, .int .i64 0, .string ⟨#[]⟩, .string ⟨#[]⟩, .string ⟨#[]⟩, .int .i64 0, .slice none 0 0] ∧ Sent w9 a ∧ Aft w w9) ⟨C0.out.set_other _ _ (by simp only [ne_eq]; omega), ?_, CW.out.grow1 (setG _ _ _ _) (by omega)⟩ ?_
    · exact HS.out.later (CW.out.grow1 (setG _ _ _ _) (by omega))
    rintro w9 ⟨b9, h9, q9⟩
    have B0 := Lib.hid b9
    have HW := Lib.hid q9
    have HP := Lib.hid (sent_lt HS.out)
    unfold Sent at h9
    clear b9 q9 C0 C2 CR CW CV HRD HS8 HS HNO
    have e0 := B0.out.frozen 0
    have e1 := B0.out.frozen 1
    have e2 := B0.out.frozen 2
    have e3 := B0.out.frozen 3
    have e4 := B0.out.frozen 4
    have e5 := B0.out.frozen 5
    have e6 := B0.out.frozen 6
    have e7 := B0.out.frozen 7
    obtain ⟨x0, x1, x2, x3, x4, x5, x6, x7⟩ := B0.out.cells8
    have l0 := B0.out.lt
    have hp : (w.heap.size : Nat) ≠ 0 := by have := HP.out; simp only at this; omega
    have hp2 : ¬ ((0 : Nat) = w.heap.size) := by omega
    go_region_held3 (fun w' => w'.cell? ⟨0, 0, none⟩ = some (.iface 164 (.pointer (some a)))) (go_keep) (first | fail)
    all_goals
      go_wp2
      refine bodyPost_ret (results_cmd2 Tryd.results109 _ _ w.heap.size _ _ _ _ _ _ _ _ _ rfl rfl ⟨by go_simp, by go_simp, by go_simp, by go_simp, by go_simp, by go_simp, by go_simp, by go_simp⟩) rfl ⟨rfl, ?_⟩
      exact Below.drew (HW.out.set8 _ (Nat.le_refl _) _ _ _ _ _ _ _ _)
end Go.Proofs.YtkeoeempdkpafaaDoor
/- The program's parseCmd where all fields stand there. -/
namespace Go.Proofs.YtkeoeempdkpafaaDoor
open Go.RowKit Go.PlainAid
set_option linter.unusedVariables false

theorem showT_ge (t : ByteArray) : t.size ≤ (showT t).size := by
  unfold showT
  rw [ByteArray.size_append]
  omega
theorem raw_sizes (s : ByteArray) (h : wholeB s = true) : (rawC s).set.size ≤ s.size ∧ (rawC s).name.size ≤ s.size ∧ (rawC s).tag.size ≤ s.size := by
  have e := congrArg ByteArray.size (raw_show s h)
  unfold showB at e
  simp only [ByteArray.size_append] at e
  have h1 := showT_ge (rawC s).set
  have h2 := showT_ge (rawC s).name
  have h3 := showT_ge (rawC s).tag
  omega
theorem raw_chunk (s : ByteArray) (h : wholeB s = true) (j : Nat) (hj : j < (s9 s).1.length) : (el (s9 s).1 j).size = 8 := by
  obtain ⟨h4, r8, e8, hr⟩ := whole_parts s h
  have e9 : s9 s = oI (some r8) (s8 s).1.toNat := by unfold s9; rw [if_neg (by omega), e8]
  rw [e9] at hj ⊢
  rw [oI_length] at hj
  rw [oI_el r8 _ j (by omega) hj, ext_size _ _ _ (by omega)]
  omega
theorem GrowsS.set8 {w : World} {base : Nat} {v : Value} {l : List ByteArray} (h : GrowsS w base v l) (g : Nat) (hg : g < base) (x0 x1 x2 x3 x4 x5 x6 x7 : Value) :
    GrowsS ((((((((w.setCell ⟨g, 0, none⟩ x0).setCell ⟨g, 1, none⟩ x1).setCell ⟨g, 2, none⟩ x2).setCell ⟨g, 3, none⟩ x3).setCell ⟨g, 4, none⟩ x4).setCell ⟨g, 5, none⟩ x5).setCell ⟨g, 6, none⟩ x6).setCell ⟨g, 7, none⟩ x7) base v l :=
  (((((((h.kept (setG _ g 0 x0) hg).kept (setG _ g 1 x1) hg).kept (setG _ g 2 x2) hg).kept (setG _ g 3 x3) hg).kept (setG _ g 4 x4) hg).kept (setG _ g 5 x5) hg).kept (setG _ g 6 x6) hg).kept (setG _ g 7 x7) hg

theorem Box.setTo {w : World} {g : Nat} {t : TypeId} {cs : Array Value} (h : Box w g t cs) (j : Nat) (x : Value) (cs' : Array Value) (e : cs.setIfInBounds j x = cs') : Box (w.setCell ⟨g, j, none⟩ x) g t cs' := by
  subst e
  exact h.set j x
theorem Box.set8cells {w : World} {g : Nat} {t : TypeId} {x0 x1 x2 x3 x4 x5 x6 x7 : Value} (h : Box w g t #[x0, x1, x2, x3, x4, x5, x6, x7]) (y0 y1 y2 y3 y4 y5 y6 y7 : Value) :
    Cells8 ((((((((w.setCell ⟨g, 0, none⟩ y0).setCell ⟨g, 1, none⟩ y1).setCell ⟨g, 2, none⟩ y2).setCell ⟨g, 3, none⟩ y3).setCell ⟨g, 4, none⟩ y4).setCell ⟨g, 5, none⟩ y5).setCell ⟨g, 6, none⟩ y6).setCell ⟨g, 7, none⟩ y7) g y0 y1 y2 y3 y4 y5 y6 y7 := by
  have h0 := Box.setTo h 0 y0 #[y0, x1, x2, x3, x4, x5, x6, x7] rfl
  have h1 := Box.setTo h0 1 y1 #[y0, y1, x2, x3, x4, x5, x6, x7] rfl
  have h2 := Box.setTo h1 2 y2 #[y0, y1, y2, x3, x4, x5, x6, x7] rfl
  have h3 := Box.setTo h2 3 y3 #[y0, y1, y2, y3, x4, x5, x6, x7] rfl
  have h4 := Box.setTo h3 4 y4 #[y0, y1, y2, y3, y4, x5, x6, x7] rfl
  have h5 := Box.setTo h4 5 y5 #[y0, y1, y2, y3, y4, y5, x6, x7] rfl
  have h6 := Box.setTo h5 6 y6 #[y0, y1, y2, y3, y4, y5, y6, x7] rfl
  have h7 := Box.setTo h6 7 y7 #[y0, y1, y2, y3, y4, y5, y6, y7] rfl
  exact h7.cells8
theorem Has.cells_set8 {w : World} {g : Nat} {t : TypeId} {c : CmdM} {v : Value} (h : Has w g t c v) (g0 : Nat) (hne : g ≠ g0) (y0 y1 y2 y3 y4 y5 y6 y7 : Value) :
    ((((((((w.setCell ⟨g0, 0, none⟩ y0).setCell ⟨g0, 1, none⟩ y1).setCell ⟨g0, 2, none⟩ y2).setCell ⟨g0, 3, none⟩ y3).setCell ⟨g0, 4, none⟩ y4).setCell ⟨g0, 5, none⟩ y5).setCell ⟨g0, 6, none⟩ y6).setCell ⟨g0, 7, none⟩ y7).cell? ⟨g, 0, none⟩ = some (.int .i64 c.kind) ∧ ((((((((w.setCell ⟨g0, 0, none⟩ y0).setCell ⟨g0, 1, none⟩ y1).setCell ⟨g0, 2, none⟩ y2).setCell ⟨g0, 3, none⟩ y3).setCell ⟨g0, 4, none⟩ y4).setCell ⟨g0, 5, none⟩ y5).setCell ⟨g0, 6, none⟩ y6).setCell ⟨g0, 7, none⟩ y7).cell? ⟨g, 1, none⟩ = some (.int .i64 c.client) ∧ ((((((((w.setCell ⟨g0, 0, none⟩ y0).setCell ⟨g0, 1, none⟩ y1).setCell ⟨g0, 2, none⟩ y2).setCell ⟨g0, 3, none⟩ y3).setCell ⟨g0, 4, none⟩ y4).setCell ⟨g0, 5, none⟩ y5).setCell ⟨g0, 6, none⟩ y6).setCell ⟨g0, 7, none⟩ y7).cell? ⟨g, 2, none⟩ = some (.int .i64 c.no) ∧ ((((((((w.setCell ⟨g0, 0, none⟩ y0).setCell ⟨g0, 1, none⟩ y1).setCell ⟨g0, 2, none⟩ y2).setCell ⟨g0, 3, none⟩ y3).setCell ⟨g0, 4, none⟩ y4).setCell ⟨g0, 5, none⟩ y5).setCell ⟨g0, 6, none⟩ y6).setCell ⟨g0, 7, none⟩ y7).cell? ⟨g, 3, none⟩ = some (.string c.set) ∧ ((((((((w.setCell ⟨g0, 0, none⟩ y0).setCell ⟨g0, 1, none⟩ y1).setCell ⟨g0, 2, none⟩ y2).setCell ⟨g0, 3, none⟩ y3).setCell ⟨g0, 4, none⟩ y4).setCell ⟨g0, 5, none⟩ y5).setCell ⟨g0, 6, none⟩ y6).setCell ⟨g0, 7, none⟩ y7).cell? ⟨g, 4, none⟩ = some (.string c.name) ∧ ((((((((w.setCell ⟨g0, 0, none⟩ y0).setCell ⟨g0, 1, none⟩ y1).setCell ⟨g0, 2, none⟩ y2).setCell ⟨g0, 3, none⟩ y3).setCell ⟨g0, 4, none⟩ y4).setCell ⟨g0, 5, none⟩ y5).setCell ⟨g0, 6, none⟩ y6).setCell ⟨g0, 7, none⟩ y7).cell? ⟨g, 5, none⟩ = some (.string c.tag) ∧ ((((((((w.setCell ⟨g0, 0, none⟩ y0).setCell ⟨g0, 1, none⟩ y1).setCell ⟨g0, 2, none⟩ y2).setCell ⟨g0, 3, none⟩ y3).setCell ⟨g0, 4, none⟩ y4).setCell ⟨g0, 5, none⟩ y5).setCell ⟨g0, 6, none⟩ y6).setCell ⟨g0, 7, none⟩ y7).cell? ⟨g, 6, none⟩ = some (.int .i64 c.n) ∧ ((((((((w.setCell ⟨g0, 0, none⟩ y0).setCell ⟨g0, 1, none⟩ y1).setCell ⟨g0, 2, none⟩ y2).setCell ⟨g0, 3, none⟩ y3).setCell ⟨g0, 4, none⟩ y4).setCell ⟨g0, 5, none⟩ y5).setCell ⟨g0, 6, none⟩ y6).setCell ⟨g0, 7, none⟩ y7).cell? ⟨g, 7, none⟩ = some (v) :=
  Box.cells8 ((((((((h.1.set_other ⟨g0, 0, none⟩ y0 hne).set_other ⟨g0, 1, none⟩ y1 hne).set_other ⟨g0, 2, none⟩ y2 hne).set_other ⟨g0, 3, none⟩ y3 hne).set_other ⟨g0, 4, none⟩ y4 hne).set_other ⟨g0, 5, none⟩ y5 hne).set_other ⟨g0, 6, none⟩ y6 hne).set_other ⟨g0, 7, none⟩ y7 hne)

set_option maxRecDepth 100000 in
set_option maxHeartbeats 4000000 in
theorem parse_yes (s : ByteArray) (a : Addr) (w : World) (hS : Sent w a) (hs : s.size ≤ 1048576) (hno : wholeB s = true) :
    Calls Tryd.prog 109 #[.string s] w fun e w' => (∃ va vn vcap, e = .returned (.tuple #[.agg #[.int .i64 (rawC s).kind, .int .i64 (rawC s).client, .int .i64 (rawC s).no, .string (rawC s).set, .string (rawC s).name, .string (rawC s).tag, .int .i64 (rawC s).n, .slice va vn vcap], errV a (okB (rawC s))]) ∧ GrowsS w' (w.heap.size + 1) (.slice va vn vcap) (rawC s).ch) ∧ Below w.heap.size w w' := by
  have HNO := Lib.hid hno
  clear hno
  have HS := Lib.hid hS
  clear hS
  go_enter Tryd.func109, Tryd.ntmps109
  go_wp2_with fail
  have B0 := Lib.hid (((Box.new w 33 #[.int .i64 0, .int .i64 0, .int .i64 0, .string ⟨#[]⟩, .string ⟨#[]⟩, .string ⟨#[]⟩, .int .i64 0, .slice none 0 0] w.heap.size rfl).alloc (.cells #[.string s, .bool false] 95)).alloc (.cells #[.int .i64 0, .int .i64 0, .int .i64 0, .string ⟨#[]⟩, .string ⟨#[]⟩, .string ⟨#[]⟩, .int .i64 0, .slice none 0 0] 33))
  have HR := Lib.hid (show RdrO (((w.alloc (.cells #[.int .i64 0, .int .i64 0, .int .i64 0, .string ⟨#[]⟩, .string ⟨#[]⟩, .string ⟨#[]⟩, .int .i64 0, .slice none 0 0] 33)).alloc (.cells #[.string s, .bool false] 95)).alloc (.cells #[.int .i64 0, .int .i64 0, .int .i64 0, .string ⟨#[]⟩, .string ⟨#[]⟩, .string ⟨#[]⟩, .int .i64 0, .slice none 0 0] 33)) (w.heap.size + 1) (some s) from ⟨(rdr_new _ s (w.heap.size + 1) (by simp)).after ((Below.refl _ _).alloc (Nat.le_refl _) _), hs⟩)
  have B2 := Lib.hid (Box.new ((w.alloc (.cells #[.int .i64 0, .int .i64 0, .int .i64 0, .string ⟨#[]⟩, .string ⟨#[]⟩, .string ⟨#[]⟩, .int .i64 0, .slice none 0 0] 33)).alloc (.cells #[.string s, .bool false] 95)) 33 #[.int .i64 0, .int .i64 0, .int .i64 0, .string ⟨#[]⟩, .string ⟨#[]⟩, .string ⟨#[]⟩, .int .i64 0, .slice none 0 0] (w.heap.size + 1 + 1) (by simp))
  have HW := Lib.hid ((((Aft.refl w).alloc (.cells #[.int .i64 0, .int .i64 0, .int .i64 0, .string ⟨#[]⟩, .string ⟨#[]⟩, .string ⟨#[]⟩, .int .i64 0, .slice none 0 0] 33)).alloc (.cells #[.string s, .bool false] 95)).alloc (.cells #[.int .i64 0, .int .i64 0, .int .i64 0, .string ⟨#[]⟩, .string ⟨#[]⟩, .string ⟨#[]⟩, .int .i64 0, .slice none 0 0] 33))
  refine (number_c _ (w.heap.size + 1) (some s) HR.out).mono ?_
  rintro e w1 ⟨rfl, hr, hg⟩
  have C0 := Lib.hid (B0.out.keep hg (by simp))
  have C2 := Lib.hid (B2.out.keep hg (by simp))
  have CR := Lib.hid hr
  have CW := Lib.hid (HW.out.grow1 hg (by omega))
  clear hr hg B0 B2 HR HW
  have f := C2.out.frozen 0
  have x := C2.out.cell 0 _ rfl
  have l2 := C2.out.lt
  go_wp2_with fail
  clear f x l2
  have B2 := Lib.hid (C2.out.set 0 (.int .i64 (s1 s).1))
  have B0 := Lib.hid (C0.out.set_other ⟨(w.heap.size + 1 + 1), 0, none⟩ (.int .i64 (s1 s).1) (by simp only [ne_eq]; omega))
  have HR := Lib.hid (CR.out.keep (setG _ (w.heap.size + 1 + 1) 0 (.int .i64 (s1 s).1)) (by simp))
  have HW := Lib.hid (CW.out.grow1 (setG _ (w.heap.size + 1 + 1) 0 (.int .i64 (s1 s).1)) (by omega))
  clear C0 C2 CR CW
  refine (number_c _ (w.heap.size + 1) ((s1 s).2) HR.out).mono ?_
  rintro e w2 ⟨rfl, hr, hg⟩
  have C0 := Lib.hid (B0.out.keep hg (by simp))
  have C2 := Lib.hid (B2.out.keep hg (by simp))
  have CR := Lib.hid hr
  have CW := Lib.hid (HW.out.grow1 hg (by omega))
  clear hr hg B0 B2 HR HW
  have f := C2.out.frozen 1
  have x := C2.out.cell 1 _ rfl
  have l2 := C2.out.lt
  go_wp2_with fail
  clear f x l2
  have B2 := Lib.hid (C2.out.set 1 (.int .i64 (s2 s).1))
  have B0 := Lib.hid (C0.out.set_other ⟨(w.heap.size + 1 + 1), 1, none⟩ (.int .i64 (s2 s).1) (by simp only [ne_eq]; omega))
  have HR := Lib.hid (CR.out.keep (setG _ (w.heap.size + 1 + 1) 1 (.int .i64 (s2 s).1)) (by simp))
  have HW := Lib.hid (CW.out.grow1 (setG _ (w.heap.size + 1 + 1) 1 (.int .i64 (s2 s).1)) (by omega))
  clear C0 C2 CR CW
  refine (number_c _ (w.heap.size + 1) ((s2 s).2) HR.out).mono ?_
  rintro e w3 ⟨rfl, hr, hg⟩
  have C0 := Lib.hid (B0.out.keep hg (by simp))
  have C2 := Lib.hid (B2.out.keep hg (by simp))
  have CR := Lib.hid hr
  have CW := Lib.hid (HW.out.grow1 hg (by omega))
  clear hr hg B0 B2 HR HW
  have f := C2.out.frozen 2
  have x := C2.out.cell 2 _ rfl
  have l2 := C2.out.lt
  go_wp2_with fail
  clear f x l2
  have B2 := Lib.hid (C2.out.set 2 (.int .i64 (s3 s).1))
  have B0 := Lib.hid (C0.out.set_other ⟨(w.heap.size + 1 + 1), 2, none⟩ (.int .i64 (s3 s).1) (by simp only [ne_eq]; omega))
  have HR := Lib.hid (CR.out.keep (setG _ (w.heap.size + 1 + 1) 2 (.int .i64 (s3 s).1)) (by simp))
  have HW := Lib.hid (CW.out.grow1 (setG _ (w.heap.size + 1 + 1) 2 (.int .i64 (s3 s).1)) (by omega))
  clear C0 C2 CR CW
  refine (number_c _ (w.heap.size + 1) ((s3 s).2) HR.out).mono ?_
  rintro e w4 ⟨rfl, hr, hg⟩
  have C0 := Lib.hid (B0.out.keep hg (by simp))
  have C2 := Lib.hid (B2.out.keep hg (by simp))
  have CR := Lib.hid hr
  have CW := Lib.hid (HW.out.grow1 hg (by omega))
  clear hr hg B0 B2 HR HW
  have f := C2.out.frozen 6
  have x := C2.out.cell 6 _ rfl
  have l2 := C2.out.lt
  go_wp2_with fail
  clear f x l2
  have B2 := Lib.hid (C2.out.set 6 (.int .i64 (s4 s).1))
  have B0 := Lib.hid (C0.out.set_other ⟨(w.heap.size + 1 + 1), 6, none⟩ (.int .i64 (s4 s).1) (by simp only [ne_eq]; omega))
  have HR := Lib.hid (CR.out.keep (setG _ (w.heap.size + 1 + 1) 6 (.int .i64 (s4 s).1)) (by simp))
  have HW := Lib.hid (CW.out.grow1 (setG _ (w.heap.size + 1 + 1) 6 (.int .i64 (s4 s).1)) (by omega))
  clear C0 C2 CR CW
  refine (text_c _ (w.heap.size + 1) ((s4 s).2) HR.out).mono ?_
  rintro e w5 ⟨rfl, hr, hg⟩
  have C0 := Lib.hid (B0.out.keep hg (by simp))
  have C2 := Lib.hid (B2.out.keep hg (by simp))
  have CR := Lib.hid hr
  have CW := Lib.hid (HW.out.grow1 hg (by omega))
  clear hr hg B0 B2 HR HW
  have f := C2.out.frozen 3
  have x := C2.out.cell 3 _ rfl
  have l2 := C2.out.lt
  go_wp2_with fail
  clear f x l2
  have B2 := Lib.hid (C2.out.set 3 (.string (s5 s).1))
  have B0 := Lib.hid (C0.out.set_other ⟨(w.heap.size + 1 + 1), 3, none⟩ (.string (s5 s).1) (by simp only [ne_eq]; omega))
  have HR := Lib.hid (CR.out.keep (setG _ (w.heap.size + 1 + 1) 3 (.string (s5 s).1)) (by simp))
  have HW := Lib.hid (CW.out.grow1 (setG _ (w.heap.size + 1 + 1) 3 (.string (s5 s).1)) (by omega))
  clear C0 C2 CR CW
  refine (text_c _ (w.heap.size + 1) ((s5 s).2) HR.out).mono ?_
  rintro e w6 ⟨rfl, hr, hg⟩
  have C0 := Lib.hid (B0.out.keep hg (by simp))
  have C2 := Lib.hid (B2.out.keep hg (by simp))
  have CR := Lib.hid hr
  have CW := Lib.hid (HW.out.grow1 hg (by omega))
  clear hr hg B0 B2 HR HW
  have f := C2.out.frozen 4
  have x := C2.out.cell 4 _ rfl
  have l2 := C2.out.lt
  go_wp2_with fail
  clear f x l2
  have B2 := Lib.hid (C2.out.set 4 (.string (s6 s).1))
  have B0 := Lib.hid (C0.out.set_other ⟨(w.heap.size + 1 + 1), 4, none⟩ (.string (s6 s).1) (by simp only [ne_eq]; omega))
  have HR := Lib.hid (CR.out.keep (setG _ (w.heap.size + 1 + 1) 4 (.string (s6 s).1)) (by simp))
  have HW := Lib.hid (CW.out.grow1 (setG _ (w.heap.size + 1 + 1) 4 (.string (s6 s).1)) (by omega))
  clear C0 C2 CR CW
  refine (text_c _ (w.heap.size + 1) ((s6 s).2) HR.out).mono ?_
  rintro e w7 ⟨rfl, hr, hg⟩
  have C0 := Lib.hid (B0.out.keep hg (by simp))
  have C2 := Lib.hid (B2.out.keep hg (by simp))
  have CR := Lib.hid hr
  have CW := Lib.hid (HW.out.grow1 hg (by omega))
  clear hr hg B0 B2 HR HW
  have f := C2.out.frozen 5
  have x := C2.out.cell 5 _ rfl
  have l2 := C2.out.lt
  go_wp2_with fail
  clear f x l2
  have B2 := Lib.hid (C2.out.set 5 (.string (s7 s).1))
  have B0 := Lib.hid (C0.out.set_other ⟨(w.heap.size + 1 + 1), 5, none⟩ (.string (s7 s).1) (by simp only [ne_eq]; omega))
  have HR := Lib.hid (CR.out.keep (setG _ (w.heap.size + 1 + 1) 5 (.string (s7 s).1)) (by simp))
  have HW := Lib.hid (CW.out.grow1 (setG _ (w.heap.size + 1 + 1) 5 (.string (s7 s).1)) (by omega))
  clear C0 C2 CR CW
  refine (chunk_c _ (w.heap.size + 1) ((s7 s).2) HR.out).mono ?_
  rintro e w8 ⟨⟨cv, rfl, hcv⟩, hr, hg⟩
  have hsz7 := HW.out.size
  have C0 := Lib.hid (B0.out.keep hg (by simp))
  have C2 := Lib.hid (B2.out.keep hg (by simp))
  have CR := Lib.hid hr
  have CW := Lib.hid (HW.out.grow1 hg (by omega))
  have l27 := B2.out.lt
  have hcv2 := hcv.mono (base' := w.heap.size + 1 + 1 + 1) (by simp at l27 ⊢; omega)
  have CV := Lib.hid hcv2
  obtain ⟨ca, cn, ccap, rfl⟩ := hcv.form
  clear hr hg B0 B2 HR HW hcv hcv2 hsz7 l27
  have f := C2.out.frozen 7
  have x := C2.out.cell 7 _ rfl
  have l2 := C2.out.lt
  have hR := rdr_yes CR.out HNO.out
  have a0 := hR.c0
  have a1 := hR.c1
  have hem : (ByteArray.mk #[]).toList.isEmpty = true := by rw [Lib.toList_data]; rfl
  clear hR
  go_wp2_with fail
  clear f x l2 a0 a1 hem
  refine wp_world (fun w9 => Box w9 w.heap.size 33 #[.int .i64 0, .int .i64 0, .int .i64 0, .string ⟨#[]⟩, .string ⟨#[]⟩, .string ⟨#[]⟩, .int .i64 0, .slice none 0 0] ∧ Has w9 (w.heap.size + 1 + 1) 33 (rawC s) (.slice ca cn ccap) ∧ GrowsS w9 (w.heap.size + 1) (.slice ca cn ccap) (rawC s).ch ∧ Sent w9 a ∧ Aft w w9) ⟨C0.out.set_other _ _ (by simp only [ne_eq]; omega), ?_, ?_, ?_, CW.out.grow1 (setG _ _ _ _) (by omega)⟩ ?_
  · have hv : GrowsS _ _ (.slice ca cn ccap) (s9 s).1 := CV.out.kept (setG _ (w.heap.size + 1 + 1) 7 (.slice ca cn ccap)) (by omega)
    exact ⟨C2.out.set 7 (.slice ca cn ccap), hv.strs (fun j hj => by rw [raw_chunk s HNO.out j hj]; decide)⟩
  · have hv : GrowsS _ _ (.slice ca cn ccap) (s9 s).1 := CV.out.kept (setG _ (w.heap.size + 1 + 1) 7 (.slice ca cn ccap)) (by omega)
    exact hv.mono (by omega)
  · exact HS.out.later (CW.out.grow1 (setG _ _ _ _) (by omega))
  rintro w9 ⟨b9, c9, v9, h9, q9⟩
  obtain ⟨z1, z2, z3⟩ := raw_sizes s HNO.out
  have Z1 : (rawC s).set.size ≤ 9223372036854775807 := by omega
  have Z2 : (rawC s).name.size ≤ 9223372036854775807 := by omega
  have Z3 : (rawC s).tag.size ≤ 9223372036854775807 := by omega
  have KB := Lib.hid b9.drew
  have KA := Lib.hid c9.drew
  have KV := Lib.hid v9.drew
  have KS := Lib.hid h9.drew
  have KW := Lib.hid q9.drew
  clear b9 c9 v9 h9 q9 z1 z2 z3 C0 C2 CR CW CV HS HNO hs
  generalize hc : rawC s = c at *
  have HC := Lib.hid hc
  clear hc
  obtain ⟨b, hok⟩ : ∃ b, okB c = b := ⟨_, rfl⟩
  have HO := Lib.hid hok
  clear hok
  have hne2 : w.heap.size + 1 + 1 ≠ w.heap.size := by omega
  go_region_held3 (fun w' => w'.cell? ⟨(w.heap.size + 1 + 1), 0, none⟩ = some (.int .i64 c.kind) ∧ w'.cell? ⟨(w.heap.size + 1 + 1), 1, none⟩ = some (.int .i64 c.client) ∧ w'.cell? ⟨(w.heap.size + 1 + 1), 2, none⟩ = some (.int .i64 c.no) ∧ w'.cell? ⟨(w.heap.size + 1 + 1), 3, none⟩ = some (.string c.set) ∧ w'.cell? ⟨(w.heap.size + 1 + 1), 4, none⟩ = some (.string c.name) ∧ w'.cell? ⟨(w.heap.size + 1 + 1), 5, none⟩ = some (.string c.tag) ∧ w'.cell? ⟨(w.heap.size + 1 + 1), 6, none⟩ = some (.int .i64 c.n) ∧ w'.cell? ⟨(w.heap.size + 1 + 1), 7, none⟩ = some ((.slice ca cn ccap)))
    (first | (with_reducible exact Has.cells KA.out) | (with_reducible exact Has.cells_set8 KA.out w.heap.size hne2 _ _ _ _ _ _ _ _))
    (first | (go_at_call 97; refine (check_cmd c _ a _ KA.out.2 KS.out Z1 Z2 Z3).mono ?_; rintro e w10 ⟨he, hb⟩; rw [HO.out] at he; subst he; have NA := Lib.hid (KA.out.after hb); have NB := Lib.hid (KB.out.after hb); have NV := Lib.hid (KV.out.later hb); have NW := Lib.hid (KW.out.after hb); clear hb KA KB KV KS KW; rename Hid (Has w10 _ _ c _) => KA; have e0 := NB.out.frozen 0; have e1 := NB.out.frozen 1; have e2 := NB.out.frozen 2; have e3 := NB.out.frozen 3; have e4 := NB.out.frozen 4; have e5 := NB.out.frozen 5; have e6 := NB.out.frozen 6; have e7 := NB.out.frozen 7; obtain ⟨x0, x1, x2, x3, x4, x5, x6, x7⟩ := NB.out.cells8))
  clear e0 e1 e2 e3 e4 e5 e6 e7 x0 x1 x2 x3 x4 x5 x6 x7
  go_wp2
  refine bodyPost_ret (results_cmd2 Tryd.results109 _ _ w.heap.size _ _ _ _ _ _ _ _ _ rfl rfl (NB.out.set8cells _ _ _ _ _ _ _ _)) rfl ⟨⟨ca, cn, ccap, by rw [HC.out, HO.out]; rfl, ?_⟩, ?_⟩
  · rw [HC.out]
    exact NV.out.set8 _ (by omega) _ _ _ _ _ _ _ _
  · exact NW.out.set8 _ (Nat.le_refl _) _ _ _ _ _ _ _ _
end Go.Proofs.YtkeoeempdkpafaaDoor
/- The program's ReadCmd. -/
namespace Go.Proofs.YtkeoeempdkpafaaDoor
open Go.RowKit Go.PlainAid
set_option linter.unusedVariables false

def pc (s : ByteArray) : CmdM := if wholeB s then rawC s else zeroC
theorem parse_c (s : ByteArray) (a : Addr) (w : World) (hS : Sent w a) (hs : s.size ≤ 1048576) :
    Calls Tryd.prog 109 #[.string s] w fun e w' => (∃ va vn vcap, e = .returned (.tuple #[.agg #[.int .i64 (pc s).kind, .int .i64 (pc s).client, .int .i64 (pc s).no, .string (pc s).set, .string (pc s).name, .string (pc s).tag, .int .i64 (pc s).n, .slice va vn vcap], errV a (goodB s)]) ∧ GrowsS w' (w.heap.size + 1) (.slice va vn vcap) (pc s).ch) ∧ Below w.heap.size w w' := by
  cases h : wholeB s
  · refine (parse_no s a w hS hs h).mono fun e w' ⟨he, hb⟩ => ⟨⟨none, 0, 0, ?_, ?_⟩, hb⟩
    · have e1 : pc s = zeroC := by unfold pc; rw [h]; rfl
      have e2 : goodB s = false := by unfold goodB; rw [h]; rfl
      rw [he, e1, e2]
      rfl
    · have e1 : pc s = zeroC := by unfold pc; rw [h]; rfl
      rw [e1]
      exact growsS_nil _ _
  · refine (parse_yes s a w hS hs h).mono fun e w' ⟨⟨va, vn, vcap, he, hv⟩, hb⟩ => ⟨⟨va, vn, vcap, ?_, ?_⟩, hb⟩
    · have e1 : pc s = rawC s := by unfold pc; rw [h]; rfl
      have e2 : goodB s = okB (rawC s) := by unfold goodB; rw [h, Bool.true_and]
      rw [he, e1, e2]
    · have e1 : pc s = rawC s := by unfold pc; rw [h]; rfl
      rw [e1]
      exact hv
theorem read_of (s : ByteArray) (h : goodB s = true) : readC s = pc s := by
  unfold readC pc
  rw [h]
  have hw : wholeB s = true := by
    unfold goodB at h
    rw [Bool.and_eq_true] at h
    exact h.1
  rw [hw]
theorem read_no (s : ByteArray) (h : goodB s = false) : readC s = zeroC := by
  unfold readC
  rw [h]
  rfl

set_option maxRecDepth 100000 in
set_option maxHeartbeats 4000000 in
theorem impl_read (s : ByteArray) (a : Addr) (w : World) (hS : Sent w a) (hs : s.size ≤ 1048576) :
    Calls Tryd.prog 91 #[.string s] w fun e w' => (∃ va vn vcap, e = .returned (.tuple #[.agg #[.int .i64 (readC s).kind, .int .i64 (readC s).client, .int .i64 (readC s).no, .string (readC s).set, .string (readC s).name, .string (readC s).tag, .int .i64 (readC s).n, .slice va vn vcap], .bool (goodB s)]) ∧ GrowsS w' (w.heap.size + 1) (.slice va vn vcap) (readC s).ch) ∧ Below w.heap.size w w' := by
  have HS := Lib.hid hS
  clear hS
  obtain ⟨b, hg⟩ : ∃ b, goodB s = b := ⟨_, rfl⟩
  have HG := Lib.hid hg
  clear hg
  go_enter Tryd.func91, Tryd.ntmps91
  go_wp2_with fail
  refine (parse_c s a _ (HS.out.alloc _) hs).mono ?_
  rintro e w1 ⟨⟨va, vn, vcap, he, hv⟩, hb⟩
  rw [HG.out] at he
  subst he
  have B0 := Lib.hid (((Box.new w 33 #[.int .i64 0, .int .i64 0, .int .i64 0, .string ⟨#[]⟩, .string ⟨#[]⟩, .string ⟨#[]⟩, .int .i64 0, .slice none 0 0] w.heap.size rfl).after hb).alloc (.cells #[.int .i64 (pc s).kind, .int .i64 (pc s).client, .int .i64 (pc s).no, .string (pc s).set, .string (pc s).name, .string (pc s).tag, .int .i64 (pc s).n, .slice va vn vcap] 33))
  have S1 := Lib.hid (((HS.out.alloc _).later hb).alloc (.cells #[.int .i64 (pc s).kind, .int .i64 (pc s).client, .int .i64 (pc s).no, .string (pc s).set, .string (pc s).name, .string (pc s).tag, .int .i64 (pc s).n, .slice va vn vcap] 33))
  have W1 := Lib.hid ((((Aft.refl w).alloc _).after hb).alloc (.cells #[.int .i64 (pc s).kind, .int .i64 (pc s).client, .int .i64 (pc s).no, .string (pc s).set, .string (pc s).name, .string (pc s).tag, .int .i64 (pc s).n, .slice va vn vcap] 33))
  have V1 := Lib.hid ((hv.mono (base' := w.heap.size + 1) (by simp)).alloc (.cells #[.int .i64 (pc s).kind, .int .i64 (pc s).client, .int .i64 (pc s).no, .string (pc s).set, .string (pc s).name, .string (pc s).tag, .int .i64 (pc s).n, .slice va vn vcap] 33))
  clear hv hb HS
  generalize hpc : pc s = c at *
  have HP := Lib.hid hpc
  clear hpc
  have hs0 := S1.out
  unfold Sent at hs0
  go_wp2_with fail
  refine (is_err b a _).mono ?_
  rintro e w2 ⟨rfl, rfl⟩
  have e0 := B0.out.frozen 0
  have e1 := B0.out.frozen 1
  have e2 := B0.out.frozen 2
  have e3 := B0.out.frozen 3
  have e4 := B0.out.frozen 4
  have e5 := B0.out.frozen 5
  have e6 := B0.out.frozen 6
  have e7 := B0.out.frozen 7
  obtain ⟨x0, x1, x2, x3, x4, x5, x6, x7⟩ := B0.out.cells8
  have l0 := B0.out.lt
  cases b
  · go_wp2
    refine bodyPost_ret (results_cmd2 Tryd.results91 _ _ w.heap.size _ _ _ _ _ _ _ _ _ rfl rfl (B0.out.set8cells _ _ _ _ _ _ _ _)) rfl ⟨⟨none, 0, 0, by rw [read_no s HG.out, HG.out]; rfl, ?_⟩, ?_⟩
    · rw [read_no s HG.out]
      exact growsS_nil _ _
    · exact W1.out.set8 _ (Nat.le_refl _) _ _ _ _ _ _ _ _
  · go_wp2
    refine bodyPost_ret (results_cmd2 Tryd.results91 _ _ w.heap.size _ _ _ _ _ _ _ _ _ rfl rfl (B0.out.set8cells _ _ _ _ _ _ _ _)) rfl ⟨⟨va, vn, vcap, by rw [read_of s HG.out, HG.out, HP.out]; rfl, ?_⟩, ?_⟩
    · rw [read_of s HG.out, HP.out]
      exact V1.out.set8 _ (by omega) _ _ _ _ _ _ _ _
    · exact W1.out.set8 _ (Nat.le_refl _) _ _ _ _ _ _ _ _
end Go.Proofs.YtkeoeempdkpafaaDoor
