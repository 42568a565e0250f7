/- A command's chunks off the reader. -/
import Derived.Test.YtmdacoppkjclmaaDoorReadR
import Derived.Test.YtmdacoppkjclmaaDoorOkC
namespace Go.Proofs.YtmdacoppkjclmaaDoor
open Go.RowKit Go.PlainAid
set_option linter.unusedVariables false

def sI (st : Option ByteArray) : List ByteArray × Option ByteArray := if 4 < (oN st).1 then ([], none) else oI (oN st).2 (oN st).1.toNat
theorem s9_eq (s : ByteArray) : s9 s = sI (s7 s).2 := rfl
theorem RdrO.form {w : World} {g : Nat} {st : Option ByteArray} (h : RdrO w g st) : ∃ r t, Rdr w g r t ∧ r.size ≤ 1048576 := by
  cases st with
  | none => obtain ⟨r, h1, h2⟩ := h; exact ⟨r, true, h1, h2⟩
  | some r => exact ⟨r, false, h.1, h.2⟩
theorem RdrO.keep {w w' : World} {g : Nat} {row : Option Nat} {st : Option ByteArray} (h : RdrO w g st) (hb : w.grownBy w' row) (hne : some g ≠ row) : RdrO w' g st := by
  have hl := h.lt
  have hk : w'.heap[g]? = w.heap[g]? := hb.block g hl (by simpa using hne)
  cases st with
  | none => obtain ⟨r, h1, h2⟩ := h; exact ⟨r, by unfold Rdr at *; rw [hk]; exact h1, h2⟩
  | some r => exact ⟨by have h1 := h.1; unfold Rdr at *; rw [hk]; exact h1, h.2⟩
theorem grown_then {a b c : World} {row row' : Option Nat} (h : a.grownBy b row) (k : b.grownBy c row') (hr : ∀ j, row' = some j → a.heap.size ≤ j) : a.grownBy c row :=
  ⟨k.os.trans h.os, k.tape.trans h.tape, k.output.trans h.output, Nat.le_trans h.size k.size, fun i hi hne => by
    rw [k.block i (Nat.lt_of_lt_of_le hi h.size) (fun e => by have := hr i e.symm; omega)]
    exact h.block i hi hne⟩
set_option maxHeartbeats 1000000 in
theorem chunk_c (w : World) (g : Nat) (st : Option ByteArray) (hR : RdrO w g st) :
    Calls Tryd.prog 60 #[.pointer (some ⟨g, 0, none⟩)] w fun e w' => (∃ v, e = .returned v ∧ GrowsS w' w.heap.size v (sI st).1) ∧ RdrO w' g (sI st).2 ∧ w.grownBy w' (some g) := by
  have hgl := hR.lt
  have HG := Lib.hid hgl
  clear hgl
  by_cases h4 : 4 < (oN st).1
  · have e : sI st = ([], none) := by unfold sI; rw [if_pos h4]
    rw [e]
    clear e
    go_enter Tryd.func60, Tryd.ntmps60
    go_wp2_with fail
    refine (number_c _ g st hR).mono ?_
    rintro e w1 ⟨rfl, h1, g1⟩
    obtain ⟨r, t, hr, hsz⟩ := h1.form
    have a1 := hr.c1
    have f1 := hr.free 1
    have H1 := Lib.hid hr
    have G1 := Lib.hid g1
    clear h1 g1 hr
    go_wp2
    go_ret
    exact ⟨⟨_, rfl, growsS_nil _ _⟩, ⟨r, H1.out.setT true, hsz⟩, G1.out.trans (setG _ _ _ _)⟩
  · have e : sI st = oI (oN st).2 (oN st).1.toNat := by unfold sI; rw [if_neg h4]
    rw [e]
    clear e
    obtain ⟨m, hm⟩ := Int.eq_ofNat_of_zero_le (oN_nonneg st)
    have hm4 : m ≤ 4 := by omega
    rw [hm]
    simp only [Int.toNat_natCast]
    have hN := number_c w g st hR
    rw [hm] at hN
    clear h4 hR hm
    generalize (oN st).2 = st8 at *
    have HN := Lib.hid hN
    clear hN
    go_enter Tryd.func60, Tryd.ntmps60
    go_wp2_with fail
    refine HN.out.mono ?_
    rintro e w1 ⟨rfl, h1, g1⟩
    have H1 := Lib.hid h1
    have G1 := Lib.hid g1
    clear h1 g1 HN
    go_wp2
    go_loopw [4, 13] (fun v i wr => ∃ k : Nat, k ≤ m ∧ i = .int .i64 k ∧ GrowsS wr w.heap.size v (oI st8 k).1 ∧ RdrO wr g (oI st8 k).2 ∧ w.grownBy wr (some g)) (fun _ i _ => m - (intOf i).toNat)
    case atStart => exact ⟨0, by omega, rfl, growsS_nil _ _, H1.out, G1.out⟩
    case round =>
      clear H1 G1
      obtain ⟨k, hk, rfl, hv, hr, hg⟩ := hrel
      have HV := Lib.hid hv
      have HR := Lib.hid hr
      have HW := Lib.hid hg
      have hl : (oI st8 k).1.length ≤ 4 := by rw [oI_length]; omega
      clear hv hr hg
      by_cases hlt : k < m
      · go_wp2_with fail
        refine (bytes_c _ g 8 _ HR.out (by decide)).mono ?_
        rintro e w2 ⟨rfl, h2, g2⟩
        have HV2 := Lib.hid (HV.out.kept g2 HG.out)
        have HR2 := Lib.hid h2
        have HW2 := Lib.hid (HW.out.trans g2)
        clear HV HR HW h2 g2
        have hsz := HW2.out.size
        go_wp2_with (at_builtin; refine wp_append_str rfl (.tmp 15) (.tmp 18) rfl w.heap.size _ (oI st8 k).1 _ rfl (HV2.out.alloc _) w2.heap.size 1 rfl (by simp; rfl) (by omega) (by simp; omega) ?_; intro v' w' hv' hg')
        have hown : ∀ j, Value.ownBlock _ = some j → w.heap.size ≤ j := fun j hj => (World.ownsRow.lt HV2.out j hj).1
        go_roundw
        case rel =>
          refine ⟨k + 1, by omega, by go_num, hv', ?_, ?_⟩
          · refine ((HR2.out.after ((Below.refl _ _).alloc (Nat.le_refl _) _)).keep hg' ?_)
            intro e
            have := hown g e.symm
            have := HG.out
            omega
          · exact grown_then (HW2.out.trans (World.grownBy_alloc _ _ _)) hg' hown
        case measure => simp only [intOf]; omega
      · obtain rfl : k = m := by omega
        go_wp2
        go_ret
        exact ⟨⟨_, rfl, HV.out⟩, HR.out, HW.out⟩
end Go.Proofs.YtmdacoppkjclmaaDoor
