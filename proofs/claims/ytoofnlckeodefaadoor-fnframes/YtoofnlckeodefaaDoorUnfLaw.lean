/- The law over Unframe and its model: it returns true at every string, where the table holds what the program's text lays. -/
import Derived.Test.YtoofnlckeodefaaDoorUnfI
import Derived.Test.YtoofnlckeodefaaDoorUnfS
import Derived.Test.YtoofnlckeodefaaDoorMarkG
import Derived.Test.YtoofnlckeodefaaDoorFrameLaw
namespace Go.Proofs.YtoofnlckeodefaaDoor
open Go.RowKit Go.PlainAid
set_option linter.unusedVariables false

theorem nF_le (s : ByteArray) (hs : s.size ≤ 1048576) : nF s ≤ 209715 := by
  have := fS_size s (nF s) (Nat.le_refl _)
  omega
theorem fL_small (s : ByteArray) (k : Nat) (hk : k ≤ nF s) (j : Nat) (hj : j < (fL s k).length) : (el (fL s k) j).size ≤ 200 := by
  rw [fL_length] at hj
  rw [fL_el s k j hj]
  exact (frOk_split (fS s j) (nF_ok s j (by omega))).2
theorem unf_strs {w : World} {base : Nat} {v : Value} {s : ByteArray} (h : GrowsS w base v (fL s (nF s))) : Strs w v (fL s (nF s)) :=
  h.strs fun j hj => Nat.le_trans (fL_small s _ (Nat.le_refl _) j hj) (by decide)
theorem mark_held {w : World} {base : Nat} {v : Value} {s : ByteArray} (hs : s.size ≤ 1048576) (h : GrowsS w base v (mkL (fL s (nF s)) (fL s (nF s)).length)) : Strs w v (mkL (fL s (nF s)) (fL s (nF s)).length) :=
  h.strs fun j hj => by
    have hn := nF_le s hs
    rw [mkL_length, fL_length] at hj
    rw [mkL_el _ _ j (by rw [fL_length]; exact hj), if_pos (by rw [fL_length]; exact hj)]
    have := mkT_size (j + 1)
    omega

set_option maxRecDepth 100000 in
set_option maxHeartbeats 1000000 in
theorem law_unframe_small (s : ByteArray) (w : World) (hs : s.size ≤ 1048576) (ht : TabC w) :
    Calls Tryd.prog 5 #[.string s] w fun e w' => e = .returned (.bool true) ∧ Below w.heap.size w w' := by
  have hsi : (s.size : Int) ≤ 1048576 := by omega
  have hnl : (fL s (nF s)).length ≤ 209715 := by rw [fL_length]; exact nF_le s hs
  have HT := Lib.hid ht
  clear ht
  go_enter Tryd.func5, Tryd.ntmps5
  go_wp2_with fail
  refine (spec_unframe s _ hs).mono ?_
  rintro e w1 ⟨v0, rfl, h1, b1⟩
  have H1 := Lib.hid h1
  have B1 := Lib.hid b1
  obtain ⟨a0, n0, c0, rfl⟩ := h1.form
  clear h1 b1
  go_wp2_with fail
  refine (impl_unframe s _ hs (HT.out.later B1.out (Nat.le_refl _))).mono ?_
  rintro e w2 ⟨g0, rfl, h2, b2⟩
  have H2 := Lib.hid h2
  have B2 := Lib.hid b2
  obtain ⟨ag, ng, cg, rfl⟩ := h2.form
  clear h2 b2
  go_wp2_with fail
  refine (eq_strs _ _ _ _ _ (unf_strs H2.out) (unf_strs (H1.out.later B2.out))).mono ?_
  rintro e w3 ⟨rfl, b3⟩
  have H3 := Lib.hid (H2.out.later b3)
  have B3 := Lib.hid (B2.out.trans (b3.mono B2.out.size))
  clear b3 H2 B2
  rw [decide_eq_true (rfl : fL s (nF s) = fL s (nF s))]
  go_wp2_with fail
  refine (mark_strs _ _ _ _ H3.out (by omega)).mono ?_
  rintro e w4 ⟨rfl, h4, g4⟩
  have b4 : Below w1.heap.size w3 w4 := below_of_grown H3.out (Nat.le_trans B3.out.size (Nat.le_refl _)) g4
  have H4 := Lib.hid h4
  have B4 := Lib.hid (B3.out.trans b4)
  clear h4 g4 b4 H3 B3
  go_wp2_with fail
  refine (held_strs _ _ _ (mark_held hs H4.out) (by omega)).mono ?_
  rintro e w5 ⟨rfl, b5⟩
  have H5 := Lib.hid (H4.out.later b5)
  have B5 := Lib.hid (B4.out.trans (b5.mono B4.out.size))
  clear b5 H4 B4
  have hlt : decide (((fL s (nF s)).length : Int) + 1 < 0) = false := by simp; omega
  go_wp2_with fail
  refine (impl_unframe s _ hs ((HT.out.later B1.out (Nat.le_refl _)).later B5.out (Nat.le_refl _))).mono ?_
  rintro e w6 ⟨h0, rfl, h6, b6⟩
  have H6 := Lib.hid h6
  have H56 := Lib.hid (H5.out.later b6)
  have B6 := Lib.hid (B5.out.trans (b6.mono B5.out.size))
  obtain ⟨ah, nh, ch, rfl⟩ := h6.form
  clear h6 b6 H5 B5
  go_wp2_with fail
  refine (eq_strs _ _ _ _ _ (unf_strs H6.out) (unf_strs (H1.out.later B6.out))).mono ?_
  rintro e w7 ⟨rfl, b7⟩
  have H7 := Lib.hid (H56.out.later b7)
  have B7 := Lib.hid (B6.out.trans (b7.mono B6.out.size))
  clear b7 H6 H56 B6
  rw [decide_eq_true (rfl : fL s (nF s) = fL s (nF s))]
  go_wp2_with fail
  refine (held_strs _ _ _ (mark_held hs H7.out) (by omega)).mono ?_
  rintro e w8 ⟨rfl, b8⟩
  have B8 := Lib.hid (B7.out.trans (b8.mono B7.out.size))
  clear b8 H7 B7
  go_wp2
  go_ret
  exact ⟨rfl, B1.out.trans (B8.out.mono B1.out.size)⟩
set_option maxHeartbeats 400000 in
theorem law_unframe (s : ByteArray) (w : World) (hs : s.size ≤ maxLen) (ht : TabC w) :
    Calls Tryd.prog 5 #[.string s] w fun e w' => e = .returned (.bool true) ∧ Below w.heap.size w w' := by
  have hs' := hs
  unfold maxLen at hs'
  by_cases hb : (1048576 : Int) < s.size
  · go_enter Tryd.func5, Tryd.ntmps5
    go_wp2
    go_ret
    exact ⟨rfl, Below.refl _ _⟩
  · exact law_unframe_small s w (by omega) ht
end Go.Proofs.YtoofnlckeodefaaDoor
