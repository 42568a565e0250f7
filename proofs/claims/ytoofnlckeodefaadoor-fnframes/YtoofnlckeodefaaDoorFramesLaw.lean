/- The law FnFrames, walked: it returns true at every argument. -/
import Derived.Test.YtoofnlckeodefaaDoorDrawF
import Derived.Test.YtoofnlckeodefaaDoorUnfLaw
import Derived.Test.YtoofnlckeodefaaDoorStrsSame
namespace Go.Proofs.YtoofnlckeodefaaDoor
open Go.RowKit Go.PlainAid
set_option linter.unusedVariables false

set_option maxHeartbeats 400000 in
theorem big_no (a : Option Addr) (n cap : Nat) (w : World) (h : n ≤ 1048576) : Calls Tryd.prog 6 #[.slice a n cap] w fun e w' => e = .returned (.bool false) ∧ w = w' := by
  have hd : decide ((1048576 : Int) < (n : Int)) = false := by simp; omega
  go_enter Tryd.func6, Tryd.ntmps6
  go_wp2
  go_ret
  exact ⟨rfl, rfl⟩
set_option maxHeartbeats 400000 in
theorem big_yes (a : Option Addr) (n cap : Nat) (w : World) (h : 1048576 < n) : Calls Tryd.prog 6 #[.slice a n cap] w fun e w' => e = .returned (.bool true) ∧ w = w' := by
  have hd : decide ((1048576 : Int) < (n : Int)) = true := by simp; omega
  go_enter Tryd.func6, Tryd.ntmps6
  go_wp2
  go_ret
  exact ⟨rfl, rfl⟩
set_option maxHeartbeats 400000 in
theorem at_zero (xs : List Int) (w : World) (v : Value) (hC : Code w v xs) :
    Calls Tryd.prog 12 #[v, .int .i64 0] w fun e w' => (∃ x : Nat, e = .returned (.int .i64 x) ∧ x ≤ 255) ∧ w = w' := by
  obtain ⟨hr, hl, a, cap, rfl, hc⟩ := hC
  by_cases h0 : 0 < xs.length
  · obtain ⟨b, off, hlt, rfl, hcl⟩ := hc h0
    have c0 := hcl 0 h0
    have r0 := getD_range xs hr 0
    obtain ⟨x, hx⟩ := Int.eq_ofNat_of_zero_le r0.1
    rw [hx] at c0 r0
    rw [Nat.add_zero] at c0
    have hd : (0 : Int) < (xs.length : Int) := by omega
    have HR := Lib.hid r0
    obtain ⟨r1, r2⟩ := r0
    clear hr hc hcl hx
    go_enter Tryd.func12, Tryd.ntmps12
    go_wp2
    go_ret
    exact ⟨⟨x, rfl, by have := HR.out.2; omega⟩, rfl⟩
  · have hz : xs.length = 0 := by omega
    rw [hz]
    clear hr hc hl h0 hz
    go_enter Tryd.func12, Tryd.ntmps12
    go_wp2
    go_ret
    exact ⟨⟨0, rfl, by decide⟩, rfl⟩
theorem ext_zero (s : ByteArray) : s.extract 0 0 = ⟨#[]⟩ := by
  apply bytes_ext
  rw [ext_data]
  simp
theorem fr_join (s : ByteArray) (k : Nat) (hk : k < nF s) : s.extract 0 (fP s k) ++ frameS (el (fL s (nF s)) k) = s.extract 0 (fP s (k + 1)) := by
  rw [← fS_cat s k (by omega), ← fS_cat s (k + 1) (by omega), catN_succ]
  congr 1
  rw [el_eq ((fL s (nF s)).map frameS), List.getD, List.getElem?_map, el_get (fL s (nF s)) k (by rw [fL_length]; omega)]
  rfl
/-- What a beginning of s says. -/
theorem fr_begin (s : ByteArray) (k : Nat) (hk : k ≤ s.size) : nF (s.extract 0 k) ≤ nF s ∧ fL (s.extract 0 k) (nF (s.extract 0 k)) = (fL s (nF s)).take (nF (s.extract 0 k)) ∧ fP (s.extract 0 k) (nF (s.extract 0 k)) ≤ k := by
  have e := ext_split s k
  obtain ⟨_, h2, h3⟩ := fr_prefix (s.extract 0 k) (s.extract k s.size) (nF (s.extract 0 k)) (Nat.le_refl _)
  rw [← e] at h2 h3
  refine ⟨h2, ?_, ?_⟩
  · rw [← h3]
    unfold fL
    rw [← List.map_take, List.take_range, Nat.min_eq_left h2]
  · have := fP_size (s.extract 0 k) (nF (s.extract 0 k)) (Nat.le_refl _)
    rw [ext_size s 0 k hk] at this
    omega
theorem Strs.take {w : World} {a : Option Addr} {n cap : Nat} {l : List ByteArray} (h : Strs w (.slice a n cap) l) (m : Nat) (hm : m ≤ l.length) : Strs w (.slice a m cap) (l.take m) := by
  obtain ⟨h1, h2, a', cap', e, hc, h3⟩ := h
  simp only [Value.slice.injEq] at e
  obtain ⟨rfl, rfl, rfl⟩ := e
  have hl : (l.take m).length = m := by rw [List.length_take]; omega
  have he : ∀ j, j < m → el (l.take m) j = el l j := fun j hj => by
    rw [el_eq, el_eq, List.getD, List.getD, List.getElem?_take, if_pos hj]
  refine ⟨by omega, fun j hj => by rw [he j (by omega)]; exact h2 j (by omega), a, cap, by rw [hl], by omega, fun h0 => ?_⟩
  obtain ⟨b, o, ha, hb, hcl⟩ := h3 (by omega)
  exact ⟨b, o, ha, hb, fun j hj => by rw [he j (by omega)]; exact hcl j (by omega)⟩

set_option maxRecDepth 100000 in
set_option maxHeartbeats 2000000 in
theorem law_frames_small (xs : List Int) (w : World) (v : Value) (hC : Code w v xs) (ht : TabC w) :
    Calls Tryd.prog 3 #[v] w fun e w' => e = .returned (.bool true) ∧ Below w.heap.size w w' := by
  have HT := Lib.hid ht
  obtain ⟨_, hlen, ad, cap, hv, _⟩ := id hC
  subst hv
  have HC := Lib.hid hC
  clear hC ht
  go_enter Tryd.func3, Tryd.ntmps3
  go_wp2_with fail
  refine (big_no ad _ cap _ hlen).mono ?_
  rintro e w' ⟨rfl, rfl⟩
  go_wp2_with fail
  refine (draw_unframe xs _ _ HC.out).mono ?_
  rintro e w1 ⟨⟨s, rfl, hs⟩, b1⟩
  have B1 := Lib.hid b1
  have HC1 := Lib.hid (HC.out.below b1)
  have HT1 := Lib.hid (HT.out.later b1 (Nat.le_refl _))
  clear b1 HC HT
  generalize xs.length = len at *
  go_wp2_with fail
  refine (impl_unframe s _ (by omega) HT1.out).mono ?_
  rintro e w2 ⟨l0, rfl, h2, b2⟩
  have H2 := Lib.hid (unf_strs h2)
  have B2 := Lib.hid b2
  have HC2 := Lib.hid (HC1.out.below b2)
  have HT2 := Lib.hid (HT1.out.later b2 (Nat.le_refl _))
  obtain ⟨al, nl, cl, rfl⟩ := h2.form
  clear h2 b2 HC1 HT1
  go_wp2_with fail
  refine (spec_unframe s _ (by omega)).mono ?_
  rintro e w3 ⟨m0, rfl, h3, b3⟩
  have H3 := Lib.hid (unf_strs h3)
  have H23 := Lib.hid (H2.out.later b3)
  have B3 := Lib.hid (B2.out.trans (b3.mono B2.out.size))
  have HC3 := Lib.hid (HC2.out.below b3)
  have HT3 := Lib.hid (HT2.out.later b3 (Nat.le_refl _))
  obtain ⟨am, nm, cm, rfl⟩ := h3.form
  clear h3 b3 H2 B2 HC2 HT2
  go_wp2_with fail
  refine (same_strs _ _ _ _ _ H23.out H3.out).mono ?_
  rintro e w4 ⟨rfl, b4⟩
  have H4 := Lib.hid (H23.out.later b4)
  have B4 := Lib.hid (B3.out.trans (b4.mono B3.out.size))
  have HC4 := Lib.hid (HC3.out.below b4)
  have HT4 := Lib.hid (HT3.out.later b4 (Nat.le_refl _))
  clear b4 H3 H23 B3 HC3 HT3
  rw [decide_eq_true (rfl : fL s (nF s) = fL s (nF s))]
  go_wp2_with fail
  obtain ⟨j1, j2, al', cl', je, jc, j3⟩ := H4.out
  simp only [Value.slice.injEq] at je
  obtain ⟨rfl, rfl, rfl⟩ := je
  have J3 := Lib.hid j3
  rw [fL_length] at j1 jc H4 ⊢
  have hN := nF_le s (by omega)
  clear j2 j3
  go_loopw [8, 9] (fun t i wr => ∃ k : Nat, k ≤ nF s ∧ i = .int .i64 k ∧ t = .string (s.extract 0 (fP s k)) ∧ Below w4.heap.size w4 wr) (fun _ i _ => nF s - (intOf i).toNat)
  case atStart => exact ⟨0, by omega, rfl, by rw [fP_zero, ext_zero], Below.refl _ _⟩
  case round =>
    obtain ⟨k, hk, rfl, rfl, hb⟩ := hrel
    have HB := Lib.hid hb
    clear hb
    have hpk := fP_size s k hk
    by_cases hlt : k < nF s
    · obtain ⟨b, o, ha, hbl, hcl⟩ := J3.out (by rw [fL_length]; omega)
      subst ha
      have c1 : wr.cell? ⟨b, o + k, none⟩ = some (.string (el (fL s (nF s)) k)) := by rw [HB.out.cell (p := ⟨b, o + k, none⟩) hbl]; exact hcl k (by rw [fL_length]; exact hlt)
      have hz := fL_small s (nF s) (Nat.le_refl _) k (by rw [fL_length]; exact hlt)
      have hj := fr_join s k hlt
      have hfz := frameS_le (el (fL s (nF s)) k)
      have hez : (s.extract 0 (fP s k)).size ≤ 2003 := by rw [ext_size s _ _ (by omega)]; omega
      have HJ := Lib.hid hj
      clear hcl hj
      generalize el (fL s (nF s)) k = f at *
      generalize s.extract 0 (fP s k) = t at *
      have a1 := fun W => run_string_add_sum (P := Tryd.prog) (w := W) t (frameS f) (by omega)
      have y1 : (k : Int) < (nF s : Int) := by omega
      go_wp2_with fail
      refine (impl_frame f _ (by omega) (HT4.out.later HB.out (Nat.le_refl _))).mono ?_
      rintro e w5 ⟨rfl, b5⟩
      have B5 := Lib.hid (HB.out.trans (b5.mono HB.out.size))
      clear b5 HB
      go_wp2
      go_roundw
      case rel => exact ⟨k + 1, by omega, by go_num, by rw [HJ.out], B5.out⟩
      case measure => simp only [intOf]; omega
    · obtain rfl : k = nF s := by omega
      have HC5 := Lib.hid (HC4.out.below HB.out)
      have H5 := Lib.hid (H4.out.later HB.out)
      have B5 := Lib.hid (B4.out.trans (HB.out.mono B4.out.size))
      have HT5 := Lib.hid (HT4.out.later HB.out (Nat.le_refl _))
      clear HC4 H4 B4 HT4 HB J3
      go_wp2_with fail
      refine (at_zero xs _ _ HC5.out).mono ?_
      rintro e w6 ⟨⟨x, rfl, hx⟩, rfl⟩
      have hq : (x : Int) % (((fP s (nF s) : Nat) : Int) + 1) = ((x % (fP s (nF s) + 1) : Nat) : Int) := by push_cast; rfl
      have hq2 : x % (fP s (nF s) + 1) ≤ fP s (nF s) := by have := Nat.mod_lt x (show 0 < fP s (nF s) + 1 by omega); omega
      generalize x % (fP s (nF s) + 1) = q at hq hq2
      have hbg := fr_begin s q (by omega)
      have hpz : (s.extract 0 q).size ≤ 1048576 := by rw [ext_size s _ _ (by omega)]; omega
      obtain ⟨p, hp⟩ : ∃ p, s.extract 0 q = p := ⟨_, rfl⟩
      rw [hp] at hbg hpz
      obtain ⟨g1, g2, g3⟩ := hbg
      have HG2 := Lib.hid g2
      have HP := Lib.hid hp
      have hqi : (q : Int) ≤ (s.size : Int) := by omega
      have hei : ((fP s (nF s) : Nat) : Int) ≤ (s.size : Int) := by omega
      clear g2 hx
      go_wp2_with fail
      refine (impl_unframe p _ hpz HT5.out).mono ?_
      rintro e w7 ⟨p0, rfl, h7, b7⟩
      have H7 := Lib.hid (unf_strs h7)
      have H57 := Lib.hid (H5.out.later b7)
      have B7 := Lib.hid (B5.out.trans (b7.mono B5.out.size))
      have HT7 := Lib.hid (HT5.out.later b7 (Nat.le_refl _))
      obtain ⟨ap, np, cp, rfl⟩ := h7.form
      clear h7 b7 H5 B5 HT5 HC5
      obtain ⟨_, _, ap', cp', je, _, _⟩ := H7.out
      simp only [Value.slice.injEq, fL_length] at je
      obtain ⟨rfl, rfl, rfl⟩ := je
      have hc1 : ((nF p : Nat) : Int) ≤ (cl : Int) := by omega
      have hc2 : decide (((fP p (nF p) : Nat) : Int) ≤ (q : Int)) = true := decide_eq_true (by omega)
      go_wp2_with fail
      refine (same_strs _ _ _ _ _ H7.out (H57.out.take (nF p) (by rw [fL_length]; exact g1))).mono ?_
      rintro e w8 ⟨rfl, b8⟩
      have B8 := Lib.hid (B7.out.trans (b8.mono B7.out.size))
      have HT8 := Lib.hid (HT7.out.later b8 (Nat.le_refl _))
      rw [decide_eq_true HG2.out]
      clear b8 H7 H57 B7 HT7 HG2
      have ez : (⟨#[]⟩ : ByteArray).size = 0 := rfl
      go_wp2_with fail
      refine (impl_frame ⟨#[]⟩ _ (by rw [ez]; omega) HT8.out).mono ?_
      rintro e w9 ⟨rfl, b9⟩
      have B9 := Lib.hid (B8.out.trans (b9.mono B8.out.size))
      clear b9 B8 HT8
      go_wp2_with fail
      refine (spec_frame ⟨#[]⟩ _ (by rw [ez]; omega)).mono ?_
      rintro e w10 ⟨rfl, b10⟩
      have B10 := Lib.hid (B9.out.trans (b10.mono B9.out.size))
      clear b10 B9
      go_wp2
      go_ret
      exact ⟨rfl, B1.out.trans (B10.out.mono B1.out.size)⟩
set_option maxRecDepth 100000 in
set_option maxHeartbeats 400000 in
theorem law_frames_big (a : Option Addr) (len cap : Nat) (w : World) (h : 1048576 < len) :
    Calls Tryd.prog 3 #[.slice a len cap] w fun e w' => e = .returned (.bool true) ∧ Below w.heap.size w w' := by
  go_enter Tryd.func3, Tryd.ntmps3
  go_wp2_with (go_at_call 6; refine (big_yes a len cap _ h).mono ?_; rintro e w' ⟨rfl, rfl⟩)
  go_ret
  exact ⟨rfl, Below.refl _ _⟩
theorem law_frames (a : Option Addr) (len cap : Nat) (zs : List Int) (w : World) (hr : ByteRow w a len cap zs) (ht : TabC w) :
    Calls Tryd.prog 3 #[.slice a len cap] w fun e w' => e = .returned (.bool true) ∧ Below w.heap.size w w' := by
  by_cases h : len ≤ 1048576
  · exact law_frames_small _ w _ (code_of_row w a len cap zs hr h) ht
  · exact law_frames_big a len cap w (by omega)
end Go.Proofs.YtoofnlckeodefaaDoor
