/- The model's readers of fields. -/
import Derived.Test.YtmnglcidklckgaaDoorRdM
import Derived.Test.YtmnglcidklckgaaDoorReadVarS
import Derived.Test.YtmnglcidklckgaaDoorIntG
import Derived.Test.YtmnglcidklckgaaDoorStrG
import Derived.BigQuiet
namespace Go.Proofs.YtmnglcidklckgaaDoor
open Go.RowKit Go.PlainAid
set_option linter.unusedVariables false

theorem spec_rv (s : ByteArray) (w : World) (hs : s.size ≤ 1048576) : Calls Tryd.prog 98 #[.string s] w fun e w' => e = .returned (.tuple #[.int .i64 (rvN s), .int .i64 (rvK s : Nat)]) ∧ Below w.heap.size w w' := by
  have hm : s.size ≤ maxLen := by unfold maxLen; omega
  by_cases h : rvK s = 0
  · have hn : rvN s = 0 := by unfold rvN; rw [if_pos h]
    rw [h, hn]
    refine spec_rv_miss s w hm fun k k1 k7 ks => ?_
    rcases first_low s with ⟨t, ht, h6, hh, hb⟩ | hh
    · have e := rv_hit s t ht h6 hh hb
      have hz : ¬ (t = 0 ∨ bt s t ≠ 0) := by
        intro hz
        unfold rvK at h
        rw [e] at h
        simp only at h
        rw [if_pos hz] at h
        omega
      have hb0 : bt s t = 0 := Decidable.byContradiction fun h => hz (Or.inr h)
      by_cases c1 : k ≤ t
      · exact noVar_high s k k1 ks (hh (k - 1) (by omega))
      · by_cases c2 : k = t + 1
        · exact noVar_zero s k (by omega) ks (by rw [show k - 1 = t by omega]; exact hb0)
        · exact noVar_low s k t ks (by omega) hb
    · exact noVar_high s k k1 ks (hh (k - 1) (by omega) (by omega))
  · obtain ⟨t, e, ht, h6, hh, hb, hz⟩ := rvK_pos s h
    have hn : rvN s = rvr s (t + 1) (t + 1) := by unfold rvN; rw [if_neg h, e, acc_eq]
    rw [hn, e]
    refine (spec_rv_hit s t w hm ht h6 (fun k k1 kt => noVar_high s k k1 (by omega) (hh (k - 1) (by omega))) (isVar_of s t ht hh hb hz)).mono fun e' w' ⟨he, hw⟩ => ⟨by rw [he]; simp, hw⟩

/-- A state of the reading is the rest of s. -/
def Suf (s : ByteArray) : Option ByteArray → Prop
  | none => True
  | some r => r.size ≤ s.size ∧ r = s.extract (s.size - r.size) s.size
/-- The place of a state in s. -/
def posI (s : ByteArray) : Option ByteArray → Int
  | none => -1
  | some r => ((s.size - r.size : Nat) : Int)
theorem suf_all (s : ByteArray) : Suf s (some s) := ⟨Nat.le_refl _, by rw [Nat.sub_self, ext_all]⟩
theorem suf_cut (s r : ByteArray) (k : Nat) (h : Suf s (some r)) (hk : k ≤ r.size) : Suf s (some (r.extract k r.size)) := by
  obtain ⟨h1, h2⟩ := h
  have hz : (r.extract k r.size).size = r.size - k := ext_size r k _ (Nat.le_refl _)
  refine ⟨by omega, ?_⟩
  rw [hz]
  have e : r.extract k r.size = (s.extract (s.size - r.size) s.size).extract k r.size := by rw [← h2]
  rw [e, ext_ext s _ _ _ _ (Nat.le_refl _) (by omega)]
  congr 1 <;> omega
theorem suf_N (s : ByteArray) (st : Option ByteArray) (h : Suf s st) : Suf s (oN st).2 := by
  cases st with
  | none => trivial
  | some r =>
    by_cases hk : rvK r = 0
    · rw [oN_bad r hk]; trivial
    · rw [oN_ok r hk]; exact suf_cut s r _ h (rvK_le r)
theorem suf_B (s : ByteArray) (n : Int) (st : Option ByteArray) (h0 : 0 ≤ n) (h : Suf s st) : Suf s (oB n st).2 := by
  cases st with
  | none => trivial
  | some r =>
    by_cases hk : (r.size : Int) < n
    · rw [oB_bad r n hk]; trivial
    · rw [oB_ok r n (by omega)]; exact suf_cut s r _ h (by omega)
theorem suf_T (s : ByteArray) (st : Option ByteArray) (h : Suf s st) : Suf s (oT st).2 := suf_B s _ _ (oN_nonneg st) (suf_N s st h)
/-- So many numbers off the front. -/
def vS (st : Option ByteArray) : Nat → Option ByteArray
  | 0 => st
  | k + 1 => (oN (vS st k)).2
def vL (st : Option ByteArray) : Nat → List Int
  | 0 => []
  | k + 1 => vL st k ++ [(oN (vS st k)).1]
theorem vL_length (st : Option ByteArray) (k : Nat) : (vL st k).length = k := by
  induction k with
  | zero => rfl
  | succ k ih => simp [vL, ih]
theorem vS_none (st : Option ByteArray) (k : Nat) (h : vS st k = none) (m : Nat) : vS st (k + m) = none := by
  induction m with
  | zero => exact h
  | succ m ih => show (oN (vS st (k + m))).2 = none; rw [ih]; rfl
theorem suf_V (s : ByteArray) (st : Option ByteArray) (h : Suf s st) (k : Nat) : Suf s (vS st k) := by
  induction k with
  | zero => exact h
  | succ k ih => exact suf_N s _ ih

set_option maxHeartbeats 1000000 in
theorem vars_c (s : ByteArray) (st : Option ByteArray) (n : Nat) (w : World) (hs : s.size ≤ 1048576) (hsf : Suf s st) (hn : n ≤ 4) :
    Calls Tryd.prog 89 #[.string s, .int .i64 (posI s st), .int .i64 n] w fun e w' => (∃ v, e = .returned (.tuple #[v, .int .i64 (posI s (vS st n))]) ∧ (∃ a m c, v = .slice a m c) ∧ (vS st n ≠ none → GrowsI w' w.heap.size v (vL st n))) ∧ Below w.heap.size w w' := by
  have HSF := Lib.hid (suf_V s st hsf)
  clear hsf
  obtain ⟨p0, hp0⟩ : ∃ p, posI s st = p := ⟨_, rfl⟩
  rw [hp0]
  have HP0 := Lib.hid hp0
  clear hp0
  go_enter Tryd.func89, Tryd.ntmps89
  go_wp2
  go_loopw [1, 8, 9] (fun p v i wr => ∃ k : Nat, k ≤ n ∧ i = .int .i64 k ∧ p = .int .i64 (posI s (vS st k)) ∧ GrowsI wr w.heap.size v (vL st k) ∧ Below w.heap.size w wr) (fun _ _ i _ => n - (intOf i).toNat)
  case atStart => exact ⟨0, by omega, rfl, by rw [← HP0.out]; rfl, growsI_empty w, (Below.refl _ _).alloc (Nat.le_refl _) _⟩
  case round =>
    clear HP0
    obtain ⟨k, hk, rfl, rfl, hv, hb⟩ := hrel
    have HV := Lib.hid hv
    have HB := Lib.hid hb
    have HF := Lib.hid hv.form
    clear hv hb
    by_cases hlt : k < n
    · cases hst : vS st k with
      | none =>
        have HE := Lib.hid (show vS st n = none by have := vS_none st k hst (n - k); rwa [show k + (n - k) = n by omega] at this)
        have hp : posI s none = -1 := rfl
        rw [hp]
        go_wp2
        go_ret2
        rw [HE.out]
        exact ⟨⟨_, rfl, HF.out, fun h => absurd rfl h⟩, HB.out⟩
      | some r =>
        have hsu := HSF.out k
        rw [hst] at hsu
        obtain ⟨z1, z2⟩ := hsu
        have hp : posI s (some r) = ((s.size - r.size : Nat) : Int) := rfl
        rw [hp]
        have HST := Lib.hid hst
        have HZ := Lib.hid z2
        clear hst z2 hp
        obtain ⟨q, hq⟩ : ∃ q, s.size - r.size = q := ⟨_, rfl⟩
        rw [hq]
        have hq1 : q ≤ s.size := by omega
        have hq2 : q + r.size = s.size := by omega
        have HQ := Lib.hid hq
        clear hq
        have hx : s.extract q s.size = r := by rw [← HQ.out]; exact HZ.out.symm
        have hr : r.size ≤ 1048576 := by omega
        have hl : (vL st k).length ≤ 4 := by rw [vL_length]; omega
        have r7 := rvK_le7 r
        have HX := Lib.hid hx
        have hbs := HB.out.size
        go_wp2_with fail
        refine (spec_rv r _ hr).mono ?_
        rintro e w1 ⟨rfl, hb1⟩
        have HV1 := Lib.hid (HV.out.later hb1)
        have HB1 := Lib.hid (HB.out.trans (hb1.mono hbs))
        have hbs1 := hb1.size
        clear HV HB hb1 hx
        by_cases hk0 : rvK r = 0
        · have hkz : (((rvK r : Nat) : Int) == 0) = true := by rw [hk0]; rfl
          have hst2 : vS st (k + 1) = none := by show (oN (vS st k)).2 = none; rw [HST.out, oN_bad r hk0]
          have HE := Lib.hid (show vS st n = none by have := vS_none st (k + 1) hst2 (n - (k + 1)); rwa [show k + 1 + (n - (k + 1)) = n by omega] at this)
          clear hk0 hst2
          go_wp2
          go_ret2
          rw [HE.out]
          exact ⟨⟨_, rfl, HF.out, fun h => absurd rfl h⟩, HB1.out⟩
        · have hkz : (((rvK r : Nat) : Int) == 0) = false := beq_no (by omega)
          have hE1 : oN (vS st k) = (rvN r, some (r.extract (rvK r) r.size)) := by rw [HST.out, oN_ok r hk0]
          have HE1 := Lib.hid hE1
          have hle := rvK_le r
          clear hk0 hE1
          go_wp2_with (at_builtin; refine wp_append_ints rfl (.tmp 37) (.tmp 39) rfl w.heap.size _ (vL st k) [rvN r] rfl (HV1.out.alloc _) w1.heap.size 1 1 rfl rfl (srcI_one w1 _) (by omega) (by simp; omega) ?_; intro v' w' hv' hb')
          go_roundw
          case rel =>
            refine ⟨k + 1, by omega, by go_num, ?_, ?_, ?_⟩
            · show _ = Value.int .i64 (posI s (oN (vS st k)).2)
              rw [HE1.out]
              show _ = Value.int .i64 ((s.size - (r.extract (rvK r) r.size).size : Nat) : Int)
              rw [ext_size r _ _ (Nat.le_refl _)]
              congr 1
              omega
            · show GrowsI _ _ _ (vL st k ++ [(oN (vS st k)).1])
              rw [HE1.out]
              exact hv'
            · exact (HB1.out.alloc (by omega) _).trans hb'
          case measure => simp only [intOf]; omega
    · obtain rfl : k = n := by omega
      go_wp2
      go_ret2
      exact ⟨⟨_, rfl, HF.out, fun _ => HV.out⟩, HB.out⟩
end Go.Proofs.YtmnglcidklckgaaDoor
