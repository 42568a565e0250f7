/- The model's l4Take. -/
import Derived.Test.YtmnglcidklckgaaDoorReadS
namespace Go.Proofs.YtmnglcidklckgaaDoor
open Go.RowKit Go.PlainAid
set_option linter.unusedVariables false

set_option maxRecDepth 100000 in
set_option maxHeartbeats 1000000 in
theorem take_c (s : ByteArray) (st : Option ByteArray) (w : World) (hs : s.size ≤ 1048576) (hsf : Suf s st) :
    Calls Tryd.prog 76 #[.string s, .int .i64 (posI s st)] w fun e w' => e = .returned (.tuple #[.string (oT st).1, .int .i64 (posI s (oT st).2)]) ∧ Below w.heap.size w w' := by
  have hsu := suf_N s st hsf
  have hvars := vars_c s st 1 w hs hsf (by decide)
  have h0 := oN_nonneg st
  have h1 := oN_le st
  unfold oT
  have ev : vS st 1 = (oN st).2 := rfl
  have el : vL st 1 = [(oN st).1] := rfl
  rw [ev, el] at hvars
  clear ev el hsf
  generalize posI s st = p0 at *
  obtain ⟨m, hm⟩ := Int.eq_ofNat_of_zero_le h0
  rw [hm] at h1 hvars ⊢
  clear h0 hm
  generalize (oN st).2 = st1 at *
  have HV := Lib.hid hvars
  clear hvars
  cases st1 with
  | none =>
    rw [oB_none]
    go_enter Tryd.func76, Tryd.ntmps76
    go_wp2_with fail
    refine HV.out.mono ?_
    rintro e w1 ⟨⟨v, rfl, ⟨a, k, c, rfl⟩, _⟩, hb⟩
    have HB := Lib.hid hb
    have hp : posI s none = -1 := rfl
    rw [hp]
    clear hb
    go_wp2
    go_ret2
    exact ⟨rfl, HB.out⟩
  | some r =>
    obtain ⟨z1, z2⟩ := hsu
    have hp : posI s (some r) = ((s.size - r.size : Nat) : Int) := rfl
    rw [hp] at HV
    obtain ⟨q, hq⟩ : ∃ q, s.size - r.size = q := ⟨_, rfl⟩
    rw [hq] at HV z2
    have hq2 : q + r.size = s.size := by omega
    clear hp
    by_cases hbad : (r.size : Int) < (m : Int)
    · rw [oB_bad r _ hbad]
      clear z2 hq
      go_enter Tryd.func76, Tryd.ntmps76
      go_wp2_with fail
      refine HV.out.mono ?_
      rintro e w1 ⟨⟨v, rfl, _, hv⟩, hb⟩
      obtain ⟨g, cap, rfl, hg, hc⟩ := (hv (by simp)).cell (by simp)
      have c0 := hc 0 _ rfl
      have HB := Lib.hid hb
      clear hb hv hc HV
      go_wp2
      go_ret2
      exact ⟨rfl, HB.out⟩
    · rw [oB_ok r _ (by omega)]
      simp only [Int.toNat_natCast]
      have e1 : r.extract 0 m = s.extract q (q + m) := by
        rw [z2, ext_ext s _ _ _ _ (Nat.le_refl _) (by omega)]
        rfl
      have e2 : posI s (some (r.extract m r.size)) = (q : Int) + m := by
        show ((s.size - (r.extract m r.size).size : Nat) : Int) = _
        rw [ext_size r _ _ (Nat.le_refl _)]
        omega
      rw [e1, e2]
      clear z2 hq e1 e2
      have hbd : q + m ≤ s.size := by omega
      go_enter Tryd.func76, Tryd.ntmps76
      go_wp2_with fail
      refine HV.out.mono ?_
      rintro e w1 ⟨⟨v, rfl, _, hv⟩, hb⟩
      obtain ⟨g, cap, rfl, hg, hc⟩ := (hv (by simp)).cell (by simp)
      have c0 := hc 0 _ rfl
      have HB := Lib.hid hb
      clear hb hv hc HV
      go_wp2_with fail
      have y1 : (q : Int) ≤ (s.size : Int) := by omega
      have y2 : (q : Int) + (m : Int) ≤ (s.size : Int) := by omega
      have y3 : IntKind.i64.wrap ((q : Int) + (m : Int)) = (q : Int) + (m : Int) := IntWalk.i64_in _ (by omega)
      go_quiet (fail)
      go_wp2
      go_ret2
      exact ⟨rfl, dn HB.out _⟩
end Go.Proofs.YtmnglcidklckgaaDoor
