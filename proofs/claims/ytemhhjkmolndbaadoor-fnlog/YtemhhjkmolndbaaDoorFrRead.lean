/- readFrame, by one contract. -/
import Derived.Test.YtemhhjkmolndbaaDoorWrt2
import Derived.Test.YtemhhjkmolndbaaDoorRdr
import Derived.Test.YtemhhjkmolndbaaDoorCloneC
namespace Go.Proofs.YtemhhjkmolndbaaDoor
open Go.RowKit Go.PlainAid
set_option linter.unusedVariables false

/-- What is read of the frame with which r begins: its contents and its size, or nothing. -/
@[irreducible] def frA (r : ByteArray) : ByteArray := if frOk r then frC r else ⟨#[]⟩
@[irreducible] def frZ (r : ByteArray) : Nat := if frOk r then (frameS (frC r)).size else 0
theorem frA_ok (r : ByteArray) (h : frOk r = true) : frA r = frC r := by unfold frA; rw [if_pos h]
theorem frZ_ok (r : ByteArray) (h : frOk r = true) : frZ r = (frameS (frC r)).size := by unfold frZ; rw [if_pos h]
theorem frA_no (r : ByteArray) (h : frOk r = false) : frA r = ⟨#[]⟩ := by unfold frA; rw [h]; rfl
theorem frZ_no (r : ByteArray) (h : frOk r = false) : frZ r = 0 := by unfold frZ; rw [h]; rfl
theorem fr_not (r : ByteArray) (h : ¬ frOk r = true) : frOk r = false := by simpa using h
theorem fr_short (r : ByteArray) (h : r.size < 4) : frOk r = false := fr_not r fun k => by have := ((frOk_iff r).1 k).1; omega
theorem fr_noK (r : ByteArray) (h : rvK (r.extract 4 r.size) = 0) : frOk r = false := fr_not r fun k => by
  obtain ⟨q, hq⟩ := ((frOk_iff r).1 k).2.1
  unfold frT oT at hq
  rw [oN_bad _ h, oB_none] at hq
  cases hq
/-- The parts of what stands behind the checksum, where they are there. -/
theorem fr_parts (r x : ByteArray) (K m : Nat) (hx : r.extract 4 r.size = x) (hK : rvK x = K) (h0 : K ≠ 0) (hm : rvN x = (m : Int)) (hb : K + m ≤ x.size) :
    (frT r).1 = x.extract K (K + m) ∧ (∃ q, (frT r).2 = some q) ∧ (frT r).1.size = m ∧ showT (frT r).1 = x.extract 0 (K + m) := by
  have e1 : oN (some x) = (rvN x, some (x.extract K x.size)) := by rw [oN_ok x (by rw [hK]; exact h0), hK]
  have hz : (x.extract K x.size).size = x.size - K := ext_size x _ _ (Nat.le_refl _)
  have e2 : frT r = (x.extract K (K + m), some ((x.extract K x.size).extract m (x.extract K x.size).size)) := by
    unfold frT oT
    rw [hx, e1, hm]
    simp only
    rw [oB_ok _ _ (by omega), Int.toNat_natCast, ext_ext x _ _ _ _ (Nat.le_refl _) (by omega)]
    rfl
  have hs : (x.extract K (K + m)).size = m := by rw [ext_size x _ _ hb]; omega
  rw [e2]
  refine ⟨rfl, ⟨_, rfl⟩, hs, ?_⟩
  show showT (x.extract K (K + m)) = _
  have hr := rv_read x (by rw [hK]; exact h0)
  rw [hK, hm] at hr
  unfold showT
  rw [hs, ← hr, ext_join x 0 _ _ (by omega) (by omega)]
theorem fr_noB (r x : ByteArray) (K m : Nat) (hx : r.extract 4 r.size = x) (hK : rvK x = K) (h0 : K ≠ 0) (hm : rvN x = (m : Int)) (hb : x.size < K + m) : frOk r = false := fr_not r fun k => by
  obtain ⟨q, hq⟩ := ((frOk_iff r).1 k).2.1
  have e1 : oN (some x) = (rvN x, some (x.extract K x.size)) := by rw [oN_ok x (by rw [hK]; exact h0), hK]
  have hz : (x.extract K x.size).size = x.size - K := ext_size x _ _ (Nat.le_refl _)
  unfold frT oT at hq
  rw [hx, e1, hm] at hq
  simp only at hq
  rw [oB_bad _ _ (by have := rvK_le x; omega)] at hq
  cases hq
theorem rf_contract (s : ByteArray) (w : World) (hs : s.size ≤ 1048576) (h4 : 4 ≤ s.size) :
    Calls Tryd.prog 114 #[.string s, .int .i64 4] w fun e w' => e = .returned (.tuple #[.int .i64 (rf s 4), .bool true]) ∧ w = w' :=
  impl_rf s 4 w (by unfold maxLen; omega) (by decide) (by decide) (by omega)
theorem rf_contract_no (s : ByteArray) (w : World) (hs : s.size ≤ 1048576) (h4 : s.size < 4) :
    Calls Tryd.prog 114 #[.string s, .int .i64 4] w fun e w' => e = .returned (.tuple #[.int .i64 0, .bool false]) ∧ w = w' :=
  impl_rf_no s 4 w (by unfold maxLen; omega) (.inr (.inr (by omega)))

set_option maxRecDepth 100000 in
set_option maxHeartbeats 1000000 in
theorem read_frame (r : ByteArray) (w : World) (hr : r.size ≤ 1048576) (ht : TabC w) :
    Calls Tryd.prog 82 #[.string r] w fun e w' => e = .returned (.tuple #[.string (frA r), .int .i64 (frZ r : Nat)]) ∧ Below w.heap.size w w' := by
  have HT := Lib.hid ht
  clear ht
  by_cases h4 : r.size < 4
  · rw [frA_no r (fr_short r h4), frZ_no r (fr_short r h4)]
    go_enter Tryd.func82, Tryd.ntmps82
    go_wp2_with (go_at_call 114; refine (rf_contract_no r _ hr h4).mono ?_; rintro e w1 ⟨rfl, rfl⟩)
    go_ret2
    exact ⟨rfl, Below.refl _ _⟩
  · have h4' : (4 : Int) ≤ (r.size : Int) := by omega
    have h4n : 4 ≤ r.size := by omega
    clear h4
    obtain ⟨x, hx⟩ : ∃ x, r.extract 4 r.size = x := ⟨_, rfl⟩
    have hz : x.size = r.size - 4 := by rw [← hx]; exact ext_size r _ _ (Nat.le_refl _)
    obtain ⟨K, hK⟩ : ∃ K, rvK x = K := ⟨_, rfl⟩
    have n0 := rvN_nonneg x
    have n1 := rvN_le x
    have k7 := rvK_le7 x
    have kz := rvK_le x
    obtain ⟨m, hm⟩ := Int.eq_ofNat_of_zero_le n0
    have hrv : ∀ W, Calls Tryd.prog 115 #[.string x] W fun e w' => e = .returned (.tuple #[.int .i64 m, .int .i64 (K : Nat)]) ∧ W = w' := fun W => by
      have := impl_rv x W (by omega)
      rwa [hm, hK] at this
    rw [hK] at k7 kz
    rw [hm] at n1
    have q0 := rf_nonneg r 4
    have q1 := rf4_le r
    have hrf := fun W => rf_contract r W hr h4n
    by_cases hK0 : K = 0
    · rw [frA_no r (fr_noK r (by rw [hx, hK]; exact hK0)), frZ_no r (fr_noK r (by rw [hx, hK]; exact hK0))]
      subst hK0
      clear hK hm n0
      have HRV := Lib.hid hrv
      have HRF := Lib.hid hrf
      clear hrv hrf
      generalize rf r 4 = sm at *
      go_enter Tryd.func82, Tryd.ntmps82
      go_wp2_with (first
        | (go_at_call 114; refine (HRF.out _).mono ?_; rintro e w1 ⟨rfl, rfl⟩)
        | (go_at_call 115; refine (HRV.out _).mono ?_; rintro e w1 ⟨rfl, rfl⟩))
      go_ret2
      exact ⟨rfl, Below.refl _ _⟩
    · by_cases h200 : (200 : Int) < m
      · have hno : frOk r = false := by
          by_cases hb : K + m ≤ x.size
          · obtain ⟨_, _, p3, _⟩ := fr_parts r x K m hx hK hK0 hm hb
            exact fr_not r fun k => by have := ((frOk_iff r).1 k).2.2.1; omega
          · exact fr_noB r x K m hx hK hK0 hm (by omega)
        rw [frA_no r hno, frZ_no r hno]
        clear hK hm n0 hno
        have HRV := Lib.hid hrv
        have HRF := Lib.hid hrf
        clear hrv hrf
        generalize rf r 4 = sm at *
        have hkz : ((K : Int) == 0) = false := beq_no (by omega)
        go_enter Tryd.func82, Tryd.ntmps82
        go_wp2_with (first
          | (go_at_call 114; refine (HRF.out _).mono ?_; rintro e w1 ⟨rfl, rfl⟩)
          | (go_at_call 115; refine (HRV.out _).mono ?_; rintro e w1 ⟨rfl, rfl⟩))
        go_ret2
        exact ⟨rfl, Below.refl _ _⟩
      · by_cases hb : x.size < K + m
        · have hno := fr_noB r x K m hx hK hK0 hm hb
          rw [frA_no r hno, frZ_no r hno]
          clear hK hm n0 hno
          have HRV := Lib.hid hrv
          have HRF := Lib.hid hrf
          clear hrv hrf
          generalize rf r 4 = sm at *
          have hkz : ((K : Int) == 0) = false := beq_no (by omega)
          go_enter Tryd.func82, Tryd.ntmps82
          go_wp2_with (first
            | (go_at_call 114; refine (HRF.out _).mono ?_; rintro e w1 ⟨rfl, rfl⟩)
            | (go_at_call 115; refine (HRV.out _).mono ?_; rintro e w1 ⟨rfl, rfl⟩))
          go_ret2
          exact ⟨rfl, Below.refl _ _⟩
        · obtain ⟨p1, p2, p3, p4⟩ := fr_parts r x K m hx hK hK0 hm (by omega)
          have hbi : (K : Int) + (m : Int) ≤ (x.size : Int) := by omega
          obtain ⟨y, hy⟩ : ∃ y, x.extract 0 (K + m) = y := ⟨_, rfl⟩
          have yz : y.size = K + m := by rw [← hy, ext_size x _ _ (by omega)]; omega
          have hcr := fun W (h : TabC W) => impl_crcV y W (by omega) h
          have hok : frOk r = decide (crcV y = rf r 4) := by
            rw [Bool.eq_iff_iff, frOk_iff, decide_eq_true_iff, p4, hy]
            exact ⟨fun h => h.2.2.2, fun h => ⟨h4n, p2, by omega, h⟩⟩
          have eC : frC r = y.extract K (K + m) := by
            have : frC r = (frT r).1 := by unfold frC; rfl
            rw [this, p1, ← hy, ext_ext x 0 _ _ _ (by omega) (by omega)]
            simp
          have eZ : (frameS (frC r)).size = 4 + (K + m) := by
            have e : frC r = (frT r).1 := by unfold frC; rfl
            rw [e, frameS_size _ (by omega), p4, hy, yz]
          clear p1 p2 p3 p4 hK hm n0
          have c0 := crcV_nonneg y
          have c1 := crcV_le y
          have hcl := fun W => clone_c (y.extract K (K + m)) W (by rw [ext_size y _ _ (by omega)]; omega)
          have HRV := Lib.hid hrv
          have HRF := Lib.hid hrf
          have HCR := Lib.hid hcr
          have HCL := Lib.hid hcl
          have HZ := Lib.hid eZ
          clear hrv hrf hcr hcl eZ
          have hkz : ((K : Int) == 0) = false := beq_no (by omega)
          have hsl : IntKind.i64.wrap ((K : Int) + (m : Int)) = (K : Int) + (m : Int) := IntWalk.i64_in _ (by omega)
          by_cases hc : crcV y = rf r 4
          · have ho : frOk r = true := by rw [hok]; exact decide_eq_true hc
            rw [frA_ok r ho, frZ_ok r ho, HZ.out, eC, show ((4 + (K + m) : Nat) : Int) = 4 + ((K : Int) + (m : Int)) by omega]
            have HO := Lib.hid ho
            have hcb : (crcV y != rf r 4) = false := by rw [hc]; simp
            clear hok ho eC hc HZ
            generalize rf r 4 = sm at *
            generalize crcV y = cv at *
            go_enter Tryd.func82, Tryd.ntmps82
            go_wp2_with (first
              | (go_at_call 114; refine (HRF.out _).mono ?_; rintro e w1 ⟨rfl, rfl⟩)
              | (go_at_call 115; refine (HRV.out _).mono ?_; rintro e w1 ⟨rfl, rfl⟩)
              | (go_at_call 111; refine (HCR.out _ HT.out).mono ?_; rintro e w2 ⟨rfl, hb2⟩)
              | (go_at_call 65; refine (HCL.out _).mono ?_; rintro e w3 ⟨rfl, hb3⟩))
            go_ret2
            exact ⟨rfl, hb2.trans (hb3.mono hb2.size)⟩
          · have ho : frOk r = false := by rw [hok]; exact decide_eq_false hc
            rw [frA_no r ho, frZ_no r ho]
            have hcb : (crcV y != rf r 4) = true := by simpa using hc
            clear hok ho eC hc HZ HCL
            generalize rf r 4 = sm at *
            generalize crcV y = cv at *
            go_enter Tryd.func82, Tryd.ntmps82
            go_wp2_with (first
              | (go_at_call 114; refine (HRF.out _).mono ?_; rintro e w1 ⟨rfl, rfl⟩)
              | (go_at_call 115; refine (HRV.out _).mono ?_; rintro e w1 ⟨rfl, rfl⟩)
              | (go_at_call 111; refine (HCR.out _ HT.out).mono ?_; rintro e w2 ⟨rfl, hb2⟩))
            go_ret2
            exact ⟨rfl, hb2⟩
end Go.Proofs.YtemhhjkmolndbaaDoor
