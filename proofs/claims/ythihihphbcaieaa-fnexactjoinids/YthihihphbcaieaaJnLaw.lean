/- The law over JoinIds and its model: it returns true. -/
import Derived.Test.YthihihphbcaieaaJnS
namespace Go.Proofs.Ythihihphbcaieaa
open Go.RowKit Go.PlainAid
set_option linter.unusedVariables false

set_option maxRecDepth 100000 in
set_option maxHeartbeats 2000000 in
theorem law_joinIds (v u : Value) (a b : List Ii) (w : World) (hv : Ids w v a) (hu : Ids w u b) :
    Calls Try.prog 4 #[v, u] w fun e w' => e = .returned (.bool true) ∧ Below w.heap.size w w' := by
  obtain ⟨va, na, ca, hve⟩ := hv.form
  obtain ⟨vb, nb, cb, hue⟩ := hu.form
  subst hve hue
  have BA := Lib.hid (fun h0 k hk => hv.block h0 k hk)
  have BB := Lib.hid (fun h0 k hk => hu.block h0 k hk)
  have VA := Lib.hid hv
  have VB := Lib.hid hu
  clear hv hu
  by_cases hbig : (1048576 : Int) < (a.length : Int)
  · go_enter Try.func4, Try.ntmps4
    go_wp2_with fail
    refine (sz_idL_no _ a _ _ VA.out hbig (by omega) (by omega)).mono ?_
    rintro e w1 ⟨rfl, b1⟩
    have A1 := Lib.hid b1
    clear b1
    go_wp2
    go_ret
    exact ⟨rfl, A1.out⟩
  by_cases hbig2 : (1048576 : Int) - (a.length : Int) < (b.length : Int)
  · go_enter Try.func4, Try.ntmps4
    go_wp2_with fail
    refine (sz_idL_yes _ a _ _ VA.out (by omega) (by omega)).mono ?_
    rintro e w1 ⟨rfl, b1⟩
    have A1 := Lib.hid (show Af w w1 from b1)
    have VB := Lib.hid (VB.out.later b1)
    obtain ⟨r, hr⟩ : ∃ r : Int, 1048576 - (a.length : Int) = r := ⟨_, rfl⟩
    rw [hr] at hbig2 ⊢
    have hd : decide (r < 0) = false := dec_f (by omega)
    have hr0 : 0 ≤ r := by omega
    have hr1 : r ≤ 1048576 := by omega
    clear b1 hr hbig
    go_wp2_with fail
    refine (sz_idL_no _ b _ _ VB.out hbig2 hr0 hr1).mono ?_
    rintro e w2 ⟨rfl, b2⟩
    have A2 := Lib.hid (A1.out.after b2)
    clear b2 hd
    go_wp2
    go_ret
    exact ⟨rfl, A2.out⟩
  have HLN := Lib.hid (show a.length + b.length ≤ 1048576 by omega)
  have HLA := Lib.hid (show a.length ≤ 1048576 by omega)
  have HLB := Lib.hid (show b.length ≤ 1048576 by omega)
  have HLJ := Lib.hid (show (joinI a b).length ≤ 1048576 by
    rw [joinI_eq]
    split
    · have := mrg_length a b; omega
    · simp)
  obtain ⟨j, hj⟩ : ∃ j, joinI a b = j := ⟨_, rfl⟩
  have HJ := Lib.hid hj
  rw [hj] at HLJ
  clear hj
  go_enter Try.func4, Try.ntmps4
  have AF := Lib.hid (Af.refl w)
  go_wp2_with fail
  refine (sz_idL_yes _ a _ _ VA.out (by omega) (by omega)).mono ?_
  rintro e w1 ⟨rfl, bb⟩
  have AF := Lib.hid (AF.out.after bb)
  have VA := Lib.hid (VA.out.later bb)
  have VB := Lib.hid (VB.out.later bb)
  obtain ⟨r, hr⟩ : ∃ r : Int, 1048576 - (a.length : Int) = r := ⟨_, rfl⟩
  rw [hr] at hbig2 ⊢
  have hd : decide (r < 0) = false := dec_f (by omega)
  have hr1 : r ≤ 1048576 := by omega
  clear bb hr hbig
  go_wp2_with fail
  refine (sz_idL_yes _ b _ _ VB.out (by omega) hr1).mono ?_
  rintro e w2 ⟨rfl, bb⟩
  have AF := Lib.hid (AF.out.after bb)
  have VA := Lib.hid (VA.out.later bb)
  have VB := Lib.hid (VB.out.later bb)
  obtain ⟨r2, hr2⟩ : ∃ r2 : Int, r - (b.length : Int) = r2 := ⟨_, rfl⟩
  rw [hr2]
  have hd2 : decide (r2 < 0) = false := dec_f (by omega)
  clear bb hr2 hbig2 hd hr1
  go_wp2_with fail
  refine (to_idL _ a _ VA.out HLA.out).mono ?_
  rintro e w3 ⟨uu, rfl, oo, bb, ob⟩
  have AF := Lib.hid (AF.out.after bb)
  have VA := Lib.hid (VA.out.later bb)
  have VB := Lib.hid (VB.out.later bb)
  obtain ⟨aT0, nT0, cT0, rfl⟩ := oo.form
  have T0 := Lib.hid oo
  have OBT0 := Lib.hid ob
  have SZT0 := Lib.hid bb.size
  clear bb oo ob
  clear hd2
  go_wp2_with fail
  refine (to_idL _ b _ VB.out HLB.out).mono ?_
  rintro e w4 ⟨uu, rfl, oo, bb, ob⟩
  have AF := Lib.hid (AF.out.after bb)
  have VA := Lib.hid (VA.out.later bb)
  have VB := Lib.hid (VB.out.later bb)
  have T0 := Lib.hid (T0.out.later bb)
  obtain ⟨aT1, nT1, cT1, rfl⟩ := oo.form
  have T1 := Lib.hid oo
  have OBT1 := Lib.hid ob
  have SZT1 := Lib.hid bb.size
  clear bb oo ob
  go_wp2_with fail
  refine (spec_join _ _ a b _ T0.out.ids T1.out.ids HLN.out).mono ?_
  rintro e w5 ⟨⟨uu, rfl, oo⟩, bb⟩
  have AF := Lib.hid (AF.out.after bb)
  have VA := Lib.hid (VA.out.later bb)
  have VB := Lib.hid (VB.out.later bb)
  have T0 := Lib.hid (T0.out.later bb)
  have T1 := Lib.hid (T1.out.later bb)
  rw [HJ.out] at oo
  obtain ⟨aS, nS, cS, rfl⟩ := oo.own.form
  have OBS := Lib.hid (fun k hk => oo.lt k hk)
  have SS := Lib.hid oo.own.ids
  clear bb oo
  clear T0
  clear T1
  clear OBT0 OBT1 SZT0 SZT1
  have ZS : w.heap.size ≤ w5.heap.size := AF.out.size
  go_wp2_with fail
  refine (to_idL _ a _ VA.out HLA.out).mono ?_
  rintro e w6 ⟨uu, rfl, oo, bb, ob⟩
  have AF := Lib.hid (AF.out.after bb)
  have VA := Lib.hid (VA.out.later bb)
  have VB := Lib.hid (VB.out.later bb)
  have SS := Lib.hid (SS.out.later bb)
  obtain ⟨aX0, nX0, cX0, rfl⟩ := oo.form
  have X0 := Lib.hid oo
  have OBX0 := Lib.hid ob
  have SZX0 := Lib.hid bb.size
  clear bb oo ob
  go_wp2_with fail
  refine (to_idL _ b _ VB.out HLB.out).mono ?_
  rintro e w7 ⟨uu, rfl, oo, bb, ob⟩
  have AF := Lib.hid (AF.out.after bb)
  have VA := Lib.hid (VA.out.later bb)
  have VB := Lib.hid (VB.out.later bb)
  have SS := Lib.hid (SS.out.later bb)
  have X0 := Lib.hid (X0.out.later bb)
  obtain ⟨aX1, nX1, cX1, rfl⟩ := oo.form
  have X1 := Lib.hid oo
  have OBX1 := Lib.hid ob
  have SZX1 := Lib.hid bb.size
  clear bb oo ob
  go_wp2_with fail
  refine (impl_join _ _ a b _ X0.out.ids X1.out.ids HLN.out).mono ?_
  rintro e w8 ⟨⟨uu, rfl, oo⟩, bb⟩
  have AF := Lib.hid (AF.out.after bb)
  have VA := Lib.hid (VA.out.later bb)
  have VB := Lib.hid (VB.out.later bb)
  have SS := Lib.hid (SS.out.later bb)
  have X0 := Lib.hid (X0.out.later bb)
  have X1 := Lib.hid (X1.out.later bb)
  rw [HJ.out] at oo
  obtain ⟨aG, nG, cG, rfl⟩ := oo.own.form
  have OBG := Lib.hid (fun k hk => oo.lt k hk)
  have GG := Lib.hid oo.own
  have SZG := Lib.hid bb.size
  clear bb oo
  have hX0 := OBX0.out
  have hX1 := OBX1.out
  have hG := OBG.out
  have hS := OBS.out
  have h01 := SZX0.out
  have h12 := SZX1.out
  have h23 := SZG.out
  have DIS := Lib.hid (show (∀ k, Value.ownBlock (.slice aX0 nX0 cX0) = some k → w.heap.size ≤ k ∧ (Value.ownBlock (.slice aS nS cS) ≠ some k) ∧ (Value.ownBlock (.slice aG nG cG) ≠ some k) ∧ Value.ownBlock (.slice aX1 nX1 cX1) ≠ some k) ∧ (∀ k, Value.ownBlock (.slice aX1 nX1 cX1) = some k → w.heap.size ≤ k ∧ (Value.ownBlock (.slice aS nS cS) ≠ some k) ∧ Value.ownBlock (.slice aG nG cG) ≠ some k) ∧ (∀ k, Value.ownBlock (.slice aG nG cG) = some k → w.heap.size ≤ k ∧ Value.ownBlock (.slice aS nS cS) ≠ some k) from
    ⟨fun k hk => ⟨by have := hX0 k hk; omega, fun e => by have := hX0 k hk; have := hS k e; omega, fun e => by have := hX0 k hk; have := hG k e; omega, fun e => by have := hX0 k hk; have := hX1 k e; omega⟩, fun k hk => ⟨by have := hX1 k hk; omega, fun e => by have := hX1 k hk; have := hS k e; omega, fun e => by have := hX1 k hk; have := hG k e; omega⟩, fun k hk => ⟨by have := hG k hk; omega, fun e => by have := hG k hk; have := hS k e; omega⟩⟩)
  clear hX0 hX1 hG hS h01 h12 h23 OBX0 OBX1 OBG OBS SZX0 SZX1 SZG ZS
  go_wp2_with fail
  refine (eq_idL_same _ _ j _ GG.out.ids SS.out).mono ?_
  rintro e w9 ⟨rfl, bb⟩
  have AF := Lib.hid (AF.out.after bb)
  have VA := Lib.hid (VA.out.later bb)
  have VB := Lib.hid (VB.out.later bb)
  have SS := Lib.hid (SS.out.later bb)
  have X0 := Lib.hid (X0.out.later bb)
  have X1 := Lib.hid (X1.out.later bb)
  have GG := Lib.hid (GG.out.later bb)
  clear bb
  go_wp2_with fail
  refine (to_idL _ a _ VA.out HLA.out).mono ?_
  rintro e w10 ⟨uu, rfl, oo, bb, ob⟩
  have AF := Lib.hid (AF.out.after bb)
  have VA := Lib.hid (VA.out.later bb)
  have VB := Lib.hid (VB.out.later bb)
  have SS := Lib.hid (SS.out.later bb)
  have X0 := Lib.hid (X0.out.later bb)
  have X1 := Lib.hid (X1.out.later bb)
  have GG := Lib.hid (GG.out.later bb)
  obtain ⟨aY0, nY0, cY0, rfl⟩ := oo.form
  have Y0 := Lib.hid oo
  have OBY0 := Lib.hid ob
  have SZY0 := Lib.hid bb.size
  clear bb oo ob
  go_wp2_with fail
  refine (eq_idL_same _ _ a _ X0.out.ids Y0.out.ids).mono ?_
  rintro e w11 ⟨rfl, bb⟩
  have AF := Lib.hid (AF.out.after bb)
  have VA := Lib.hid (VA.out.later bb)
  have VB := Lib.hid (VB.out.later bb)
  have SS := Lib.hid (SS.out.later bb)
  have X0 := Lib.hid (X0.out.later bb)
  have X1 := Lib.hid (X1.out.later bb)
  have GG := Lib.hid (GG.out.later bb)
  have Y0 := Lib.hid (Y0.out.later bb)
  clear bb
  clear Y0
  clear OBY0 SZY0
  go_wp2_with fail
  refine (to_idL _ b _ VB.out HLB.out).mono ?_
  rintro e w12 ⟨uu, rfl, oo, bb, ob⟩
  have AF := Lib.hid (AF.out.after bb)
  have VA := Lib.hid (VA.out.later bb)
  have VB := Lib.hid (VB.out.later bb)
  have SS := Lib.hid (SS.out.later bb)
  have X0 := Lib.hid (X0.out.later bb)
  have X1 := Lib.hid (X1.out.later bb)
  have GG := Lib.hid (GG.out.later bb)
  obtain ⟨aY1, nY1, cY1, rfl⟩ := oo.form
  have Y1 := Lib.hid oo
  have OBY1 := Lib.hid ob
  have SZY1 := Lib.hid bb.size
  clear bb oo ob
  go_wp2_with fail
  refine (eq_idL_same _ _ b _ X1.out.ids Y1.out.ids).mono ?_
  rintro e w13 ⟨rfl, bb⟩
  have AF := Lib.hid (AF.out.after bb)
  have VA := Lib.hid (VA.out.later bb)
  have VB := Lib.hid (VB.out.later bb)
  have SS := Lib.hid (SS.out.later bb)
  have X0 := Lib.hid (X0.out.later bb)
  have X1 := Lib.hid (X1.out.later bb)
  have GG := Lib.hid (GG.out.later bb)
  have Y1 := Lib.hid (Y1.out.later bb)
  clear bb
  clear Y1
  clear OBY1 SZY1
  go_wp2_with fail
  refine (mark_idL _ a _ 1 _ X0.out (by have := HLA.out; omega) (by omega) (by omega)).mono ?_
  rintro e w14 ⟨rfl, mm, gg⟩
  have AF := Lib.hid (AF.out.grow gg (fun k hk => (DIS.out.1 k hk).1))
  have VA := Lib.hid (VA.out.keep0 gg (fun h0 k hk e => by have h1 := BA.out h0 k e; have h2 := (DIS.out.1 k hk).1; omega))
  have VB := Lib.hid (VB.out.keep0 gg (fun h0 k hk e => by have h1 := BB.out h0 k e; have h2 := (DIS.out.1 k hk).1; omega))
  have SS := Lib.hid (SS.out.keep0 gg (fun _ k hk => (DIS.out.1 k hk).2.1))
  have X1 := Lib.hid (X1.out.keepB gg (fun _ k hk => (DIS.out.1 k hk).2.2.2))
  have GG := Lib.hid (GG.out.keepB gg (fun _ k hk => (DIS.out.1 k hk).2.2.1))
  clear mm gg
  clear X0
  obtain ⟨k1, hk1⟩ : ∃ k1 : Int, 1 + 2 * (a.length : Int) = k1 := ⟨_, rfl⟩
  rw [hk1]
  have hk1a : 0 ≤ k1 := by omega
  have hk1b : k1 ≤ 1099511627776 := by have := HLA.out; omega
  clear hk1
  go_wp2_with fail
  refine (mark_idL _ b _ k1 _ X1.out (by have := HLB.out; omega) (by omega) (by omega)).mono ?_
  rintro e w15 ⟨rfl, mm, gg⟩
  have AF := Lib.hid (AF.out.grow gg (fun k hk => (DIS.out.2.1 k hk).1))
  have VA := Lib.hid (VA.out.keep0 gg (fun h0 k hk e => by have h1 := BA.out h0 k e; have h2 := (DIS.out.2.1 k hk).1; omega))
  have VB := Lib.hid (VB.out.keep0 gg (fun h0 k hk e => by have h1 := BB.out h0 k e; have h2 := (DIS.out.2.1 k hk).1; omega))
  have SS := Lib.hid (SS.out.keep0 gg (fun _ k hk => (DIS.out.2.1 k hk).2.1))
  have GG := Lib.hid (GG.out.keepB gg (fun _ k hk => (DIS.out.2.1 k hk).2.2))
  clear mm gg
  clear X1
  obtain ⟨k2, hk2⟩ : ∃ k2 : Int, k1 + 2 * (b.length : Int) = k2 := ⟨_, rfl⟩
  rw [hk2]
  have dk : decide (k2 < 0) = false := dec_f (by omega)
  clear hk2 hk1a hk1b
  go_wp2_with fail
  refine (eq_idL_same _ _ j _ GG.out.ids SS.out).mono ?_
  rintro e w16 ⟨rfl, bb⟩
  have AF := Lib.hid (AF.out.after bb)
  have VA := Lib.hid (VA.out.later bb)
  have VB := Lib.hid (VB.out.later bb)
  have SS := Lib.hid (SS.out.later bb)
  have GG := Lib.hid (GG.out.later bb)
  clear bb
  clear dk
  go_wp2_with fail
  refine (mark_idL _ j _ 1 _ GG.out (by have := HLJ.out; omega) (by omega) (by omega)).mono ?_
  rintro e w17 ⟨rfl, mm, gg⟩
  have AF := Lib.hid (AF.out.grow gg (fun k hk => (DIS.out.2.2 k hk).1))
  have VA := Lib.hid (VA.out.keep0 gg (fun h0 k hk e => by have h1 := BA.out h0 k e; have h2 := (DIS.out.2.2 k hk).1; omega))
  have VB := Lib.hid (VB.out.keep0 gg (fun h0 k hk e => by have h1 := BB.out h0 k e; have h2 := (DIS.out.2.2 k hk).1; omega))
  have SS := Lib.hid (SS.out.keep0 gg (fun _ k hk => (DIS.out.2.2 k hk).2))
  have MM := Lib.hid mm
  clear mm gg
  clear GG
  obtain ⟨m, hm⟩ : ∃ m : Int, 1 + 2 * (j.length : Int) = m := ⟨_, rfl⟩
  have HM := Lib.hid hm
  rw [hm]
  have dm : decide (m < 0) = false := dec_f (by omega)
  clear hm
  go_wp2_with fail
  refine (held_idL _ j 1 _ MM.out.ids (by have := HLJ.out; omega) (by omega) (by omega)).mono ?_
  rintro e w18 ⟨rfl, bb⟩
  rw [HM.out]
  have AF := Lib.hid (AF.out.after bb)
  have VA := Lib.hid (VA.out.later bb)
  have VB := Lib.hid (VB.out.later bb)
  have SS := Lib.hid (SS.out.later bb)
  have MM := Lib.hid (MM.out.later bb)
  clear bb
  go_wp2_with fail
  refine (to_idL _ a _ VA.out HLA.out).mono ?_
  rintro e w19 ⟨uu, rfl, oo, bb, ob⟩
  have AF := Lib.hid (AF.out.after bb)
  have VA := Lib.hid (VA.out.later bb)
  have VB := Lib.hid (VB.out.later bb)
  have SS := Lib.hid (SS.out.later bb)
  have MM := Lib.hid (MM.out.later bb)
  obtain ⟨aZ0, nZ0, cZ0, rfl⟩ := oo.form
  have Z0 := Lib.hid oo
  have OBZ0 := Lib.hid ob
  have SZZ0 := Lib.hid bb.size
  clear bb oo ob
  go_wp2_with fail
  refine (to_idL _ b _ VB.out HLB.out).mono ?_
  rintro e w20 ⟨uu, rfl, oo, bb, ob⟩
  have AF := Lib.hid (AF.out.after bb)
  have VA := Lib.hid (VA.out.later bb)
  have VB := Lib.hid (VB.out.later bb)
  have SS := Lib.hid (SS.out.later bb)
  have MM := Lib.hid (MM.out.later bb)
  have Z0 := Lib.hid (Z0.out.later bb)
  obtain ⟨aZ1, nZ1, cZ1, rfl⟩ := oo.form
  have Z1 := Lib.hid oo
  have OBZ1 := Lib.hid ob
  have SZZ1 := Lib.hid bb.size
  clear bb oo ob
  go_wp2_with fail
  refine (impl_join _ _ a b _ Z0.out.ids Z1.out.ids HLN.out).mono ?_
  rintro e w21 ⟨⟨uu, rfl, oo⟩, bb⟩
  have AF := Lib.hid (AF.out.after bb)
  have VA := Lib.hid (VA.out.later bb)
  have VB := Lib.hid (VB.out.later bb)
  have SS := Lib.hid (SS.out.later bb)
  have MM := Lib.hid (MM.out.later bb)
  have Z0 := Lib.hid (Z0.out.later bb)
  have Z1 := Lib.hid (Z1.out.later bb)
  rw [HJ.out] at oo
  obtain ⟨aH, nH, cH, rfl⟩ := oo.own.form
  have HH := Lib.hid oo.own.ids
  clear bb oo
  clear Z0
  clear Z1
  clear OBZ0 OBZ1 SZZ0 SZZ1
  go_wp2_with fail
  refine (eq_idL_same _ _ j _ HH.out SS.out).mono ?_
  rintro e w22 ⟨rfl, bb⟩
  have AF := Lib.hid (AF.out.after bb)
  have VA := Lib.hid (VA.out.later bb)
  have VB := Lib.hid (VB.out.later bb)
  have SS := Lib.hid (SS.out.later bb)
  have MM := Lib.hid (MM.out.later bb)
  have HH := Lib.hid (HH.out.later bb)
  clear bb
  clear HH
  go_wp2_with fail
  refine (held_idL _ j 1 _ MM.out.ids (by have := HLJ.out; omega) (by omega) (by omega)).mono ?_
  rintro e w23 ⟨rfl, bb⟩
  rw [HM.out]
  have AF := Lib.hid (AF.out.after bb)
  have VA := Lib.hid (VA.out.later bb)
  have VB := Lib.hid (VB.out.later bb)
  have SS := Lib.hid (SS.out.later bb)
  have MM := Lib.hid (MM.out.later bb)
  clear bb
  go_wp2
  go_ret
  exact ⟨rfl, AF.out⟩
end Go.Proofs.Ythihihphbcaieaa
