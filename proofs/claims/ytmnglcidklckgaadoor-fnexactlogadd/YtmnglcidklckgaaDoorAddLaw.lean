/- The law over LogAdd and its model: it returns true. -/
import Derived.Test.YtmnglcidklckgaaDoorAddW
import Derived.Test.YtmnglcidklckgaaDoorSpAdd
import Derived.Test.YtmnglcidklckgaaDoorLogC
namespace Go.Proofs.YtmnglcidklckgaaDoor
open Go.RowKit Go.PlainAid
set_option linter.unusedVariables false

set_option maxRecDepth 100000 in
set_option maxHeartbeats 2000000 in
theorem law_logAdd (v : Value) (l : List Sg) (n m : Int) (s : ByteArray) (w : World) (hv : Segs w v l) (hT : TabC w) (hg : ErrT w) :
    Calls Tryd.prog 5 #[.agg #[v, .int .i64 n, .int .i64 m], .string s] w fun e w' => e = .returned (.bool true) ∧ Below w.heap.size w w' := by
  obtain ⟨a, k0, cap, hve⟩ := hv.form
  subst hve
  by_cases hbig : 1048576 < s.size
  · have hbi : (1048576 : Int) < (s.size : Int) := by omega
    clear hv hT hg
    go_enter Tryd.func5, Tryd.ntmps5
    go_wp2
    go_ret
    exact ⟨rfl, (Af.refl w).alloc _⟩
  have hs : s.size ≤ 1048576 := by omega
  have hsi : (s.size : Int) ≤ 1048576 := by omega
  clear hbig
  have X := Lib.hid (Bx.new w 41 #[.slice a k0 cap, .int .i64 n, .int .i64 m] _ rfl)
  have V := Lib.hid (hv.alloc (.cells #[.slice a k0 cap, .int .i64 n, .int .i64 m] 41))
  have A0 := Lib.hid ((Af.refl w).alloc (.cells #[.slice a k0 cap, .int .i64 n, .int .i64 m] 41))
  have BA := Lib.hid (fun h0 k hk => hv.block h0 k hk)
  have HT := Lib.hid hT
  have HG := Lib.hid hg
  clear hv hT hg
  go_enter Tryd.func5, Tryd.ntmps5
  go_wp2_with fail
  refine (sz_log _ l n m _ V.out).mono ?_
  rintro e w1 ⟨hsz, b1⟩
  have A1 := Lib.hid (A0.out.after b1)
  have X1 := Lib.hid (X.out.after b1)
  have V1 := Lib.hid (V.out.later b1)
  clear b1 X V A0
  rcases hsz with rfl | ⟨r, rfl, r0, r1, r2⟩
  · go_wp2
    go_ret
    exact ⟨rfl, A1.out⟩
  have R := Lib.hid r2
  have R1 := Lib.hid r1
  have hd : decide (r < 0) = false := by simp; omega
  obtain ⟨x0, x1, x2⟩ := X1.out.cells3
  have FIT := Lib.hid (addR_fit l n m s r2 hs)
  obtain ⟨rr, hrr⟩ : ∃ rr, addR l n m s = rr := ⟨_, rfl⟩
  have HRR := Lib.hid hrr
  rw [hrr] at FIT
  clear r2 r1 hrr
  go_wp2_with fail
  clear x0 x1 x2
  refine (to_log _ l n m _ V1.out R1.out).mono ?_
  rintro e w2 ⟨a2, k2, c2, rfl, o2, b2, _⟩
  have A2 := Lib.hid (A1.out.after b2)
  have X2 := Lib.hid (X1.out.after b2)
  have V2 := Lib.hid (V1.out.later b2)
  have O2 := Lib.hid (o2.segs (fun j hj => by have := R.out j hj; omega))
  clear b2 o2 A1 X1 V1
  go_wp2_with fail
  refine (spec_add _ l n m s _ O2.out R.out hs).mono ?_
  rintro e w3 ⟨h3, b3⟩
  rw [HRR.out] at h3
  obtain ⟨a3, k3, c3, rfl, s3, hne3⟩ := h3
  have hB3 := fun k hk => (ret_own s3 hne3 k hk).2
  have CX := Lib.hid (Ctx.new #[.slice a3 k3 c3, .int .i64 rr.nx, .int .i64 rr.mt] (A2.out.after b3) (X2.out.after b3) (V2.out.later b3) (s3.segs FIT.out.size) BA.out hB3)
  clear b3 s3 hne3 hB3 A2 X2 V2 O2
  obtain ⟨x0, x1, x2⟩ := CX.out.xa.cells3
  go_wp2_with fail
  clear x0 x1 x2
  refine (to_log _ l n m _ CX.out.sa R1.out).mono ?_
  rintro e w4 ⟨a4, k4, c4, rfl, o4, b4, ob4⟩
  have z4 : w3.heap.size < w4.heap.size := by have := b4.size; simp at this; omega
  have OB4 := Lib.hid (fun b hb => by have h := ob4 b hb; simp at h; exact (h : w3.heap.size + 1 ≤ b ∧ b < w4.heap.size))
  have CX := Lib.hid ((CX.out.after b4).alloc (.cells #[.slice a4 k4 c4, .int .i64 n, .int .i64 m] 26))
  have O4 := Lib.hid (o4.alloc (.cells #[.slice a4 k4 c4, .int .i64 n, .int .i64 m] 26))
  have Y4 := Lib.hid (Bx.new w4 26 #[.slice a4 k4 c4, .int .i64 n, .int .i64 m] _ rfl)
  clear b4 o4 ob4
  go_wp2_with fail
  refine (impl_add _ l n m s _ (O4.out.segs (fun j hj => by have := R.out j hj; omega)) R.out hs (HT.out.later CX.out.af (Nat.le_refl _)) (HG.out.later CX.out.af)).mono ?_
  rintro e w5 ⟨h5, b5⟩
  rw [HRR.out] at h5
  obtain ⟨a5, k5, c5, rfl, s5, hne5⟩ := h5
  have z5 : w4.heap.size < w5.heap.size := by have := b5.size; simp at this; omega
  have OB5 := Lib.hid (fun b hb => by have h := ret_own s5 hne5 b hb; simp at h; exact (h : w4.heap.size + 1 ≤ b ∧ b < w5.heap.size))
  have CX := Lib.hid ((CX.out.after b5).alloc (.cells #[.slice a5 k5 c5, .int .i64 rr.nx, .int .i64 rr.mt] 26))
  have O5 := Lib.hid ((O4.out.later b5).alloc (.cells #[.slice a5 k5 c5, .int .i64 rr.nx, .int .i64 rr.mt] 26))
  have Y5 := Lib.hid ((Y4.out.after b5).alloc (.cells #[.slice a5 k5 c5, .int .i64 rr.nx, .int .i64 rr.mt] 26))
  have S5 := Lib.hid (s5.alloc (.cells #[.slice a5 k5 c5, .int .i64 rr.nx, .int .i64 rr.mt] 26))
  have G5 := Lib.hid (Bx.new w5 26 #[.slice a5 k5 c5, .int .i64 rr.nx, .int .i64 rr.mt] _ rfl)
  clear b5 s5 hne5 O4 Y4
  obtain ⟨y0, y1, y2⟩ := CX.out.xy.cells3
  go_wp2_with fail
  clear y0 y1 y2
  refine (eq_log_yes _ _ rr.sg rr.nx rr.mt _ (S5.out.segs FIT.out.size) CX.out.sy).mono ?_
  rintro e w6 ⟨rfl, b6⟩
  have CX := Lib.hid (CX.out.after b6)
  have O6 := Lib.hid (O5.out.later b6)
  have Y6 := Lib.hid (Y5.out.after b6)
  have S6 := Lib.hid (S5.out.later b6)
  have G6 := Lib.hid (G5.out.after b6)
  clear b6 O5 Y5 S5 G5
  obtain ⟨bb, hbb⟩ : ∃ bb, rr.ok = bb := ⟨_, rfl⟩
  rw [hbb]
  have HBB := Lib.hid hbb
  clear hbb
  obtain ⟨x0, x1, x2⟩ := CX.out.xa.cells3
  obtain ⟨y0, y1, y2⟩ := Y6.out.cells3
  have HTL := Lib.hid (to_log _ l n m _ CX.out.drew.sa R1.out)
  go_wp2_with fail
  go_region_held3 (fun w' => (w'.cell? ⟨w.heap.size, 0, none⟩ = some (.slice a k0 cap) ∧ w'.cell? ⟨w.heap.size, 1, none⟩ = some (.int .i64 n) ∧ w'.cell? ⟨w.heap.size, 2, none⟩ = some (.int .i64 m)) ∧ w'.cell? ⟨w4.heap.size, 0, none⟩ = some (.slice a4 k4 c4) ∧ w'.cell? ⟨w4.heap.size, 1, none⟩ = some (.int .i64 n) ∧ w'.cell? ⟨w4.heap.size, 2, none⟩ = some (.int .i64 m)) (first | (with_reducible exact ⟨⟨x0, x1, x2⟩, y0, y1, y2⟩) | (with_reducible exact CY.out) | go_keep)
    (first
      | (go_at_call 22; refine HTL.out.mono ?_; rintro e w7 ⟨a7, k7, c7, rfl, o7, b7, _⟩; have CX7 := Lib.hid (CX.out.drew.after b7); have YY := Lib.hid (Y6.out.drew.after b7); have CY := Lib.hid (And.intro CX7.out.xa.cells3 YY.out.cells3); have O7 := Lib.hid (o7.segs (fun j hj => by have := R.out j hj; omega)); have P7 := Lib.hid (O6.out.later (Below.trans (Below.refl _ _).drew b7)); have S7 := Lib.hid (S6.out.later (Below.trans (Below.refl _ _).drew b7)); have G7 := Lib.hid (G6.out.drew.after b7); clear b7 o7)
      | (go_at_call 24; refine (eq_log_yes _ _ l n m _ (P7.out.segs (fun j hj => by have := R.out j hj; omega)) O7.out).mono ?_; rintro e w8 ⟨rfl, b8⟩; have CX8 := Lib.hid (CX7.out.after b8); have Y8 := Lib.hid (YY.out.after b8); have CY := Lib.hid (And.intro CX8.out.xa.cells3 Y8.out.cells3); have O8 := Lib.hid (P7.out.later b8); have S8 := Lib.hid (S7.out.later b8); have G8 := Lib.hid (G7.out.after b8); clear b8))
  clear x0 x1 x2 y0 y1 y2 CX Y6 O6 S6 G6 CX7 YY P7 S7 G7 O7 HTL CY
  obtain ⟨y0, y1, y2⟩ := Y8.out.cells3
  go_wp2_with fail
  clear y0 y1 y2
  refine (mark_log _ l n m _ _ O8.out (by have := R1.out; omega)).mono ?_
  rintro e w9 ⟨rfl, _, g9⟩
  have CX := Lib.hid (CX8.out.keep g9 (fun k hk => by have := OB4.out k hk; omega))
  have S9 := Lib.hid (S8.out.keepB g9 (fun k hk e => by have h1 := OB4.out k hk; have h2 := OB5.out k e; omega))
  have G9 := Lib.hid (G8.out.keep g9 (fun e => by have := OB4.out _ e.symm; omega))
  clear g9 CX8 Y8 O8 S8 G8
  obtain ⟨kk, hkk⟩ : ∃ kk : Int, 2 * (l.length : Int) + 1 = kk := ⟨_, rfl⟩
  rw [hkk]
  have dk : decide (kk < 0) = false := decide_eq_false (by omega)
  clear hkk
  obtain ⟨y0, y1, y2⟩ := CX.out.xy.cells3
  obtain ⟨u0, u1, u2⟩ := G9.out.cells3
  go_wp2_with fail
  clear y0 y1 y2 u0 u1 u2
  refine (eq_log_yes _ _ rr.sg rr.nx rr.mt _ (S9.out.segs FIT.out.size) CX.out.sy).mono ?_
  rintro e w10 ⟨rfl, b10⟩
  have CX := Lib.hid (CX.out.after b10)
  have S10 := Lib.hid (S9.out.later b10)
  have G10 := Lib.hid (G9.out.after b10)
  clear b10 S9 G9 dk
  obtain ⟨u0, u1, u2⟩ := G10.out.cells3
  go_wp2_with fail
  clear u0 u1 u2
  refine (mark_log _ rr.sg rr.nx rr.mt _ _ S10.out (by have := FIT.out.len; omega)).mono ?_
  rintro e w11 ⟨rfl, s11, g11⟩
  have CX := Lib.hid (CX.out.keep g11 (fun k hk => by have := OB5.out k hk; omega))
  have G11 := Lib.hid (G10.out.keep g11 (fun e => by have := OB5.out _ e.symm; omega))
  have M11 := Lib.hid s11
  clear g11 s11 S10 G10
  obtain ⟨mm, hmm⟩ : ∃ mm : Int, 2 * (rr.sg.length : Int) + 1 = mm := ⟨_, rfl⟩
  have HMM := Lib.hid hmm
  rw [hmm]
  have dm : decide (mm < 0) = false := decide_eq_false (by omega)
  clear hmm
  obtain ⟨u0, u1, u2⟩ := G11.out.cells3
  go_wp2_with fail
  clear u0 u1 u2
  refine (held_log _ rr.sg rr.nx rr.mt _ (M11.out.segs (mkG_small rr.sg (by have := FIT.out.len; omega))) (by have := FIT.out.len; omega)).mono ?_
  rintro e w12 ⟨rfl, b12⟩
  rw [HMM.out]
  have CX := Lib.hid (CX.out.after b12)
  have G12 := Lib.hid (G11.out.after b12)
  have M12 := Lib.hid (M11.out.later b12)
  clear b12 G11 M11
  obtain ⟨x0, x1, x2⟩ := CX.out.xa.cells3
  go_wp2_with fail
  clear x0 x1 x2
  refine (to_log _ l n m _ CX.out.sa R1.out).mono ?_
  rintro e w13 ⟨a13, k13, c13, rfl, o13, b13, _⟩
  have CX := Lib.hid (CX.out.after b13)
  have G13 := Lib.hid (G12.out.after b13)
  have M13 := Lib.hid (M12.out.later b13)
  have O13 := Lib.hid (o13.segs (fun j hj => by have := R.out j hj; omega))
  clear b13 o13 G12 M12
  go_wp2_with fail
  refine (impl_add _ l n m s _ O13.out R.out hs (HT.out.later CX.out.af (Nat.le_refl _)) (HG.out.later CX.out.af)).mono ?_
  rintro e w14 ⟨h14, b14⟩
  rw [HRR.out] at h14
  obtain ⟨a14, k14, c14, rfl, s14, _⟩ := h14
  rw [HBB.out]
  have CX := Lib.hid ((CX.out.after b14).alloc (.cells #[.slice a14 k14 c14, .int .i64 rr.nx, .int .i64 rr.mt] 26))
  have G14 := Lib.hid ((G13.out.after b14).alloc (.cells #[.slice a14 k14 c14, .int .i64 rr.nx, .int .i64 rr.mt] 26))
  have M14 := Lib.hid ((M13.out.later b14).alloc (.cells #[.slice a14 k14 c14, .int .i64 rr.nx, .int .i64 rr.mt] 26))
  have S14 := Lib.hid ((s14.segs FIT.out.size).alloc (.cells #[.slice a14 k14 c14, .int .i64 rr.nx, .int .i64 rr.mt] 26))
  clear b14 s14 G13 M13 O13
  obtain ⟨y0, y1, y2⟩ := CX.out.xy.cells3
  go_wp2_with fail
  clear y0 y1 y2
  refine (eq_log_yes _ _ rr.sg rr.nx rr.mt _ S14.out CX.out.sy).mono ?_
  rintro e w15 ⟨rfl, b15⟩
  have CX := Lib.hid (CX.out.after b15)
  have G15 := Lib.hid (G14.out.after b15)
  have M15 := Lib.hid (M14.out.later b15)
  clear b15 G14 M14 S14
  obtain ⟨u0, u1, u2⟩ := G15.out.cells3
  go_wp2_with fail
  clear u0 u1 u2
  refine (held_log _ rr.sg rr.nx rr.mt _ (M15.out.segs (mkG_small rr.sg (by have := FIT.out.len; omega))) (by have := FIT.out.len; omega)).mono ?_
  rintro e w16 ⟨rfl, b16⟩
  rw [HMM.out]
  have AZ := Lib.hid (CX.out.after b16).af
  clear b16 CX G15 M15
  go_wp2
  go_ret
  exact ⟨rfl, AZ.out⟩
end Go.Proofs.YtmnglcidklckgaaDoor
