/- The law over BlobPut and its model: it returns true. -/
import Derived.Test.YtemhhjkmolndbaaDoorBpI
import Derived.Test.YtemhhjkmolndbaaDoorBpS
import Derived.Test.YtemhhjkmolndbaaDoorBkC
namespace Go.Proofs.YtemhhjkmolndbaaDoor
open Go.RowKit Go.PlainAid
set_option linter.unusedVariables false

set_option maxRecDepth 100000 in
set_option maxHeartbeats 2000000 in
theorem law_blobPut (v : Value) (l : List Bb) (q : Int) (i : ByteArray) (w : World) (hv : Blbs w v l) (hi : i.size ≤ 9223372036854775807) (hT : Tabs w) :
    Calls Tryd.prog 6 #[.agg #[.int .i64 q, v], .string i] w fun e w' => e = .returned (.bool true) ∧ Below w.heap.size w w' := by
  obtain ⟨a, k0, cap, hve⟩ := hv.form
  subst hve
  have X := Lib.hid (Bx.new w 55 #[.int .i64 q, .slice a k0 cap] _ rfl)
  have V := Lib.hid (hv.alloc (.cells #[.int .i64 q, .slice a k0 cap] 55))
  have A0 := Lib.hid ((Af.refl w).alloc (.cells #[.int .i64 q, .slice a k0 cap] 55))
  have BA := Lib.hid (fun h0 k hk => hv.block h0 k hk)
  have HT := Lib.hid hT
  clear hv hT
  by_cases hbig : 1048576 < i.size
  · have hbg : decide ((1048576 : Int) < (i.size : Int)) = true := decide_eq_true (by omega)
    go_enter Tryd.func6, Tryd.ntmps6
    go_wp2
    go_ret
    exact ⟨rfl, A0.out⟩
  have hbg : decide ((1048576 : Int) < (i.size : Int)) = false := decide_eq_false (by omega)
  have hi2 : i.size ≤ 1048576 := by omega
  have HI := Lib.hid hi2
  clear hi2 hi hbig
  go_enter Tryd.func6, Tryd.ntmps6
  go_wp2_with fail
  clear hbg
  refine (sz_blobs _ l q _ V.out).mono ?_
  rintro e w1 ⟨hsz, b1⟩
  have A1 := Lib.hid (A0.out.after b1)
  have X1 := Lib.hid (X.out.after b1)
  have V1 := Lib.hid (V.out.later b1)
  clear b1 X V A0
  rcases hsz with rfl | ⟨r, rfl, r0, r1, r2⟩
  · go_wp2
    go_ret
    exact ⟨rfl, A1.out⟩
  have R := Lib.hid r2
  have R1 := Lib.hid r1
  have hd : decide (r < 0) = false := by simp; omega
  obtain ⟨x0, x1⟩ := X1.out.cells2
  have FIT := Lib.hid ((fit_put (q := q) (d := i) r2 HI.out).1)
  have LEN := Lib.hid ((fit_put (q := q) (d := i) r2 HI.out).2)
  obtain ⟨rq, hrq⟩ : ∃ rq, okQ q l = rq := ⟨_, rfl⟩
  have HRQ := Lib.hid hrq
  obtain ⟨rl, hrl⟩ : ∃ rl, (putR q l i).l = rl := ⟨_, rfl⟩
  have HRL := Lib.hid hrl
  obtain ⟨ri, hri⟩ : ∃ ri, (putR q l i).i = ri := ⟨_, rfl⟩
  have HRI := Lib.hid hri
  obtain ⟨rc, hrc⟩ : ∃ rc, (putR q l i).c = rc := ⟨_, rfl⟩
  have HRC := Lib.hid hrc
  rw [hrl] at FIT LEN
  clear r2 r1 hrq hrl hri hrc
  go_wp2_with fail
  clear x0 x1
  refine (to_blobs _ l q _ V1.out R1.out).mono ?_
  rintro e w2 ⟨a2, k2, c2, rfl, o2, b2, _⟩
  have A2 := Lib.hid (A1.out.after b2)
  have X2 := Lib.hid (X1.out.after b2)
  have V2 := Lib.hid (V1.out.later b2)
  have O2 := Lib.hid (o2.blbs R.out.big)
  clear b2 o2 A1 X1 V1 hd
  go_wp2_with fail
  refine (spec_blobPut _ l q i _ O2.out R.out HI.out).mono ?_
  rintro e w3 ⟨h3, b3⟩
  rw [HRQ.out, HRL.out, HRI.out, HRC.out] at h3
  obtain ⟨a3, k3, c3, rfl, s3, hB3'⟩ := h3
  have hB3 := fun k hk => (hB3' k hk).2
  have CX := Lib.hid (Ctx.new #[.int .i64 rq, .slice a3 k3 c3] (A2.out.after b3) (X2.out.after b3) (V2.out.later b3) (s3.blbs FIT.out.big) BA.out hB3)
  clear b3 s3 hB3 hB3' A2 X2 V2 O2
  obtain ⟨x0, x1⟩ := CX.out.xa.cells2
  go_wp2_with fail
  clear x0 x1
  refine (to_blobs _ l q _ CX.out.sa R1.out).mono ?_
  rintro e w4 ⟨a4, k4, c4, rfl, o4, b4, ob4⟩
  have z4 : w3.heap.size < w4.heap.size := by have := b4.size; simp at this; omega
  have OB4 := Lib.hid (fun b hb => by have h := ob4 b hb; simp at h; exact (h : w3.heap.size + 1 ≤ b ∧ b < w4.heap.size))
  have CX := Lib.hid ((CX.out.after b4).alloc (.cells #[.int .i64 q, .slice a4 k4 c4] 41))
  have O4 := Lib.hid (o4.alloc (.cells #[.int .i64 q, .slice a4 k4 c4] 41))
  have Y4 := Lib.hid (Bx.new w4 41 #[.int .i64 q, .slice a4 k4 c4] _ rfl)
  clear b4 o4 ob4
  go_wp2_with fail
  refine (impl_blobPut _ l q i _ (O4.out.blbs R.out.big) R.out HI.out (HT.out.later CX.out.af)).mono ?_
  rintro e w5 ⟨h5, b5⟩
  rw [HRQ.out, HRL.out, HRI.out, HRC.out] at h5
  obtain ⟨a5, k5, c5, rfl, s5, hB5⟩ := h5
  have z5 : w4.heap.size < w5.heap.size := by have := b5.size; simp at this; omega
  have OB5 := Lib.hid (fun b hb => by have h := hB5 b hb; simp at h; exact (h : w4.heap.size + 1 ≤ b ∧ b < w5.heap.size))
  have CX := Lib.hid ((CX.out.after b5).alloc (.cells #[.int .i64 rq, .slice a5 k5 c5] 41))
  have O5 := Lib.hid ((O4.out.later b5).alloc (.cells #[.int .i64 rq, .slice a5 k5 c5] 41))
  have Y5 := Lib.hid ((Y4.out.after b5).alloc (.cells #[.int .i64 rq, .slice a5 k5 c5] 41))
  have S5 := Lib.hid (s5.alloc (.cells #[.int .i64 rq, .slice a5 k5 c5] 41))
  have G5 := Lib.hid (Bx.new w5 41 #[.int .i64 rq, .slice a5 k5 c5] _ rfl)
  clear b5 s5 hB5 O4 Y4
  obtain ⟨y0, y1⟩ := CX.out.xy.cells2
  go_wp2_with fail
  clear y0 y1
  refine (eq_blobs_yes _ _ rl rq _ (S5.out.blbs FIT.out.big) CX.out.sy).mono ?_
  rintro e w6 ⟨rfl, b6⟩
  have CX := Lib.hid (CX.out.after b6)
  have O6 := Lib.hid (O5.out.later b6)
  have Y6 := Lib.hid (Y5.out.after b6)
  have S6 := Lib.hid (S5.out.later b6)
  have G6 := Lib.hid (G5.out.after b6)
  clear b6 O5 Y5 S5 G5
  obtain ⟨x0, x1⟩ := CX.out.xa.cells2
  obtain ⟨y0, y1⟩ := Y6.out.cells2
  have HTL := Lib.hid (to_blobs _ l q _ CX.out.drew.sa R1.out)
  go_wp2_with fail
  go_region_held3 (fun w' => (w'.cell? ⟨w.heap.size, 0, none⟩ = some (.int .i64 q) ∧ w'.cell? ⟨w.heap.size, 1, none⟩ = some (.slice a k0 cap)) ∧ w'.cell? ⟨w4.heap.size, 0, none⟩ = some (.int .i64 q) ∧ w'.cell? ⟨w4.heap.size, 1, none⟩ = some (.slice a4 k4 c4)) (first | (with_reducible exact ⟨⟨x0, x1⟩, y0, y1⟩) | (with_reducible exact CY.out) | go_keep)
    (first
      | (go_at_call 33; refine HTL.out.mono ?_; rintro e w7 ⟨a7, k7, c7, rfl, o7, b7, _⟩; have CX7 := Lib.hid (CX.out.drew.after b7); have YY := Lib.hid (Y6.out.drew.after b7); have CY := Lib.hid (And.intro CX7.out.xa.cells2 YY.out.cells2); have O7 := Lib.hid (o7.blbs R.out.big); have P7 := Lib.hid (O6.out.later (Below.trans (Below.refl _ _).drew b7)); have S7 := Lib.hid (S6.out.later (Below.trans (Below.refl _ _).drew b7)); have G7 := Lib.hid (G6.out.drew.after b7); clear b7 o7)
      | (go_at_call 35; refine (eq_blobs_yes _ _ l q _ (P7.out.blbs R.out.big) O7.out).mono ?_; rintro e w8 ⟨rfl, b8⟩; have CX8 := Lib.hid (CX7.out.after b8); have Y8 := Lib.hid (YY.out.after b8); have CY := Lib.hid (And.intro CX8.out.xa.cells2 Y8.out.cells2); have O8 := Lib.hid (P7.out.later b8); have S8 := Lib.hid (S7.out.later b8); have G8 := Lib.hid (G7.out.after b8); clear b8))
  clear x0 x1 y0 y1 CX Y6 O6 S6 G6 CX7 YY P7 S7 G7 O7 HTL CY
  obtain ⟨y0, y1⟩ := Y8.out.cells2
  go_wp2_with fail
  clear y0 y1
  refine (mark_blobs _ l q _ _ O8.out (by have := R1.out; omega)).mono ?_
  rintro e w9 ⟨rfl, _, g9⟩
  have CX := Lib.hid (CX8.out.keep g9 (fun k hk => by have := OB4.out k hk; omega))
  have S9 := Lib.hid (S8.out.keepB g9 (fun k hk e => by have h1 := OB4.out k hk; have h2 := OB5.out k e; omega))
  have G9 := Lib.hid (G8.out.keep g9 (fun e => by have := OB4.out _ e.symm; omega))
  clear g9 CX8 Y8 O8 S8 G8
  obtain ⟨kk, hkk⟩ : ∃ kk : Int, 3 * (l.length : Int) + 1 = kk := ⟨_, rfl⟩
  rw [hkk]
  have dk : decide (kk < 0) = false := decide_eq_false (by omega)
  clear hkk
  obtain ⟨y0, y1⟩ := CX.out.xy.cells2
  obtain ⟨u0, u1⟩ := G9.out.cells2
  go_wp2_with fail
  clear y0 y1 u0 u1
  refine (eq_blobs_yes _ _ rl rq _ (S9.out.blbs FIT.out.big) CX.out.sy).mono ?_
  rintro e w10 ⟨rfl, b10⟩
  have CX := Lib.hid (CX.out.after b10)
  have S10 := Lib.hid (S9.out.later b10)
  have G10 := Lib.hid (G9.out.after b10)
  clear b10 S9 G9 dk
  obtain ⟨u0, u1⟩ := G10.out.cells2
  go_wp2_with fail
  clear u0 u1
  refine (mark_blobs _ rl rq _ _ S10.out (by have := LEN.out; have := R1.out; omega)).mono ?_
  rintro e w11 ⟨rfl, s11, g11⟩
  have CX := Lib.hid (CX.out.keep g11 (fun k hk => by have := OB5.out k hk; omega))
  have G11 := Lib.hid (G10.out.keep g11 (fun e => by have := OB5.out _ e.symm; omega))
  have M11 := Lib.hid s11
  clear g11 s11 S10 G10
  obtain ⟨mm, hmm⟩ : ∃ mm : Int, 3 * (rl.length : Int) + 1 = mm := ⟨_, rfl⟩
  have HMM := Lib.hid hmm
  rw [hmm]
  have dm : decide (mm < 0) = false := decide_eq_false (by omega)
  clear hmm
  obtain ⟨u0, u1⟩ := G11.out.cells2
  go_wp2_with fail
  clear u0 u1
  refine (held_blobs _ rl rq _ (M11.out.blbs (mkG_small rl (by have := LEN.out; have := R1.out; omega))) (by have := LEN.out; have := R1.out; omega)).mono ?_
  rintro e w12 ⟨rfl, b12⟩
  rw [HMM.out]
  have CX := Lib.hid (CX.out.after b12)
  have G12 := Lib.hid (G11.out.after b12)
  have M12 := Lib.hid (M11.out.later b12)
  clear b12 G11 M11
  obtain ⟨x0, x1⟩ := CX.out.xa.cells2
  go_wp2_with fail
  clear x0 x1
  refine (to_blobs _ l q _ CX.out.sa R1.out).mono ?_
  rintro e w13 ⟨a13, k13, c13, rfl, o13, b13, _⟩
  have CX := Lib.hid (CX.out.after b13)
  have G13 := Lib.hid (G12.out.after b13)
  have M13 := Lib.hid (M12.out.later b13)
  have O13 := Lib.hid (o13.blbs R.out.big)
  clear b13 o13 G12 M12
  go_wp2_with fail
  refine (impl_blobPut _ l q i _ O13.out R.out HI.out (HT.out.later CX.out.af)).mono ?_
  rintro e w14 ⟨h14, b14⟩
  rw [HRQ.out, HRL.out, HRI.out, HRC.out] at h14
  obtain ⟨a14, k14, c14, rfl, s14, _⟩ := h14
  have CX := Lib.hid ((CX.out.after b14).alloc (.cells #[.int .i64 rq, .slice a14 k14 c14] 41))
  have G14 := Lib.hid ((G13.out.after b14).alloc (.cells #[.int .i64 rq, .slice a14 k14 c14] 41))
  have M14 := Lib.hid ((M13.out.later b14).alloc (.cells #[.int .i64 rq, .slice a14 k14 c14] 41))
  have S14 := Lib.hid ((s14.blbs FIT.out.big).alloc (.cells #[.int .i64 rq, .slice a14 k14 c14] 41))
  clear b14 s14 G13 M13 O13
  obtain ⟨y0, y1⟩ := CX.out.xy.cells2
  go_wp2_with fail
  clear y0 y1
  refine (eq_blobs_yes _ _ rl rq _ S14.out CX.out.sy).mono ?_
  rintro e w15 ⟨rfl, b15⟩
  have CX := Lib.hid (CX.out.after b15)
  have G15 := Lib.hid (G14.out.after b15)
  have M15 := Lib.hid (M14.out.later b15)
  clear b15 G14 M14 S14
  obtain ⟨u0, u1⟩ := G15.out.cells2
  go_wp2_with fail
  clear u0 u1
  refine (held_blobs _ rl rq _ (M15.out.blbs (mkG_small rl (by have := LEN.out; have := R1.out; omega))) (by have := LEN.out; have := R1.out; omega)).mono ?_
  rintro e w16 ⟨rfl, b16⟩
  rw [HMM.out]
  have AZ := Lib.hid (CX.out.after b16).af
  clear b16 CX G15 M15
  go_wp2
  go_ret
  exact ⟨rfl, AZ.out⟩
end Go.Proofs.YtemhhjkmolndbaaDoor
