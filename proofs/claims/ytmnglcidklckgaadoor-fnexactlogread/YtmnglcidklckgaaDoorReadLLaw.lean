/- The law over LogRead and its model: it returns true. -/
import Derived.Test.YtmnglcidklckgaaDoorReadLI
import Derived.Test.YtmnglcidklckgaaDoorSpReadL
import Derived.Test.YtmnglcidklckgaaDoorMarkG
import Derived.Test.YtmnglcidklckgaaDoorLogC
namespace Go.Proofs.YtmnglcidklckgaaDoor
open Go.RowKit Go.PlainAid
set_option linter.unusedVariables false

/-- The argument's box and segments, in a world W behind w. -/
structure CtA (w : World) (ca : Array Value) (va : Value) (l : List Sg) (W : World) : Prop where
  af : Af w W
  xa : Bx W w.heap.size 41 ca
  sa : Segs W va l
  ba : 0 < l.length → ∀ k, va.ownBlock = some k → k < w.heap.size
section
variable {w : World} {ca : Array Value} {va : Value} {l : List Sg} {W W' : World}
theorem CtA.after (h : CtA w ca va l W) (hb : Below W.heap.size W W') : CtA w ca va l W' := ⟨h.af.after hb, h.xa.after hb, h.sa.later hb, h.ba⟩
theorem CtA.alloc (h : CtA w ca va l W) (o : Obj) : CtA w ca va l (W.alloc o) := h.after ((Below.refl _ _).alloc (Nat.le_refl _) _)
theorem CtA.drew (h : CtA w ca va l W) : CtA w ca va l W.drew := h.after (Below.refl _ _).drew
theorem CtA.keep {row : Option Nat} (h : CtA w ca va l W) (hg : W.grownBy W' row) (hr : ∀ k, row = some k → w.heap.size < k) : CtA w ca va l W' := by
  refine ⟨h.af.grow hg (fun k hk => by have := hr k hk; omega), h.xa.keep hg (fun e => by have := hr _ e.symm; omega), h.sa.keep0 hg (fun h0 k hk e => ?_), h.ba⟩
  have := hr k hk; have := h.ba h0 k e; omega
end
theorem rd_strs {w : World} {base : Nat} {v : Value} {l : List ByteArray} (h : GrowsS w base v l) (hs : ∀ x ∈ l, x.size ≤ 200) : Strs w v l :=
  h.strs fun j hj => Nat.le_trans (hs _ (el_mem l j hj)) (by decide)
theorem rd_held {w : World} {base : Nat} {v : Value} {l : List ByteArray} (hl : l.length ≤ 1000) (h : GrowsS w base v (mkL l l.length)) : Strs w v (mkL l l.length) :=
  h.strs fun j hj => by
    rw [mkL_length] at hj
    rw [mkL_el _ _ j hj, if_pos hj]
    have := mkT_size (j + 1)
    omega
theorem growsS_keep {w w' : World} {base : Nat} {v : Value} {l : List ByteArray} {row : Option Nat} (h : GrowsS w base v l) (hg : w.grownBy w' row) (hne : ∀ k, row = some k → v.ownBlock ≠ some k) : GrowsS w' base v l := by
  refine World.ownsRow.kept h hg ?_
  cases row with
  | none => cases v.ownBlock with
    | none => exact .inl rfl
    | some k => exact .inr (by simp)
  | some k => exact .inr (fun e => hne k rfl e)

set_option maxRecDepth 100000 in
set_option maxHeartbeats 2000000 in
theorem law_logRead (v : Value) (l : List Sg) (n m : Int) (w : World) (hv : Segs w v l) (hT : TabC w) (hg : ErrT w) :
    Calls Tryd.prog 7 #[.agg #[v, .int .i64 n, .int .i64 m]] w fun e w' => e = .returned (.bool true) ∧ Below w.heap.size w w' := by
  obtain ⟨a, k0, cap, hve⟩ := hv.form
  subst hve
  have CX := Lib.hid (show CtA w #[.slice a k0 cap, .int .i64 n, .int .i64 m] (.slice a k0 cap) l (w.alloc (.cells #[.slice a k0 cap, .int .i64 n, .int .i64 m] 41)) from ⟨(Af.refl w).alloc _, Bx.new w _ _ _ rfl, hv.alloc _, fun h0 k hk => hv.block h0 k hk⟩)
  have HT := Lib.hid hT
  have HG := Lib.hid hg
  have FIT := Lib.hid (rdR_fit l n m)
  clear hv hT hg
  go_enter Tryd.func7, Tryd.ntmps7
  go_wp2_with fail
  refine (sz_log _ l n m _ CX.out.sa).mono ?_
  rintro e w1 ⟨hsz, b1⟩
  have CX := Lib.hid (CX.out.after b1)
  clear b1
  rcases hsz with rfl | ⟨r, rfl, r0, r1, r2⟩
  · go_wp2
    go_ret
    exact ⟨rfl, CX.out.af⟩
  have R := Lib.hid r2
  have R1 := Lib.hid r1
  have hd : decide (r < 0) = false := by simp; omega
  obtain ⟨x0, x1, x2⟩ := CX.out.xa.cells3
  obtain ⟨rr, hrr⟩ : ∃ rr, rdR l n m = rr := ⟨_, rfl⟩
  have HRR := Lib.hid hrr
  rw [hrr] at FIT
  clear r2 r1 hrr
  go_wp2_with fail
  clear x0 x1 x2
  refine (to_log _ l n m _ CX.out.sa R1.out).mono ?_
  rintro e w2 ⟨a2, k2, c2, rfl, o2, b2, _⟩
  have CX := Lib.hid (CX.out.after b2)
  have O2 := Lib.hid (o2.segs (fun j hj => by have := R.out j hj; omega))
  clear b2 o2
  go_wp2_with fail
  refine (spec_logRead _ l n m _ O2.out R.out).mono ?_
  rintro e w3 ⟨v3, rfl, g3, b3⟩
  rw [HRR.out] at g3
  obtain ⟨a3, k3, c3, rfl⟩ := g3.form
  have B3 := Lib.hid (fun b hb => (World.ownsRow.lt g3 b hb).2)
  have S3 := Lib.hid g3
  have CX := Lib.hid (CX.out.after b3)
  have z3 := CX.out.xa.lt
  clear b3 g3 O2
  obtain ⟨x0, x1, x2⟩ := CX.out.xa.cells3
  go_wp2_with fail
  clear x0 x1 x2
  refine (to_log _ l n m _ CX.out.sa R1.out).mono ?_
  rintro e w4 ⟨a4, k4, c4, rfl, o4, b4, ob4⟩
  have z4 := b4.size
  have OB4 := Lib.hid ob4
  have CX := Lib.hid ((CX.out.after b4).alloc (.cells #[.slice a4 k4 c4, .int .i64 n, .int .i64 m] 26))
  have O4 := Lib.hid (o4.alloc (.cells #[.slice a4 k4 c4, .int .i64 n, .int .i64 m] 26))
  have Y4 := Lib.hid (Bx.new w4 26 #[.slice a4 k4 c4, .int .i64 n, .int .i64 m] _ rfl)
  have S4 := Lib.hid ((S3.out.later b4).alloc (.cells #[.slice a4 k4 c4, .int .i64 n, .int .i64 m] 26))
  clear b4 o4 ob4 S3
  go_wp2_with fail
  refine (impl_logRead _ l n m _ (O4.out.segs (fun j hj => by have := R.out j hj; omega)) R.out (HT.out.later CX.out.af (Nat.le_refl _)) (HG.out.later CX.out.af)).mono ?_
  rintro e w5 ⟨v5, rfl, g5, b5⟩
  rw [HRR.out] at g5
  obtain ⟨a5, k5, c5, rfl⟩ := g5.form
  have OB5 := Lib.hid (fun b hb => by have h := (World.ownsRow.lt g5 b hb).1; simp at h; exact (h : w4.heap.size + 1 ≤ b))
  have G5 := Lib.hid g5
  have CX := Lib.hid (CX.out.after b5)
  have O5 := Lib.hid (O4.out.later b5)
  have Y5 := Lib.hid (Y4.out.after b5)
  have S5 := Lib.hid (S4.out.later b5)
  clear b5 g5 O4 Y4 S4
  go_wp2_with fail
  refine (eq_strs _ _ _ _ _ (rd_strs G5.out FIT.out.2) (rd_strs S5.out FIT.out.2)).mono ?_
  rintro e w6 ⟨rfl, b6⟩
  rw [decide_eq_true (rfl : rr = rr)]
  have CX := Lib.hid (CX.out.after b6)
  have O6 := Lib.hid (O5.out.later b6)
  have Y6 := Lib.hid (Y5.out.after b6)
  have S6 := Lib.hid (S5.out.later b6)
  have G6 := Lib.hid (G5.out.later b6)
  clear b6 O5 Y5 S5 G5
  obtain ⟨x0, x1, x2⟩ := CX.out.xa.cells3
  obtain ⟨y0, y1, y2⟩ := Y6.out.cells3
  have HTL := Lib.hid (to_log _ l n m _ CX.out.drew.sa R1.out)
  go_wp2_with fail
  go_region_held3 (fun w' => (w'.cell? ⟨w.heap.size, 0, none⟩ = some (.slice a k0 cap) ∧ w'.cell? ⟨w.heap.size, 1, none⟩ = some (.int .i64 n) ∧ w'.cell? ⟨w.heap.size, 2, none⟩ = some (.int .i64 m)) ∧ w'.cell? ⟨w4.heap.size, 0, none⟩ = some (.slice a4 k4 c4) ∧ w'.cell? ⟨w4.heap.size, 1, none⟩ = some (.int .i64 n) ∧ w'.cell? ⟨w4.heap.size, 2, none⟩ = some (.int .i64 m)) (first | (with_reducible exact ⟨⟨x0, x1, x2⟩, y0, y1, y2⟩) | (with_reducible exact CY.out) | go_keep)
    (first
      | (go_at_call 22; refine HTL.out.mono ?_; rintro e w7 ⟨a7, k7, c7, rfl, o7, b7, _⟩; have CX7 := Lib.hid (CX.out.drew.after b7); have YY := Lib.hid (Y6.out.drew.after b7); have CY := Lib.hid (And.intro CX7.out.xa.cells3 YY.out.cells3); have O7 := Lib.hid (o7.segs (fun j hj => by have := R.out j hj; omega)); have P7 := Lib.hid (O6.out.later (Below.trans (Below.refl _ _).drew b7)); have S7 := Lib.hid (S6.out.later (Below.trans (Below.refl _ _).drew b7)); have G7 := Lib.hid (G6.out.later (Below.trans (Below.refl _ _).drew b7)); clear b7 o7)
      | (go_at_call 24; refine (eq_log_yes _ _ l n m _ (P7.out.segs (fun j hj => by have := R.out j hj; omega)) O7.out).mono ?_; rintro e w8 ⟨rfl, b8⟩; have CX8 := Lib.hid (CX7.out.after b8); have Y8 := Lib.hid (YY.out.after b8); have CY := Lib.hid (And.intro CX8.out.xa.cells3 Y8.out.cells3); have O8 := Lib.hid (P7.out.later b8); have S8 := Lib.hid (S7.out.later b8); have G8 := Lib.hid (G7.out.later b8); clear b8))
  clear x0 x1 x2 y0 y1 y2 CX Y6 O6 S6 G6 CX7 YY P7 S7 G7 O7 HTL CY
  obtain ⟨y0, y1, y2⟩ := Y8.out.cells3
  go_wp2_with fail
  clear y0 y1 y2
  refine (mark_log _ l n m _ _ O8.out (by have := R1.out; omega)).mono ?_
  rintro e w9 ⟨rfl, _, g9⟩
  have CX := Lib.hid (CX8.out.keep g9 (fun k hk => by have := OB4.out k hk; omega))
  have S9 := Lib.hid (growsS_keep S8.out g9 (fun k hk e => by have h1 := OB4.out k hk; have h2 := B3.out k e; omega))
  have G9 := Lib.hid (growsS_keep G8.out g9 (fun k hk e => by have h1 := OB4.out k hk; have h2 := OB5.out k e; omega))
  clear g9 CX8 Y8 O8 S8 G8
  obtain ⟨kk, hkk⟩ : ∃ kk : Int, 2 * (l.length : Int) + 1 = kk := ⟨_, rfl⟩
  rw [hkk]
  have dk : decide (kk < 0) = false := decide_eq_false (by omega)
  clear hkk
  go_wp2_with fail
  refine (eq_strs _ _ _ _ _ (rd_strs G9.out FIT.out.2) (rd_strs S9.out FIT.out.2)).mono ?_
  rintro e w10 ⟨rfl, b10⟩
  rw [decide_eq_true (rfl : rr = rr)]
  have CX := Lib.hid (CX.out.after b10)
  have S10 := Lib.hid (S9.out.later b10)
  have G10 := Lib.hid (G9.out.later b10)
  clear b10 S9 G9 dk
  go_wp2_with fail
  refine (mark_strs _ _ _ _ G10.out (by have := FIT.out.1; omega)).mono ?_
  rintro e w11 ⟨rfl, h11, g11⟩
  have CX := Lib.hid (CX.out.keep g11 (fun k hk => by have := OB5.out k hk; omega))
  have S11 := Lib.hid (growsS_keep S10.out g11 (fun k hk e => by have h1 := OB5.out k hk; have h2 := B3.out k e; omega))
  have M11 := Lib.hid h11
  clear g11 h11 S10 G10
  obtain ⟨mm, hmm⟩ : ∃ mm : Int, (rr.length : Int) + 1 = mm := ⟨_, rfl⟩
  have HMM := Lib.hid hmm
  rw [hmm]
  have dm : decide (mm < 0) = false := decide_eq_false (by omega)
  clear hmm
  go_wp2_with fail
  refine (held_strs _ _ _ (rd_held FIT.out.1 M11.out) (by have := FIT.out.1; omega)).mono ?_
  rintro e w12 ⟨rfl, b12⟩
  rw [HMM.out]
  have CX := Lib.hid (CX.out.after b12)
  have S12 := Lib.hid (S11.out.later b12)
  have M12 := Lib.hid (M11.out.later b12)
  clear b12 S11 M11
  obtain ⟨x0, x1, x2⟩ := CX.out.xa.cells3
  go_wp2_with fail
  clear x0 x1 x2
  refine (to_log _ l n m _ CX.out.sa R1.out).mono ?_
  rintro e w13 ⟨a13, k13, c13, rfl, o13, b13, _⟩
  have CX := Lib.hid (CX.out.after b13)
  have S13 := Lib.hid (S12.out.later b13)
  have M13 := Lib.hid (M12.out.later b13)
  have O13 := Lib.hid (o13.segs (fun j hj => by have := R.out j hj; omega))
  clear b13 o13 S12 M12
  go_wp2_with fail
  refine (impl_logRead _ l n m _ O13.out R.out (HT.out.later CX.out.af (Nat.le_refl _)) (HG.out.later CX.out.af)).mono ?_
  rintro e w14 ⟨v14, rfl, g14, b14⟩
  rw [HRR.out] at g14
  obtain ⟨a14, k14, c14, rfl⟩ := g14.form
  have CX := Lib.hid (CX.out.after b14)
  have S14 := Lib.hid (S13.out.later b14)
  have M14 := Lib.hid (M13.out.later b14)
  have G14 := Lib.hid g14
  clear b14 g14 S13 M13 O13
  go_wp2_with fail
  refine (eq_strs _ _ _ _ _ (rd_strs G14.out FIT.out.2) (rd_strs S14.out FIT.out.2)).mono ?_
  rintro e w15 ⟨rfl, b15⟩
  rw [decide_eq_true (rfl : rr = rr)]
  have CX := Lib.hid (CX.out.after b15)
  have M15 := Lib.hid (M14.out.later b15)
  clear b15 S14 M14 G14
  go_wp2_with fail
  refine (held_strs _ _ _ (rd_held FIT.out.1 M15.out) (by have := FIT.out.1; omega)).mono ?_
  rintro e w16 ⟨rfl, b16⟩
  rw [HMM.out]
  have AZ := Lib.hid (CX.out.after b16).af
  clear b16 CX M15
  go_wp2
  go_ret
  exact ⟨rfl, AZ.out⟩
end Go.Proofs.YtmnglcidklckgaaDoor
