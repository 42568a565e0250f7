/- The law over LogOk and its model: it returns true. -/
import Derived.Test.YtmnglcidklckgaaDoorLogOkI
namespace Go.Proofs.YtmnglcidklckgaaDoor
open Go.RowKit Go.PlainAid
set_option linter.unusedVariables false

set_option maxRecDepth 100000 in
set_option maxHeartbeats 1000000 in
theorem law_logOk (v : Value) (l : List Sg) (n m : Int) (w : World) (hv : Segs w v l) (hT : TabC w) (hg : ErrT w) :
    Calls Tryd.prog 4 #[.agg #[v, .int .i64 n, .int .i64 m]] w fun e w' => e = .returned (.bool true) ∧ Below w.heap.size w w' := by
  obtain ⟨a, k0, cap, hve⟩ := hv.form
  subst hve
  have X := Lib.hid (Bx.new w 41 #[.slice a k0 cap, .int .i64 n, .int .i64 m] _ rfl)
  have V := Lib.hid (hv.alloc (.cells #[.slice a k0 cap, .int .i64 n, .int .i64 m] 41))
  have A0 := Lib.hid ((Af.refl w).alloc (.cells #[.slice a k0 cap, .int .i64 n, .int .i64 m] 41))
  have HT := Lib.hid hT
  have HG := Lib.hid hg
  clear hv hT hg
  go_enter Tryd.func4, Tryd.ntmps4
  go_wp2_with fail
  refine (sz_log _ l n m _ V.out).mono ?_
  rintro e w1 ⟨hsz, b1⟩
  have A1 := Lib.hid (A0.out.after b1)
  have X1 := Lib.hid (X.out.after b1)
  have V1 := Lib.hid (V.out.later b1)
  clear b1 X V A0
  rcases hsz with rfl | ⟨r, rfl, r0, r1, r2⟩
  · go_wp2
    go_ret
    exact ⟨rfl, A1.out⟩
  · have R := Lib.hid r2
    have R1 := Lib.hid r1
    have hd : decide (r < 0) = false := by simp; omega
    obtain ⟨x0, x1, x2⟩ := X1.out.cells3
    clear r2 r1
    go_wp2_with fail
    clear x0 x1 x2
    refine (to_log _ l n m _ V1.out R1.out).mono ?_
    rintro e w2 ⟨a2, k2, c2, rfl, o2, b2, _⟩
    have A2 := Lib.hid (A1.out.after b2)
    have X2 := Lib.hid (X1.out.after b2)
    have V2 := Lib.hid (V1.out.later b2)
    have O2 := Lib.hid o2
    clear b2 o2 A1 X1 V1
    go_wp2_with fail
    refine (spec_logOk _ l n m _ (O2.out.segs (fun j hj => by have := R.out j hj; omega)) R.out).mono ?_
    rintro e w3 ⟨rfl, b3⟩
    have A3 := Lib.hid (A2.out.after b3)
    have X3 := Lib.hid (X2.out.after b3)
    have V3 := Lib.hid (V2.out.later b3)
    clear b3 A2 X2 V2 O2
    obtain ⟨x0, x1, x2⟩ := X3.out.cells3
    go_wp2_with fail
    clear x0 x1 x2
    refine (to_log _ l n m _ V3.out R1.out).mono ?_
    rintro e w4 ⟨a4, k4, c4, rfl, o4, b4, _⟩
    have A4 := Lib.hid ((A3.out.after b4).alloc (.cells #[.slice a4 k4 c4, .int .i64 n, .int .i64 m] 26))
    have X4 := Lib.hid ((X3.out.after b4).alloc (.cells #[.slice a4 k4 c4, .int .i64 n, .int .i64 m] 26))
    have V4 := Lib.hid ((V3.out.later b4).alloc (.cells #[.slice a4 k4 c4, .int .i64 n, .int .i64 m] 26))
    have O4 := Lib.hid ((o4.segs (fun j hj => by have := R.out j hj; omega)).alloc (.cells #[.slice a4 k4 c4, .int .i64 n, .int .i64 m] 26))
    have Y4 := Lib.hid (Bx.new w4 26 #[.slice a4 k4 c4, .int .i64 n, .int .i64 m] _ rfl)
    clear b4 o4 A3 X3 V3
    go_wp2_with fail
    refine (impl_logOk _ l n m _ O4.out R.out (HT.out.later A4.out (Nat.le_refl _)) (HG.out.later A4.out)).mono ?_
    rintro e w5 ⟨rfl, b5⟩
    have A5 := Lib.hid (A4.out.after b5)
    have X5 := Lib.hid (X4.out.after b5)
    have V5 := Lib.hid (V4.out.later b5)
    have O5 := Lib.hid (O4.out.later b5)
    have Y5 := Lib.hid (Y4.out.after b5)
    clear b5 A4 X4 V4 O4 Y4
    obtain ⟨b, hb⟩ : ∃ b, okB l n m = b := ⟨_, rfl⟩
    rw [hb]
    clear hb
    obtain ⟨x0, x1, x2⟩ := X5.out.cells3
    obtain ⟨y0, y1, y2⟩ := Y5.out.cells3
    have HTL := Lib.hid (to_log _ l n m _ V5.out.drew R1.out)
    go_wp2_with fail
    go_region_held3 (fun w' => (w'.cell? ⟨w.heap.size, 0, none⟩ = some (.slice a k0 cap) ∧ w'.cell? ⟨w.heap.size, 1, none⟩ = some (.int .i64 n) ∧ w'.cell? ⟨w.heap.size, 2, none⟩ = some (.int .i64 m)) ∧ w'.cell? ⟨w4.heap.size, 0, none⟩ = some (.slice a4 k4 c4) ∧ w'.cell? ⟨w4.heap.size, 1, none⟩ = some (.int .i64 n) ∧ w'.cell? ⟨w4.heap.size, 2, none⟩ = some (.int .i64 m)) (first | (with_reducible exact ⟨⟨x0, x1, x2⟩, y0, y1, y2⟩) | (with_reducible exact CY.out) | go_keep)
      (first
        | (go_at_call 22; refine HTL.out.mono ?_; rintro e w6 ⟨a6, k6, c6, rfl, o6, b6, _⟩; have CY := Lib.hid (And.intro (X5.out.drew.after b6).cells3 (Y5.out.drew.after b6).cells3); have XX := Lib.hid (X5.out.drew.after b6); have YY := Lib.hid (Y5.out.drew.after b6); have O6 := Lib.hid (o6.segs (fun j hj => by have := R.out j hj; omega)); have P6 := Lib.hid (O5.out.drew.later b6); have A6 := Lib.hid (A5.out.drew.after b6); clear b6 o6)
        | (go_at_call 24; refine (eq_log_yes _ _ l n m _ P6.out O6.out).mono ?_; rintro e w7 ⟨rfl, b7⟩; have CY := Lib.hid (And.intro (XX.out.after b7).cells3 (YY.out.after b7).cells3); have A7 := Lib.hid (A6.out.after b7); clear b7))
    go_wp2
    go_ret
    exact ⟨rfl, A7.out⟩
end Go.Proofs.YtmnglcidklckgaaDoor
