/- The law over BlobGet and its model: it returns true. -/
import Derived.Test.YtemhhjkmolndbaaDoorBgM
namespace Go.Proofs.YtemhhjkmolndbaaDoor
open Go.RowKit Go.PlainAid
set_option linter.unusedVariables false

set_option maxRecDepth 100000 in
set_option maxHeartbeats 1000000 in
theorem law_blobGet (v : Value) (l : List Bb) (q : Int) (i : ByteArray) (w : World) (hv : Blbs w v l) (hi : i.size ≤ 9223372036854775807) (hT : Tabs w) :
    Calls Tryd.prog 7 #[.agg #[.int .i64 q, v], .string i] w fun e w' => e = .returned (.bool true) ∧ Below w.heap.size w w' := by
  obtain ⟨a, k0, cap, hve⟩ := hv.form
  subst hve
  have X := Lib.hid (Bx.new w 55 #[.int .i64 q, .slice a k0 cap] _ rfl)
  have V := Lib.hid (hv.alloc (.cells #[.int .i64 q, .slice a k0 cap] 55))
  have A0 := Lib.hid ((Af.refl w).alloc (.cells #[.int .i64 q, .slice a k0 cap] 55))
  have HT := Lib.hid hT
  clear hv hT
  by_cases hbig : 1048576 < i.size
  · have hbg : decide ((1048576 : Int) < (i.size : Int)) = true := decide_eq_true (by omega)
    go_enter Tryd.func7, Tryd.ntmps7
    go_wp2
    go_ret
    exact ⟨rfl, A0.out⟩
  have hbg : decide ((1048576 : Int) < (i.size : Int)) = false := decide_eq_false (by omega)
  have hi2 : i.size ≤ 1048576 := by omega
  have HI := Lib.hid hi2
  clear hi2 hi hbig
  go_enter Tryd.func7, Tryd.ntmps7
  go_wp2_with fail
  refine (sz_blobs _ l q _ V.out).mono ?_
  rintro e w1 ⟨hsz, b1⟩
  have A1 := Lib.hid (A0.out.after b1)
  have X1 := Lib.hid (X.out.after b1)
  have V1 := Lib.hid (V.out.later b1)
  clear b1 X V A0
  rcases hsz with rfl | ⟨r, rfl, r0, r1, r2⟩
  · go_wp2
    go_ret
    exact ⟨rfl, A1.out⟩
  · have R := Lib.hid r2
    have R1 := Lib.hid r1
    have hd : decide (r < 0) = false := by simp; omega
    obtain ⟨x0, x1⟩ := X1.out.cells2
    clear r2 r1
    go_wp2_with fail
    clear x0 x1
    refine (to_blobs _ l q _ V1.out R1.out).mono ?_
    rintro e w2 ⟨a2, k2, c2, rfl, o2, b2, _⟩
    have A2 := Lib.hid (A1.out.after b2)
    have X2 := Lib.hid (X1.out.after b2)
    have V2 := Lib.hid (V1.out.later b2)
    have O2 := Lib.hid o2
    clear b2 o2 A1 X1 V1
    go_wp2_with fail
    refine (spec_blobGet _ l q i _ (O2.out.blbs R.out.big) R.out).mono ?_
    rintro e w3 ⟨rfl, b3⟩
    have A3 := Lib.hid (A2.out.after b3)
    have X3 := Lib.hid (X2.out.after b3)
    have V3 := Lib.hid (V2.out.later b3)
    clear b3 A2 X2 V2 O2
    obtain ⟨x0, x1⟩ := X3.out.cells2
    go_wp2_with fail
    clear x0 x1
    refine (to_blobs _ l q _ V3.out R1.out).mono ?_
    rintro e w4 ⟨a4, k4, c4, rfl, o4, b4, _⟩
    have A4 := Lib.hid ((A3.out.after b4).alloc (.cells #[.int .i64 q, .slice a4 k4 c4] 41))
    have X4 := Lib.hid ((X3.out.after b4).alloc (.cells #[.int .i64 q, .slice a4 k4 c4] 41))
    have V4 := Lib.hid ((V3.out.later b4).alloc (.cells #[.int .i64 q, .slice a4 k4 c4] 41))
    have O4 := Lib.hid ((o4.blbs R.out.big).alloc (.cells #[.int .i64 q, .slice a4 k4 c4] 41))
    have Y4 := Lib.hid (Bx.new w4 41 #[.int .i64 q, .slice a4 k4 c4] _ rfl)
    clear b4 o4 A3 X3 V3
    go_wp2_with fail
    refine (impl_blobGet _ l q i _ O4.out R.out HI.out (HT.out.later A4.out)).mono ?_
    rintro e w5 ⟨rfl, b5⟩
    have A5 := Lib.hid (A4.out.after b5)
    have X5 := Lib.hid (X4.out.after b5)
    have V5 := Lib.hid (V4.out.later b5)
    have O5 := Lib.hid (O4.out.later b5)
    have Y5 := Lib.hid (Y4.out.after b5)
    clear b5 A4 X4 V4 O4 Y4
    generalize (getR q l i).1 = s
    generalize (getR q l i).2 = z
    obtain ⟨x0, x1⟩ := X5.out.cells2
    obtain ⟨y0, y1⟩ := Y5.out.cells2
    have HTL := Lib.hid (to_blobs _ l q _ V5.out.drew R1.out)
    go_wp2_with fail
    go_region_held3 (fun w' => (w'.cell? ⟨w.heap.size, 0, none⟩ = some (.int .i64 q) ∧ w'.cell? ⟨w.heap.size, 1, none⟩ = some (.slice a k0 cap)) ∧ w'.cell? ⟨w4.heap.size, 0, none⟩ = some (.int .i64 q) ∧ w'.cell? ⟨w4.heap.size, 1, none⟩ = some (.slice a4 k4 c4)) (first | (with_reducible exact ⟨⟨x0, x1⟩, y0, y1⟩) | (with_reducible exact CY.out) | go_keep)
      (first
        | (go_at_call 33; refine HTL.out.mono ?_; rintro e w6 ⟨a6, k6, c6, rfl, o6, b6, _⟩; have CY := Lib.hid (And.intro (X5.out.drew.after b6).cells2 (Y5.out.drew.after b6).cells2); have XX := Lib.hid (X5.out.drew.after b6); have YY := Lib.hid (Y5.out.drew.after b6); have O6 := Lib.hid (o6.blbs R.out.big); have P6 := Lib.hid (O5.out.drew.later b6); have A6 := Lib.hid (A5.out.drew.after b6); clear b6 o6)
        | (go_at_call 35; refine (eq_blobs_yes _ _ l q _ P6.out O6.out).mono ?_; rintro e w7 ⟨rfl, b7⟩; have CY := Lib.hid (And.intro (XX.out.after b7).cells2 (YY.out.after b7).cells2); have A7 := Lib.hid (A6.out.after b7); clear b7))
    go_wp2
    go_ret
    exact ⟨rfl, A7.out⟩
end Go.Proofs.YtemhhjkmolndbaaDoor
