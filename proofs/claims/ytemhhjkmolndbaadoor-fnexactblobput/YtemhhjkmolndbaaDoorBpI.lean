/- The program's BlobPut. -/
import Derived.Test.YtemhhjkmolndbaaDoorBpM
namespace Go.Proofs.YtemhhjkmolndbaaDoor
open Go.RowKit Go.PlainAid
set_option linter.unusedVariables false

set_option maxRecDepth 100000 in
set_option maxHeartbeats 4000000 in
theorem impl_blobPut (v : Value) (l : List Bb) (q : Int) (d : ByteArray) (w : World) (hv : Blbs w v l) (hs : Sml l) (hd : d.size ≤ 1048576) (hT : Tabs w) :
    Calls Tryd.prog 24 #[.agg #[.int .i64 q, v], .string d] w fun e w' => RetP w.heap.size (okQ q l) (putR q l d).l (putR q l d).i (putR q l d).c e w' ∧ Below w.heap.size w w' := by
  obtain ⟨a, ca, hve⟩ := hv.slice
  subst hve
  have BV := Lib.hid (fun h0 k hk => hv.block h0 k hk)
  have V := Lib.hid ((hv.alloc (.cells #[.int .i64 q, .slice a l.length ca] 41)).alloc (.cells #[.int .i64 0, .slice none 0 0] 41))
  have X0 := Lib.hid ((Bx.new w 41 #[.int .i64 q, .slice a l.length ca] _ rfl).alloc (.cells #[.int .i64 0, .slice none 0 0] 41))
  have Z0 := Lib.hid (Bx.new (w.alloc (.cells #[.int .i64 q, .slice a l.length ca] 41)) 41 #[.int .i64 0, .slice none 0 0] (w.heap.size + 1) (by simp))
  have A0 := Lib.hid (((Af.refl w).alloc (.cells #[.int .i64 q, .slice a l.length ca] 41)).alloc (.cells #[.int .i64 0, .slice none 0 0] 41))
  have HSM := Lib.hid hs
  have HT := Lib.hid hT
  clear hv hs hT
  go_enter Tryd.func24, Tryd.ntmps24
  go_wp2_with fail
  refine (impl_blobsOk _ l q _ V.out HSM.out (HT.out.later A0.out)).mono ?_
  rintro e w2 ⟨rfl, hb⟩
  have V2 := Lib.hid (V.out.later hb)
  have A2 := Lib.hid (A0.out.after hb)
  have X2 := Lib.hid (X0.out.after hb)
  have Z2 := Lib.hid (Z0.out.after hb)
  have xs2 := Z2.out.lt
  clear hb V X0 A0 Z0
  cases hok : okS q l with
  | false =>
    have HQ := Lib.hid (okQ_no hok)
    have HR := Lib.hid (putR_no (d := d) hok)
    clear hok
    obtain ⟨z0, z1⟩ := Z2.out.cells2
    have fz0 := Z2.out.frozen 0
    have fz1 := Z2.out.frozen 1
    go_wp2
    exact bodyPost_ret (results_blobs3 Tryd.results24 _ _ (w.heap.size + 1) _ _ rfl (Z2.out.st2 _ _).cells2) rfl ⟨⟨none, 0, 0, by rw [HQ.out, HR.out]; rfl, by rw [HR.out]; exact blOwn_nil _ _ _ _, fun g hg => by cases hg⟩, A2.out.st2 (by omega) _ _⟩
  | true =>
    have h12 := ((okS_iff q l).1 hok).2.1
    have HA := Lib.hid (asc_of_ok hok)
    have HOK := Lib.hid hok
    have HQ := Lib.hid (okQ_yes hok)
    obtain ⟨x0, x1⟩ := X2.out.cells2
    clear hok
    go_wp2_with fail
    clear x0 x1
    refine (impl_mapBlobs _ l _ V2.out HSM.out HA.out (by omega)).mono ?_
    rintro e w3 ⟨b, rfl, hm, hbb, hb⟩
    have A3 := Lib.hid (A2.out.after hb)
    have X3 := Lib.hid (X2.out.after hb)
    have Z3 := Lib.hid (Z2.out.after hb)
    have V3 := Lib.hid (V2.out.later hb)
    have M3 := Lib.hid hm
    have hs3 := hb.size
    clear hb hm V2 A2 X2 Z2
    by_cases h40 : 40 < d.size
    · have h40' : decide ((40 : Int) < (d.size : Int)) = true := decide_eq_true (by omega)
      have HR := Lib.hid (putR_long (d := d) HOK.out h40)
      obtain ⟨x0, x1⟩ := X3.out.cells2
      go_wp2_with fail
      clear x0 x1
      refine (impl_listBlobs q b l.length l _ M3.out HA.out HSM.out (by omega) (by omega)).mono ?_
      rintro e w6 ⟨u, rfl, hr, hb6⟩
      obtain ⟨a6, k6, c6, hu⟩ := hr.own.form
      subst hu
      have R6 := Lib.hid hr
      have Z6 := Lib.hid (Z3.out.after hb6)
      have A6 := Lib.hid (A3.out.after hb6)
      have hlo := A3.out.size
      have hxz := Z3.out.lt
      clear hr hb6
      obtain ⟨z0, z1⟩ := Z6.out.cells2
      have fz0 := Z6.out.frozen 0
      have fz1 := Z6.out.frozen 1
      go_wp2
      exact bodyPost_ret (results_blobs3 Tryd.results24 _ _ (w.heap.size + 1) _ _ rfl (Z6.out.st2 _ _).cells2) rfl ⟨⟨a6, k6, c6, by rw [HQ.out, HR.out]; rfl, by rw [HR.out]; exact ((R6.out.st2 hxz _ _).mono hlo).own, fun g hg => by have h := R6.out.lt g hg; exact ⟨Nat.le_trans hlo h.1, by simpa using h.2⟩⟩, A6.out.st2 (by omega) _ _⟩
    · have h40' : decide ((40 : Int) < (d.size : Int)) = false := decide_eq_false (by omega)
      go_wp2_with fail
      refine (impl_sh8 d (by omega) _ (HT.out.later A3.out)).mono ?_
      rintro e w4 ⟨rfl, hb⟩
      have A4 := Lib.hid (A3.out.after hb)
      have X4 := Lib.hid (X3.out.after hb)
      have Z4 := Lib.hid (Z3.out.after hb)
      have V4 := Lib.hid (V3.out.later hb)
      have M4 := Lib.hid (M3.out.later hb)
      have hs4 := hb.size
      have hlk := M4.out.look (sh8 d) (by rw [sh8_size]; omega)
      clear hb M3 A3 X3 Z3 V3 h40'
      cases hgb : getB l (sh8 d) with
      | none =>
        have hl := hlk.2 hgb
        have HX := Lib.hid (show getB l (sh8 d) = none ∨ ∃ x, getB l (sh8 d) = some x ∧ x.bad = true from .inl hgb)
        clear hlk hgb
        obtain ⟨w5, hup, hm5, hg5⟩ := (M4.out.alloc (.cells #[.string ByteArray.empty, .string ByteArray.empty, .bool false] 89)).put (m := putL l (newB d)) (newB d) (show (sh8 d).size ≤ 1048577 by rw [sh8_size]; omega) (by omega) (getB_put HA.out (newB d))
        have M5 := Lib.hid hm5
        have A5 := Lib.hid ((A4.out.alloc (.cells #[.string ByteArray.empty, .string ByteArray.empty, .bool false] 89)).grow hg5 (fun k hk => by cases hk; omega))
        have X5 := Lib.hid ((X4.out.alloc (.cells #[.string ByteArray.empty, .string ByteArray.empty, .bool false] 89)).keep hg5 (by simp; omega))
        have Z5 := Lib.hid ((Z4.out.alloc (.cells #[.string ByteArray.empty, .string ByteArray.empty, .bool false] 89)).keep hg5 (by simp; omega))
        have V5 := Lib.hid ((V4.out.alloc (.cells #[.string ByteArray.empty, .string ByteArray.empty, .bool false] 89)).keep0 hg5 (fun h0 g hgg e => by cases hgg; have := BV.out h0 _ e; omega))
        clear hm5 hg5
        obtain ⟨x0, x1⟩ := X5.out.cells2
        go_wp2_with fail
        clear x0 x1 hl hup
        refine (impl_listBlobs q b (l.length + 1) (putL l (newB d)) _ M5.out (put_asc HA.out _) (put_sml HA.out HSM.out (by rw [sh8_size]; omega) (by omega)) (by omega) (by have := put_len HA.out (newB d); omega)).mono ?_
        rintro e w6 ⟨u, rfl, hr, hb6⟩
        obtain ⟨a6, k6, c6, hu⟩ := hr.own.form
        subst hu
        have hlo := A5.out.size
        have hxz := Z5.out.lt
        have R6 := Lib.hid (hr.alloc (.cells #[.int .i64 q, .slice a6 k6 c6] 41))
        have XX6 := Lib.hid (Bx.new w6 41 #[.int .i64 q, .slice a6 k6 c6] _ rfl)
        have Z6 := Lib.hid ((Z5.out.after hb6).alloc (.cells #[.int .i64 q, .slice a6 k6 c6] 41))
        have X6 := Lib.hid ((X5.out.after hb6).alloc (.cells #[.int .i64 q, .slice a6 k6 c6] 41))
        have A6 := Lib.hid ((A5.out.after hb6).alloc (.cells #[.int .i64 q, .slice a6 k6 c6] 41))
        have V6 := Lib.hid ((V5.out.later hb6).alloc (.cells #[.int .i64 q, .slice a6 k6 c6] 41))
        have hs6 := hb6.size
        have SP := Lib.hid (put_sml HA.out HSM.out (x := newB d) (by rw [sh8_size]; omega) (by omega))
        clear hr hb6 M5 A5 X5 Z5 V5
        go_wp2_with fail
        refine (impl_blobsOk _ (putL l (newB d)) q _ (R6.out.own.blbs SP.out.big) SP.out (HT.out.later A6.out)).mono ?_
        rintro e w7 ⟨rfl, hb7⟩
        have R7 := Lib.hid (R6.out.later hb7)
        have XX7 := Lib.hid (XX6.out.after hb7)
        have Z7 := Lib.hid (Z6.out.after hb7)
        have X7 := Lib.hid (X6.out.after hb7)
        have A7 := Lib.hid (A6.out.after hb7)
        have V7 := Lib.hid (V6.out.later hb7)
        clear hb7 R6 XX6 Z6 X6 A6 V6
        cases hop : okS q (putL l (newB d)) with
        | true =>
          have HR := Lib.hid (putR_new HOK.out h40 HX.out hop)
          obtain ⟨z0, z1⟩ := Z7.out.cells2
          have fz0 := Z7.out.frozen 0
          have fz1 := Z7.out.frozen 1
          obtain ⟨t0, t1⟩ := XX7.out.cells2
          clear hop
          go_wp2
          exact bodyPost_ret (results_blobs3 Tryd.results24 _ _ (w.heap.size + 1) _ _ rfl (Z7.out.st2 _ _).cells2) rfl ⟨⟨a6, k6, c6, by rw [HQ.out, HR.out]; rfl, by rw [HR.out]; exact ((R7.out.st2 hxz _ _).mono hlo).own, fun g hg => by have h := R7.out.lt g hg; exact ⟨Nat.le_trans hlo h.1, by simpa using h.2⟩⟩, A7.out.st2 (by omega) _ _⟩
        | false =>
          have HR := Lib.hid (putR_full HOK.out h40 HX.out hop)
          obtain ⟨x0, x1⟩ := X7.out.cells2
          have HMB := Lib.hid (impl_mapBlobs _ l _ V7.out.drew HSM.out HA.out (by omega))
          have hz7 := Z7.out.lt
          have hl7 := A7.out.size
          clear hop
          go_wp2_with fail
          go_region_held3 (fun w' => w'.cell? ⟨w.heap.size, 0, none⟩ = some (.int .i64 q) ∧ w'.cell? ⟨w.heap.size, 1, none⟩ = some (.slice a l.length ca)) (first | (with_reducible exact ⟨x0, x1⟩) | (with_reducible exact CY.out) | (with_reducible exact CW.out _ _) | go_keep)
            (first
              | (go_at_call 58; refine HMB.out.mono ?_; rintro e w8 ⟨b8, rfl, hm8, hbb8, hb8⟩; have X8 := Lib.hid (X7.out.drew.after hb8); have CY := Lib.hid X8.out.cells2; have M8 := Lib.hid hm8; have Z8 := Lib.hid (Z7.out.drew.after hb8); have A8 := Lib.hid (A7.out.drew.after hb8); have hz8 := hb8.size; clear hm8 hb8)
              | (go_at_call 59; refine (impl_listBlobs q b8 l.length l _ M8.out HA.out HSM.out (by omega) (by omega)).mono ?_; rintro e w9 ⟨u9, rfl, hr9, hb9⟩; obtain ⟨a9, k9, c9, hu9⟩ := hr9.own.form; subst hu9; have X9 := Lib.hid (X8.out.after hb9); have CY := Lib.hid X9.out.cells2; have CW := Lib.hid (fun y0 y1 => (X9.out.st2o (q := w.heap.size + 1) (by omega) y0 y1).cells2); have R9 := Lib.hid hr9; have Z9 := Lib.hid (Z8.out.after hb9); have A9 := Lib.hid (A8.out.after hb9); obtain ⟨z0, z1⟩ := Z9.out.cells2; have fz0 := Z9.out.frozen 0; have fz1 := Z9.out.frozen 1; clear hr9 hb9))
          all_goals
            clear z0 z1 fz0 fz1 x0 x1
            go_wp2
            exact bodyPost_ret (results_blobs3 Tryd.results24 _ _ (w.heap.size + 1) _ _ rfl (Z9.out.st2 _ _).cells2) rfl ⟨⟨a9, k9, c9, by rw [HQ.out, HR.out]; rfl, by rw [HR.out]; exact ((R9.out.st2 (by simp at hz8; omega) _ _).mono (by simp at hz8; omega)).own, fun g hg => by have h := R9.out.lt g hg; simp at hz8; exact ⟨by omega, by simpa using h.2⟩⟩, A9.out.st2 (by omega) _ _⟩
      | some x =>
        have hl := (hlk.1 x hgb).1
        cases hb : x.bad with
        | false =>
          have HR := Lib.hid (putR_same HOK.out h40 hgb hb)
          obtain ⟨xi, xd, xb⟩ := x
          simp only at hb
          subst hb
          have M5 := Lib.hid (M4.out.alloc (.cells #[.string xi, .string xd, .bool false] 89))
          have A5 := Lib.hid (A4.out.alloc (.cells #[.string xi, .string xd, .bool false] 89))
          have X5 := Lib.hid (X4.out.alloc (.cells #[.string xi, .string xd, .bool false] 89))
          have Z5 := Lib.hid (Z4.out.alloc (.cells #[.string xi, .string xd, .bool false] 89))
          clear hlk hgb
          obtain ⟨x0, x1⟩ := X5.out.cells2
          go_wp2_with fail
          clear x0 x1
          refine (impl_listBlobs q b l.length l _ M5.out HA.out HSM.out (by omega) (by omega)).mono ?_
          rintro e w6 ⟨u, rfl, hr, hb6⟩
          obtain ⟨a6, k6, c6, hu⟩ := hr.own.form
          subst hu
          have R6 := Lib.hid hr
          have Z6 := Lib.hid (Z5.out.after hb6)
          have A6 := Lib.hid (A5.out.after hb6)
          have hlo := A5.out.size
          have hxz := Z5.out.lt
          clear hr hb6
          obtain ⟨z0, z1⟩ := Z6.out.cells2
          have fz0 := Z6.out.frozen 0
          have fz1 := Z6.out.frozen 1
          go_wp2
          exact bodyPost_ret (results_blobs3 Tryd.results24 _ _ (w.heap.size + 1) _ _ rfl (Z6.out.st2 _ _).cells2) rfl ⟨⟨a6, k6, c6, by rw [HQ.out, HR.out]; rfl, by rw [HR.out]; exact ((R6.out.st2 hxz _ _).mono hlo).own, fun g hg => by have h := R6.out.lt g hg; exact ⟨Nat.le_trans hlo h.1, by simpa using h.2⟩⟩, A6.out.st2 (by omega) _ _⟩
        | true =>
          have HX := Lib.hid (show getB l (sh8 d) = none ∨ ∃ x, getB l (sh8 d) = some x ∧ x.bad = true from .inr ⟨x, hgb, hb⟩)
          obtain ⟨xi, xd, xb⟩ := x
          simp only at hb
          subst hb
          clear hlk hgb
          obtain ⟨w5, hup, hm5, hg5⟩ := (M4.out.alloc (.cells #[.string xi, .string xd, .bool true] 89)).put (m := putL l (newB d)) (newB d) (show (sh8 d).size ≤ 1048577 by rw [sh8_size]; omega) (by omega) (getB_put HA.out (newB d))
          have M5 := Lib.hid hm5
          have A5 := Lib.hid ((A4.out.alloc (.cells #[.string xi, .string xd, .bool true] 89)).grow hg5 (fun k hk => by cases hk; omega))
          have X5 := Lib.hid ((X4.out.alloc (.cells #[.string xi, .string xd, .bool true] 89)).keep hg5 (by simp; omega))
          have Z5 := Lib.hid ((Z4.out.alloc (.cells #[.string xi, .string xd, .bool true] 89)).keep hg5 (by simp; omega))
          have V5 := Lib.hid ((V4.out.alloc (.cells #[.string xi, .string xd, .bool true] 89)).keep0 hg5 (fun h0 g hgg e => by cases hgg; have := BV.out h0 _ e; omega))
          clear hm5 hg5
          obtain ⟨x0, x1⟩ := X5.out.cells2
          go_wp2_with fail
          clear x0 x1 hl hup
          refine (impl_listBlobs q b (l.length + 1) (putL l (newB d)) _ M5.out (put_asc HA.out _) (put_sml HA.out HSM.out (by rw [sh8_size]; omega) (by omega)) (by omega) (by have := put_len HA.out (newB d); omega)).mono ?_
          rintro e w6 ⟨u, rfl, hr, hb6⟩
          obtain ⟨a6, k6, c6, hu⟩ := hr.own.form
          subst hu
          have hlo := A5.out.size
          have hxz := Z5.out.lt
          have R6 := Lib.hid (hr.alloc (.cells #[.int .i64 q, .slice a6 k6 c6] 41))
          have XX6 := Lib.hid (Bx.new w6 41 #[.int .i64 q, .slice a6 k6 c6] _ rfl)
          have Z6 := Lib.hid ((Z5.out.after hb6).alloc (.cells #[.int .i64 q, .slice a6 k6 c6] 41))
          have X6 := Lib.hid ((X5.out.after hb6).alloc (.cells #[.int .i64 q, .slice a6 k6 c6] 41))
          have A6 := Lib.hid ((A5.out.after hb6).alloc (.cells #[.int .i64 q, .slice a6 k6 c6] 41))
          have V6 := Lib.hid ((V5.out.later hb6).alloc (.cells #[.int .i64 q, .slice a6 k6 c6] 41))
          have hs6 := hb6.size
          have SP := Lib.hid (put_sml HA.out HSM.out (x := newB d) (by rw [sh8_size]; omega) (by omega))
          clear hr hb6 M5 A5 X5 Z5 V5
          go_wp2_with fail
          refine (impl_blobsOk _ (putL l (newB d)) q _ (R6.out.own.blbs SP.out.big) SP.out (HT.out.later A6.out)).mono ?_
          rintro e w7 ⟨rfl, hb7⟩
          have R7 := Lib.hid (R6.out.later hb7)
          have XX7 := Lib.hid (XX6.out.after hb7)
          have Z7 := Lib.hid (Z6.out.after hb7)
          have X7 := Lib.hid (X6.out.after hb7)
          have A7 := Lib.hid (A6.out.after hb7)
          have V7 := Lib.hid (V6.out.later hb7)
          clear hb7 R6 XX6 Z6 X6 A6 V6
          cases hop : okS q (putL l (newB d)) with
          | true =>
            have HR := Lib.hid (putR_new HOK.out h40 HX.out hop)
            obtain ⟨z0, z1⟩ := Z7.out.cells2
            have fz0 := Z7.out.frozen 0
            have fz1 := Z7.out.frozen 1
            obtain ⟨t0, t1⟩ := XX7.out.cells2
            clear hop
            go_wp2
            exact bodyPost_ret (results_blobs3 Tryd.results24 _ _ (w.heap.size + 1) _ _ rfl (Z7.out.st2 _ _).cells2) rfl ⟨⟨a6, k6, c6, by rw [HQ.out, HR.out]; rfl, by rw [HR.out]; exact ((R7.out.st2 hxz _ _).mono hlo).own, fun g hg => by have h := R7.out.lt g hg; exact ⟨Nat.le_trans hlo h.1, by simpa using h.2⟩⟩, A7.out.st2 (by omega) _ _⟩
          | false =>
            have HR := Lib.hid (putR_full HOK.out h40 HX.out hop)
            obtain ⟨x0, x1⟩ := X7.out.cells2
            have HMB := Lib.hid (impl_mapBlobs _ l _ V7.out.drew HSM.out HA.out (by omega))
            have hz7 := Z7.out.lt
            have hl7 := A7.out.size
            clear hop
            go_wp2_with fail
            go_region_held3 (fun w' => w'.cell? ⟨w.heap.size, 0, none⟩ = some (.int .i64 q) ∧ w'.cell? ⟨w.heap.size, 1, none⟩ = some (.slice a l.length ca)) (first | (with_reducible exact ⟨x0, x1⟩) | (with_reducible exact CY.out) | (with_reducible exact CW.out _ _) | go_keep)
              (first
                | (go_at_call 58; refine HMB.out.mono ?_; rintro e w8 ⟨b8, rfl, hm8, hbb8, hb8⟩; have X8 := Lib.hid (X7.out.drew.after hb8); have CY := Lib.hid X8.out.cells2; have M8 := Lib.hid hm8; have Z8 := Lib.hid (Z7.out.drew.after hb8); have A8 := Lib.hid (A7.out.drew.after hb8); have hz8 := hb8.size; clear hm8 hb8)
                | (go_at_call 59; refine (impl_listBlobs q b8 l.length l _ M8.out HA.out HSM.out (by omega) (by omega)).mono ?_; rintro e w9 ⟨u9, rfl, hr9, hb9⟩; obtain ⟨a9, k9, c9, hu9⟩ := hr9.own.form; subst hu9; have X9 := Lib.hid (X8.out.after hb9); have CY := Lib.hid X9.out.cells2; have CW := Lib.hid (fun y0 y1 => (X9.out.st2o (q := w.heap.size + 1) (by omega) y0 y1).cells2); have R9 := Lib.hid hr9; have Z9 := Lib.hid (Z8.out.after hb9); have A9 := Lib.hid (A8.out.after hb9); obtain ⟨z0, z1⟩ := Z9.out.cells2; have fz0 := Z9.out.frozen 0; have fz1 := Z9.out.frozen 1; clear hr9 hb9))
            all_goals
              clear z0 z1 fz0 fz1 x0 x1
              go_wp2
              exact bodyPost_ret (results_blobs3 Tryd.results24 _ _ (w.heap.size + 1) _ _ rfl (Z9.out.st2 _ _).cells2) rfl ⟨⟨a9, k9, c9, by rw [HQ.out, HR.out]; rfl, by rw [HR.out]; exact ((R9.out.st2 (by simp at hz8; omega) _ _).mono (by simp at hz8; omega)).own, fun g hg => by have h := R9.out.lt g hg; simp at hz8; exact ⟨by omega, by simpa using h.2⟩⟩, A9.out.st2 (by omega) _ _⟩
end Go.Proofs.YtemhhjkmolndbaaDoor
