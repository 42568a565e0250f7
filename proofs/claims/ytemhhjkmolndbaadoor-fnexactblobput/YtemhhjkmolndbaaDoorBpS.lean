/- The model's BlobPut. -/
import Derived.Test.YtemhhjkmolndbaaDoorBpM
import Derived.Test.YtemhhjkmolndbaaDoorBdS
namespace Go.Proofs.YtemhhjkmolndbaaDoor
open Go.RowKit Go.PlainAid
set_option linter.unusedVariables false

set_option maxRecDepth 100000 in
set_option maxHeartbeats 8000000 in
theorem spec_blobPut (v : Value) (l : List Bb) (q : Int) (d : ByteArray) (w : World) (hv : Blbs w v l) (hs : Sml l) (hd : d.size ≤ 1048576) :
    Calls Tryd.prog 25 #[.agg #[.int .i64 q, v], .string d] w fun e w' => RetP w.heap.size (okQ q l) (putR q l d).l (putR q l d).i (putR q l d).c e w' ∧ Below w.heap.size w w' := by
  obtain ⟨a, ca, hve⟩ := hv.slice
  subst hve
  have hlen := hv.len
  obtain ⟨n, hn⟩ : ∃ n, l.length = n := ⟨_, rfl⟩
  have VW := Lib.hid hv
  rw [hn] at VW hlen ⊢
  have HN := Lib.hid hn
  have V := Lib.hid ((VW.out.alloc (.cells #[.int .i64 q, .slice a n ca] 41)).alloc (.cells #[.int .i64 0, .slice none 0 0] 41))
  have X0 := Lib.hid ((Bx.new w 41 #[.int .i64 q, .slice a n ca] _ rfl).alloc (.cells #[.int .i64 0, .slice none 0 0] 41))
  have Z0 := Lib.hid (Bx.new (w.alloc (.cells #[.int .i64 q, .slice a n ca] 41)) 41 #[.int .i64 0, .slice none 0 0] (w.heap.size + 1) (by simp))
  have A0 := Lib.hid (((Af.refl w).alloc (.cells #[.int .i64 q, .slice a n ca] 41)).alloc (.cells #[.int .i64 0, .slice none 0 0] 41))
  have HSM := Lib.hid hs
  clear hv hs hn
  go_enter Tryd.func25, Tryd.ntmps25
  go_wp2_with fail
  refine (spec_blobsOk _ l q _ V.out HSM.out).mono ?_
  rintro e w2 ⟨rfl, hb⟩
  have V2 := Lib.hid (V.out.later hb)
  have A2 := Lib.hid (A0.out.after hb)
  have X2 := Lib.hid (X0.out.after hb)
  have Z2 := Lib.hid (Z0.out.after hb)
  have xs2 := Z2.out.lt
  clear hb V X0 A0 Z0
  cases hok : okS q l with
  | false =>
    have HQ := Lib.hid (okQ_no hok)
    have HR := Lib.hid (putR_no (d := d) hok)
    clear hok
    obtain ⟨z0, z1⟩ := Z2.out.cells2
    have fz0 := Z2.out.frozen 0
    have fz1 := Z2.out.frozen 1
    go_wp2
    exact bodyPost_ret (results_blobs3 Tryd.results25 _ _ (w.heap.size + 1) _ _ rfl (Z2.out.st2 _ _).cells2) rfl ⟨⟨none, 0, 0, by rw [HQ.out, HR.out]; rfl, by rw [HR.out]; exact blOwn_nil _ _ _ _, fun g hg => by cases hg⟩, A2.out.st2 (by omega) _ _⟩
  | true =>
    have h12 := ((okS_iff q l).1 hok).2.1
    rw [HN.out] at h12
    have HA := Lib.hid (asc_of_ok hok)
    have HOK := Lib.hid hok
    have HQ := Lib.hid (okQ_yes hok)
    clear hok
    by_cases h40 : 40 < d.size
    · have h40' : decide ((40 : Int) < (d.size : Int)) = true := decide_eq_true (by omega)
      have HR := Lib.hid (putR_long (d := d) HOK.out h40)
      obtain ⟨x0, x1⟩ := X2.out.cells2
      go_wp2_with fail
      clear x0 x1
      refine (spec_copy _ l q _ V2.out (by rw [HN.out]; omega)).mono ?_
      rintro e w6 ⟨⟨u, rfl, hr⟩, hb6⟩
      obtain ⟨a6, k6, c6, hu⟩ := hr.own.form
      subst hu
      have R6 := Lib.hid hr
      have Z6 := Lib.hid (Z2.out.after hb6)
      have A6 := Lib.hid (A2.out.after hb6)
      have hlo := A2.out.size
      have hxz := Z2.out.lt
      clear hr hb6
      obtain ⟨z0, z1⟩ := Z6.out.cells2
      have fz0 := Z6.out.frozen 0
      have fz1 := Z6.out.frozen 1
      go_wp2
      exact bodyPost_ret (results_blobs3 Tryd.results25 _ _ (w.heap.size + 1) _ _ rfl (Z6.out.st2 _ _).cells2) rfl ⟨⟨a6, k6, c6, by rw [HQ.out, HR.out]; rfl, by rw [HR.out]; exact ((R6.out.st2 hxz _ _).mono hlo).own, fun g hg => by have h := R6.out.lt g hg; exact ⟨Nat.le_trans hlo h.1, by simpa using h.2⟩⟩, A6.out.st2 (by omega) _ _⟩
    · have h40' : decide ((40 : Int) < (d.size : Int)) = false := decide_eq_false (by omega)
      go_wp2_with fail
      refine (spec_sh8 d (by omega) _).mono ?_
      rintro e w4 ⟨rfl, hb⟩
      have A4 := Lib.hid (A2.out.after hb)
      have X4 := Lib.hid (X2.out.after hb)
      have Z4 := Lib.hid (Z2.out.after hb)
      have V4 := Lib.hid (V2.out.later hb)
      clear hb A2 X2 Z2 V2 h40'
      obtain ⟨x0, x1⟩ := X4.out.cells2
      go_wp2_with fail
      clear x0 x1
      refine (spec_at _ l q (sh8 d) _ V4.out).mono ?_
      rintro e w5 ⟨⟨kk, rfl, hk⟩, hb⟩
      have A5 := Lib.hid (A4.out.after hb)
      have X5 := Lib.hid (X4.out.after hb)
      have Z5 := Lib.hid (Z4.out.after hb)
      have V5 := Lib.hid (V4.out.later hb)
      have xs5 := Z5.out.lt
      clear hb A4 X4 Z4 V4
      rcases hk with ⟨hk1, hg⟩ | ⟨j, hj, hk1, hji, hg⟩
      · subst hk1
        have HX := Lib.hid (show getB l (sh8 d) = none ∨ ∃ x, getB l (sh8 d) = some x ∧ x.bad = true from .inl hg)
        clear hg
        obtain ⟨x0, x1⟩ := X5.out.cells2
        go_wp2_with fail
        clear x0 x1
        have XN := Lib.hid (Bx.new w5 41 #[.int .i64 q, .slice none 0 0] _ rfl)
        have SP := Lib.hid (put_sml HA.out HSM.out (x := newB d) (by rw [sh8_size]; omega) (by omega))
        go_loopw [10, 11] (fun pv iv wr => ∃ (k : Nat) (va : Option Addr) (vn vc : Nat), k ≤ n ∧ iv = .int .i64 k ∧ pv = .bool (runP l (newB d) k).2 ∧ Bx wr w5.heap.size 41 #[.int .i64 q, .slice va vn vc] ∧ BlRow wr (w5.heap.size + 1) (.slice va vn vc) (runP l (newB d) k).1 ∧ (w5.alloc (.cells #[.int .i64 q, .slice none 0 0] 41)).grownBy wr (some w5.heap.size)) (fun _ iv _ => n - (intOf iv).toNat)
        case atStart => exact ⟨0, none, 0, 0, by omega, rfl, by rw [runP_zero], XN.out, by rw [runP_zero]; exact blRow_nil _ _, World.grownBy.refl _ _⟩
        case round =>
          obtain ⟨k, va, vn, vc, hk, rfl, rfl, hx, hr, hg⟩ := hrel
          have hgs := hg.size
          simp only [World.size_alloc] at hgs
          have tl := runP_len l (newB d) k (by rw [HN.out]; exact hk)
          have XX := Lib.hid hx
          have G := Lib.hid hg
          have X := Lib.hid ((X5.out.alloc (.cells #[.int .i64 q, .slice none 0 0] 41)).keep hg (by simp; omega))
          have VR := Lib.hid ((V5.out.alloc (.cells #[.int .i64 q, .slice none 0 0] 41)).keep0 hg (fun h0 g hgg e => by cases hgg; have := VW.out.block h0 _ e; omega))
          have HRS := Lib.hid (fun h => runP_succ l (newB d) k h)
          have HPL := Lib.hid (fun (h : k = n) => (⟨fun e => by rw [putL_yes (by rw [HN.out, ← h]; exact e), HN.out, ← h], fun e => by rw [putL_no (by rw [HN.out, ← h]; exact e), HN.out, ← h]⟩ : ((runP l (newB d) k).2 = true → putL l (newB d) = (runP l (newB d) k).1) ∧ ((runP l (newB d) k).2 = false → putL l (newB d) = (runP l (newB d) k).1 ++ [newB d])))
          obtain ⟨⟨acc, flag⟩, hacc⟩ : ∃ s, runP l (newB d) k = s := ⟨_, rfl⟩
          rw [hacc] at hr HRS HPL tl
          simp only [hacc]
          simp only at hr HPL tl
          have R := Lib.hid hr
          have TL := Lib.hid (show acc.length ≤ 1000 by omega)
          clear hx hr hg XN hacc tl
          by_cases hlt : k < n
          · obtain ⟨y, o, ca', hse, _, hyw, hcy⟩ := VR.out.at0 (by rw [HN.out]; omega)
            simp only [Value.slice.injEq] at hse
            obtain ⟨hse1, hnl, hse2⟩ := hse
            subst hse2
            first | subst hse1 | (simp only [Option.some.injEq, Addr.mk.injEq] at hse1; obtain ⟨e1, e2, _⟩ := hse1; have e1 := e1.symm; have e2 := e2.symm; subst e1 e2)
            have hyb : y < w.heap.size := VW.out.block (by rw [HN.out]; omega) y rfl
            have C := Lib.hid (hcy k (by rw [HN.out]; omega))
            have HST0 := HRS.out (by rw [HN.out]; exact hlt)
            obtain ⟨c1, c2, c3⟩ := C.out
            obtain ⟨x0, x1⟩ := X.out.cells2
            have y0 : (0 : Int) ≤ (k : Int) := by omega
            have y1 : (k : Int) < (n : Int) := by omega
            clear hcy hnl HRS HPL
            cases flag with
            | true =>
              by_cases hid : bI l k = sh8 d
              · have HST := Lib.hid (show runP l (newB d) (k + 1) = (acc, true) by rw [HST0]; unfold stepP putA; rw [if_pos hid]; simp)
                have hid' : ((bI l k).toList == (sh8 d).toList) = true := by rw [hid]; exact beq_self_eq_true _
                clear hid HST0
                go_wp2
                go_roundw
                case rel => exact ⟨k + 1, va, vn, vc, by omega, by go_num, by rw [HST.out], XX.out, by rw [HST.out]; exact R.out, G.out⟩
                case measure => simp only [intOf]; omega
              · have HST := Lib.hid (show runP l (newB d) (k + 1) = (acc ++ [⟨bI l k, bD l k, bX l k⟩], true) by rw [HST0]; unfold stepP putA; rw [if_neg hid]; simp)
                have hid' := ne_list hid
                clear hid HST0
                go_wp2_with fail
                clear c1 c2 c3 x0 x1
                refine wp_region_noPanic ?_
                refine wp_region_takes (T := fun j => decide (9 ≤ j)) (S := fun w' => ((w'.cell? ⟨w.heap.size, 0, none⟩ = some (.int .i64 q) ∧ w'.cell? ⟨w.heap.size, 1, none⟩ = some (.slice (some ⟨y, o, none⟩) n ca)) ∧ (w'.cell? ⟨w5.heap.size, 0, none⟩ = some (.int .i64 q) ∧ w'.cell? ⟨w5.heap.size, 1, none⟩ = some (.slice va vn vc)) ∧ w'.cell? ⟨y, o + k * 3, none⟩ = some (.string (bI l k)) ∧ w'.cell? ⟨y, o + k * 3 + 1, none⟩ = some (.string (bD l k)) ∧ w'.cell? ⟨y, o + k * 3 + 2, none⟩ = some (.bool (bX l k)))) [0, 1, 2, 3, 4, 5, 6] [7, 8, 9, 10] (by kernel_rfl) (by kernel_rfl) (by kernel_rfl) (by kernel_rfl) (fun _ _ _ _ _ h => h) ⟨X.out.drew.cells2, XX.out.drew.cells2, C.out.drew⟩ ?_
                iterate 7 (refine wpTakes_step (v := ?_) rfl rfl ?_ ?_; rotate_left; (intro w' hS'; (try dsimp only at hS'); go_simp; (try with_reducible rfl)); simp only [Act.put, List.setIfInBounds_toArray])
                unfold wpTakes
                refine wpSeqT_step rfl ?_
                go_wp2
                refine ⟨fun _ => ⟨(X.out.drew.alloc (.cells #[.string (bI l k), .string (bD l k), .bool (bX l k)] 89)).cells2, (XX.out.drew.alloc (.cells #[.string (bI l k), .string (bD l k), .bool (bX l k)] 89)).cells2, C.out.drew.below ((Below.refl _ _).alloc (Nat.le_refl _) (.cells #[.string (bI l k), .string (bD l k), .bool (bX l k)] 89)) hyw⟩, ?_⟩
                refine wpSeqT_step rfl ?_
                refine wp_append_bl rfl (.tmp 79) (.tmp 85) rfl (w5.heap.size + 1) (.slice va vn vc) acc [⟨bI l k, bD l k, bX l k⟩] rfl (R.out.drew.alloc _) wr.heap.size 0 1 rfl (fun j hj => bb_one (x := ⟨bI l k, bD l k, bX l k⟩) (Bx.new wr.drew _ _ _ rfl).cells3 j hj) (by have := TL.out; simp only [List.length_singleton]; omega) (by have := G.out.size; simp at this ⊢; omega) ?_
                intro v9 w9 hr9 hg9
                obtain ⟨a9, n9, c9, hv9⟩ := hr9.own.form
                subst hv9
                have hlo9 := fun g (e : Value.ownBlock (.slice va vn vc) = some g) => R.out.lt g e
                have X9 := Lib.hid ((X.out.drew.alloc (.cells #[.string (bI l k), .string (bD l k), .bool (bX l k)] 89)).keep hg9 (fun e => by have := (hlo9 _ e.symm).1; omega))
                have XX9 := Lib.hid ((XX.out.drew.alloc (.cells #[.string (bI l k), .string (bD l k), .bool (bX l k)] 89)).keep hg9 (fun e => by have := (hlo9 _ e.symm).1; omega))
                have C9 := Lib.hid ((C.out.drew.below ((Below.refl _ _).alloc (Nat.le_refl _) (.cells #[.string (bI l k), .string (bD l k), .bool (bX l k)] 89)) hyw).block (w' := w9) (hg9.block y (by simp; omega) (fun e => by have := (hlo9 _ e.symm).1; omega)))
                have R9 := Lib.hid hr9
                have G9 := Lib.hid (grow_below (G.out.trans (grown_all (show Below wr.heap.size wr (wr.drew.alloc (.cells #[.string (bI l k), .string (bD l k), .bool (bX l k)] 89)) from (Below.refl _ _).drew.alloc (Nat.le_refl _) _) _)) (by simp only [World.size_alloc]; exact below_of_row (R.out.drew.alloc _) (by have := G.out.size; simp at this ⊢; omega) hg9))
                clear hr9 hg9
                refine ⟨fun _ => ⟨X9.out.cells2, XX9.out.cells2, C9.out⟩, ?_⟩
                refine wpSeqT_step rfl ?_
                go_wp2
                refine ⟨fun h => absurd h (by decide), ?_⟩
                obtain ⟨s0, s1⟩ := XX9.out.cells2
                have f1 := XX9.out.frozen 1
                refine wpSeqT_step rfl ?_
                go_wp2
                refine ⟨fun h => absurd h (by decide), ?_⟩
                unfold wpSeqT
                refine NoPanic.normal ?_
                clear s0 s1 f1
                go_wp2
                go_roundw
                case rel => exact ⟨k + 1, _, _, _, by omega, by go_num, by rw [HST.out], XX9.out.set 1 _, by rw [HST.out]; exact R9.out.setO (q := w5.heap.size) (by omega) _, G9.out.trans (grownBy_set w9 w5.heap.size 1 _)⟩
                case measure => simp only [intOf]; omega
            | false =>
              cases hls : lessP (newB d) ⟨bI l k, bD l k, bX l k⟩ with
              | true =>
                have hne : bI l k ≠ sh8 d := less_ne ((less_iff _ _).1 hls)
                have HST := Lib.hid (show runP l (newB d) (k + 1) = (acc ++ [⟨bI l k, bD l k, bX l k⟩], false) by rw [HST0]; unfold stepP putA; rw [if_neg hne]; simp [hls])
                have hid' := ne_list hne
                have hls' : Op.bytesLess (bI l k).toList (sh8 d).toList = true := hls
                clear hne HST0 hls
                go_wp2_with fail
                clear c1 c2 c3 x0 x1
                refine wp_region_noPanic ?_
                refine wp_region_takes (T := fun j => decide (9 ≤ j)) (S := fun w' => ((w'.cell? ⟨w.heap.size, 0, none⟩ = some (.int .i64 q) ∧ w'.cell? ⟨w.heap.size, 1, none⟩ = some (.slice (some ⟨y, o, none⟩) n ca)) ∧ (w'.cell? ⟨w5.heap.size, 0, none⟩ = some (.int .i64 q) ∧ w'.cell? ⟨w5.heap.size, 1, none⟩ = some (.slice va vn vc)) ∧ w'.cell? ⟨y, o + k * 3, none⟩ = some (.string (bI l k)) ∧ w'.cell? ⟨y, o + k * 3 + 1, none⟩ = some (.string (bD l k)) ∧ w'.cell? ⟨y, o + k * 3 + 2, none⟩ = some (.bool (bX l k)))) [0, 1, 2, 3, 4, 5, 6] [7, 8, 9, 10] (by kernel_rfl) (by kernel_rfl) (by kernel_rfl) (by kernel_rfl) (fun _ _ _ _ _ h => h) ⟨X.out.drew.cells2, XX.out.drew.cells2, C.out.drew⟩ ?_
                iterate 7 (refine wpTakes_step (v := ?_) rfl rfl ?_ ?_; rotate_left; (intro w' hS'; (try dsimp only at hS'); go_simp; (try with_reducible rfl)); simp only [Act.put, List.setIfInBounds_toArray])
                unfold wpTakes
                refine wpSeqT_step rfl ?_
                go_wp2
                refine ⟨fun _ => ⟨(X.out.drew.alloc (.cells #[.string (bI l k), .string (bD l k), .bool (bX l k)] 89)).cells2, (XX.out.drew.alloc (.cells #[.string (bI l k), .string (bD l k), .bool (bX l k)] 89)).cells2, C.out.drew.below ((Below.refl _ _).alloc (Nat.le_refl _) (.cells #[.string (bI l k), .string (bD l k), .bool (bX l k)] 89)) hyw⟩, ?_⟩
                refine wpSeqT_step rfl ?_
                refine wp_append_bl rfl (.tmp 79) (.tmp 85) rfl (w5.heap.size + 1) (.slice va vn vc) acc [⟨bI l k, bD l k, bX l k⟩] rfl (R.out.drew.alloc _) wr.heap.size 0 1 rfl (fun j hj => bb_one (x := ⟨bI l k, bD l k, bX l k⟩) (Bx.new wr.drew _ _ _ rfl).cells3 j hj) (by have := TL.out; simp only [List.length_singleton]; omega) (by have := G.out.size; simp at this ⊢; omega) ?_
                intro v9 w9 hr9 hg9
                obtain ⟨a9, n9, c9, hv9⟩ := hr9.own.form
                subst hv9
                have hlo9 := fun g (e : Value.ownBlock (.slice va vn vc) = some g) => R.out.lt g e
                have X9 := Lib.hid ((X.out.drew.alloc (.cells #[.string (bI l k), .string (bD l k), .bool (bX l k)] 89)).keep hg9 (fun e => by have := (hlo9 _ e.symm).1; omega))
                have XX9 := Lib.hid ((XX.out.drew.alloc (.cells #[.string (bI l k), .string (bD l k), .bool (bX l k)] 89)).keep hg9 (fun e => by have := (hlo9 _ e.symm).1; omega))
                have C9 := Lib.hid ((C.out.drew.below ((Below.refl _ _).alloc (Nat.le_refl _) (.cells #[.string (bI l k), .string (bD l k), .bool (bX l k)] 89)) hyw).block (w' := w9) (hg9.block y (by simp; omega) (fun e => by have := (hlo9 _ e.symm).1; omega)))
                have R9 := Lib.hid hr9
                have G9 := Lib.hid (grow_below (G.out.trans (grown_all (show Below wr.heap.size wr (wr.drew.alloc (.cells #[.string (bI l k), .string (bD l k), .bool (bX l k)] 89)) from (Below.refl _ _).drew.alloc (Nat.le_refl _) _) _)) (by simp only [World.size_alloc]; exact below_of_row (R.out.drew.alloc _) (by have := G.out.size; simp at this ⊢; omega) hg9))
                clear hr9 hg9
                refine ⟨fun _ => ⟨X9.out.cells2, XX9.out.cells2, C9.out⟩, ?_⟩
                refine wpSeqT_step rfl ?_
                go_wp2
                refine ⟨fun h => absurd h (by decide), ?_⟩
                obtain ⟨s0, s1⟩ := XX9.out.cells2
                have f1 := XX9.out.frozen 1
                refine wpSeqT_step rfl ?_
                go_wp2
                refine ⟨fun h => absurd h (by decide), ?_⟩
                unfold wpSeqT
                refine NoPanic.normal ?_
                clear s0 s1 f1
                go_wp2
                go_roundw
                case rel => exact ⟨k + 1, _, _, _, by omega, by go_num, by rw [HST.out], XX9.out.set 1 _, by rw [HST.out]; exact R9.out.setO (q := w5.heap.size) (by omega) _, G9.out.trans (grownBy_set w9 w5.heap.size 1 _)⟩
                case measure => simp only [intOf]; omega
              | false =>
                have hls' : Op.bytesLess (bI l k).toList (sh8 d).toList = false := hls
                obtain ⟨t0, t1⟩ := XX.out.cells2
                obtain ⟨t2, t3⟩ := (XX.out.alloc (.cells #[.string (sh8 d), .string d, .bool false] 89)).cells2
                by_cases hid : bI l k = sh8 d
                · have HST := Lib.hid (show runP l (newB d) (k + 1) = (acc ++ [newB d], true) by rw [HST0]; unfold stepP putA; rw [if_pos hid]; simp [hls])
                  have hid' : ((bI l k).toList == (sh8 d).toList) = true := by rw [hid]; exact beq_self_eq_true _
                  clear hid HST0 hls
                  go_wp2_with (at_builtin; refine wp_append_bl rfl (.tmp 63) (.tmp 67) rfl (w5.heap.size + 1) (.slice va vn vc) acc [newB d] rfl (R.out.alloc _) wr.heap.size 0 1 rfl (fun j hj => bb_one (x := newB d) (Bx.new wr _ _ _ rfl).cells3 j hj) (by have := TL.out; simp only [List.length_singleton]; omega) (by have := G.out.size; simp at this ⊢; omega) ?_; intro v6 w6 hr6 hg6; obtain ⟨a6, n6, c6, hv6⟩ := hr6.own.form; subst hv6; have hlo6 := fun g (e : Value.ownBlock (.slice va vn vc) = some g) => R.out.lt g e; have XX6 := Lib.hid ((XX.out.alloc (.cells #[.string (sh8 d), .string d, .bool false] 89)).keep hg6 (fun e => by have := (hlo6 _ e.symm).1; omega)); have X6 := Lib.hid ((X.out.alloc (.cells #[.string (sh8 d), .string d, .bool false] 89)).keep hg6 (fun e => by have := (hlo6 _ e.symm).1; omega)); have R6 := Lib.hid hr6; have G6 := Lib.hid (grow_below (G.out.trans (grown_all (show Below wr.heap.size wr (wr.alloc (.cells #[.string (sh8 d), .string d, .bool false] 89)) from (Below.refl _ _).alloc (Nat.le_refl _) _) _)) (by simp only [World.size_alloc]; exact below_of_row (R.out.alloc _) (by have := G.out.size; simp at this ⊢; omega) hg6)); have C6 := Lib.hid ((C.out.below ((Below.refl _ _).alloc (Nat.le_refl _) (.cells #[.string (sh8 d), .string d, .bool false] 89)) hyw).block (w' := w6) (hg6.block y (by simp; omega) (fun e => by have := (hlo6 _ e.symm).1; omega))); have q6 := (X6.out.set_other ⟨w5.heap.size, 1, none⟩ (.slice a6 n6 c6) (show w.heap.size ≠ w5.heap.size by omega)).cells2; obtain ⟨q0, q1⟩ := q6; have p6 := (C6.out.block (w' := w6.setCell ⟨w5.heap.size, 1, none⟩ (.slice a6 n6 c6)) (heap_setCell_other w6 ⟨w5.heap.size, 1, none⟩ y _ (show y ≠ w5.heap.size by omega))); obtain ⟨p0, p1, p2⟩ := p6; obtain ⟨s0, s1⟩ := XX6.out.cells2; have f1 := XX6.out.frozen 1; clear hg6 hr6)
                  go_roundw
                  case rel => exact ⟨k + 1, _, _, _, by omega, by go_num, by rw [HST.out], XX6.out.set 1 _, by rw [HST.out]; exact R6.out.setO (q := w5.heap.size) (by omega) _, G6.out.trans (grownBy_set w6 w5.heap.size 1 _)⟩
                  case measure => simp only [intOf]; omega
                · have HST := Lib.hid (show runP l (newB d) (k + 1) = ((acc ++ [newB d]) ++ [⟨bI l k, bD l k, bX l k⟩], true) by rw [HST0]; unfold stepP putA; rw [if_neg hid]; simp [hls])
                  have hid' := ne_list hid
                  clear hid HST0 hls
                  go_wp2_with (at_builtin; refine wp_append_bl rfl (.tmp 63) (.tmp 67) rfl (w5.heap.size + 1) (.slice va vn vc) acc [newB d] rfl (R.out.alloc _) wr.heap.size 0 1 rfl (fun j hj => bb_one (x := newB d) (Bx.new wr _ _ _ rfl).cells3 j hj) (by have := TL.out; simp only [List.length_singleton]; omega) (by have := G.out.size; simp at this ⊢; omega) ?_; intro v6 w6 hr6 hg6; obtain ⟨a6, n6, c6, hv6⟩ := hr6.own.form; subst hv6; have hlo6 := fun g (e : Value.ownBlock (.slice va vn vc) = some g) => R.out.lt g e; have XX6 := Lib.hid ((XX.out.alloc (.cells #[.string (sh8 d), .string d, .bool false] 89)).keep hg6 (fun e => by have := (hlo6 _ e.symm).1; omega)); have X6 := Lib.hid ((X.out.alloc (.cells #[.string (sh8 d), .string d, .bool false] 89)).keep hg6 (fun e => by have := (hlo6 _ e.symm).1; omega)); have R6 := Lib.hid hr6; have G6 := Lib.hid (grow_below (G.out.trans (grown_all (show Below wr.heap.size wr (wr.alloc (.cells #[.string (sh8 d), .string d, .bool false] 89)) from (Below.refl _ _).alloc (Nat.le_refl _) _) _)) (by simp only [World.size_alloc]; exact below_of_row (R.out.alloc _) (by have := G.out.size; simp at this ⊢; omega) hg6)); have C6 := Lib.hid ((C.out.below ((Below.refl _ _).alloc (Nat.le_refl _) (.cells #[.string (sh8 d), .string d, .bool false] 89)) hyw).block (w' := w6) (hg6.block y (by simp; omega) (fun e => by have := (hlo6 _ e.symm).1; omega))); have q6 := (X6.out.set_other ⟨w5.heap.size, 1, none⟩ (.slice a6 n6 c6) (show w.heap.size ≠ w5.heap.size by omega)).cells2; obtain ⟨q0, q1⟩ := q6; have p6 := (C6.out.block (w' := w6.setCell ⟨w5.heap.size, 1, none⟩ (.slice a6 n6 c6)) (heap_setCell_other w6 ⟨w5.heap.size, 1, none⟩ y _ (show y ≠ w5.heap.size by omega))); obtain ⟨p0, p1, p2⟩ := p6; obtain ⟨s0, s1⟩ := XX6.out.cells2; have f1 := XX6.out.frozen 1; clear hg6 hr6)
                  obtain ⟨w7, hw7⟩ : ∃ w7, w6.setCell ⟨w5.heap.size, 1, none⟩ (.slice a6 n6 c6) = w7 := ⟨_, rfl⟩
                  have X7 := Lib.hid (show Bx w7 w.heap.size 41 #[.int .i64 q, .slice (some ⟨y, o, none⟩) n ca] by rw [← hw7]; exact X6.out.set_other ⟨w5.heap.size, 1, none⟩ _ (show w.heap.size ≠ w5.heap.size by omega))
                  have XX7 := Lib.hid (show Bx w7 w5.heap.size 41 #[.int .i64 q, .slice a6 n6 c6] by rw [← hw7]; exact XX6.out.set 1 _)
                  have C7 := Lib.hid (show BbAt w7 y o l k by rw [← hw7]; exact C6.out.block (heap_setCell_other w6 ⟨w5.heap.size, 1, none⟩ y _ (show y ≠ w5.heap.size by omega)))
                  have R7 := Lib.hid (show BlRow w7 (w5.heap.size + 1) (.slice a6 n6 c6) (acc ++ [newB d]) by rw [← hw7]; exact R6.out.setO (q := w5.heap.size) (by omega) _)
                  have G7 := Lib.hid (show (w5.alloc (.cells #[.int .i64 q, .slice none 0 0] 41)).grownBy w7 (some w5.heap.size) by rw [← hw7]; exact G6.out.trans (grownBy_set w6 w5.heap.size 1 _))
                  have hyw : y < w7.heap.size := by have := G7.out.size; simp at this; omega
                  rw [hw7]
                  clear hw7 c1 c2 c3 x0 x1 t0 t1 t2 t3 s0 s1 f1 q0 q1 p0 p1 p2 X6 XX6 C6 R6 G6 hlo6
                  refine wp_region_noPanic ?_
                  refine wp_region_takes (T := fun j => decide (9 ≤ j)) (S := fun w' => ((w'.cell? ⟨w.heap.size, 0, none⟩ = some (.int .i64 q) ∧ w'.cell? ⟨w.heap.size, 1, none⟩ = some (.slice (some ⟨y, o, none⟩) n ca)) ∧ (w'.cell? ⟨w5.heap.size, 0, none⟩ = some (.int .i64 q) ∧ w'.cell? ⟨w5.heap.size, 1, none⟩ = some (.slice a6 n6 c6)) ∧ w'.cell? ⟨y, o + k * 3, none⟩ = some (.string (bI l k)) ∧ w'.cell? ⟨y, o + k * 3 + 1, none⟩ = some (.string (bD l k)) ∧ w'.cell? ⟨y, o + k * 3 + 2, none⟩ = some (.bool (bX l k)))) [0, 1, 2, 3, 4, 5, 6] [7, 8, 9, 10] (by kernel_rfl) (by kernel_rfl) (by kernel_rfl) (by kernel_rfl) (fun _ _ _ _ _ h => h) ⟨X7.out.drew.cells2, XX7.out.drew.cells2, C7.out.drew⟩ ?_
                  iterate 7 (refine wpTakes_step (v := ?_) rfl rfl ?_ ?_; rotate_left; (intro w' hS'; (try dsimp only at hS'); go_simp; (try with_reducible rfl)); simp only [Act.put, List.setIfInBounds_toArray])
                  unfold wpTakes
                  refine wpSeqT_step rfl ?_
                  go_wp2
                  refine ⟨fun _ => ⟨(X7.out.drew.alloc (.cells #[.string (bI l k), .string (bD l k), .bool (bX l k)] 89)).cells2, (XX7.out.drew.alloc (.cells #[.string (bI l k), .string (bD l k), .bool (bX l k)] 89)).cells2, C7.out.drew.below ((Below.refl _ _).alloc (Nat.le_refl _) (.cells #[.string (bI l k), .string (bD l k), .bool (bX l k)] 89)) hyw⟩, ?_⟩
                  refine wpSeqT_step rfl ?_
                  refine wp_append_bl rfl (.tmp 79) (.tmp 85) rfl (w5.heap.size + 1) (.slice a6 n6 c6) (acc ++ [newB d]) [⟨bI l k, bD l k, bX l k⟩] rfl (R7.out.drew.alloc _) w7.heap.size 0 1 rfl (fun j hj => bb_one (x := ⟨bI l k, bD l k, bX l k⟩) (Bx.new w7.drew _ _ _ rfl).cells3 j hj) (by have := TL.out; simp only [List.length_append, List.length_singleton]; omega) (by have := G7.out.size; simp at this ⊢; omega) ?_
                  intro v9 w9 hr9 hg9
                  obtain ⟨a9, n9, c9, hv9⟩ := hr9.own.form
                  subst hv9
                  have hlo9 := fun g (e : Value.ownBlock (.slice a6 n6 c6) = some g) => R7.out.lt g e
                  have X9 := Lib.hid ((X7.out.drew.alloc (.cells #[.string (bI l k), .string (bD l k), .bool (bX l k)] 89)).keep hg9 (fun e => by have := (hlo9 _ e.symm).1; omega))
                  have XX9 := Lib.hid ((XX7.out.drew.alloc (.cells #[.string (bI l k), .string (bD l k), .bool (bX l k)] 89)).keep hg9 (fun e => by have := (hlo9 _ e.symm).1; omega))
                  have C9 := Lib.hid ((C7.out.drew.below ((Below.refl _ _).alloc (Nat.le_refl _) (.cells #[.string (bI l k), .string (bD l k), .bool (bX l k)] 89)) hyw).block (w' := w9) (hg9.block y (by simp; omega) (fun e => by have := (hlo9 _ e.symm).1; omega)))
                  have R9 := Lib.hid hr9
                  have G9 := Lib.hid (grow_below (G7.out.trans (grown_all (show Below w7.heap.size w7 (w7.drew.alloc (.cells #[.string (bI l k), .string (bD l k), .bool (bX l k)] 89)) from (Below.refl _ _).drew.alloc (Nat.le_refl _) _) _)) (by simp only [World.size_alloc]; exact below_of_row (R7.out.drew.alloc _) (by have := G7.out.size; simp at this ⊢; omega) hg9))
                  clear hr9 hg9
                  refine ⟨fun _ => ⟨X9.out.cells2, XX9.out.cells2, C9.out⟩, ?_⟩
                  refine wpSeqT_step rfl ?_
                  go_wp2
                  refine ⟨fun h => absurd h (by decide), ?_⟩
                  obtain ⟨s0, s1⟩ := XX9.out.cells2
                  have f1 := XX9.out.frozen 1
                  refine wpSeqT_step rfl ?_
                  go_wp2
                  refine ⟨fun h => absurd h (by decide), ?_⟩
                  unfold wpSeqT
                  refine NoPanic.normal ?_
                  clear s0 s1 f1
                  go_wp2
                  go_roundw
                  case rel => exact ⟨k + 1, _, _, _, by omega, by go_num, by rw [HST.out], XX9.out.set 1 _, by rw [HST.out]; exact R9.out.setO (q := w5.heap.size) (by omega) _, G9.out.trans (grownBy_set w9 w5.heap.size 1 _)⟩
                  case measure => simp only [intOf]; omega
          · obtain rfl : k = n := by omega
            obtain ⟨pl1, pl2⟩ := HPL.out rfl
            obtain ⟨x0, x1⟩ := X.out.cells2
            obtain ⟨t0, t1⟩ := XX.out.cells2
            cases flag with
            | true =>
              have RR := Lib.hid (show BlRow wr (w5.heap.size + 1) (.slice va vn vc) (putL l (newB d)) by rw [pl1 rfl]; exact R.out)
              have GG := G
              have XW := XX
              clear pl1 pl2 HRS
              go_wp2_with fail
              clear x0 x1 t0 t1
              have V7 := Lib.hid ((V5.out.alloc (.cells #[.int .i64 q, .slice none 0 0] 41)).keep0 GG.out (fun h0 g hgg e => by cases hgg; have := VW.out.block h0 _ e; omega))
              have X7 := Lib.hid ((X5.out.alloc (.cells #[.int .i64 q, .slice none 0 0] 41)).keep GG.out (by simp; omega))
              have Z7 := Lib.hid ((Z5.out.alloc (.cells #[.int .i64 q, .slice none 0 0] 41)).keep GG.out (by simp; omega))
              have A7 := Lib.hid ((A5.out.alloc (.cells #[.int .i64 q, .slice none 0 0] 41)).grow GG.out (fun j hj => by cases hj; omega))
              refine (spec_blobsOk _ (putL l (newB d)) q _ (RR.out.own.blbs SP.out.big) SP.out).mono ?_
              rintro e w8 ⟨rfl, hb8⟩
              have R8 := Lib.hid (RR.out.later hb8)
              have XW8 := Lib.hid (XW.out.after hb8)
              have Z8 := Lib.hid (Z7.out.after hb8)
              have X8 := Lib.hid (X7.out.after hb8)
              have A8 := Lib.hid (A7.out.after hb8)
              have V8 := Lib.hid (V7.out.later hb8)
              clear hb8 Z7 X7 A7 V7 RR XW GG
              cases hop : okS q (putL l (newB d)) with
              | true =>
                have HR := Lib.hid (putR_new HOK.out h40 HX.out hop)
                obtain ⟨z0, z1⟩ := Z8.out.cells2
                have fz0 := Z8.out.frozen 0
                have fz1 := Z8.out.frozen 1
                obtain ⟨t0, t1⟩ := XW8.out.cells2
                clear hop
                go_wp2
                exact bodyPost_ret (results_blobs3 Tryd.results25 _ _ (w.heap.size + 1) _ _ rfl (Z8.out.st2 _ _).cells2) rfl ⟨⟨_, _, _, by rw [HQ.out, HR.out]; rfl, by rw [HR.out]; exact ((R8.out.st2 (q := w.heap.size + 1) (by omega) _ _).mono (by omega)).own, fun g hg => by have h := R8.out.lt g hg; exact ⟨by omega, by simpa using h.2⟩⟩, A8.out.st2 (by omega) _ _⟩
              | false =>
                have HR := Lib.hid (putR_full HOK.out h40 HX.out hop)
                clear hop
                obtain ⟨x0, x1⟩ := X8.out.cells2
                go_wp2_with fail
                clear x0 x1
                refine (spec_copy _ l q _ V8.out (by rw [HN.out]; omega)).mono ?_
                rintro e w6 ⟨⟨u, rfl, hr⟩, hb6⟩
                obtain ⟨a6, k6, c6, hu⟩ := hr.own.form
                subst hu
                have R6 := Lib.hid hr
                have Z6 := Lib.hid (Z8.out.after hb6)
                have A6 := Lib.hid (A8.out.after hb6)
                have hlo := A8.out.size
                have hxz := Z8.out.lt
                clear hr hb6
                obtain ⟨z0, z1⟩ := Z6.out.cells2
                have fz0 := Z6.out.frozen 0
                have fz1 := Z6.out.frozen 1
                go_wp2
                exact bodyPost_ret (results_blobs3 Tryd.results25 _ _ (w.heap.size + 1) _ _ rfl (Z6.out.st2 _ _).cells2) rfl ⟨⟨a6, k6, c6, by rw [HQ.out, HR.out]; rfl, by rw [HR.out]; exact ((R6.out.st2 hxz _ _).mono hlo).own, fun g hg => by have h := R6.out.lt g hg; exact ⟨Nat.le_trans hlo h.1, by simpa using h.2⟩⟩, A6.out.st2 (by omega) _ _⟩
            | false =>
              obtain ⟨t2, t3⟩ := (XX.out.alloc (.cells #[.string (sh8 d), .string d, .bool false] 89)).cells2
              have PL := Lib.hid (pl2 rfl)
              clear pl1 pl2 HRS
              go_wp2_with (at_builtin; refine wp_append_bl rfl (.tmp 91) (.tmp 95) rfl (w5.heap.size + 1) (.slice va vn vc) acc [newB d] rfl (R.out.alloc _) wr.heap.size 0 1 rfl (fun j hj => bb_one (x := newB d) (Bx.new wr _ _ _ rfl).cells3 j hj) (by have := TL.out; simp only [List.length_singleton]; omega) (by have := G.out.size; simp at this ⊢; omega) ?_; intro v6 w6 hr6 hg6; obtain ⟨a6, n6, c6, hv6⟩ := hr6.own.form; subst hv6; have hlo6 := fun g (e : Value.ownBlock (.slice va vn vc) = some g) => R.out.lt g e; have XX6 := Lib.hid ((XX.out.alloc (.cells #[.string (sh8 d), .string d, .bool false] 89)).keep hg6 (fun e => by have := (hlo6 _ e.symm).1; omega)); have X6 := Lib.hid ((X.out.alloc (.cells #[.string (sh8 d), .string d, .bool false] 89)).keep hg6 (fun e => by have := (hlo6 _ e.symm).1; omega)); have R6 := Lib.hid hr6; have G6 := Lib.hid (grow_below (G.out.trans (grown_all (show Below wr.heap.size wr (wr.alloc (.cells #[.string (sh8 d), .string d, .bool false] 89)) from (Below.refl _ _).alloc (Nat.le_refl _) _) _)) (by simp only [World.size_alloc]; exact below_of_row (R.out.alloc _) (by have := G.out.size; simp at this ⊢; omega) hg6)); obtain ⟨s0, s1⟩ := XX6.out.cells2; have f1 := XX6.out.frozen 1; clear hg6 hr6)
              have RR := Lib.hid (show BlRow (w6.setCell ⟨w5.heap.size, 1, none⟩ (.slice a6 n6 c6)) (w5.heap.size + 1) (.slice a6 n6 c6) (putL l (newB d)) by rw [PL.out]; exact R6.out.setO (q := w5.heap.size) (by omega) _)
              have GG := Lib.hid (G6.out.trans (grownBy_set w6 w5.heap.size 1 (.slice a6 n6 c6)))
              have XW := Lib.hid (XX6.out.set 1 (.slice a6 n6 c6))
              clear x0 x1 t0 t1 t2 t3 s0 s1 f1
              have V7 := Lib.hid ((V5.out.alloc (.cells #[.int .i64 q, .slice none 0 0] 41)).keep0 GG.out (fun h0 g hgg e => by cases hgg; have := VW.out.block h0 _ e; omega))
              have X7 := Lib.hid ((X5.out.alloc (.cells #[.int .i64 q, .slice none 0 0] 41)).keep GG.out (by simp; omega))
              have Z7 := Lib.hid ((Z5.out.alloc (.cells #[.int .i64 q, .slice none 0 0] 41)).keep GG.out (by simp; omega))
              have A7 := Lib.hid ((A5.out.alloc (.cells #[.int .i64 q, .slice none 0 0] 41)).grow GG.out (fun j hj => by cases hj; omega))
              refine (spec_blobsOk _ (putL l (newB d)) q _ (RR.out.own.blbs SP.out.big) SP.out).mono ?_
              rintro e w8 ⟨rfl, hb8⟩
              have R8 := Lib.hid (RR.out.later hb8)
              have XW8 := Lib.hid (XW.out.after hb8)
              have Z8 := Lib.hid (Z7.out.after hb8)
              have X8 := Lib.hid (X7.out.after hb8)
              have A8 := Lib.hid (A7.out.after hb8)
              have V8 := Lib.hid (V7.out.later hb8)
              clear hb8 Z7 X7 A7 V7 RR XW GG
              cases hop : okS q (putL l (newB d)) with
              | true =>
                have HR := Lib.hid (putR_new HOK.out h40 HX.out hop)
                obtain ⟨z0, z1⟩ := Z8.out.cells2
                have fz0 := Z8.out.frozen 0
                have fz1 := Z8.out.frozen 1
                obtain ⟨t0, t1⟩ := XW8.out.cells2
                clear hop
                go_wp2
                exact bodyPost_ret (results_blobs3 Tryd.results25 _ _ (w.heap.size + 1) _ _ rfl (Z8.out.st2 _ _).cells2) rfl ⟨⟨_, _, _, by rw [HQ.out, HR.out]; rfl, by rw [HR.out]; exact ((R8.out.st2 (q := w.heap.size + 1) (by omega) _ _).mono (by omega)).own, fun g hg => by have h := R8.out.lt g hg; exact ⟨by omega, by simpa using h.2⟩⟩, A8.out.st2 (by omega) _ _⟩
              | false =>
                have HR := Lib.hid (putR_full HOK.out h40 HX.out hop)
                clear hop
                obtain ⟨x0, x1⟩ := X8.out.cells2
                go_wp2_with fail
                clear x0 x1
                refine (spec_copy _ l q _ V8.out (by rw [HN.out]; omega)).mono ?_
                rintro e w6 ⟨⟨u, rfl, hr⟩, hb6⟩
                obtain ⟨a6, k6, c6, hu⟩ := hr.own.form
                subst hu
                have R6 := Lib.hid hr
                have Z6 := Lib.hid (Z8.out.after hb6)
                have A6 := Lib.hid (A8.out.after hb6)
                have hlo := A8.out.size
                have hxz := Z8.out.lt
                clear hr hb6
                obtain ⟨z0, z1⟩ := Z6.out.cells2
                have fz0 := Z6.out.frozen 0
                have fz1 := Z6.out.frozen 1
                go_wp2
                exact bodyPost_ret (results_blobs3 Tryd.results25 _ _ (w.heap.size + 1) _ _ rfl (Z6.out.st2 _ _).cells2) rfl ⟨⟨a6, k6, c6, by rw [HQ.out, HR.out]; rfl, by rw [HR.out]; exact ((R6.out.st2 hxz _ _).mono hlo).own, fun g hg => by have h := R6.out.lt g hg; exact ⟨Nat.le_trans hlo h.1, by simpa using h.2⟩⟩, A6.out.st2 (by omega) _ _⟩
      · subst hk1
        obtain ⟨y, o, ca', hse, _, hy, hcy⟩ := V5.out.at0 (by omega)
        simp only [Value.slice.injEq] at hse
        obtain ⟨rfl, hnl, rfl⟩ := hse
        obtain ⟨c1, c2, c3⟩ := hcy j hj
        have hjn : j < n := by rw [← HN.out]; exact hj
        have hj0 : decide ((0 : Int) ≤ (j : Int)) = true := by simp
        have y0 : (0 : Int) ≤ (j : Int) := by omega
        have y1 : (j : Int) < (n : Int) := by omega
        clear hcy hnl hji hj
        obtain ⟨x0, x1⟩ := X5.out.cells2
        cases hbx : bX l j with
        | false =>
          have HR := Lib.hid (putR_same HOK.out h40 hg hbx)
          rw [hbx] at c3
          clear hg hbx
          go_wp2_with fail
          clear x0 x1
          refine (spec_copy _ l q _ V5.out (by rw [HN.out]; omega)).mono ?_
          rintro e w6 ⟨⟨u, rfl, hr⟩, hb6⟩
          obtain ⟨a6, k6, c6, hu⟩ := hr.own.form
          subst hu
          have R6 := Lib.hid hr
          have Z6 := Lib.hid (Z5.out.after hb6)
          have A6 := Lib.hid (A5.out.after hb6)
          have hlo := A5.out.size
          have hxz := Z5.out.lt
          clear hr hb6
          obtain ⟨z0, z1⟩ := Z6.out.cells2
          have fz0 := Z6.out.frozen 0
          have fz1 := Z6.out.frozen 1
          go_wp2
          exact bodyPost_ret (results_blobs3 Tryd.results25 _ _ (w.heap.size + 1) _ _ rfl (Z6.out.st2 _ _).cells2) rfl ⟨⟨a6, k6, c6, by rw [HQ.out, HR.out]; rfl, by rw [HR.out]; exact ((R6.out.st2 hxz _ _).mono hlo).own, fun g hg => by have h := R6.out.lt g hg; exact ⟨Nat.le_trans hlo h.1, by simpa using h.2⟩⟩, A6.out.st2 (by omega) _ _⟩
        | true =>
          have HX := Lib.hid (show getB l (sh8 d) = none ∨ ∃ x, getB l (sh8 d) = some x ∧ x.bad = true from .inr ⟨_, hg, hbx⟩)
          rw [hbx] at c3
          clear hg hbx
          go_wp2_with fail
          clear x0 x1 c1 c2 c3
          have XN := Lib.hid (Bx.new w5 41 #[.int .i64 q, .slice none 0 0] _ rfl)
          have SP := Lib.hid (put_sml HA.out HSM.out (x := newB d) (by rw [sh8_size]; omega) (by omega))
          go_loopw [10, 11] (fun pv iv wr => ∃ (k : Nat) (va : Option Addr) (vn vc : Nat), k ≤ n ∧ iv = .int .i64 k ∧ pv = .bool (runP l (newB d) k).2 ∧ Bx wr w5.heap.size 41 #[.int .i64 q, .slice va vn vc] ∧ BlRow wr (w5.heap.size + 1) (.slice va vn vc) (runP l (newB d) k).1 ∧ (w5.alloc (.cells #[.int .i64 q, .slice none 0 0] 41)).grownBy wr (some w5.heap.size)) (fun _ iv _ => n - (intOf iv).toNat)
          case atStart => exact ⟨0, none, 0, 0, by omega, rfl, by rw [runP_zero], XN.out, by rw [runP_zero]; exact blRow_nil _ _, World.grownBy.refl _ _⟩
          case round =>
            obtain ⟨k, va, vn, vc, hk, rfl, rfl, hx, hr, hg⟩ := hrel
            have hgs := hg.size
            simp only [World.size_alloc] at hgs
            have tl := runP_len l (newB d) k (by rw [HN.out]; exact hk)
            have XX := Lib.hid hx
            have G := Lib.hid hg
            have X := Lib.hid ((X5.out.alloc (.cells #[.int .i64 q, .slice none 0 0] 41)).keep hg (by simp; omega))
            have VR := Lib.hid ((V5.out.alloc (.cells #[.int .i64 q, .slice none 0 0] 41)).keep0 hg (fun h0 g hgg e => by cases hgg; have := VW.out.block h0 _ e; omega))
            have HRS := Lib.hid (fun h => runP_succ l (newB d) k h)
            have HPL := Lib.hid (fun (h : k = n) => (⟨fun e => by rw [putL_yes (by rw [HN.out, ← h]; exact e), HN.out, ← h], fun e => by rw [putL_no (by rw [HN.out, ← h]; exact e), HN.out, ← h]⟩ : ((runP l (newB d) k).2 = true → putL l (newB d) = (runP l (newB d) k).1) ∧ ((runP l (newB d) k).2 = false → putL l (newB d) = (runP l (newB d) k).1 ++ [newB d])))
            obtain ⟨⟨acc, flag⟩, hacc⟩ : ∃ s, runP l (newB d) k = s := ⟨_, rfl⟩
            rw [hacc] at hr HRS HPL tl
            simp only [hacc]
            simp only at hr HPL tl
            have R := Lib.hid hr
            have TL := Lib.hid (show acc.length ≤ 1000 by omega)
            clear hx hr hg XN hacc tl
            by_cases hlt : k < n
            · obtain ⟨y, o, ca', hse, _, hyw, hcy⟩ := VR.out.at0 (by rw [HN.out]; omega)
              simp only [Value.slice.injEq] at hse
              obtain ⟨hse1, hnl, hse2⟩ := hse
              subst hse2
              first | subst hse1 | (simp only [Option.some.injEq, Addr.mk.injEq] at hse1; obtain ⟨e1, e2, _⟩ := hse1; have e1 := e1.symm; have e2 := e2.symm; subst e1 e2)
              have hyb : y < w.heap.size := VW.out.block (by rw [HN.out]; omega) y rfl
              have C := Lib.hid (hcy k (by rw [HN.out]; omega))
              have HST0 := HRS.out (by rw [HN.out]; exact hlt)
              obtain ⟨c1, c2, c3⟩ := C.out
              obtain ⟨x0, x1⟩ := X.out.cells2
              have y0 : (0 : Int) ≤ (k : Int) := by omega
              have y1 : (k : Int) < (n : Int) := by omega
              clear hcy hnl HRS HPL
              cases flag with
              | true =>
                by_cases hid : bI l k = sh8 d
                · have HST := Lib.hid (show runP l (newB d) (k + 1) = (acc, true) by rw [HST0]; unfold stepP putA; rw [if_pos hid]; simp)
                  have hid' : ((bI l k).toList == (sh8 d).toList) = true := by rw [hid]; exact beq_self_eq_true _
                  clear hid HST0
                  go_wp2
                  go_roundw
                  case rel => exact ⟨k + 1, va, vn, vc, by omega, by go_num, by rw [HST.out], XX.out, by rw [HST.out]; exact R.out, G.out⟩
                  case measure => simp only [intOf]; omega
                · have HST := Lib.hid (show runP l (newB d) (k + 1) = (acc ++ [⟨bI l k, bD l k, bX l k⟩], true) by rw [HST0]; unfold stepP putA; rw [if_neg hid]; simp)
                  have hid' := ne_list hid
                  clear hid HST0
                  go_wp2_with fail
                  clear c1 c2 c3 x0 x1
                  refine wp_region_noPanic ?_
                  refine wp_region_takes (T := fun j => decide (9 ≤ j)) (S := fun w' => ((w'.cell? ⟨w.heap.size, 0, none⟩ = some (.int .i64 q) ∧ w'.cell? ⟨w.heap.size, 1, none⟩ = some (.slice (some ⟨y, o, none⟩) n ca)) ∧ (w'.cell? ⟨w5.heap.size, 0, none⟩ = some (.int .i64 q) ∧ w'.cell? ⟨w5.heap.size, 1, none⟩ = some (.slice va vn vc)) ∧ w'.cell? ⟨y, o + k * 3, none⟩ = some (.string (bI l k)) ∧ w'.cell? ⟨y, o + k * 3 + 1, none⟩ = some (.string (bD l k)) ∧ w'.cell? ⟨y, o + k * 3 + 2, none⟩ = some (.bool (bX l k)))) [0, 1, 2, 3, 4, 5, 6] [7, 8, 9, 10] (by kernel_rfl) (by kernel_rfl) (by kernel_rfl) (by kernel_rfl) (fun _ _ _ _ _ h => h) ⟨X.out.drew.cells2, XX.out.drew.cells2, C.out.drew⟩ ?_
                  iterate 7 (refine wpTakes_step (v := ?_) rfl rfl ?_ ?_; rotate_left; (intro w' hS'; (try dsimp only at hS'); go_simp; (try with_reducible rfl)); simp only [Act.put, List.setIfInBounds_toArray])
                  unfold wpTakes
                  refine wpSeqT_step rfl ?_
                  go_wp2
                  refine ⟨fun _ => ⟨(X.out.drew.alloc (.cells #[.string (bI l k), .string (bD l k), .bool (bX l k)] 89)).cells2, (XX.out.drew.alloc (.cells #[.string (bI l k), .string (bD l k), .bool (bX l k)] 89)).cells2, C.out.drew.below ((Below.refl _ _).alloc (Nat.le_refl _) (.cells #[.string (bI l k), .string (bD l k), .bool (bX l k)] 89)) hyw⟩, ?_⟩
                  refine wpSeqT_step rfl ?_
                  refine wp_append_bl rfl (.tmp 79) (.tmp 85) rfl (w5.heap.size + 1) (.slice va vn vc) acc [⟨bI l k, bD l k, bX l k⟩] rfl (R.out.drew.alloc _) wr.heap.size 0 1 rfl (fun j hj => bb_one (x := ⟨bI l k, bD l k, bX l k⟩) (Bx.new wr.drew _ _ _ rfl).cells3 j hj) (by have := TL.out; simp only [List.length_singleton]; omega) (by have := G.out.size; simp at this ⊢; omega) ?_
                  intro v9 w9 hr9 hg9
                  obtain ⟨a9, n9, c9, hv9⟩ := hr9.own.form
                  subst hv9
                  have hlo9 := fun g (e : Value.ownBlock (.slice va vn vc) = some g) => R.out.lt g e
                  have X9 := Lib.hid ((X.out.drew.alloc (.cells #[.string (bI l k), .string (bD l k), .bool (bX l k)] 89)).keep hg9 (fun e => by have := (hlo9 _ e.symm).1; omega))
                  have XX9 := Lib.hid ((XX.out.drew.alloc (.cells #[.string (bI l k), .string (bD l k), .bool (bX l k)] 89)).keep hg9 (fun e => by have := (hlo9 _ e.symm).1; omega))
                  have C9 := Lib.hid ((C.out.drew.below ((Below.refl _ _).alloc (Nat.le_refl _) (.cells #[.string (bI l k), .string (bD l k), .bool (bX l k)] 89)) hyw).block (w' := w9) (hg9.block y (by simp; omega) (fun e => by have := (hlo9 _ e.symm).1; omega)))
                  have R9 := Lib.hid hr9
                  have G9 := Lib.hid (grow_below (G.out.trans (grown_all (show Below wr.heap.size wr (wr.drew.alloc (.cells #[.string (bI l k), .string (bD l k), .bool (bX l k)] 89)) from (Below.refl _ _).drew.alloc (Nat.le_refl _) _) _)) (by simp only [World.size_alloc]; exact below_of_row (R.out.drew.alloc _) (by have := G.out.size; simp at this ⊢; omega) hg9))
                  clear hr9 hg9
                  refine ⟨fun _ => ⟨X9.out.cells2, XX9.out.cells2, C9.out⟩, ?_⟩
                  refine wpSeqT_step rfl ?_
                  go_wp2
                  refine ⟨fun h => absurd h (by decide), ?_⟩
                  obtain ⟨s0, s1⟩ := XX9.out.cells2
                  have f1 := XX9.out.frozen 1
                  refine wpSeqT_step rfl ?_
                  go_wp2
                  refine ⟨fun h => absurd h (by decide), ?_⟩
                  unfold wpSeqT
                  refine NoPanic.normal ?_
                  clear s0 s1 f1
                  go_wp2
                  go_roundw
                  case rel => exact ⟨k + 1, _, _, _, by omega, by go_num, by rw [HST.out], XX9.out.set 1 _, by rw [HST.out]; exact R9.out.setO (q := w5.heap.size) (by omega) _, G9.out.trans (grownBy_set w9 w5.heap.size 1 _)⟩
                  case measure => simp only [intOf]; omega
              | false =>
                cases hls : lessP (newB d) ⟨bI l k, bD l k, bX l k⟩ with
                | true =>
                  have hne : bI l k ≠ sh8 d := less_ne ((less_iff _ _).1 hls)
                  have HST := Lib.hid (show runP l (newB d) (k + 1) = (acc ++ [⟨bI l k, bD l k, bX l k⟩], false) by rw [HST0]; unfold stepP putA; rw [if_neg hne]; simp [hls])
                  have hid' := ne_list hne
                  have hls' : Op.bytesLess (bI l k).toList (sh8 d).toList = true := hls
                  clear hne HST0 hls
                  go_wp2_with fail
                  clear c1 c2 c3 x0 x1
                  refine wp_region_noPanic ?_
                  refine wp_region_takes (T := fun j => decide (9 ≤ j)) (S := fun w' => ((w'.cell? ⟨w.heap.size, 0, none⟩ = some (.int .i64 q) ∧ w'.cell? ⟨w.heap.size, 1, none⟩ = some (.slice (some ⟨y, o, none⟩) n ca)) ∧ (w'.cell? ⟨w5.heap.size, 0, none⟩ = some (.int .i64 q) ∧ w'.cell? ⟨w5.heap.size, 1, none⟩ = some (.slice va vn vc)) ∧ w'.cell? ⟨y, o + k * 3, none⟩ = some (.string (bI l k)) ∧ w'.cell? ⟨y, o + k * 3 + 1, none⟩ = some (.string (bD l k)) ∧ w'.cell? ⟨y, o + k * 3 + 2, none⟩ = some (.bool (bX l k)))) [0, 1, 2, 3, 4, 5, 6] [7, 8, 9, 10] (by kernel_rfl) (by kernel_rfl) (by kernel_rfl) (by kernel_rfl) (fun _ _ _ _ _ h => h) ⟨X.out.drew.cells2, XX.out.drew.cells2, C.out.drew⟩ ?_
                  iterate 7 (refine wpTakes_step (v := ?_) rfl rfl ?_ ?_; rotate_left; (intro w' hS'; (try dsimp only at hS'); go_simp; (try with_reducible rfl)); simp only [Act.put, List.setIfInBounds_toArray])
                  unfold wpTakes
                  refine wpSeqT_step rfl ?_
                  go_wp2
                  refine ⟨fun _ => ⟨(X.out.drew.alloc (.cells #[.string (bI l k), .string (bD l k), .bool (bX l k)] 89)).cells2, (XX.out.drew.alloc (.cells #[.string (bI l k), .string (bD l k), .bool (bX l k)] 89)).cells2, C.out.drew.below ((Below.refl _ _).alloc (Nat.le_refl _) (.cells #[.string (bI l k), .string (bD l k), .bool (bX l k)] 89)) hyw⟩, ?_⟩
                  refine wpSeqT_step rfl ?_
                  refine wp_append_bl rfl (.tmp 79) (.tmp 85) rfl (w5.heap.size + 1) (.slice va vn vc) acc [⟨bI l k, bD l k, bX l k⟩] rfl (R.out.drew.alloc _) wr.heap.size 0 1 rfl (fun j hj => bb_one (x := ⟨bI l k, bD l k, bX l k⟩) (Bx.new wr.drew _ _ _ rfl).cells3 j hj) (by have := TL.out; simp only [List.length_singleton]; omega) (by have := G.out.size; simp at this ⊢; omega) ?_
                  intro v9 w9 hr9 hg9
                  obtain ⟨a9, n9, c9, hv9⟩ := hr9.own.form
                  subst hv9
                  have hlo9 := fun g (e : Value.ownBlock (.slice va vn vc) = some g) => R.out.lt g e
                  have X9 := Lib.hid ((X.out.drew.alloc (.cells #[.string (bI l k), .string (bD l k), .bool (bX l k)] 89)).keep hg9 (fun e => by have := (hlo9 _ e.symm).1; omega))
                  have XX9 := Lib.hid ((XX.out.drew.alloc (.cells #[.string (bI l k), .string (bD l k), .bool (bX l k)] 89)).keep hg9 (fun e => by have := (hlo9 _ e.symm).1; omega))
                  have C9 := Lib.hid ((C.out.drew.below ((Below.refl _ _).alloc (Nat.le_refl _) (.cells #[.string (bI l k), .string (bD l k), .bool (bX l k)] 89)) hyw).block (w' := w9) (hg9.block y (by simp; omega) (fun e => by have := (hlo9 _ e.symm).1; omega)))
                  have R9 := Lib.hid hr9
                  have G9 := Lib.hid (grow_below (G.out.trans (grown_all (show Below wr.heap.size wr (wr.drew.alloc (.cells #[.string (bI l k), .string (bD l k), .bool (bX l k)] 89)) from (Below.refl _ _).drew.alloc (Nat.le_refl _) _) _)) (by simp only [World.size_alloc]; exact below_of_row (R.out.drew.alloc _) (by have := G.out.size; simp at this ⊢; omega) hg9))
                  clear hr9 hg9
                  refine ⟨fun _ => ⟨X9.out.cells2, XX9.out.cells2, C9.out⟩, ?_⟩
                  refine wpSeqT_step rfl ?_
                  go_wp2
                  refine ⟨fun h => absurd h (by decide), ?_⟩
                  obtain ⟨s0, s1⟩ := XX9.out.cells2
                  have f1 := XX9.out.frozen 1
                  refine wpSeqT_step rfl ?_
                  go_wp2
                  refine ⟨fun h => absurd h (by decide), ?_⟩
                  unfold wpSeqT
                  refine NoPanic.normal ?_
                  clear s0 s1 f1
                  go_wp2
                  go_roundw
                  case rel => exact ⟨k + 1, _, _, _, by omega, by go_num, by rw [HST.out], XX9.out.set 1 _, by rw [HST.out]; exact R9.out.setO (q := w5.heap.size) (by omega) _, G9.out.trans (grownBy_set w9 w5.heap.size 1 _)⟩
                  case measure => simp only [intOf]; omega
                | false =>
                  have hls' : Op.bytesLess (bI l k).toList (sh8 d).toList = false := hls
                  obtain ⟨t0, t1⟩ := XX.out.cells2
                  obtain ⟨t2, t3⟩ := (XX.out.alloc (.cells #[.string (sh8 d), .string d, .bool false] 89)).cells2
                  by_cases hid : bI l k = sh8 d
                  · have HST := Lib.hid (show runP l (newB d) (k + 1) = (acc ++ [newB d], true) by rw [HST0]; unfold stepP putA; rw [if_pos hid]; simp [hls])
                    have hid' : ((bI l k).toList == (sh8 d).toList) = true := by rw [hid]; exact beq_self_eq_true _
                    clear hid HST0 hls
                    go_wp2_with (at_builtin; refine wp_append_bl rfl (.tmp 63) (.tmp 67) rfl (w5.heap.size + 1) (.slice va vn vc) acc [newB d] rfl (R.out.alloc _) wr.heap.size 0 1 rfl (fun j hj => bb_one (x := newB d) (Bx.new wr _ _ _ rfl).cells3 j hj) (by have := TL.out; simp only [List.length_singleton]; omega) (by have := G.out.size; simp at this ⊢; omega) ?_; intro v6 w6 hr6 hg6; obtain ⟨a6, n6, c6, hv6⟩ := hr6.own.form; subst hv6; have hlo6 := fun g (e : Value.ownBlock (.slice va vn vc) = some g) => R.out.lt g e; have XX6 := Lib.hid ((XX.out.alloc (.cells #[.string (sh8 d), .string d, .bool false] 89)).keep hg6 (fun e => by have := (hlo6 _ e.symm).1; omega)); have X6 := Lib.hid ((X.out.alloc (.cells #[.string (sh8 d), .string d, .bool false] 89)).keep hg6 (fun e => by have := (hlo6 _ e.symm).1; omega)); have R6 := Lib.hid hr6; have G6 := Lib.hid (grow_below (G.out.trans (grown_all (show Below wr.heap.size wr (wr.alloc (.cells #[.string (sh8 d), .string d, .bool false] 89)) from (Below.refl _ _).alloc (Nat.le_refl _) _) _)) (by simp only [World.size_alloc]; exact below_of_row (R.out.alloc _) (by have := G.out.size; simp at this ⊢; omega) hg6)); have C6 := Lib.hid ((C.out.below ((Below.refl _ _).alloc (Nat.le_refl _) (.cells #[.string (sh8 d), .string d, .bool false] 89)) hyw).block (w' := w6) (hg6.block y (by simp; omega) (fun e => by have := (hlo6 _ e.symm).1; omega))); have q6 := (X6.out.set_other ⟨w5.heap.size, 1, none⟩ (.slice a6 n6 c6) (show w.heap.size ≠ w5.heap.size by omega)).cells2; obtain ⟨q0, q1⟩ := q6; have p6 := (C6.out.block (w' := w6.setCell ⟨w5.heap.size, 1, none⟩ (.slice a6 n6 c6)) (heap_setCell_other w6 ⟨w5.heap.size, 1, none⟩ y _ (show y ≠ w5.heap.size by omega))); obtain ⟨p0, p1, p2⟩ := p6; obtain ⟨s0, s1⟩ := XX6.out.cells2; have f1 := XX6.out.frozen 1; clear hg6 hr6)
                    go_roundw
                    case rel => exact ⟨k + 1, _, _, _, by omega, by go_num, by rw [HST.out], XX6.out.set 1 _, by rw [HST.out]; exact R6.out.setO (q := w5.heap.size) (by omega) _, G6.out.trans (grownBy_set w6 w5.heap.size 1 _)⟩
                    case measure => simp only [intOf]; omega
                  · have HST := Lib.hid (show runP l (newB d) (k + 1) = ((acc ++ [newB d]) ++ [⟨bI l k, bD l k, bX l k⟩], true) by rw [HST0]; unfold stepP putA; rw [if_neg hid]; simp [hls])
                    have hid' := ne_list hid
                    clear hid HST0 hls
                    go_wp2_with (at_builtin; refine wp_append_bl rfl (.tmp 63) (.tmp 67) rfl (w5.heap.size + 1) (.slice va vn vc) acc [newB d] rfl (R.out.alloc _) wr.heap.size 0 1 rfl (fun j hj => bb_one (x := newB d) (Bx.new wr _ _ _ rfl).cells3 j hj) (by have := TL.out; simp only [List.length_singleton]; omega) (by have := G.out.size; simp at this ⊢; omega) ?_; intro v6 w6 hr6 hg6; obtain ⟨a6, n6, c6, hv6⟩ := hr6.own.form; subst hv6; have hlo6 := fun g (e : Value.ownBlock (.slice va vn vc) = some g) => R.out.lt g e; have XX6 := Lib.hid ((XX.out.alloc (.cells #[.string (sh8 d), .string d, .bool false] 89)).keep hg6 (fun e => by have := (hlo6 _ e.symm).1; omega)); have X6 := Lib.hid ((X.out.alloc (.cells #[.string (sh8 d), .string d, .bool false] 89)).keep hg6 (fun e => by have := (hlo6 _ e.symm).1; omega)); have R6 := Lib.hid hr6; have G6 := Lib.hid (grow_below (G.out.trans (grown_all (show Below wr.heap.size wr (wr.alloc (.cells #[.string (sh8 d), .string d, .bool false] 89)) from (Below.refl _ _).alloc (Nat.le_refl _) _) _)) (by simp only [World.size_alloc]; exact below_of_row (R.out.alloc _) (by have := G.out.size; simp at this ⊢; omega) hg6)); have C6 := Lib.hid ((C.out.below ((Below.refl _ _).alloc (Nat.le_refl _) (.cells #[.string (sh8 d), .string d, .bool false] 89)) hyw).block (w' := w6) (hg6.block y (by simp; omega) (fun e => by have := (hlo6 _ e.symm).1; omega))); have q6 := (X6.out.set_other ⟨w5.heap.size, 1, none⟩ (.slice a6 n6 c6) (show w.heap.size ≠ w5.heap.size by omega)).cells2; obtain ⟨q0, q1⟩ := q6; have p6 := (C6.out.block (w' := w6.setCell ⟨w5.heap.size, 1, none⟩ (.slice a6 n6 c6)) (heap_setCell_other w6 ⟨w5.heap.size, 1, none⟩ y _ (show y ≠ w5.heap.size by omega))); obtain ⟨p0, p1, p2⟩ := p6; obtain ⟨s0, s1⟩ := XX6.out.cells2; have f1 := XX6.out.frozen 1; clear hg6 hr6)
                    obtain ⟨w7, hw7⟩ : ∃ w7, w6.setCell ⟨w5.heap.size, 1, none⟩ (.slice a6 n6 c6) = w7 := ⟨_, rfl⟩
                    have X7 := Lib.hid (show Bx w7 w.heap.size 41 #[.int .i64 q, .slice (some ⟨y, o, none⟩) n ca] by rw [← hw7]; exact X6.out.set_other ⟨w5.heap.size, 1, none⟩ _ (show w.heap.size ≠ w5.heap.size by omega))
                    have XX7 := Lib.hid (show Bx w7 w5.heap.size 41 #[.int .i64 q, .slice a6 n6 c6] by rw [← hw7]; exact XX6.out.set 1 _)
                    have C7 := Lib.hid (show BbAt w7 y o l k by rw [← hw7]; exact C6.out.block (heap_setCell_other w6 ⟨w5.heap.size, 1, none⟩ y _ (show y ≠ w5.heap.size by omega)))
                    have R7 := Lib.hid (show BlRow w7 (w5.heap.size + 1) (.slice a6 n6 c6) (acc ++ [newB d]) by rw [← hw7]; exact R6.out.setO (q := w5.heap.size) (by omega) _)
                    have G7 := Lib.hid (show (w5.alloc (.cells #[.int .i64 q, .slice none 0 0] 41)).grownBy w7 (some w5.heap.size) by rw [← hw7]; exact G6.out.trans (grownBy_set w6 w5.heap.size 1 _))
                    have hyw : y < w7.heap.size := by have := G7.out.size; simp at this; omega
                    rw [hw7]
                    clear hw7 c1 c2 c3 x0 x1 t0 t1 t2 t3 s0 s1 f1 q0 q1 p0 p1 p2 X6 XX6 C6 R6 G6 hlo6
                    refine wp_region_noPanic ?_
                    refine wp_region_takes (T := fun j => decide (9 ≤ j)) (S := fun w' => ((w'.cell? ⟨w.heap.size, 0, none⟩ = some (.int .i64 q) ∧ w'.cell? ⟨w.heap.size, 1, none⟩ = some (.slice (some ⟨y, o, none⟩) n ca)) ∧ (w'.cell? ⟨w5.heap.size, 0, none⟩ = some (.int .i64 q) ∧ w'.cell? ⟨w5.heap.size, 1, none⟩ = some (.slice a6 n6 c6)) ∧ w'.cell? ⟨y, o + k * 3, none⟩ = some (.string (bI l k)) ∧ w'.cell? ⟨y, o + k * 3 + 1, none⟩ = some (.string (bD l k)) ∧ w'.cell? ⟨y, o + k * 3 + 2, none⟩ = some (.bool (bX l k)))) [0, 1, 2, 3, 4, 5, 6] [7, 8, 9, 10] (by kernel_rfl) (by kernel_rfl) (by kernel_rfl) (by kernel_rfl) (fun _ _ _ _ _ h => h) ⟨X7.out.drew.cells2, XX7.out.drew.cells2, C7.out.drew⟩ ?_
                    iterate 7 (refine wpTakes_step (v := ?_) rfl rfl ?_ ?_; rotate_left; (intro w' hS'; (try dsimp only at hS'); go_simp; (try with_reducible rfl)); simp only [Act.put, List.setIfInBounds_toArray])
                    unfold wpTakes
                    refine wpSeqT_step rfl ?_
                    go_wp2
                    refine ⟨fun _ => ⟨(X7.out.drew.alloc (.cells #[.string (bI l k), .string (bD l k), .bool (bX l k)] 89)).cells2, (XX7.out.drew.alloc (.cells #[.string (bI l k), .string (bD l k), .bool (bX l k)] 89)).cells2, C7.out.drew.below ((Below.refl _ _).alloc (Nat.le_refl _) (.cells #[.string (bI l k), .string (bD l k), .bool (bX l k)] 89)) hyw⟩, ?_⟩
                    refine wpSeqT_step rfl ?_
                    refine wp_append_bl rfl (.tmp 79) (.tmp 85) rfl (w5.heap.size + 1) (.slice a6 n6 c6) (acc ++ [newB d]) [⟨bI l k, bD l k, bX l k⟩] rfl (R7.out.drew.alloc _) w7.heap.size 0 1 rfl (fun j hj => bb_one (x := ⟨bI l k, bD l k, bX l k⟩) (Bx.new w7.drew _ _ _ rfl).cells3 j hj) (by have := TL.out; simp only [List.length_append, List.length_singleton]; omega) (by have := G7.out.size; simp at this ⊢; omega) ?_
                    intro v9 w9 hr9 hg9
                    obtain ⟨a9, n9, c9, hv9⟩ := hr9.own.form
                    subst hv9
                    have hlo9 := fun g (e : Value.ownBlock (.slice a6 n6 c6) = some g) => R7.out.lt g e
                    have X9 := Lib.hid ((X7.out.drew.alloc (.cells #[.string (bI l k), .string (bD l k), .bool (bX l k)] 89)).keep hg9 (fun e => by have := (hlo9 _ e.symm).1; omega))
                    have XX9 := Lib.hid ((XX7.out.drew.alloc (.cells #[.string (bI l k), .string (bD l k), .bool (bX l k)] 89)).keep hg9 (fun e => by have := (hlo9 _ e.symm).1; omega))
                    have C9 := Lib.hid ((C7.out.drew.below ((Below.refl _ _).alloc (Nat.le_refl _) (.cells #[.string (bI l k), .string (bD l k), .bool (bX l k)] 89)) hyw).block (w' := w9) (hg9.block y (by simp; omega) (fun e => by have := (hlo9 _ e.symm).1; omega)))
                    have R9 := Lib.hid hr9
                    have G9 := Lib.hid (grow_below (G7.out.trans (grown_all (show Below w7.heap.size w7 (w7.drew.alloc (.cells #[.string (bI l k), .string (bD l k), .bool (bX l k)] 89)) from (Below.refl _ _).drew.alloc (Nat.le_refl _) _) _)) (by simp only [World.size_alloc]; exact below_of_row (R7.out.drew.alloc _) (by have := G7.out.size; simp at this ⊢; omega) hg9))
                    clear hr9 hg9
                    refine ⟨fun _ => ⟨X9.out.cells2, XX9.out.cells2, C9.out⟩, ?_⟩
                    refine wpSeqT_step rfl ?_
                    go_wp2
                    refine ⟨fun h => absurd h (by decide), ?_⟩
                    obtain ⟨s0, s1⟩ := XX9.out.cells2
                    have f1 := XX9.out.frozen 1
                    refine wpSeqT_step rfl ?_
                    go_wp2
                    refine ⟨fun h => absurd h (by decide), ?_⟩
                    unfold wpSeqT
                    refine NoPanic.normal ?_
                    clear s0 s1 f1
                    go_wp2
                    go_roundw
                    case rel => exact ⟨k + 1, _, _, _, by omega, by go_num, by rw [HST.out], XX9.out.set 1 _, by rw [HST.out]; exact R9.out.setO (q := w5.heap.size) (by omega) _, G9.out.trans (grownBy_set w9 w5.heap.size 1 _)⟩
                    case measure => simp only [intOf]; omega
            · obtain rfl : k = n := by omega
              obtain ⟨pl1, pl2⟩ := HPL.out rfl
              obtain ⟨x0, x1⟩ := X.out.cells2
              obtain ⟨t0, t1⟩ := XX.out.cells2
              cases flag with
              | true =>
                have RR := Lib.hid (show BlRow wr (w5.heap.size + 1) (.slice va vn vc) (putL l (newB d)) by rw [pl1 rfl]; exact R.out)
                have GG := G
                have XW := XX
                clear pl1 pl2 HRS
                go_wp2_with fail
                clear x0 x1 t0 t1
                have V7 := Lib.hid ((V5.out.alloc (.cells #[.int .i64 q, .slice none 0 0] 41)).keep0 GG.out (fun h0 g hgg e => by cases hgg; have := VW.out.block h0 _ e; omega))
                have X7 := Lib.hid ((X5.out.alloc (.cells #[.int .i64 q, .slice none 0 0] 41)).keep GG.out (by simp; omega))
                have Z7 := Lib.hid ((Z5.out.alloc (.cells #[.int .i64 q, .slice none 0 0] 41)).keep GG.out (by simp; omega))
                have A7 := Lib.hid ((A5.out.alloc (.cells #[.int .i64 q, .slice none 0 0] 41)).grow GG.out (fun j hj => by cases hj; omega))
                refine (spec_blobsOk _ (putL l (newB d)) q _ (RR.out.own.blbs SP.out.big) SP.out).mono ?_
                rintro e w8 ⟨rfl, hb8⟩
                have R8 := Lib.hid (RR.out.later hb8)
                have XW8 := Lib.hid (XW.out.after hb8)
                have Z8 := Lib.hid (Z7.out.after hb8)
                have X8 := Lib.hid (X7.out.after hb8)
                have A8 := Lib.hid (A7.out.after hb8)
                have V8 := Lib.hid (V7.out.later hb8)
                clear hb8 Z7 X7 A7 V7 RR XW GG
                cases hop : okS q (putL l (newB d)) with
                | true =>
                  have HR := Lib.hid (putR_new HOK.out h40 HX.out hop)
                  obtain ⟨z0, z1⟩ := Z8.out.cells2
                  have fz0 := Z8.out.frozen 0
                  have fz1 := Z8.out.frozen 1
                  obtain ⟨t0, t1⟩ := XW8.out.cells2
                  clear hop
                  go_wp2
                  exact bodyPost_ret (results_blobs3 Tryd.results25 _ _ (w.heap.size + 1) _ _ rfl (Z8.out.st2 _ _).cells2) rfl ⟨⟨_, _, _, by rw [HQ.out, HR.out]; rfl, by rw [HR.out]; exact ((R8.out.st2 (q := w.heap.size + 1) (by omega) _ _).mono (by omega)).own, fun g hg => by have h := R8.out.lt g hg; exact ⟨by omega, by simpa using h.2⟩⟩, A8.out.st2 (by omega) _ _⟩
                | false =>
                  have HR := Lib.hid (putR_full HOK.out h40 HX.out hop)
                  clear hop
                  obtain ⟨x0, x1⟩ := X8.out.cells2
                  go_wp2_with fail
                  clear x0 x1
                  refine (spec_copy _ l q _ V8.out (by rw [HN.out]; omega)).mono ?_
                  rintro e w6 ⟨⟨u, rfl, hr⟩, hb6⟩
                  obtain ⟨a6, k6, c6, hu⟩ := hr.own.form
                  subst hu
                  have R6 := Lib.hid hr
                  have Z6 := Lib.hid (Z8.out.after hb6)
                  have A6 := Lib.hid (A8.out.after hb6)
                  have hlo := A8.out.size
                  have hxz := Z8.out.lt
                  clear hr hb6
                  obtain ⟨z0, z1⟩ := Z6.out.cells2
                  have fz0 := Z6.out.frozen 0
                  have fz1 := Z6.out.frozen 1
                  go_wp2
                  exact bodyPost_ret (results_blobs3 Tryd.results25 _ _ (w.heap.size + 1) _ _ rfl (Z6.out.st2 _ _).cells2) rfl ⟨⟨a6, k6, c6, by rw [HQ.out, HR.out]; rfl, by rw [HR.out]; exact ((R6.out.st2 hxz _ _).mono hlo).own, fun g hg => by have h := R6.out.lt g hg; exact ⟨Nat.le_trans hlo h.1, by simpa using h.2⟩⟩, A6.out.st2 (by omega) _ _⟩
              | false =>
                obtain ⟨t2, t3⟩ := (XX.out.alloc (.cells #[.string (sh8 d), .string d, .bool false] 89)).cells2
                have PL := Lib.hid (pl2 rfl)
                clear pl1 pl2 HRS
                go_wp2_with (at_builtin; refine wp_append_bl rfl (.tmp 91) (.tmp 95) rfl (w5.heap.size + 1) (.slice va vn vc) acc [newB d] rfl (R.out.alloc _) wr.heap.size 0 1 rfl (fun j hj => bb_one (x := newB d) (Bx.new wr _ _ _ rfl).cells3 j hj) (by have := TL.out; simp only [List.length_singleton]; omega) (by have := G.out.size; simp at this ⊢; omega) ?_; intro v6 w6 hr6 hg6; obtain ⟨a6, n6, c6, hv6⟩ := hr6.own.form; subst hv6; have hlo6 := fun g (e : Value.ownBlock (.slice va vn vc) = some g) => R.out.lt g e; have XX6 := Lib.hid ((XX.out.alloc (.cells #[.string (sh8 d), .string d, .bool false] 89)).keep hg6 (fun e => by have := (hlo6 _ e.symm).1; omega)); have X6 := Lib.hid ((X.out.alloc (.cells #[.string (sh8 d), .string d, .bool false] 89)).keep hg6 (fun e => by have := (hlo6 _ e.symm).1; omega)); have R6 := Lib.hid hr6; have G6 := Lib.hid (grow_below (G.out.trans (grown_all (show Below wr.heap.size wr (wr.alloc (.cells #[.string (sh8 d), .string d, .bool false] 89)) from (Below.refl _ _).alloc (Nat.le_refl _) _) _)) (by simp only [World.size_alloc]; exact below_of_row (R.out.alloc _) (by have := G.out.size; simp at this ⊢; omega) hg6)); obtain ⟨s0, s1⟩ := XX6.out.cells2; have f1 := XX6.out.frozen 1; clear hg6 hr6)
                have RR := Lib.hid (show BlRow (w6.setCell ⟨w5.heap.size, 1, none⟩ (.slice a6 n6 c6)) (w5.heap.size + 1) (.slice a6 n6 c6) (putL l (newB d)) by rw [PL.out]; exact R6.out.setO (q := w5.heap.size) (by omega) _)
                have GG := Lib.hid (G6.out.trans (grownBy_set w6 w5.heap.size 1 (.slice a6 n6 c6)))
                have XW := Lib.hid (XX6.out.set 1 (.slice a6 n6 c6))
                clear x0 x1 t0 t1 t2 t3 s0 s1 f1
                have V7 := Lib.hid ((V5.out.alloc (.cells #[.int .i64 q, .slice none 0 0] 41)).keep0 GG.out (fun h0 g hgg e => by cases hgg; have := VW.out.block h0 _ e; omega))
                have X7 := Lib.hid ((X5.out.alloc (.cells #[.int .i64 q, .slice none 0 0] 41)).keep GG.out (by simp; omega))
                have Z7 := Lib.hid ((Z5.out.alloc (.cells #[.int .i64 q, .slice none 0 0] 41)).keep GG.out (by simp; omega))
                have A7 := Lib.hid ((A5.out.alloc (.cells #[.int .i64 q, .slice none 0 0] 41)).grow GG.out (fun j hj => by cases hj; omega))
                refine (spec_blobsOk _ (putL l (newB d)) q _ (RR.out.own.blbs SP.out.big) SP.out).mono ?_
                rintro e w8 ⟨rfl, hb8⟩
                have R8 := Lib.hid (RR.out.later hb8)
                have XW8 := Lib.hid (XW.out.after hb8)
                have Z8 := Lib.hid (Z7.out.after hb8)
                have X8 := Lib.hid (X7.out.after hb8)
                have A8 := Lib.hid (A7.out.after hb8)
                have V8 := Lib.hid (V7.out.later hb8)
                clear hb8 Z7 X7 A7 V7 RR XW GG
                cases hop : okS q (putL l (newB d)) with
                | true =>
                  have HR := Lib.hid (putR_new HOK.out h40 HX.out hop)
                  obtain ⟨z0, z1⟩ := Z8.out.cells2
                  have fz0 := Z8.out.frozen 0
                  have fz1 := Z8.out.frozen 1
                  obtain ⟨t0, t1⟩ := XW8.out.cells2
                  clear hop
                  go_wp2
                  exact bodyPost_ret (results_blobs3 Tryd.results25 _ _ (w.heap.size + 1) _ _ rfl (Z8.out.st2 _ _).cells2) rfl ⟨⟨_, _, _, by rw [HQ.out, HR.out]; rfl, by rw [HR.out]; exact ((R8.out.st2 (q := w.heap.size + 1) (by omega) _ _).mono (by omega)).own, fun g hg => by have h := R8.out.lt g hg; exact ⟨by omega, by simpa using h.2⟩⟩, A8.out.st2 (by omega) _ _⟩
                | false =>
                  have HR := Lib.hid (putR_full HOK.out h40 HX.out hop)
                  clear hop
                  obtain ⟨x0, x1⟩ := X8.out.cells2
                  go_wp2_with fail
                  clear x0 x1
                  refine (spec_copy _ l q _ V8.out (by rw [HN.out]; omega)).mono ?_
                  rintro e w6 ⟨⟨u, rfl, hr⟩, hb6⟩
                  obtain ⟨a6, k6, c6, hu⟩ := hr.own.form
                  subst hu
                  have R6 := Lib.hid hr
                  have Z6 := Lib.hid (Z8.out.after hb6)
                  have A6 := Lib.hid (A8.out.after hb6)
                  have hlo := A8.out.size
                  have hxz := Z8.out.lt
                  clear hr hb6
                  obtain ⟨z0, z1⟩ := Z6.out.cells2
                  have fz0 := Z6.out.frozen 0
                  have fz1 := Z6.out.frozen 1
                  go_wp2
                  exact bodyPost_ret (results_blobs3 Tryd.results25 _ _ (w.heap.size + 1) _ _ rfl (Z6.out.st2 _ _).cells2) rfl ⟨⟨a6, k6, c6, by rw [HQ.out, HR.out]; rfl, by rw [HR.out]; exact ((R6.out.st2 hxz _ _).mono hlo).own, fun g hg => by have h := R6.out.lt g hg; exact ⟨Nat.le_trans hlo h.1, by simpa using h.2⟩⟩, A6.out.st2 (by omega) _ _⟩
end Go.Proofs.YtemhhjkmolndbaaDoor
