/- The model's l7Copy, BlobDrop and BlobBend. -/
import Derived.Test.YtemhhjkmolndbaaDoorBdM
import Derived.Test.YtemhhjkmolndbaaDoorBmL
import Derived.Test.YtemhhjkmolndbaaDoorQTake
namespace Go.Proofs.YtemhhjkmolndbaaDoor
open Go.RowKit Go.PlainAid
set_option linter.unusedVariables false

set_option maxRecDepth 100000 in
set_option maxHeartbeats 1000000 in
theorem spec_copy (v : Value) (l : List Bb) (q : Int) (w : World) (hv : Blbs w v l) (hl : l.length ≤ 1048576) :
    Calls Tryd.prog 61 #[.agg #[.int .i64 q, v]] w fun e w' => (∃ u, e = .returned (.agg #[.int .i64 q, u]) ∧ BlRow w' w.heap.size u l) ∧ Below w.heap.size w w' := by
  by_cases h0 : 0 < l.length
  · obtain ⟨b, o, ca, hve, hcap, hb, hcl⟩ := hv.at0 h0
    subst hve
    have X0 := Lib.hid ((Bx.new w 41 #[.int .i64 q, .slice (some ⟨b, o, none⟩) l.length ca] _ rfl).alloc (.cells #[.int .i64 0, .slice none 0 0] 41))
    have Z0 := Lib.hid (Bx.new (w.alloc (.cells #[.int .i64 q, .slice (some ⟨b, o, none⟩) l.length ca] 41)) 41 #[.int .i64 0, .slice none 0 0] (w.heap.size + 1) (by simp))
    have A0 := Lib.hid (((Af.refl w).alloc (.cells #[.int .i64 q, .slice (some ⟨b, o, none⟩) l.length ca] 41)).alloc (.cells #[.int .i64 0, .slice none 0 0] 41))
    have C0 := Lib.hid (fun j hj => (((hcl j hj).below ((Below.refl _ _).alloc (Nat.le_refl _) (.cells #[.int .i64 q, .slice (some ⟨b, o, none⟩) l.length ca] 41)) hb).below ((Below.refl _ _).alloc (Nat.le_refl _) (.cells #[.int .i64 0, .slice none 0 0] 41)) (by simp; omega)).below ((Below.refl _ _).alloc (Nat.le_refl _) (.cells #[] 89)) (by simp; omega))
    have HL := Lib.hid hl
    obtain ⟨x0, x1⟩ := (X0.out.alloc (.cells #[] 89)).cells2
    clear hv hcl hl
    go_enter Tryd.func61, Tryd.ntmps61
    go_wp2_with (at_builtin; refine wp_append_bl rfl (.tmp 3) (.tmp 5) rfl (w.heap.size + 2) (.slice (some ⟨w.heap.size + 1 + 1, 0, none⟩) 0 0) [] l rfl (by have h := blRow_new ((w.alloc (.cells #[.int .i64 q, .slice (some ⟨b, o, none⟩) l.length ca] 41)).alloc (.cells #[.int .i64 0, .slice none 0 0] 41)) (w.heap.size + 2) (by simp); simpa using h) b o ca rfl C0.out (by have := HL.out; simp only [List.length_nil]; omega) (by simp) ?_; intro u w5 hr hg; rw [List.nil_append] at hr; obtain ⟨a5, n5, c5, hu⟩ := hr.own.form; subst hu; have R5 := Lib.hid hr; have hne : ∀ k, Value.ownBlock (.slice (some ⟨w.heap.size + 1 + 1, 0, none⟩) 0 0) = some k → k = w.heap.size + 2 := (fun k hk => by cases hk; rfl); have X5 := Lib.hid ((X0.out.alloc (.cells #[] 89)).keep hg (fun e => by have := hne _ e.symm; omega)); have Z5 := Lib.hid ((Z0.out.alloc (.cells #[] 89)).keep hg (fun e => by have := hne _ e.symm; omega)); have A5 := Lib.hid ((A0.out.alloc (.cells #[] 89)).grow hg (fun k hk => by have := hne k hk; omega)); obtain ⟨y0, y1⟩ := X5.out.cells2; have fy := X5.out.frozen 1; obtain ⟨z0, z1⟩ := Z5.out.cells2; have fz0 := Z5.out.frozen 0; have fz1 := Z5.out.frozen 1; clear hr hg)
    exact bodyPost_ret (results_blobs Tryd.results61 _ _ (w.heap.size + 1) _ _ rfl (((Z5.out.set_other ⟨w.heap.size, 1, none⟩ _ (show w.heap.size + 1 ≠ w.heap.size by omega)).st2 _ _)).cells2) rfl ⟨⟨_, rfl, ((R5.out.setO (q := w.heap.size) (by omega) _).st2 (q := w.heap.size + 1) (by omega) _ _).mono (by omega)⟩, (A5.out.set (p := ⟨w.heap.size, 1, none⟩) (Nat.le_refl _) _).st2 (by omega) _ _⟩
  · obtain ⟨a, ca, hve⟩ := hv.slice
    have e0 : l = [] := List.eq_nil_of_length_eq_zero (by omega)
    subst e0
    subst hve
    clear hv hl h0
    go_enter Tryd.func61, Tryd.ntmps61
    cases a with
    | none =>
      go_wp2
      exact bodyPost_ret (results_blobs Tryd.results61 _ _ (w.heap.size + 1) _ _ rfl ((Bx.new (w.alloc (.cells #[.int .i64 q, .slice (some ⟨w.heap.size + 1 + 1, 0, none⟩) 0 0] 41)) 41 #[.int .i64 q, .slice (some ⟨w.heap.size + 1 + 1, 0, none⟩) 0 0] (w.heap.size + 1) (by simp)).alloc _).cells2) rfl ⟨⟨_, rfl, by have h := blRow_new ((w.alloc (.cells #[.int .i64 q, .slice (some ⟨w.heap.size + 1 + 1, 0, none⟩) 0 0] 41)).alloc (.cells #[.int .i64 q, .slice (some ⟨w.heap.size + 1 + 1, 0, none⟩) 0 0] 41)) w.heap.size (by simp; omega); simpa using h⟩, ((Af.refl w).alloc _).alloc _ |>.alloc _⟩
    | some a =>
      go_wp2
      exact bodyPost_ret (results_blobs Tryd.results61 _ _ (w.heap.size + 1) _ _ rfl ((Bx.new (w.alloc (.cells #[.int .i64 q, .slice (some ⟨w.heap.size + 1 + 1, 0, none⟩) 0 0] 41)) 41 #[.int .i64 q, .slice (some ⟨w.heap.size + 1 + 1, 0, none⟩) 0 0] (w.heap.size + 1) (by simp)).alloc _).cells2) rfl ⟨⟨_, rfl, by have h := blRow_new ((w.alloc (.cells #[.int .i64 q, .slice (some ⟨w.heap.size + 1 + 1, 0, none⟩) 0 0] 41)).alloc (.cells #[.int .i64 q, .slice (some ⟨w.heap.size + 1 + 1, 0, none⟩) 0 0] 41)) w.heap.size (by simp; omega); simpa using h⟩, ((Af.refl w).alloc _).alloc _ |>.alloc _⟩
set_option maxRecDepth 100000 in
set_option maxHeartbeats 2000000 in
theorem spec_blobDrop (v : Value) (l : List Bb) (q : Int) (i : ByteArray) (w : World) (hv : Blbs w v l) (hs : Sml l) :
    Calls Tryd.prog 39 #[.agg #[.int .i64 q, v], .string i] w fun e w' => RetB w.heap.size (okQ q l) (dropL q l i) (dropO q l i) e w' ∧ Below w.heap.size w w' := by
  obtain ⟨a, ca, hve⟩ := hv.slice
  subst hve
  have hlen := hv.len
  obtain ⟨n, hn⟩ : ∃ n, l.length = n := ⟨_, rfl⟩
  have VW := Lib.hid hv
  rw [hn] at VW hlen ⊢
  have HN := Lib.hid hn
  have V := Lib.hid ((VW.out.alloc (.cells #[.int .i64 q, .slice a n ca] 41)).alloc (.cells #[.int .i64 0, .slice none 0 0] 41))
  have X0 := Lib.hid ((Bx.new w 41 #[.int .i64 q, .slice a n ca] _ rfl).alloc (.cells #[.int .i64 0, .slice none 0 0] 41))
  have Z0 := Lib.hid (Bx.new (w.alloc (.cells #[.int .i64 q, .slice a n ca] 41)) 41 #[.int .i64 0, .slice none 0 0] (w.heap.size + 1) (by simp))
  have A0 := Lib.hid (((Af.refl w).alloc (.cells #[.int .i64 q, .slice a n ca] 41)).alloc (.cells #[.int .i64 0, .slice none 0 0] 41))
  have HSM := Lib.hid hs
  clear hv hs hn
  go_enter Tryd.func39, Tryd.ntmps39
  go_wp2_with fail
  refine (spec_blobsOk _ l q _ V.out HSM.out).mono ?_
  rintro e w2 ⟨rfl, hb⟩
  have V2 := Lib.hid (V.out.later hb)
  have A2 := Lib.hid (A0.out.after hb)
  have X2 := Lib.hid (X0.out.after hb)
  have Z2 := Lib.hid (Z0.out.after hb)
  have xs2 := Z2.out.lt
  clear hb V X0 A0 Z0
  cases hok : okS q l with
  | false =>
    have HQ := Lib.hid (okQ_no hok)
    have HL := Lib.hid (dropL_no i hok)
    have HO := Lib.hid (dropO_no i hok)
    clear hok
    obtain ⟨z0, z1⟩ := Z2.out.cells2
    have fz0 := Z2.out.frozen 0
    have fz1 := Z2.out.frozen 1
    go_wp2
    exact bodyPost_ret (results_blobs2 Tryd.results39 _ _ (w.heap.size + 1) _ _ rfl (Z2.out.st2 _ _).cells2) rfl ⟨⟨none, 0, 0, by rw [HQ.out, HO.out]; rfl, by rw [HL.out]; exact blOwn_nil _ _ _ _, fun g hg => by cases hg⟩, A2.out.st2 (by omega) _ _⟩
  | true =>
    have h12 := ((okS_iff q l).1 hok).2.1
    rw [HN.out] at h12
    have HA := Lib.hid (asc_of_ok hok)
    have HOK := Lib.hid hok
    clear hok
    have HQ := Lib.hid (okQ_yes HOK.out)
    have HL := Lib.hid (dropL_yes i HOK.out)
    have HO := Lib.hid (dropO_yes i HOK.out)
    obtain ⟨x0, x1⟩ := X2.out.cells2
    go_wp2_with fail
    clear x0 x1
    have XN := Lib.hid (Bx.new w2 41 #[.int .i64 q, .slice none 0 0] _ rfl)
    go_loopw [7] (fun iv wr => ∃ (k : Nat) (va : Option Addr) (vn vc : Nat), k ≤ n ∧ iv = .int .i64 k ∧ Bx wr w2.heap.size 41 #[.int .i64 q, .slice va vn vc] ∧ BlRow wr (w2.heap.size + 1) (.slice va vn vc) ((l.take k).filter (dropP i)) ∧ (w2.alloc (.cells #[.int .i64 q, .slice none 0 0] 41)).grownBy wr (some w2.heap.size)) (fun iv _ => n - (intOf iv).toNat)
    case atStart => exact ⟨0, none, 0, 0, by omega, rfl, XN.out, blRow_nil _ _, World.grownBy.refl _ _⟩
    case round =>
      obtain ⟨k, va, vn, vc, hk, rfl, hx, hr, hg⟩ := hrel
      have XX := Lib.hid hx
      have R := Lib.hid hr
      have G := Lib.hid hg
      have hgs := hg.size
      simp only [World.size_alloc] at hgs
      have X := Lib.hid ((X2.out.alloc (.cells #[.int .i64 q, .slice none 0 0] 41)).keep hg (by simp; omega))
      have Z := Lib.hid ((Z2.out.alloc (.cells #[.int .i64 q, .slice none 0 0] 41)).keep hg (by simp; omega))
      have VR := Lib.hid ((V2.out.alloc (.cells #[.int .i64 q, .slice none 0 0] 41)).keep0 hg (fun h0 g hgg e => by cases hgg; have := VW.out.block h0 _ e; omega))
      clear hx hr hg XN
      by_cases hlt : k < n
      · obtain ⟨y, o, ca', hse, _, hy, hcy⟩ := VR.out.at0 (by rw [HN.out]; omega)
        simp only [Value.slice.injEq] at hse
        obtain ⟨rfl, hnl, rfl⟩ := hse
        have hyb : y < w.heap.size := VW.out.block (by rw [HN.out]; omega) y rfl
        have CE := Lib.hid (hcy k (by rw [HN.out]; omega))
        obtain ⟨c1, c2, c3⟩ := CE.out
        obtain ⟨x0, x1⟩ := X.out.cells2
        clear hcy hnl
        have HTF := Lib.hid (take_filter l (dropP i) k (by rw [HN.out]; exact hlt))
        by_cases hid : bI l k = i
        · have hid' : ((bI l k).toList == i.toList) = true := by rw [hid]; exact beq_self_eq_true _
          have HP := Lib.hid (show ¬ dropP i ⟨bI l k, bD l k, bX l k⟩ = true by simp [dropP, hid])
          clear hid
          go_wp2
          go_roundw
          case rel => exact ⟨k + 1, va, vn, vc, by omega, by go_num, XX.out, by rw [HTF.out, if_neg HP.out, List.append_nil]; exact R.out, G.out⟩
          case measure => simp only [intOf]; omega
        · have hid' := ne_list hid
          have HP := Lib.hid (show dropP i ⟨bI l k, bD l k, bX l k⟩ = true by simp [dropP, hid])
          have tl : ((l.take k).filter (dropP i)).length ≤ 1000 := by have := List.length_filter_le (dropP i) (l.take k); rw [List.length_take, HN.out] at this; omega
          have TL := Lib.hid tl
          have y0 : (0 : Int) ≤ (k : Int) := by omega
          have y1 : (k : Int) < (n : Int) := by omega
          clear hid tl
          go_wp2_with fail
          clear c1 c2 c3 x0 x1
          refine wp_region_noPanic ?_
          refine wp_region_takes (T := fun j => decide (9 ≤ j)) (S := fun w' => ((w'.cell? ⟨w.heap.size, 0, none⟩ = some (.int .i64 q) ∧ w'.cell? ⟨w.heap.size, 1, none⟩ = some (.slice (some ⟨y, o, none⟩) n ca)) ∧ (w'.cell? ⟨w2.heap.size, 0, none⟩ = some (.int .i64 q) ∧ w'.cell? ⟨w2.heap.size, 1, none⟩ = some (.slice va vn vc)) ∧ w'.cell? ⟨y, o + k * 3, none⟩ = some (.string (bI l k)) ∧ w'.cell? ⟨y, o + k * 3 + 1, none⟩ = some (.string (bD l k)) ∧ w'.cell? ⟨y, o + k * 3 + 2, none⟩ = some (.bool (bX l k)))) [0, 1, 2, 3, 4, 5, 6] [7, 8, 9, 10] (by kernel_rfl) (by kernel_rfl) (by kernel_rfl) (by kernel_rfl) (fun _ _ _ _ _ h => h) ⟨X.out.drew.cells2, XX.out.drew.cells2, CE.out.drew⟩ ?_
          iterate 7 (refine wpTakes_step (v := ?_) rfl rfl ?_ ?_; rotate_left; (intro w' hS'; (try dsimp only at hS'); go_simp; (try with_reducible rfl)); simp only [Act.put, List.setIfInBounds_toArray])
          unfold wpTakes
          refine wpSeqT_step rfl ?_
          go_wp2
          refine ⟨fun _ => ⟨(X.out.drew.alloc (.cells #[.string (bI l k), .string (bD l k), .bool (bX l k)] 89)).cells2, (XX.out.drew.alloc (.cells #[.string (bI l k), .string (bD l k), .bool (bX l k)] 89)).cells2, CE.out.drew.below ((Below.refl _ _).alloc (Nat.le_refl _) (.cells #[.string (bI l k), .string (bD l k), .bool (bX l k)] 89)) hy⟩, ?_⟩
          refine wpSeqT_step rfl ?_
          refine wp_append_bl rfl (.tmp 31) (.tmp 37) rfl (w2.heap.size + 1) (.slice va vn vc) ((l.take k).filter (dropP i)) [⟨bI l k, bD l k, bX l k⟩] rfl (R.out.drew.alloc _) wr.heap.size 0 1 rfl (fun j hj => bb_one (x := ⟨bI l k, bD l k, bX l k⟩) (Bx.new wr.drew _ _ _ rfl).cells3 j hj) (by have := TL.out; simp only [List.length_singleton]; omega) (by simp; omega) ?_
          intro v5 w5 hr5 hg5
          obtain ⟨a5, n5, c5, hv5⟩ := hr5.own.form
          subst hv5
          have hlo := fun g (e : Value.ownBlock (.slice va vn vc) = some g) => R.out.lt g e
          have X5 := Lib.hid ((X.out.drew.alloc (.cells #[.string (bI l k), .string (bD l k), .bool (bX l k)] 89)).keep hg5 (fun e => by have := (hlo _ e.symm).1; omega))
          have XX5 := Lib.hid ((XX.out.drew.alloc (.cells #[.string (bI l k), .string (bD l k), .bool (bX l k)] 89)).keep hg5 (fun e => by have := (hlo _ e.symm).1; omega))
          have C5 := Lib.hid ((CE.out.drew.below ((Below.refl _ _).alloc (Nat.le_refl _) (.cells #[.string (bI l k), .string (bD l k), .bool (bX l k)] 89)) hy).block (w' := w5) (hg5.block y (by simp; omega) (fun e => by have := (hlo _ e.symm).1; omega)))
          have R5 := Lib.hid hr5
          have G5 := Lib.hid (grow_below (G.out.trans (grown_all (show Below wr.heap.size wr (wr.drew.alloc (.cells #[.string (bI l k), .string (bD l k), .bool (bX l k)] 89)) from (Below.refl _ _).drew.alloc (Nat.le_refl _) _) _)) (by simp only [World.size_alloc]; exact below_of_row (R.out.drew.alloc _) (by simp; omega) hg5))
          clear hr5 hg5
          refine ⟨fun _ => ⟨X5.out.cells2, XX5.out.cells2, C5.out⟩, ?_⟩
          refine wpSeqT_step rfl ?_
          go_wp2
          refine ⟨fun h => absurd h (by decide), ?_⟩
          obtain ⟨s0, s1⟩ := XX5.out.cells2
          have f1 := XX5.out.frozen 1
          refine wpSeqT_step rfl ?_
          go_wp2
          refine ⟨fun h => absurd h (by decide), ?_⟩
          unfold wpSeqT
          refine NoPanic.normal ?_
          clear s0 s1 f1
          go_wp2
          go_roundw
          case rel => exact ⟨k + 1, _, _, _, by omega, by go_num, XX5.out.set 1 _, by rw [HTF.out, if_pos HP.out]; exact R5.out.setO (q := w2.heap.size) (by omega) _, G5.out.trans (grownBy_set w5 w2.heap.size 1 _)⟩
          case measure => simp only [intOf]; omega
      · obtain rfl : k = n := by omega
        have hvn : vn = (l.filter (dropP i)).length := by
          obtain ⟨a', c', e⟩ := R.out.form
          rw [List.take_of_length_le (by rw [HN.out]; exact Nat.le_refl _)] at e
          simp only [Value.slice.injEq] at e
          exact e.2.1
        have HD := Lib.hid (show decide (vn < k) = (getB l i).isSome by rw [hvn, ← HN.out]; exact drop_less l i)
        obtain ⟨x0, x1⟩ := X.out.cells2
        clear hvn
        go_wp2_with fail
        obtain ⟨t0, t1⟩ := XX.out.cells2
        obtain ⟨z0, z1⟩ := Z.out.cells2
        have fz0 := Z.out.frozen 0
        have fz1 := Z.out.frozen 1
        have CW := Lib.hid (fun y0 y1 => And.intro (X.out.st2o (q := w.heap.size + 1) (by omega) y0 y1).drew.cells2 (XX.out.st2o (q := w.heap.size + 1) (by omega) y0 y1).drew.cells2)
        go_region_held3 (fun w' => (w'.cell? ⟨w.heap.size, 0, none⟩ = some (.int .i64 q) ∧ w'.cell? ⟨w.heap.size, 1, none⟩ = some (.slice a k ca)) ∧ w'.cell? ⟨w2.heap.size, 0, none⟩ = some (.int .i64 q) ∧ w'.cell? ⟨w2.heap.size, 1, none⟩ = some (.slice va vn vc)) (first | (with_reducible exact ⟨⟨x0, x1⟩, t0, t1⟩) | (with_reducible exact CW.out _ _) | go_keep) (first | fail)
        all_goals
          clear z0 z1 fz0 fz1 x0 x1 t0 t1
          go_wp2
          exact bodyPost_ret (results_blobs2 Tryd.results39 _ _ (w.heap.size + 1) _ _ rfl (Z.out.st2 _ _).drew.cells2) rfl ⟨⟨va, vn, vc, by rw [HQ.out, HO.out, ← HD.out]; rfl, by have h := ((R.out.st2 (q := w.heap.size + 1) (by omega) (.int .i64 q) (.slice va vn vc)).drew).mono (show w.heap.size ≤ w2.heap.size + 1 by omega); rw [List.take_of_length_le (by rw [HN.out]; exact Nat.le_refl _)] at h; rw [HL.out]; exact h.own, fun g hg => by have h := R.out.lt g hg; exact ⟨by omega, by simpa using h.2⟩⟩, ((A2.out.alloc (.cells #[.int .i64 q, .slice none 0 0] 41)).grow G.out (fun j hj => by cases hj; omega)).st2 (by omega) _ _ |>.drew⟩
set_option maxRecDepth 100000 in
set_option maxHeartbeats 2000000 in
theorem spec_blobBend (v : Value) (l : List Bb) (q : Int) (i : ByteArray) (w : World) (hv : Blbs w v l) (hs : Sml l) :
    Calls Tryd.prog 40 #[.agg #[.int .i64 q, v], .string i] w fun e w' => RetB w.heap.size (okQ q l) (bendL q l i) (bendO q l i) e w' ∧ Below w.heap.size w w' := by
  obtain ⟨a, ca, hve⟩ := hv.slice
  subst hve
  have hlen := hv.len
  obtain ⟨n, hn⟩ : ∃ n, l.length = n := ⟨_, rfl⟩
  have VW := Lib.hid hv
  rw [hn] at VW hlen ⊢
  have HN := Lib.hid hn
  have V := Lib.hid ((VW.out.alloc (.cells #[.int .i64 q, .slice a n ca] 41)).alloc (.cells #[.int .i64 0, .slice none 0 0] 41))
  have X0 := Lib.hid ((Bx.new w 41 #[.int .i64 q, .slice a n ca] _ rfl).alloc (.cells #[.int .i64 0, .slice none 0 0] 41))
  have Z0 := Lib.hid (Bx.new (w.alloc (.cells #[.int .i64 q, .slice a n ca] 41)) 41 #[.int .i64 0, .slice none 0 0] (w.heap.size + 1) (by simp))
  have A0 := Lib.hid (((Af.refl w).alloc (.cells #[.int .i64 q, .slice a n ca] 41)).alloc (.cells #[.int .i64 0, .slice none 0 0] 41))
  have HSM := Lib.hid hs
  clear hv hs hn
  go_enter Tryd.func40, Tryd.ntmps40
  go_wp2_with fail
  refine (spec_blobsOk _ l q _ V.out HSM.out).mono ?_
  rintro e w2 ⟨rfl, hb⟩
  have V2 := Lib.hid (V.out.later hb)
  have A2 := Lib.hid (A0.out.after hb)
  have X2 := Lib.hid (X0.out.after hb)
  have Z2 := Lib.hid (Z0.out.after hb)
  have xs2 := Z2.out.lt
  clear hb V X0 A0 Z0
  cases hok : okS q l with
  | false =>
    have HQ := Lib.hid (okQ_no hok)
    have HL := Lib.hid (bendL_no i hok)
    have HO := Lib.hid (bendO_no i hok)
    clear hok
    obtain ⟨z0, z1⟩ := Z2.out.cells2
    have fz0 := Z2.out.frozen 0
    have fz1 := Z2.out.frozen 1
    go_wp2
    exact bodyPost_ret (results_blobs2 Tryd.results40 _ _ (w.heap.size + 1) _ _ rfl (Z2.out.st2 _ _).cells2) rfl ⟨⟨none, 0, 0, by rw [HQ.out, HO.out]; rfl, by rw [HL.out]; exact blOwn_nil _ _ _ _, fun g hg => by cases hg⟩, A2.out.st2 (by omega) _ _⟩
  | true =>
    have h12 := ((okS_iff q l).1 hok).2.1
    rw [HN.out] at h12
    have HA := Lib.hid (asc_of_ok hok)
    have HOK := Lib.hid hok
    clear hok
    have HQ := Lib.hid (okQ_yes HOK.out)
    have HL := Lib.hid (bendL_yes i HOK.out)
    obtain ⟨x0, x1⟩ := X2.out.cells2
    go_wp2_with fail
    clear x0 x1
    refine (spec_copy _ l q _ V2.out (by rw [HN.out]; omega)).mono ?_
    rintro e w3 ⟨⟨u, rfl, hr⟩, hb⟩
    obtain ⟨a3, n3, c3, hu⟩ := hr.own.form
    subst hu
    have R3 := Lib.hid (hr.alloc (.cells #[.int .i64 q, .slice a3 n3 c3] 41))
    have XX3 := Lib.hid (Bx.new w3 41 #[.int .i64 q, .slice a3 n3 c3] _ rfl)
    have V3 := Lib.hid ((V2.out.later hb).alloc (.cells #[.int .i64 q, .slice a3 n3 c3] 41))
    have A3 := Lib.hid ((A2.out.after hb).alloc (.cells #[.int .i64 q, .slice a3 n3 c3] 41))
    have X3 := Lib.hid ((X2.out.after hb).alloc (.cells #[.int .i64 q, .slice a3 n3 c3] 41))
    have Z3 := Lib.hid ((Z2.out.after hb).alloc (.cells #[.int .i64 q, .slice a3 n3 c3] 41))
    have hs3 := hb.size
    have RL := Lib.hid (fun g e => hr.lt g e)
    clear hb hr V2 A2 X2 Z2
    obtain ⟨x0, x1⟩ := X3.out.cells2
    go_wp2_with fail
    clear x0 x1
    refine (spec_at _ l q i _ V3.out).mono ?_
    rintro e w4 ⟨⟨k, rfl, hk⟩, hb⟩
    have R4 := Lib.hid (R3.out.later hb)
    have XX4 := Lib.hid (XX3.out.after hb)
    have V4 := Lib.hid (V3.out.later hb)
    have A4 := Lib.hid (A3.out.after hb)
    have X4 := Lib.hid (X3.out.after hb)
    have Z4 := Lib.hid (Z3.out.after hb)
    have hs4 := XX4.out.lt
    clear hb R3 XX3 V3 A3 X3 Z3
    obtain ⟨x0, x1⟩ := X4.out.cells2
    obtain ⟨t0, t1⟩ := XX4.out.cells2
    obtain ⟨z0, z1⟩ := Z4.out.cells2
    have fz0 := Z4.out.frozen 0
    have fz1 := Z4.out.frozen 1
    rcases hk with ⟨rfl, hg⟩ | ⟨j, hj, rfl, hji, hg⟩
    · have HO := Lib.hid (bendO_none (q := q) hg)
      have HS := Lib.hid (bend_same (fun x hx e => absurd e (getB_none.1 hg x hx)))
      clear hg
      go_wp2
      exact bodyPost_ret (results_blobs2 Tryd.results40 _ _ (w.heap.size + 1) _ _ rfl (Z4.out.st2 _ _).cells2) rfl ⟨⟨_, _, _, by rw [HQ.out, HO.out]; rfl, by rw [HL.out, HS.out]; exact ((R4.out.st2 (q := w.heap.size + 1) (by omega) _ _).mono (by omega)).own, fun g hg => by have h := R4.out.lt g hg; exact ⟨by omega, by simpa using h.2⟩⟩, A4.out.st2 (by omega) _ _⟩
    · have HO := Lib.hid (bendO_some HOK.out hg)
      obtain ⟨y, o, ca', hse, _, hy, hcy⟩ := V4.out.at0 (by omega)
      simp only [Value.slice.injEq] at hse
      obtain ⟨rfl, hnl, rfl⟩ := hse
      obtain ⟨c1, c2, c3'⟩ := hcy j hj
      have hjn : j < n := by rw [← HN.out]; exact hj
      have hj0 : decide ((j : Int) < 0) = false := by simp
      have y0 : (0 : Int) ≤ (j : Int) := by omega
      have y1 : (j : Int) < (n : Int) := by omega
      have HJ := Lib.hid hj
      have HI := Lib.hid hji
      clear hcy hnl hji
      cases hbx : bX l j with
      | true =>
        have HS := Lib.hid (bend_same (l := l) (i := i) (fun z hz e => by have h := asc_mem HA.out hz (getB_some hg).1 (e.trans (getB_some hg).2.symm); rw [h]; exact hbx))
        rw [hbx] at c3' HO
        clear hg hbx hj
        go_wp2
        exact bodyPost_ret (results_blobs2 Tryd.results40 _ _ (w.heap.size + 1) _ _ rfl (Z4.out.st2 _ _).cells2) rfl ⟨⟨_, _, _, by rw [HQ.out, HO.out]; rfl, by rw [HL.out, HS.out]; exact ((R4.out.st2 (q := w.heap.size + 1) (by omega) _ _).mono (by omega)).own, fun g hg => by have h := R4.out.lt g hg; exact ⟨by omega, by simpa using h.2⟩⟩, A4.out.st2 (by omega) _ _⟩
      | false =>
        rw [hbx] at c3' HO
        have O4 := Lib.hid R4.out.own
        obtain ⟨g4, o4, e4, hn4, hb4, hg4, hc4⟩ := R4.out.own.cells (by omega)
        subst e4
        obtain ⟨⟨d1, d2, d3⟩, f1, f2, f3⟩ := hc4 j hj
        have hn3 : n3 = n := by rw [hn4, HN.out]
        subst hn3
        have hne1 : g4 ≠ w.heap.size + 1 := by omega
        have RL4 := Lib.hid (fun g e => R4.out.lt g e)
        have hgx : g4 < w3.heap.size := (RL.out g4 rfl).2
        have z0' := (Z4.out.set_other ⟨g4, o4 + j * 3 + 2, none⟩ (.bool true) (by simp; omega)).cells2
        have t' := (XX4.out.set_other ⟨g4, o4 + j * 3 + 2, none⟩ (.bool true) (by simp; omega)).cells2
        obtain ⟨z0', z1'⟩ := z0'
        obtain ⟨t0', t1'⟩ := t'
        have fz0' := (Z4.out.set_other ⟨g4, o4 + j * 3 + 2, none⟩ (.bool true) (by simp; omega)).frozen 0
        have fz1' := (Z4.out.set_other ⟨g4, o4 + j * 3 + 2, none⟩ (.bool true) (by simp; omega)).frozen 1
        clear hg hbx hc4 hj hn4
        go_wp2
        exact bodyPost_ret (results_blobs2 Tryd.results40 _ _ (w.heap.size + 1) _ _ rfl ((Z4.out.set_other ⟨g4, o4 + j * 3 + 2, none⟩ (.bool true) (by simp; omega)).st2 _ _).cells2) rfl ⟨⟨_, _, _, by rw [HQ.out, HO.out]; rfl, by rw [HL.out, ← bend_set HA.out HJ.out HI.out]; exact ((O4.out.setX j true HJ.out).st2 (q := w.heap.size + 1) xs2 _ _).mono (show w.heap.size ≤ w2.heap.size by omega), fun g hg => by have h := RL4.out g hg; exact ⟨by have := h.1; omega, by simpa using h.2⟩⟩, (A4.out.set (p := ⟨g4, o4 + j * 3 + 2, none⟩) (show w.heap.size ≤ g4 by omega) _).st2 (by omega) _ _⟩
end Go.Proofs.YtemhhjkmolndbaaDoor
