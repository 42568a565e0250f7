/- The law FnLog, walked: it returns true at every argument. -/
import Derived.Test.YtemhhjkmolndbaaDoorFnLs
import Derived.Test.YtemhhjkmolndbaaDoorMarkW
import Derived.Test.YtemhhjkmolndbaaDoorAddW
import Derived.Test.YtemhhjkmolndbaaDoorCutW
import Derived.Test.YtemhhjkmolndbaaDoorReadLI
import Derived.Deep.CutRange
namespace Go.Proofs.YtemhhjkmolndbaaDoor
open Go.RowKit Go.PlainAid
set_option linter.unusedVariables false

theorem strs_none (w : World) (b o : Nat) (l : List ByteArray) (h : l.length = 0) : Strs w (.slice (some ⟨b, o, none⟩) l.length 0) l :=
  ⟨by omega, fun j hj => by omega, _, 0, rfl, by omega, fun h => by omega⟩
set_option maxRecDepth 100000 in
set_option maxHeartbeats 8000000 in
theorem law_log_small (xs : List Int) (w : World) (v : Value) (hC : Code w v xs) (hT : TabC w) (hg : ErrT w) :
    Calls Tryd.prog 3 #[v] w fun e w' => e = .returned (.bool true) ∧ Below w.heap.size w w' := by
  have HT := Lib.hid hT
  have HG := Lib.hid hg
  obtain ⟨_, hlen, ad, cpv, hv, _⟩ := id hC
  subst hv
  have HC := Lib.hid hC
  clear hC hT hg
  go_enter Tryd.func3, Tryd.ntmps3
  go_wp2_with fail
  refine (big_no ad _ cpv _ hlen).mono ?_
  rintro e w' ⟨rfl, rfl⟩
  go_wp2_with fail
  refine (impl_logNew _).mono ?_
  rintro e w1 ⟨v1, rfl, s1, b1⟩
  obtain ⟨a1, k1, c1, rfl⟩ := s1.form
  obtain ⟨gx, hgx⟩ : ∃ gx, w1.heap.size = gx := ⟨_, rfl⟩
  have F0 := Lib.hid (show Fw gx w ((w1.alloc (.cells #[.slice a1 k1 c1, .int .i64 1, .int .i64 0] 26)).alloc (.cells #[] 9)) newL 1 0 a1 k1 c1 (gx + 1) 0 0 from
    (Fw.start (Bx.new w1 _ _ gx hgx) (s1.alloc _) (fun e => by have := (s1.block (by decide) _ e).2; omega) (by omega) (Af.alloc (show Af w w1 from b1) _) (by have := b1.size; omega)).alloc _)
  clear s1 b1
  have HGX := Lib.hid hgx
  clear hgx
  generalize hxl : xs.length = len at *
  have HXL := Lib.hid hxl
  clear hxl
  go_wp2_with fail
  simp only [HGX.out]
  go_loopw [4, 5] (fun wt iv wr => ∃ (i : Nat) (l : List Sg) (n m : Int) (a : Option Addr) (k cap b o c wn : Nat), i ≤ 30 ∧ iv = .int .i64 i ∧ wt = .slice (some ⟨b, o, none⟩) wn c ∧ (rdR l n m).length = wn ∧ Fw gx w wr l n m a k cap b o c) (fun _ iv _ => 30 - (intOf iv).toNat)
  case atStart =>
    refine ⟨0, newL, 1, 0, a1, k1, c1, gx + 1, 0, 0, 0, by omega, rfl, rfl, ?_, F0.out⟩
    have := inv_new.len
    omega
  case round =>
    clear F0
    obtain ⟨i, l, n, m, a, k, cap, b, o, c, wn, hi, rfl, rfl, hwn, hF⟩ := hrel
    have FF := Lib.hid hF
    have HWN := Lib.hid hwn
    have hO1 := hF.o1
    have hxlt := hF.bx.lt
    clear hF hwn
    by_cases h30 : i = 30
    · subst h30
      have C1 := Lib.hid (HC.out.below FF.out.af)
      have CB := Lib.hid (C1.out.below (((Below.refl _ _).alloc (Nat.le_refl _) (.cells #[.slice none 0 0, .int .i64 0, .int .i64 0] 26)).drew))
      have FA := Lib.hid FF.out.drew
      have FB := Lib.hid (FF.out.alloc (.cells #[.slice none 0 0, .int .i64 0, .int .i64 0] 26)).drew
      have YB := Lib.hid (Bx.new wr 26 #[.slice none 0 0, .int .i64 0, .int .i64 0] wr.heap.size rfl).drew
      have AB := Lib.hid ((Af.refl wr).alloc (.cells #[.slice none 0 0, .int .i64 0, .int .i64 0] 26)).drew
      have hwr : w.heap.size ≤ wr.heap.size := FF.out.af.size
      obtain ⟨u0, u1, u2⟩ := FA.out.bx.cells3
      obtain ⟨v0, v1, v2⟩ := FB.out.bx.cells3
      go_wp2_with fail
      go_cut [12, 13] from 100 (fun s12 s13 wx => ∃ g a3 c3 cap3 l3 n3 m3, s12 = .pointer (some ⟨g, 0, none⟩) ∧ s13 = .bool true ∧ Bx wx g 26 #[.slice a3 c3 cap3, .int .i64 n3, .int .i64 m3] ∧ SegOwn wx w.heap.size (.slice a3 c3 cap3) l3 ∧ Inv l3 n3 m3 ∧ rdR l3 n3 m3 <+: rdR l n m ∧ Fw gx w wx l n m a k cap b o c)
      case first =>
        go_region_held3 (fun w' => w'.cell? ⟨gx, 0, none⟩ = some (.slice a k cap) ∧ w'.cell? ⟨gx, 1, none⟩ = some (.int .i64 n) ∧ w'.cell? ⟨gx, 2, none⟩ = some (.int .i64 m)) (first | (with_reducible exact ⟨u0, u1, u2⟩) | (with_reducible exact ⟨v0, v1, v2⟩) | (with_reducible exact CY.out) | (with_reducible exact CZ.out _) | (with_reducible exact CW.out _ _ _) | go_keep)
          (first
            | (go_at_call 13; (first | refine (at_three xs _ _ C1.out.drew).mono ?_ | refine (at_three xs _ _ CB.out).mono ?_); rintro e w' ⟨⟨z, rfl, hz⟩, rfl⟩)
            | (go_at_call 20; (first
              | (refine (impl_cut _ l n m _ _ FA.out.segs FA.out.small (HT.out.later FA.out.af (Nat.le_refl _)) (HG.out.later FA.out.af)).mono ?_; rintro e w3 ⟨⟨a3, c3, cap3, rfl, hs3, _⟩, hb3⟩; have F3 := Lib.hid (FA.out.later hb3); have CY := Lib.hid F3.out.bx.cells3; have CZ := Lib.hid (fun o => (F3.out.alloc o).bx.cells3); have S3 := Lib.hid hs3)
              | (refine (impl_cut _ l n m _ _ FB.out.segs FB.out.small (HT.out.later FB.out.af (Nat.le_refl _)) (HG.out.later FB.out.af)).mono ?_; rintro e w3 ⟨⟨a3, c3, cap3, rfl, hs3, _⟩, hb3⟩; have A3 := Lib.hid (AB.out.after hb3); have Y3 := Lib.hid (YB.out.after hb3); have CY := Lib.hid (FB.out.later hb3).bx.cells3; have CW := Lib.hid (fun p0 p1 p2 => ((FB.out.later hb3).bx.st3o (q := wr.heap.size) (by omega) p0 p1 p2).cells3); obtain ⟨y0, y1, y2⟩ := Y3.out.cells3; obtain ⟨g0, g1, g2⟩ := Y3.out.frozen3; have S3 := Lib.hid hs3)); clear hs3 hb3; rw [(cut_inv (k := (z : Int).tmod 70) FF.out.iv).2.2]))
        all_goals
          have CI := Lib.hid (cut_inv (k := (z : Int).tmod 70) FF.out.iv)
          go_wp2
          go_meet
          case rel => first | exact ⟨w3.heap.size, a3, c3, cap3, _, _, _, rfl, rfl, Bx.new w3 _ _ _ rfl, (S3.out.alloc _).mono hwr, CI.out.1, CI.out.2.1, F3.out.alloc _⟩ | exact ⟨wr.heap.size, a3, c3, cap3, _, _, _, rfl, rfl, Y3.out.st3 _ _ _, (S3.out.st3 (by simp) _ _ _).mono (by simp; omega), CI.out.1, CI.out.2.1, FF.out.later (A3.out.st3 (Nat.le_refl _) _ _ _)⟩
      case rest =>
        clear u0 u1 u2 v0 v1 v2 FA FB YB AB CB C1
        obtain ⟨g, a3, c3, cap3, l3, n3, m3, rfl, rfl, hX, hS, hI, hP, hF⟩ := hcut
        have X3 := Lib.hid hX
        have S3 := Lib.hid hS
        have I3 := Lib.hid hI
        have F3 := Lib.hid hF
        have SM := Lib.hid (fun j (hj : j < l3.length) => show (sT l3 j).size ≤ 1048576 by have := hI.small j hj; omega)
        obtain ⟨q, hq⟩ : ∃ q, (rdR l3 n3 m3).length = q := ⟨_, rfl⟩
        have hPe := List.prefix_iff_eq_take.1 hP
        rw [hq] at hPe
        have hqw : q ≤ wn := by have h1 := hP.length_le; have h2 := HWN.out; omega
        have hcw : wn ≤ c := by
          obtain ⟨_, _, _, _, e, h, _⟩ := hF.wt
          simp only [Value.slice.injEq] at e
          have := HWN.out
          obtain ⟨_, _, rfl⟩ := e
          omega
        have PE := Lib.hid hPe
        have HQ := Lib.hid hq
        clear hX hS hI hF hP hPe hq FF
        obtain ⟨x0, x1, x2⟩ := X3.out.cells3
        go_wp2_with fail
        clear x0 x1 x2
        refine (impl_logRead _ l3 n3 m3 _ (S3.out.segs (fun j hj => by have := SM.out j hj; omega)) SM.out (HT.out.later F3.out.af (Nat.le_refl _)) (HG.out.later F3.out.af)).mono ?_
        rintro e w4 ⟨u4, rfl, hg4, hb4⟩
        have F4 := Lib.hid (F3.out.later hb4)
        have X4 := Lib.hid (X3.out.after hb4)
        have S4 := Lib.hid (S3.out.later hb4)
        have T4 := Lib.hid (show Strs w4 (.slice (some ⟨b, o, none⟩) q c) (rdR l3 n3 m3) by have h := F4.out.wt.take q (by have := HWN.out; omega); rw [← PE.out] at h; exact h)
        have G4 := Lib.hid (hg4.strs T4.out.size)
        obtain ⟨a4, n4, c4, hu4⟩ := hg4.form
        subst hu4
        obtain rfl : n4 = q := by
          obtain ⟨_, _, _, _, e, _, _⟩ := G4.out
          simp only [Value.slice.injEq] at e
          rw [e.2.1]
          exact HQ.out
        clear hg4 hb4 F3 X3 S3
        obtain ⟨x0, x1, x2⟩ := X4.out.cells3
        go_wp2_with fail
        clear x0 x1 x2
        refine (spec_logOk _ l3 n3 m3 _ (S4.out.segs (fun j hj => by have := SM.out j hj; omega)) SM.out).mono ?_
        rintro e w5 ⟨rfl, hb5⟩
        rw [I3.out.ok]
        have F5 := Lib.hid (F4.out.later hb5)
        have T5 := Lib.hid (T4.out.later hb5)
        have G5 := Lib.hid (G4.out.later hb5)
        clear hb5 F4 T4 G4 X4 S4
        go_wp2_with fail
        refine (same_strs _ _ (rdR l3 n3 m3) (rdR l3 n3 m3) _ G5.out T5.out).mono ?_
        rintro e w6 ⟨rfl, hb6⟩
        rw [decide_eq_true rfl]
        have F6 := Lib.hid (F5.out.later hb6)
        clear hb6 F5 T5 G5
        go_wp2_with fail
        refine (draw_logMark xs _ _ (HC.out.below F6.out.af)).mono ?_
        rintro e w7 ⟨⟨a7, k7, cap7, n7, m7, x7, rfl, l7, hs7, ht7⟩, hb7⟩
        have A7 := Lib.hid (F6.out.af.after hb7)
        have HS7 := Lib.hid hs7
        have HT7 := Lib.hid ht7
        clear hs7 ht7 hb7 F6
        go_wp2_with fail
        have A8 := Lib.hid (A7.out.alloc (.cells #[.slice a7 k7 cap7, .int .i64 n7, .int .i64 m7] 26))
        have S8 := Lib.hid (HS7.out.alloc (.cells #[.slice a7 k7 cap7, .int .i64 n7, .int .i64 m7] 26))
        have X8 := Lib.hid (Bx.new w7 26 #[.slice a7 k7 cap7, .int .i64 n7, .int .i64 m7] _ rfl)
        refine (impl_mark _ l7 n7 m7 x7 _ S8.out HT7.out (HT.out.later A8.out (Nat.le_refl _)) (HG.out.later A8.out)).mono ?_
        rintro e w9 ⟨⟨a9, c9, cap9, rfl, _, _⟩, hb9⟩
        have A9 := Lib.hid ((A8.out.after hb9).alloc (.cells #[.slice a9 c9 cap9, .int .i64 (markR l7 n7 m7 x7).nx, .int .i64 (markR l7 n7 m7 x7).mt] 26))
        have S9 := Lib.hid ((S8.out.later hb9).alloc (.cells #[.slice a9 c9 cap9, .int .i64 (markR l7 n7 m7 x7).nx, .int .i64 (markR l7 n7 m7 x7).mt] 26))
        have X9 := Lib.hid ((X8.out.after hb9).alloc (.cells #[.slice a9 c9 cap9, .int .i64 (markR l7 n7 m7 x7).nx, .int .i64 (markR l7 n7 m7 x7).mt] 26))
        clear hb9 A8 S8 X8 A7 HS7
        obtain ⟨x0, x1, x2⟩ := X9.out.cells3
        go_wp2_with fail
        clear x0 x1 x2
        refine (spec_mark _ l7 n7 m7 x7 _ S9.out HT7.out).mono ?_
        rintro e w10 ⟨⟨a10, c10, cap10, rfl, _, _⟩, hb10⟩
        have A10 := Lib.hid (A9.out.after hb10)
        clear hb10 A9 S9 X9
        go_wp2
        go_ret
        exact ⟨rfl, A10.out.alloc _⟩
    · have hi30 : (i : Int) < 30 := by omega
      have C1 := Lib.hid (HC.out.below FF.out.af)
      have HLW := Lib.hid FF.out.iv.len
      go_wp2_with fail
      refine (at_any xs i (by omega) _ _ C1.out).mono ?_
      rintro e w' ⟨⟨y, rfl, hy⟩, rfl⟩
      have hy6 : (y : Int) % 6 = 0 ∨ (y : Int) % 6 ≠ 0 := by omega
      rcases hy6 with hy6 | hy6
      · have hy7 : ((y : Int) % 6 == 0) = true := beq_iff_eq.2 hy6
        clear hy6
        go_wp2_with fail
        refine wp_region_noPanic ?_
        refine wp_region_takes (T := fun _ => false) (S := fun w' => w'.cell? ⟨gx, 0, none⟩ = some (.slice a k cap) ∧ w'.cell? ⟨gx, 1, none⟩ = some (.int .i64 n) ∧ w'.cell? ⟨gx, 2, none⟩ = some (.int .i64 m)) [0, 1, 2, 3, 4] [5, 6, 7, 8] (by kernel_rfl) (by kernel_rfl) (by kernel_rfl) (by kernel_rfl) (fun _ _ _ _ _ h => h) FF.out.bx.drew.cells3 ?_
        have hw1 : IntKind.i64.wrap ((i : Int) + 1) = (i : Int) + 1 := IntWalk.i64_in _ (by omega)
        iterate 5 (refine wpTakes_step (v := ?_) rfl rfl ?_ ?_; rotate_left; (intro w' hS'; (try dsimp only at hS'); go_simp; (try with_reducible rfl)); simp only [Act.put, List.setIfInBounds_toArray])
        clear hw1
        unfold wpTakes
        refine wpSeqT_step rfl ?_
        go_wp2_with fail
        have T1 := at_any xs (i + 1) (by omega) _ _ C1.out.drew
        rw [show ((i + 1 : Nat) : Int) = (i : Int) + 1 from by omega] at T1
        refine T1.mono ?_
        clear T1
        rintro e w' ⟨⟨z, rfl, hz⟩, rfl⟩
        have hn1 := ((okB_iff l n m).1 FF.out.iv.ok).2.2.2.1
        have hm0 := ((okB_iff l n m).1 FF.out.iv.ok).2.2.2.2.1
        have hm1 := ((okB_iff l n m).1 FF.out.iv.ok).2.2.2.2.2.1
        obtain ⟨d, hd⟩ : ∃ d : Nat, (z : Int) % 3 = (d : Int) := ⟨z % 3, by omega⟩
        have hd3 : d ≤ 2 := by omega
        have hw2 : IntKind.i64.wrap (m + (d : Int)) = m + (d : Int) := IntWalk.i64_in _ (by omega)
        go_wp2
        refine ⟨fun _ => FF.out.bx.drew.cells3, ?_⟩
        refine wpSeqT_step rfl ?_
        go_wp2
        refine ⟨fun _ => FF.out.bx.drew.cells3, ?_⟩
        refine wpSeqT_step rfl ?_
        go_wp2
        refine ⟨fun _ => FF.out.bx.drew.cells3, ?_⟩
        refine wpSeqT_step rfl ?_
        go_wp2
        refine ⟨fun _ => FF.out.bx.drew.cells3, ?_⟩
        unfold wpSeqT
        refine NoPanic.normal ?_
        obtain ⟨u0, u1, u2⟩ := FF.out.bx.drew.cells3
        go_wp2_with fail
        clear u0 u1 u2
        refine (impl_mark _ l n m (m + (d : Int)) _ FF.out.drew.segs FF.out.drew.small (HT.out.later FF.out.drew.af (Nat.le_refl _)) (HG.out.later FF.out.drew.af)).mono ?_
        rintro e w3 ⟨⟨a3, c3, cap3, rfl, hs3, _⟩, hb3⟩
        have F3 := Lib.hid (FF.out.drew.later hb3)
        by_cases hin : m + (d : Int) ≤ n - 1
        · rw [markR_in l n m (m + (d : Int)) FF.out.iv.ok ⟨by omega, hin⟩] at hs3 ⊢
          dsimp only at hs3 ⊢
          have MI := Lib.hid (mark_inv FF.out.iv (show m ≤ m + (d : Int) from by omega) hin)
          have F5 := Lib.hid (F3.out.alloc (.cells #[.slice a3 c3 cap3, .int .i64 n, .int .i64 (m + (d : Int))] 26))
          have S5 := Lib.hid (hs3.alloc (.cells #[.slice a3 c3 cap3, .int .i64 n, .int .i64 (m + (d : Int))] 26))
          have X5 := Lib.hid (Bx.new w3 26 #[.slice a3 c3 cap3, .int .i64 n, .int .i64 (m + (d : Int))] _ rfl)
          have hlw := HLW.out
          rw [HWN.out] at hlw
          have hcw : wn ≤ c := by
            obtain ⟨_, _, _, _, e, h, _⟩ := FF.out.wt
            simp only [Value.slice.injEq] at e
            have := HWN.out
            obtain ⟨_, _, rfl⟩ := e
            omega
          have hdw : d ≤ wn := by omega
          have hlt : m + (d : Int) < n := by omega
          have hw3 : IntKind.i64.wrap (m + (d : Int) - m) = (d : Int) := by rw [show m + (d : Int) - m = (d : Int) from by omega]; exact IntWalk.i64_in _ (by omega)
          have hsz3 := hb3.size
          simp only [World.size_drew] at hsz3
          clear hs3 hb3 F3 hlw hw2
          have hdd : (rdR l n m).drop (m + (d : Int) - m).toNat = (rdR l n m).drop d := by rw [show (m + (d : Int) - m).toNat = d from by omega]
          have HW2 := Lib.hid (show (rdR (l.drop (dN l (m + (d : Int)))) n (m + (d : Int))).length = wn - d by rw [MI.out.2, hdd, List.length_drop, HWN.out])
          have SW := Lib.hid (show Strs (w3.alloc (.cells #[.slice a3 c3 cap3, .int .i64 n, .int .i64 (m + (d : Int))] 26)) (.slice (some ⟨b, o + d, none⟩) (rdR (l.drop (dN l (m + (d : Int)))) n (m + (d : Int))).length (c - d)) (rdR (l.drop (dN l (m + (d : Int)))) n (m + (d : Int))) by have h := F5.out.wt.drop d (by have := HWN.out; omega); rw [MI.out.2, hdd, List.length_drop]; exact h)
          clear hdd
          obtain ⟨u0, u1, u2⟩ := F5.out.bx.cells3
          obtain ⟨f0, f1, f2⟩ := F5.out.bx.frozen3
          obtain ⟨x0, x1, x2⟩ := X5.out.cells3
          by_cases hcd : c = d
          · subst hcd
            go_wp2_with fail
            clear u0 u1 u2 f0 f1 f2 x0 x1 x2 hw3
            have F6 := Lib.hid (F5.out.put (b' := b) (o' := o) (c' := 0) S5.out (by simp only [World.size_drew]; omega) MI.out.1 (strs_none _ _ _ _ (by rw [HW2.out]; omega)) F5.out.wb)
            have HW0 := Lib.hid (show (rdR (l.drop (dN l (m + (c : Int)))) n (m + (c : Int))).length = 0 by rw [HW2.out]; omega)
            clear F5 S5 X5 MI SW
            refine (spec_logOk _ _ _ _ _ F6.out.segs F6.out.small).mono ?_
            rintro e w8 ⟨rfl, hb8⟩
            rw [F6.out.iv.ok]
            have F8 := Lib.hid (F6.out.later hb8)
            obtain ⟨u0, u1, u2⟩ := F8.out.bx.cells3
            clear hb8
            go_wp2_with fail
            clear u0 u1 u2
            refine (impl_logRead _ _ _ _ _ F8.out.segs F8.out.small (HT.out.later F8.out.af (Nat.le_refl _)) (HG.out.later F8.out.af)).mono ?_
            rintro e w9 ⟨u9, rfl, hg9, hb9⟩
            have F9 := Lib.hid (F8.out.later hb9)
            have S9 := Lib.hid (hg9.strs F8.out.wt.size)
            obtain ⟨a9, n9, c9, hu9⟩ := hg9.form
            subst hu9
            clear hb9 hg9
            go_wp2_with fail
            refine (same_strs _ _ (rdR _ _ _) (rdR _ _ _) _ S9.out (by have h := F9.out.wt; rw [HW0.out] at h; exact h)).mono ?_
            rintro e w10 ⟨rfl, hb10⟩
            rw [decide_eq_true rfl]
            have F10 := Lib.hid (F9.out.later hb10)
            clear hb10
            go_wp2
            go_roundw
            case rel => exact ⟨i + 1, _, _, _, _, _, _, _, _, _, _, by omega, by go_num, rfl, HW0.out, F10.out⟩
            case measure => simp only [intOf]; omega
          · have hcd1 : c - d ≠ 0 := by omega
            have hcd2 : 0 < c - d := by omega
            go_wp2_with fail
            clear u0 u1 u2 f0 f1 f2 x0 x1 x2 hw3
            have F6 := Lib.hid (F5.out.put (b' := b) (o' := o + d) (c' := c - d) S5.out (by simp only [World.size_drew]; omega) MI.out.1 SW.out F5.out.wb)
            clear F5 S5 X5 MI SW
            refine (spec_logOk _ _ _ _ _ F6.out.segs F6.out.small).mono ?_
            rintro e w8 ⟨rfl, hb8⟩
            rw [F6.out.iv.ok]
            have F8 := Lib.hid (F6.out.later hb8)
            obtain ⟨u0, u1, u2⟩ := F8.out.bx.cells3
            clear hb8
            go_wp2_with fail
            clear u0 u1 u2
            refine (impl_logRead _ _ _ _ _ F8.out.segs F8.out.small (HT.out.later F8.out.af (Nat.le_refl _)) (HG.out.later F8.out.af)).mono ?_
            rintro e w9 ⟨u9, rfl, hg9, hb9⟩
            have F9 := Lib.hid (F8.out.later hb9)
            have S9 := Lib.hid (hg9.strs F8.out.wt.size)
            obtain ⟨a9, n9, c9, hu9⟩ := hg9.form
            subst hu9
            clear hb9 hg9
            go_wp2_with fail
            refine (same_strs _ _ (rdR _ _ _) (rdR _ _ _) _ S9.out (by have h := F9.out.wt; rw [HW2.out] at h; exact h)).mono ?_
            rintro e w10 ⟨rfl, hb10⟩
            rw [decide_eq_true rfl]
            have F10 := Lib.hid (F9.out.later hb10)
            clear hb10
            go_wp2
            go_roundw
            case rel => exact ⟨i + 1, _, _, _, _, _, _, _, _, _, _, by omega, by go_num, rfl, HW2.out, F10.out⟩
            case measure => simp only [intOf]; omega
        · rw [markR_out l n m (m + (d : Int)) FF.out.iv.ok (fun h => hin h.2)] at hs3 ⊢
          dsimp only at hs3 ⊢
          have F5 := Lib.hid (F3.out.alloc (.cells #[.slice a3 c3 cap3, .int .i64 n, .int .i64 m] 26))
          have S5 := Lib.hid (hs3.alloc (.cells #[.slice a3 c3 cap3, .int .i64 n, .int .i64 m] 26))
          have X5 := Lib.hid (Bx.new w3 26 #[.slice a3 c3 cap3, .int .i64 n, .int .i64 m] _ rfl)
          have hlt : ¬ m + (d : Int) < n := by omega
          clear hs3 hb3 F3 hw2
          obtain ⟨u0, u1, u2⟩ := F5.out.bx.cells3
          obtain ⟨f0, f1, f2⟩ := F5.out.bx.frozen3
          obtain ⟨x0, x1, x2⟩ := X5.out.cells3
          go_wp2_with fail
          clear u0 u1 u2 f0 f1 f2 x0 x1 x2
          have F6 := Lib.hid (F5.out.put S5.out (by simp only [World.size_drew]; omega) FF.out.iv F5.out.wt F5.out.wb)
          clear F5 S5 X5
          refine (spec_logOk _ _ _ _ _ F6.out.segs F6.out.small).mono ?_
          rintro e w8 ⟨rfl, hb8⟩
          rw [F6.out.iv.ok]
          have F8 := Lib.hid (F6.out.later hb8)
          obtain ⟨u0, u1, u2⟩ := F8.out.bx.cells3
          clear hb8
          go_wp2_with fail
          clear u0 u1 u2
          refine (impl_logRead _ _ _ _ _ F8.out.segs F8.out.small (HT.out.later F8.out.af (Nat.le_refl _)) (HG.out.later F8.out.af)).mono ?_
          rintro e w9 ⟨u9, rfl, hg9, hb9⟩
          have F9 := Lib.hid (F8.out.later hb9)
          have S9 := Lib.hid (hg9.strs F8.out.wt.size)
          obtain ⟨a9, n9, c9, hu9⟩ := hg9.form
          subst hu9
          clear hb9 hg9
          go_wp2_with fail
          refine (same_strs _ _ (rdR _ _ _) (rdR _ _ _) _ S9.out (by have h := F9.out.wt; rw [HWN.out] at h; exact h)).mono ?_
          rintro e w10 ⟨rfl, hb10⟩
          rw [decide_eq_true rfl]
          have F10 := Lib.hid (F9.out.later hb10)
          clear hb10
          go_wp2
          go_roundw
          case rel => exact ⟨i + 1, _, _, _, _, _, _, _, _, _, _, by omega, by go_num, rfl, HWN.out, F10.out⟩
          case measure => simp only [intOf]; omega
      · have hy7 : ((y : Int) % 6 == 0) = false := beq_eq_false_iff_ne.2 hy6
        clear hy6
        have hw1 : IntKind.i64.wrap ((i : Int) + 2) = (i : Int) + 2 := IntWalk.i64_in _ (by omega)
        have hconv := conv_one
        go_wp2_with fail
        go_cut [9] from 33 to 45 (fun s9 wx => ∃ s : ByteArray, s9 = .string s ∧ s.size = 2 ∧ Fw gx w wx l n m a k cap b o c)
        case first =>
          go_region_with (first
            | (go_at_call 15; refine (fresh_first xs i (by omega) _ _ C1.out.drew).mono ?_; rintro e w2 ⟨⟨g0, cap0, nl, b0, rfl, hl1, h1c, hcc, hcm, cv1, cv2, s1⟩, hb2⟩; have C2 := Lib.hid (C1.out.drew.below hb2); have F2 := Lib.hid (FF.out.drew.later hb2); clear hb2)
            | (go_at_call 13; have T1 := at_any xs (i + 2) (by omega) _ _ C2.out; rw [show ((i + 2 : Nat) : Int) = (i : Int) + 2 from by omega] at T1; refine T1.mono ?_; clear T1; rintro e w' ⟨⟨z, rfl, hz⟩, rfl⟩))
          all_goals
            clear cv1 cv2 s1
            go_wp2
            go_meet
            case rel => exact ⟨_, rfl, by rw [ByteArray.size_append, strOfNums_size, strOfNums_size]; rfl, F2.out.alloc _⟩
        case rest =>
          clear hw1 hconv
          obtain ⟨s, rfl, hs2, hF2⟩ := hcut
          have F2 := Lib.hid hF2
          have hxl2 := hF2.bx.lt
          clear hF2
          obtain ⟨u0, u1, u2⟩ := F2.out.bx.cells3
          go_wp2_with fail
          clear u0 u1 u2
          refine (impl_add _ l n m s _ F2.out.segs F2.out.small (by omega) (HT.out.later F2.out.af (Nat.le_refl _)) (HG.out.later F2.out.af)).mono ?_
          rintro e w3 ⟨⟨a3, c3, cap3, rfl, hs3, _⟩, hb3⟩
          have F3 := Lib.hid (F2.out.later hb3)
          have hsz3 := hb3.size
          clear hb3
          cases hok : (addR l n m s).ok with
          | true =>
            obtain ⟨iv3, rd3, nx3, mt3⟩ := add_inv F2.out.iv (by omega) hok
            rw [nx3, mt3] at iv3 rd3
            rw [nx3, mt3]
            generalize (addR l n m s).sg = l3 at iv3 rd3 hs3
            clear hok nx3 mt3
            have IV := Lib.hid iv3
            have RD := Lib.hid rd3
            clear iv3 rd3
            have F5 := Lib.hid (F3.out.alloc (.cells #[.slice a3 c3 cap3, .int .i64 (n + 1), .int .i64 m] 26))
            have S5 := Lib.hid (hs3.alloc (.cells #[.slice a3 c3 cap3, .int .i64 (n + 1), .int .i64 m] 26))
            have X5 := Lib.hid (Bx.new w3 26 #[.slice a3 c3 cap3, .int .i64 (n + 1), .int .i64 m] _ rfl)
            have E5 := Lib.hid (show (w3.alloc (.cells #[.slice a3 c3 cap3, .int .i64 (n + 1), .int .i64 m] 26)).heap.size = w3.heap.size + 1 by simp)
            have G0 := Lib.hid (show GrowsS ((w3.alloc (.cells #[.slice a3 c3 cap3, .int .i64 (n + 1), .int .i64 m] 26)).alloc (.cells #[] 9)) (w3.heap.size + 1) (.slice (some ⟨w3.heap.size + 1, 0, none⟩) 0 0) [] by have h := growsS_new (w3.alloc (.cells #[.slice a3 c3 cap3, .int .i64 (n + 1), .int .i64 m] 26)) (w3.heap.size + 1) (by simp); rw [E5.out] at h; exact h)
            have BE := Lib.hid (show Below (w3.heap.size + 1) (w3.alloc (.cells #[.slice a3 c3 cap3, .int .i64 (n + 1), .int .i64 m] 26)) ((w3.alloc (.cells #[.slice a3 c3 cap3, .int .i64 (n + 1), .int .i64 m] 26)).alloc (.cells #[] 9)) from (Below.refl _ _).alloc (by simp) _)
            have HRL := Lib.hid (show (rdR l n m).length ≤ 1000 by have h1 := HLW.out; have h2 := ((okB_iff l n m).1 F2.out.iv.ok).2.2.2.1; have h3 := ((okB_iff l n m).1 F2.out.iv.ok).2.2.2.2.1; omega)
            have HS := Lib.hid (sizes_snoc (rdR l n m) s F2.out.wt.size (by omega))
            have hxl3 : gx < w3.heap.size := by omega
            clear hs3 F3
            go_wp2_with (at_builtin; (first
              | (refine wp_append_strs rfl (.tmp 53) (.tmp 54) rfl (w3.heap.size + 1) (.slice (some ⟨w3.heap.size + 1, 0, none⟩) 0 0) [] (rdR l n m) rfl G0.out b o wn c HWN.out rfl (fun j hj => (F5.out.alloc (.cells #[] 9)).wt.cellsAt j hj) (by have := HRL.out; simp only [List.length_nil]; omega) (by simp) ?_; intro v6 w6 g6 hg6; rw [List.nil_append] at g6; obtain ⟨a6, n6, c6, hv6⟩ := g6.form; subst hv6; have B6 := Lib.hid (BE.out.trans (below_of_grown G0.out (by simp) hg6)); have G6 := Lib.hid g6; clear g6 hg6)
              | (refine wp_append_str rfl (.tmp 55) (.tmp 57) rfl (w3.heap.size + 1) (.slice a6 n6 c6) (rdR l n m) s rfl (G6.out.alloc _) w6.heap.size 1 rfl (by simp) (by have := HRL.out; omega) (by have := B6.out.size; rw [E5.out] at this; simp; omega) ?_; intro v8 w8 g8 hg8; obtain ⟨g, c8, hv8, hgb, hgs⟩ := g8.has (by simp); subst hv8; have B8 := Lib.hid ((B6.out.trans ((Below.refl _ _).alloc (by have := B6.out.size; rw [E5.out] at this; exact this) (.cells #[.string s] 9))).trans (below_of_grown (G6.out.alloc (.cells #[.string s] 9)) (by have := B6.out.size; rw [E5.out] at this; simp; omega) hg8)); have G8 := Lib.hid g8; have F8 := Lib.hid (F5.out.later (by rw [E5.out]; exact B8.out)); have S8 := Lib.hid (S5.out.later (by rw [E5.out]; exact B8.out)); have X8 := Lib.hid (X5.out.after (by rw [E5.out]; exact B8.out)); obtain ⟨u0, u1, u2⟩ := F8.out.bx.cells3; obtain ⟨f0, f1, f2⟩ := F8.out.bx.frozen3; obtain ⟨x0, x1, x2⟩ := X8.out.cells3; clear g8 hg8)))
            clear u0 u1 u2 f0 f1 f2 x0 x1 x2
            have SW := Lib.hid (G8.out.strs HS.out)
            have HW2 := Lib.hid (show (rdR l3 (n + 1) m).length = (rdR l n m).length + 1 by rw [RD.out, List.length_append]; rfl)
            have F6 := Lib.hid (F8.out.put (b' := g) (o' := 0) (c' := c8) S8.out (by omega) IV.out (by have h := SW.out; rw [← RD.out] at h; exact h) (by omega))
            clear F5 S5 X5 F8 S8 X8 G0 BE G6 G8 B6 B8
            refine (spec_logOk _ _ _ _ _ F6.out.segs F6.out.small).mono ?_
            rintro e w8 ⟨rfl, hb8⟩
            rw [F6.out.iv.ok]
            have F8 := Lib.hid (F6.out.later hb8)
            obtain ⟨u0, u1, u2⟩ := F8.out.bx.cells3
            clear hb8
            go_wp2_with fail
            clear u0 u1 u2
            refine (impl_logRead _ _ _ _ _ F8.out.segs F8.out.small (HT.out.later F8.out.af (Nat.le_refl _)) (HG.out.later F8.out.af)).mono ?_
            rintro e w9 ⟨u9, rfl, hg9, hb9⟩
            have F9 := Lib.hid (F8.out.later hb9)
            have S9 := Lib.hid (hg9.strs F8.out.wt.size)
            obtain ⟨a9, n9, c9, hu9⟩ := hg9.form
            subst hu9
            clear hb9 hg9
            go_wp2_with fail
            refine (same_strs _ _ (rdR _ _ _) (rdR _ _ _) _ S9.out (by have h := F9.out.wt; rw [HW2.out] at h; exact h)).mono ?_
            rintro e w10 ⟨rfl, hb10⟩
            rw [decide_eq_true rfl]
            have F10 := Lib.hid (F9.out.later hb10)
            clear hb10
            go_wp2
            go_roundw
            case rel => exact ⟨i + 1, _, _, _, _, _, _, _, _, _, _, by omega, by go_num, rfl, HW2.out, F10.out⟩
            case measure => simp only [intOf]; omega
          | false =>
            rw [add_same F2.out.iv.ok hok] at hs3 ⊢
            dsimp only at hs3 ⊢
            have F5 := Lib.hid (F3.out.alloc (.cells #[.slice a3 c3 cap3, .int .i64 n, .int .i64 m] 26))
            have S5 := Lib.hid (hs3.alloc (.cells #[.slice a3 c3 cap3, .int .i64 n, .int .i64 m] 26))
            have X5 := Lib.hid (Bx.new w3 26 #[.slice a3 c3 cap3, .int .i64 n, .int .i64 m] _ rfl)
            clear hs3 F3 hok
            obtain ⟨u0, u1, u2⟩ := F5.out.bx.cells3
            obtain ⟨f0, f1, f2⟩ := F5.out.bx.frozen3
            obtain ⟨x0, x1, x2⟩ := X5.out.cells3
            go_wp2_with fail
            clear u0 u1 u2 f0 f1 f2 x0 x1 x2
            have F6 := Lib.hid (F5.out.put S5.out (by omega) F2.out.iv F5.out.wt F5.out.wb)
            clear F5 S5 X5
            refine (spec_logOk _ _ _ _ _ F6.out.segs F6.out.small).mono ?_
            rintro e w8 ⟨rfl, hb8⟩
            rw [F6.out.iv.ok]
            have F8 := Lib.hid (F6.out.later hb8)
            obtain ⟨u0, u1, u2⟩ := F8.out.bx.cells3
            clear hb8
            go_wp2_with fail
            clear u0 u1 u2
            refine (impl_logRead _ _ _ _ _ F8.out.segs F8.out.small (HT.out.later F8.out.af (Nat.le_refl _)) (HG.out.later F8.out.af)).mono ?_
            rintro e w9 ⟨u9, rfl, hg9, hb9⟩
            have F9 := Lib.hid (F8.out.later hb9)
            have S9 := Lib.hid (hg9.strs F8.out.wt.size)
            obtain ⟨a9, n9, c9, hu9⟩ := hg9.form
            subst hu9
            clear hb9 hg9
            go_wp2_with fail
            refine (same_strs _ _ (rdR _ _ _) (rdR _ _ _) _ S9.out (by have h := F9.out.wt; rw [HWN.out] at h; exact h)).mono ?_
            rintro e w10 ⟨rfl, hb10⟩
            rw [decide_eq_true rfl]
            have F10 := Lib.hid (F9.out.later hb10)
            clear hb10
            go_wp2
            go_roundw
            case rel => exact ⟨i + 1, _, _, _, _, _, _, _, _, _, _, by omega, by go_num, rfl, HWN.out, F10.out⟩
            case measure => simp only [intOf]; omega
end Go.Proofs.YtemhhjkmolndbaaDoor
