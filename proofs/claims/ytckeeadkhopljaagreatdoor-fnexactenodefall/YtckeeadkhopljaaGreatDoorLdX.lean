/- A bundle of texts: LdVs, LdV. -/
import Derived.Test.YtckeeadkhopljaaGreatDoorLdP
import Derived.Test.YtckeeadkhopljaaGreatDoorSpNode
/- When a Lead is valid: the model's walk. -/
namespace Go.Proofs.YtckeeadkhopljaaGreatDoor
open Go.RowKit Go.PlainAid
set_option linter.unusedVariables false

theorem l_spec_node (r : Int) (b : Bool) (e : iv r 0 2 = b) (w0 w : World) (h : LatI w0 w) : Calls Tryz.prog 27 #[.int .i64 r] w fun e w' => e = .returned (.bool b) ∧ LatI w0 w' :=
  (spec_node r w).mono fun _ w' hh => ⟨e ▸ hh.1, hh.2 ▸ h⟩
set_option maxRecDepth 100000 in
set_option maxHeartbeats 3000000 in
theorem spec_lead (x : Ld) (d f : Value) (w : World) (h : LPts w x d f) :
    Calls Tryz.prog 30 #[.agg #[.int .i64 x.rep, .int .i64 x.slot, .int .i64 x.bal, .int .i64 x.ph, .int .i64 x.seq, d, f, .bool x.same]] w fun e w' => e = .returned (.bool (ldB x)) ∧ Below w.heap.size w w' := by
  obtain ⟨⟨a1, n1, c1, rfl⟩, a2, n2, c2, rfl⟩ := h.form
  have PH := Lib.hid h
  have X0 := Lib.hid (Bx.new w 70 #[.int .i64 x.rep, .int .i64 x.slot, .int .i64 x.bal, .int .i64 x.ph, .int .i64 x.seq, .slice a1 n1 c1, .slice a2 n2 c2, .bool x.same] _ rfl)
  have A0 := Lib.hid ((Af.refl w).alloc (.cells #[.int .i64 x.rep, .int .i64 x.slot, .int .i64 x.bal, .int .i64 x.ph, .int .i64 x.seq, .slice a1 n1 c1, .slice a2 n2 c2, .bool x.same] 70))
  clear h
  go_enter Tryz.func30, Tryz.ntmps30
  go_wp2_with fail
  refine (spec_id x.rep x.slot _).mono ?_
  rintro e w1 ⟨rfl, bb⟩
  have X1 := Lib.hid (X0.out.after bb)
  have A1 := Lib.hid (A0.out.after bb)
  clear bb X0 A0
  cases q0 : idB x.rep x.slot
  case false =>
    have HF := Lib.hid (show ldB x = false by rw [ldB_eq]; simp [q0])
    go_wp2
    go_ret
    exact ⟨by rw [HF.out]; rfl, A1.out⟩
  obtain ⟨x0, x1, x2, x3, x4, x5, x6, x7⟩ := X1.out.c8L
  go_wp2_with fail
  clear x0 x1 x2 x3 x4 x5 x6 x7
  refine (idin_s x.bal 0 600 _).mono ?_
  rintro e w2 ⟨rfl, rfl⟩
  have X2 := X1
  have A2 := A1
  clear X1 A1
  cases q1 : iv x.bal 0 600
  case false =>
    have HF := Lib.hid (show ldB x = false by rw [ldB_eq]; simp [q0, q1])
    go_wp2
    go_ret
    exact ⟨by rw [HF.out]; rfl, A2.out⟩
  obtain ⟨x0, x1, x2, x3, x4, x5, x6, x7⟩ := X2.out.c8L
  go_wp2_with fail
  clear x0 x1 x2 x3 x4 x5 x6 x7
  refine (idin_s x.ph 1 3 _).mono ?_
  rintro e w3 ⟨rfl, rfl⟩
  have X3 := X2
  have A3 := A2
  clear X2 A2
  cases q2 : iv x.ph 1 3
  case false =>
    have HF := Lib.hid (show ldB x = false by rw [ldB_eq]; simp [q0, q1, q2])
    go_wp2
    go_ret
    exact ⟨by rw [HF.out]; rfl, A3.out⟩
  obtain ⟨x0, x1, x2, x3, x4, x5, x6, x7⟩ := X3.out.c8L
  go_wp2_with fail
  clear x0 x1 x2 x3 x4 x5 x6 x7
  refine (idin_s x.seq 0 60 _).mono ?_
  rintro e w4 ⟨rfl, rfl⟩
  have X4 := X3
  have A4 := A3
  clear X3 A3
  cases q3 : iv x.seq 0 60
  case false =>
    have HF := Lib.hid (show ldB x = false by rw [ldB_eq]; simp [q0, q1, q2, q3])
    go_wp2
    go_ret
    exact ⟨by rw [HF.out]; rfl, A4.out⟩
  obtain ⟨x0, x1, x2, x3, x4, x5, x6, x7⟩ := X4.out.c8L
  go_wp2_with fail
  clear x0 x1 x2 x3 x4 x5 x6 x7
  refine (spec_ids _ x.deps _ (PH.out.later A4.out).1).mono ?_
  rintro e w5 ⟨rfl, bb⟩
  have X5 := Lib.hid (X4.out.after bb)
  have A5 := Lib.hid (A4.out.after bb)
  clear bb X4 A4
  cases q4 : idlB x.deps
  case false =>
    have HF := Lib.hid (show ldB x = false by rw [ldB_eq]; simp [q0, q1, q2, q3, q4])
    go_wp2
    go_ret
    exact ⟨by rw [HF.out]; rfl, A5.out⟩
  obtain ⟨x0, x1, x2, x3, x4, x5, x6, x7⟩ := X5.out.c8L
  go_wp2_with fail
  clear x0 x1 x2 x3 x4 x5 x6 x7
  refine (spec_has _ x.deps x.rep x.slot _ (PH.out.later A5.out).1).mono ?_
  rintro e w6 ⟨rfl, bb⟩
  have X6 := Lib.hid (X5.out.after bb)
  have A6 := Lib.hid (A5.out.after bb)
  clear bb X5 A5
  cases q5 : hasB x.deps x.rep x.slot
  case true =>
    have HF := Lib.hid (show ldB x = false by rw [ldB_eq]; simp [q0, q1, q2, q3, q4, q5])
    go_wp2
    go_ret
    exact ⟨by rw [HF.out]; rfl, A6.out⟩
  have HF := Lib.hid (show ldB x = frmB x.frm by rw [ldB_eq]; simp [q0, q1, q2, q3, q4, q5])
  obtain ⟨h1, a, ca, he, hca, ha⟩ := (PH.out).2
  simp only [Value.slice.injEq] at he
  obtain ⟨rfl, rfl, rfl⟩ := he
  obtain ⟨l, hl⟩ : ∃ l, x.frm = l := ⟨_, rfl⟩
  rw [hl] at HF h1 hca ha X6
  generalize hn : l.length = n at h1 ha hca X6
  have HN := Lib.hid hn
  have HA := Lib.hid ha
  by_cases h3 : n ≤ 3
  case neg =>
    have HX := Lib.hid (show frmB l = false by
      cases e : frmB l
      · rfl
      · have := frmB_len e; omega)
    have hd : decide (3 < (n : Int)) = true := dec_t (by omega)
    obtain ⟨x0, x1, x2, x3, x4, x5, x6, x7⟩ := X6.out.c8L
    clear hn ha hca
    go_wp2
    go_ret
    exact ⟨by rw [HF.out, HX.out]; rfl, A6.out⟩
  have hd : decide (3 < (n : Int)) = false := dec_f (by omega)
  have XB0 := X6
  have AB0 := A6
  clear hn ha hca X6 A6 q0 q1 q2 q3 q4 q5
  obtain ⟨x0, x1, x2, x3, x4, x5, x6, x7⟩ := XB0.out.c8L
  go_wp2
  go_loopw [3] (fun i wr => ∃ k : Nat, k ≤ n ∧ i = .int .i64 k ∧ (∀ j, j < k → okNs l j = true) ∧ Bx wr w.heap.size 70 #[.int .i64 x.rep, .int .i64 x.slot, .int .i64 x.bal, .int .i64 x.ph, .int .i64 x.seq, .slice a1 n1 c1, .slice a2 n c2, .bool x.same] ∧ Af w wr) (fun i _ => n - (intOf i).toNat)
  case atStart => exact ⟨0, by omega, rfl, fun j hj => by omega, XB0.out, AB0.out⟩
  case round =>
    clear x0 x1 x2 x3 x4 x5 x6 x7 XB0 AB0
    obtain ⟨k, hk, rfl, he, hxb, hbw⟩ := hrel
    have HE := Lib.hid he
    have HBW := Lib.hid hbw
    have XB := Lib.hid hxb
    clear he hbw hxb hd
    obtain ⟨x0, x1, x2, x3, x4, x5, x6, x7⟩ := XB.out.c8L
    by_cases hlt : k < n
    · obtain ⟨x', o, rfl, hx, hcx⟩ := HA.out (by omega)
      have HCX := Lib.hid hcx
      have CK := Lib.hid (show wr.cell? ⟨x', o + k, none⟩ = some (.int .i64 (nI l k)) from by rw [Below.cell HBW.out (p := ⟨x', o + k, none⟩) hx]; exact hcx k hlt)
      have hxr : x' < wr.heap.size := Nat.lt_of_lt_of_le hx (Af.size HBW.out)
      have y1 : (k : Int) < (n : Int) := by omega
      have y0 : (0 : Int) ≤ (k : Int) := by omega
      clear hcx
      cases hid : iv (nI l k) 0 2
      · have HK := Lib.hid (show okNs l k = false by rw [okNs_eq, hid]; rfl)
        have HC1 := Lib.hid (fun W (h : LatI wr W) => l_spec_node (nI l k) _ hid wr W h)
        clear hid
        go_wp2_with fail
        have HL := Lib.hid (fun W (h : LatI wr W) => (show W.cell? ⟨w.heap.size, 6, none⟩ = some (.slice (some ⟨x', o, none⟩) n c2) ∧ W.cell? ⟨x', o + k, none⟩ = some (.int .i64 (nI l k)) from ⟨(XB.out.after h).cell 6 _ rfl, by rw [h.cell (p := ⟨x', o + k, none⟩) hxr]; exact CK.out⟩))
        refine wp_region_quiet (C := LatI wr) (by kernel_rfl) (by kernel_rfl) (show LatI wr wr.drew from Below.drew (Below.refl _ _)) ?_
        dsimp only
        repeat (first | go_big_quiet_skip | (go_big_quiet_want; go_big_quiet_op; (first | go_big_quiet_on | (refine ⟨_, fun _ _ => rfl, ?_⟩; go_big_quiet_on) | (refine ⟨.slice (some ⟨x', o, none⟩) n c2, ?_, ?_⟩; intro w' hw'; obtain ⟨d0, d1⟩ := HL.out w' hw'; simp [d0, Result.andThen]; go_big_quiet_on) | (refine ⟨.int .i64 (nI l k), ?_, ?_⟩; intro w' hw'; obtain ⟨d0, d1⟩ := HL.out w' hw'; simp [d1, Result.andThen]; go_big_quiet_on) | (refine ⟨_, fun w' hw' => HC1.out w' hw', ?_⟩; go_big_quiet_on))))
        refine wpQuiet_nil ?_
        intro w2 L2
        have HB2 := Lib.hid (HBW.out.after L2)
        have XB2 := Lib.hid (XB.out.after L2)
        clear L2 HL
        go_wp2
        go_ret
        exact ⟨by rw [HF.out, frmB_no l k (by rw [HN.out]; exact hlt) HK.out]; rfl, HB2.out⟩
      · by_cases hk0 : k = 0
        · have HK := Lib.hid (show okNs l k = true by subst hk0; rw [okNs_zero, hid])
          have hz : decide (0 < k) = false := dec_f (by omega)
          clear hk0
          have HC1 := Lib.hid (fun W (h : LatI wr W) => l_spec_node (nI l k) _ hid wr W h)
          clear hid
          go_wp2_with fail
          have HL := Lib.hid (fun W (h : LatI wr W) => (show W.cell? ⟨w.heap.size, 6, none⟩ = some (.slice (some ⟨x', o, none⟩) n c2) ∧ W.cell? ⟨x', o + k, none⟩ = some (.int .i64 (nI l k)) from ⟨(XB.out.after h).cell 6 _ rfl, by rw [h.cell (p := ⟨x', o + k, none⟩) hxr]; exact CK.out⟩))
          refine wp_region_quiet (C := LatI wr) (by kernel_rfl) (by kernel_rfl) (show LatI wr wr.drew from Below.drew (Below.refl _ _)) ?_
          dsimp only
          repeat (first | go_big_quiet_skip | (go_big_quiet_want; go_big_quiet_op; (first | go_big_quiet_on | (refine ⟨_, fun _ _ => rfl, ?_⟩; go_big_quiet_on) | (refine ⟨.slice (some ⟨x', o, none⟩) n c2, ?_, ?_⟩; intro w' hw'; obtain ⟨d0, d1⟩ := HL.out w' hw'; simp [d0, Result.andThen]; go_big_quiet_on) | (refine ⟨.int .i64 (nI l k), ?_, ?_⟩; intro w' hw'; obtain ⟨d0, d1⟩ := HL.out w' hw'; simp [d1, Result.andThen]; go_big_quiet_on) | (refine ⟨_, fun w' hw' => HC1.out w' hw', ?_⟩; go_big_quiet_on))))
          refine wpQuiet_nil ?_
          intro w2 L2
          have HB2 := Lib.hid (HBW.out.after L2)
          have XB2 := Lib.hid (XB.out.after L2)
          clear L2 HL
          go_wp2
          go_roundw
          case rel =>
            refine ⟨k + 1, by omega, by go_num, fun j hj => ?_, XB2.out, HB2.out⟩
            by_cases e : j = k
            · subst e; exact HK.out
            · exact HE.out j (by omega)
          case measure => simp only [intOf]; omega
        · have hz : decide (0 < k) = true := dec_t (by omega)
          have y2 : (0 : Int) ≤ (k : Int) - 1 := by omega
          have y3 : (k : Int) - 1 < (n : Int) := by omega
          have y4 : ((k : Int) - 1).toNat = k - 1 := by omega
          have CP := Lib.hid (show wr.cell? ⟨x', o + (k - 1), none⟩ = some (.int .i64 (nI l (k - 1))) from by rw [Below.cell HBW.out (p := ⟨x', o + (k - 1), none⟩) hx]; exact HCX.out (k - 1) (by omega))
          cases hlt2 : decide (nI l (k - 1) < nI l k)
          · have HK := Lib.hid (show okNs l k = false by rw [okNs_succ _ _ (by omega), hid, hlt2]; rfl)
            have hge : decide (nI l k ≤ nI l (k - 1)) = true := by rw [decide_eq_false_iff_not] at hlt2; exact dec_t (by omega)
            clear hk0
            have HC1 := Lib.hid (fun W (h : LatI wr W) => l_spec_node (nI l k) _ hid wr W h)
            clear hid hlt2
            go_wp2_with fail
            have HL := Lib.hid (fun W (h : LatI wr W) => (show W.cell? ⟨w.heap.size, 6, none⟩ = some (.slice (some ⟨x', o, none⟩) n c2) ∧ W.cell? ⟨x', o + k, none⟩ = some (.int .i64 (nI l k)) ∧ W.cell? ⟨x', o + (k - 1), none⟩ = some (.int .i64 (nI l (k - 1))) from ⟨(XB.out.after h).cell 6 _ rfl, by rw [h.cell (p := ⟨x', o + k, none⟩) hxr]; exact CK.out, by rw [h.cell (p := ⟨x', o + (k - 1), none⟩) hxr]; exact CP.out⟩))
            refine wp_region_quiet (C := LatI wr) (by kernel_rfl) (by kernel_rfl) (show LatI wr wr.drew from Below.drew (Below.refl _ _)) ?_
            dsimp only
            repeat (first | go_big_quiet_skip | (go_big_quiet_want; go_big_quiet_op; (first | go_big_quiet_on | (refine ⟨_, fun _ _ => rfl, ?_⟩; go_big_quiet_on) | (refine ⟨.slice (some ⟨x', o, none⟩) n c2, ?_, ?_⟩; intro w' hw'; obtain ⟨d0, d1, d2⟩ := HL.out w' hw'; simp [d0, Result.andThen]; go_big_quiet_on) | (refine ⟨.int .i64 (nI l k), ?_, ?_⟩; intro w' hw'; obtain ⟨d0, d1, d2⟩ := HL.out w' hw'; simp [d1, Result.andThen]; go_big_quiet_on) | (refine ⟨.int .i64 (nI l (k - 1)), ?_, ?_⟩; intro w' hw'; obtain ⟨d0, d1, d2⟩ := HL.out w' hw'; simp [d2, Result.andThen]; go_big_quiet_on) | (refine ⟨_, fun w' hw' => HC1.out w' hw', ?_⟩; go_big_quiet_on))))
            refine wpQuiet_nil ?_
            intro w2 L2
            have HB2 := Lib.hid (HBW.out.after L2)
            have XB2 := Lib.hid (XB.out.after L2)
            clear L2 HL
            go_wp2
            go_ret
            exact ⟨by rw [HF.out, frmB_no l k (by rw [HN.out]; exact hlt) HK.out]; rfl, HB2.out⟩
          · have HK := Lib.hid (show okNs l k = true by rw [okNs_succ _ _ (by omega), hid, hlt2]; rfl)
            have hge : decide (nI l k ≤ nI l (k - 1)) = false := by rw [decide_eq_true_eq] at hlt2; exact dec_f (by omega)
            clear hk0
            have HC1 := Lib.hid (fun W (h : LatI wr W) => l_spec_node (nI l k) _ hid wr W h)
            clear hid hlt2
            go_wp2_with fail
            have HL := Lib.hid (fun W (h : LatI wr W) => (show W.cell? ⟨w.heap.size, 6, none⟩ = some (.slice (some ⟨x', o, none⟩) n c2) ∧ W.cell? ⟨x', o + k, none⟩ = some (.int .i64 (nI l k)) ∧ W.cell? ⟨x', o + (k - 1), none⟩ = some (.int .i64 (nI l (k - 1))) from ⟨(XB.out.after h).cell 6 _ rfl, by rw [h.cell (p := ⟨x', o + k, none⟩) hxr]; exact CK.out, by rw [h.cell (p := ⟨x', o + (k - 1), none⟩) hxr]; exact CP.out⟩))
            refine wp_region_quiet (C := LatI wr) (by kernel_rfl) (by kernel_rfl) (show LatI wr wr.drew from Below.drew (Below.refl _ _)) ?_
            dsimp only
            repeat (first | go_big_quiet_skip | (go_big_quiet_want; go_big_quiet_op; (first | go_big_quiet_on | (refine ⟨_, fun _ _ => rfl, ?_⟩; go_big_quiet_on) | (refine ⟨.slice (some ⟨x', o, none⟩) n c2, ?_, ?_⟩; intro w' hw'; obtain ⟨d0, d1, d2⟩ := HL.out w' hw'; simp [d0, Result.andThen]; go_big_quiet_on) | (refine ⟨.int .i64 (nI l k), ?_, ?_⟩; intro w' hw'; obtain ⟨d0, d1, d2⟩ := HL.out w' hw'; simp [d1, Result.andThen]; go_big_quiet_on) | (refine ⟨.int .i64 (nI l (k - 1)), ?_, ?_⟩; intro w' hw'; obtain ⟨d0, d1, d2⟩ := HL.out w' hw'; simp [d2, Result.andThen]; go_big_quiet_on) | (refine ⟨_, fun w' hw' => HC1.out w' hw', ?_⟩; go_big_quiet_on))))
            refine wpQuiet_nil ?_
            intro w2 L2
            have HB2 := Lib.hid (HBW.out.after L2)
            have XB2 := Lib.hid (XB.out.after L2)
            clear L2 HL
            go_wp2
            go_roundw
            case rel =>
              refine ⟨k + 1, by omega, by go_num, fun j hj => ?_, XB2.out, HB2.out⟩
              by_cases e : j = k
              · subst e; exact HK.out
              · exact HE.out j (by omega)
            case measure => simp only [intOf]; omega
    · obtain rfl : k = n := by omega
      go_wp2
      go_ret
      exact ⟨by rw [HF.out, frmB_yes l (fun j hj => HE.out j (by rw [← HN.out]; exact hj))]; rfl, HBW.out⟩
end Go.Proofs.YtckeeadkhopljaaGreatDoor
/- When a Lead is valid: the program's walk. -/
namespace Go.Proofs.YtckeeadkhopljaaGreatDoor
open Go.RowKit Go.PlainAid
set_option linter.unusedVariables false

theorem impl_less (a b : Int) (w : World) : Calls Tryz.prog 89 #[.int .i64 a, .int .i64 b] w fun e w' => e = .returned (.bool (decide (a < b))) ∧ w = w' := by
  cases h : decide (a < b)
  · go_enter Tryz.func89, Tryz.ntmps89
    go_wp2
    go_ret
    exact ⟨by rw [← h]; rfl, rfl⟩
  · go_enter Tryz.func89, Tryz.ntmps89
    go_wp2
    go_ret
    exact ⟨by rw [← h]; rfl, rfl⟩
theorem l_impl_rep (r : Int) (b : Bool) (e : iv r 0 2 = b) (w0 w : World) (h : LatI w0 w) : Calls Tryz.prog 35 #[.int .i64 r] w fun e w' => e = .returned (.bool b) ∧ LatI w0 w' :=
  (impl_rep r w).mono fun _ w' hh => ⟨e ▸ hh.1, hh.2 ▸ h⟩
theorem l_less (x y : Int) (b : Bool) (e : decide (x < y) = b) (w0 w : World) (h : LatI w0 w) : Calls Tryz.prog 89 #[.int .i64 x, .int .i64 y] w fun e w' => e = .returned (.bool b) ∧ LatI w0 w' :=
  (impl_less x y w).mono fun _ w' hh => ⟨e ▸ hh.1, hh.2 ▸ h⟩
set_option maxRecDepth 100000 in
set_option maxHeartbeats 2000000 in
theorem impl_orderedN (v : Value) (l : List Int) (w : World) (hv : Ns w v l) :
    Calls Tryz.prog 88 #[v, .func (.func 35) #[] #[], .func (.func 89) #[] #[]] w fun e w' => e = .returned (.bool (frmB l)) ∧ Below w.heap.size w w' := by
  obtain ⟨h1, a, ca, rfl, hca, ha⟩ := hv
  generalize hn : l.length = n at h1 ha hca
  have HN := Lib.hid hn
  have HA := Lib.hid ha
  clear hn ha hca
  go_enter Tryz.func88, Tryz.ntmps88
  go_wp2
  go_loopw [11] (fun i wr => ∃ k : Nat, k ≤ n ∧ i = .int .i64 k ∧ (∀ j, j < k → okNs l j = true) ∧ Below w.heap.size w wr) (fun i _ => n - (intOf i).toNat)
  case atStart => exact ⟨0, by omega, rfl, fun j hj => by omega, Below.refl _ _⟩
  case round =>
    obtain ⟨k, hk, rfl, he, hbw⟩ := hrel
    have HE := Lib.hid he
    have HBW := Lib.hid hbw
    clear he hbw
    by_cases hlt : k < n
    · obtain ⟨x, o, rfl, hx, hcx⟩ := HA.out (by omega)
      have HCX := Lib.hid hcx
      have CK := Lib.hid (show wr.cell? ⟨x, o + k, none⟩ = some (.int .i64 (nI l k)) from by rw [HBW.out.cell (p := ⟨x, o + k, none⟩) hx]; exact hcx k hlt)
      have hxr : x < wr.heap.size := Nat.lt_of_lt_of_le hx HBW.out.size
      have y1 : (k : Int) < (n : Int) := by omega
      have y0 : (0 : Int) ≤ (k : Int) := by omega
      clear hcx
      cases hid : iv (nI l k) 0 2
      · have HK := Lib.hid (show okNs l k = false by rw [okNs_eq, hid]; rfl)
        skip
        have c1 := CK.out
        go_wp2_with (first | (go_at_call 35; refine (impl_rep _ _).mono ?_; rintro e w' ⟨rfl, rfl⟩) | (go_at_call 89; refine (impl_less _ _ _).mono ?_; rintro e w' ⟨rfl, rfl⟩))
        go_ret
        exact ⟨by rw [frmB_no l k (by rw [HN.out]; exact hlt) HK.out]; rfl, HBW.out⟩
      · by_cases hk0 : k = 0
        · have HK := Lib.hid (show okNs l k = true by subst hk0; rw [okNs_zero, hid])
          have hz : decide (0 < k) = false := dec_f (by omega)
          clear hk0
          skip
          have c1 := CK.out
          go_wp2_with (first | (go_at_call 35; refine (impl_rep _ _).mono ?_; rintro e w' ⟨rfl, rfl⟩) | (go_at_call 89; refine (impl_less _ _ _).mono ?_; rintro e w' ⟨rfl, rfl⟩))
          go_roundw
          case rel =>
            refine ⟨k + 1, by omega, by go_num, fun j hj => ?_, HBW.out⟩
            by_cases e : j = k
            · subst e; exact HK.out
            · exact HE.out j (by omega)
          case measure => simp only [intOf]; omega
        · have hz : decide (0 < k) = true := dec_t (by omega)
          have y2 : (0 : Int) ≤ (k : Int) - 1 := by omega
          have y3 : (k : Int) - 1 < (n : Int) := by omega
          have y4 : ((k : Int) - 1).toNat = k - 1 := by omega
          have CP := Lib.hid (show wr.cell? ⟨x, o + (k - 1), none⟩ = some (.int .i64 (nI l (k - 1))) from by rw [HBW.out.cell (p := ⟨x, o + (k - 1), none⟩) hx]; exact HCX.out (k - 1) (by omega))
          cases hlt2 : decide (nI l (k - 1) < nI l k)
          · have HK := Lib.hid (show okNs l k = false by rw [okNs_succ _ _ (by omega), hid, hlt2]; rfl)
            skip
            clear hk0
            skip
            have c1 := CK.out
            have c0 := CP.out
            go_wp2_with (first | (go_at_call 35; refine (impl_rep _ _).mono ?_; rintro e w' ⟨rfl, rfl⟩) | (go_at_call 89; refine (impl_less _ _ _).mono ?_; rintro e w' ⟨rfl, rfl⟩))
            go_ret
            exact ⟨by rw [frmB_no l k (by rw [HN.out]; exact hlt) HK.out]; rfl, HBW.out⟩
          · have HK := Lib.hid (show okNs l k = true by rw [okNs_succ _ _ (by omega), hid, hlt2]; rfl)
            skip
            clear hk0
            skip
            have c1 := CK.out
            have c0 := CP.out
            go_wp2_with (first | (go_at_call 35; refine (impl_rep _ _).mono ?_; rintro e w' ⟨rfl, rfl⟩) | (go_at_call 89; refine (impl_less _ _ _).mono ?_; rintro e w' ⟨rfl, rfl⟩))
            go_roundw
            case rel =>
              refine ⟨k + 1, by omega, by go_num, fun j hj => ?_, HBW.out⟩
              by_cases e : j = k
              · subst e; exact HK.out
              · exact HE.out j (by omega)
            case measure => simp only [intOf]; omega
    · obtain rfl : k = n := by omega
      go_wp2
      go_ret
      exact ⟨by rw [frmB_yes l (fun j hj => HE.out j (by rw [← HN.out]; exact hj))]; rfl, HBW.out⟩
set_option maxRecDepth 100000 in
set_option maxHeartbeats 3000000 in
theorem impl_lead (x : Ld) (d f : Value) (w : World) (h : LPts w x d f) :
    Calls Tryz.prog 71 #[.agg #[.int .i64 x.rep, .int .i64 x.slot, .int .i64 x.bal, .int .i64 x.ph, .int .i64 x.seq, d, f, .bool x.same]] w fun e w' => e = .returned (.bool (ldB x)) ∧ Below w.heap.size w w' := by
  obtain ⟨⟨a1, n1, c1, rfl⟩, a2, n2, c2, rfl⟩ := h.form
  have PH := Lib.hid h
  have X0 := Lib.hid (Bx.new w 70 #[.int .i64 x.rep, .int .i64 x.slot, .int .i64 x.bal, .int .i64 x.ph, .int .i64 x.seq, .slice a1 n1 c1, .slice a2 n2 c2, .bool x.same] _ rfl)
  have A0 := Lib.hid ((Af.refl w).alloc (.cells #[.int .i64 x.rep, .int .i64 x.slot, .int .i64 x.bal, .int .i64 x.ph, .int .i64 x.seq, .slice a1 n1 c1, .slice a2 n2 c2, .bool x.same] 70))
  clear h
  go_enter Tryz.func71, Tryz.ntmps71
  go_wp2_with fail
  refine (impl_id x.rep x.slot _).mono ?_
  rintro e w1 ⟨rfl, bb⟩
  have X1 := Lib.hid (X0.out.after bb)
  have A1 := Lib.hid (A0.out.after bb)
  clear bb X0 A0
  cases q0 : idB x.rep x.slot
  case false =>
    have HF := Lib.hid (show ldB x = false by rw [ldB_eq]; simp [q0])
    go_wp2
    go_ret
    exact ⟨by rw [HF.out]; rfl, A1.out⟩
  obtain ⟨x0, x1, x2, x3, x4, x5, x6, x7⟩ := X1.out.c8L
  go_wp2_with fail
  clear x0 x1 x2 x3 x4 x5 x6 x7
  refine (idin_i x.bal 0 600 _).mono ?_
  rintro e w2 ⟨rfl, rfl⟩
  have X2 := X1
  have A2 := A1
  clear X1 A1
  cases q1 : iv x.bal 0 600
  case false =>
    have HF := Lib.hid (show ldB x = false by rw [ldB_eq]; simp [q0, q1])
    go_wp2
    go_ret
    exact ⟨by rw [HF.out]; rfl, A2.out⟩
  obtain ⟨x0, x1, x2, x3, x4, x5, x6, x7⟩ := X2.out.c8L
  go_wp2_with fail
  clear x0 x1 x2 x3 x4 x5 x6 x7
  refine (idin_i x.ph 1 3 _).mono ?_
  rintro e w3 ⟨rfl, rfl⟩
  have X3 := X2
  have A3 := A2
  clear X2 A2
  cases q2 : iv x.ph 1 3
  case false =>
    have HF := Lib.hid (show ldB x = false by rw [ldB_eq]; simp [q0, q1, q2])
    go_wp2
    go_ret
    exact ⟨by rw [HF.out]; rfl, A3.out⟩
  obtain ⟨x0, x1, x2, x3, x4, x5, x6, x7⟩ := X3.out.c8L
  go_wp2_with fail
  clear x0 x1 x2 x3 x4 x5 x6 x7
  refine (idin_i x.seq 0 60 _).mono ?_
  rintro e w4 ⟨rfl, rfl⟩
  have X4 := X3
  have A4 := A3
  clear X3 A3
  cases q3 : iv x.seq 0 60
  case false =>
    have HF := Lib.hid (show ldB x = false by rw [ldB_eq]; simp [q0, q1, q2, q3])
    go_wp2
    go_ret
    exact ⟨by rw [HF.out]; rfl, A4.out⟩
  obtain ⟨x0, x1, x2, x3, x4, x5, x6, x7⟩ := X4.out.c8L
  go_wp2_with fail
  clear x0 x1 x2 x3 x4 x5 x6 x7
  refine (impl_deps _ x.deps x.rep x.slot _ (PH.out.later A4.out).1).mono ?_
  rintro e w5 ⟨rfl, bb⟩
  have X5 := Lib.hid (X4.out.after bb)
  have A5 := Lib.hid (A4.out.after bb)
  clear bb X4 A4
  cases q4 : (idlB x.deps && !hasB x.deps x.rep x.slot)
  · have HF := Lib.hid (show ldB x = false by rw [ldB_eq, ← Bool.and_assoc (idlB x.deps), q4]; simp)
    go_wp2
    go_ret
    exact ⟨by rw [HF.out]; rfl, A5.out⟩
  obtain ⟨qd1, qd2⟩ : idlB x.deps = true ∧ hasB x.deps x.rep x.slot = false := by simpa using q4
  obtain ⟨x0, x1, x2, x3, x4, x5, x6, x7⟩ := X5.out.c8L
  go_wp2_with fail
  clear x0 x1 x2 x3 x4 x5 x6 x7
  refine (impl_orderedN _ x.frm _ (PH.out.later A5.out).2).mono ?_
  rintro e w6 ⟨rfl, bb⟩
  have X6 := Lib.hid (X5.out.after bb)
  have A6 := Lib.hid (A5.out.after bb)
  clear bb X5 A5
  have HF := Lib.hid (show ldB x = frmB x.frm by rw [ldB_eq]; simp [q0, q1, q2, q3, qd1, qd2])
  go_wp2
  go_ret
  exact ⟨by rw [HF.out]; rfl, A6.out⟩
end Go.Proofs.YtckeeadkhopljaaGreatDoor
