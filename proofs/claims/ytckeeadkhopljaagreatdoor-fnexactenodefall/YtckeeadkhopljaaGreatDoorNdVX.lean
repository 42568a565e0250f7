/- A bundle of texts: NdVs, NdVi, NdVj. -/
import Derived.Test.YtckeeadkhopljaaGreatDoorNdW
import Derived.Test.YtckeeadkhopljaaGreatDoorLdX
import Derived.Test.YtckeeadkhopljaaGreatDoorInLX
/- When a node is valid: the model's walk. -/
namespace Go.Proofs.YtckeeadkhopljaaGreatDoor
open Go.RowKit Go.PlainAid
set_option linter.unusedVariables false

set_option maxRecDepth 100000 in
set_option maxHeartbeats 2000000 in
theorem spec_at9 (x : Nd) (u v : Value) (r s : Int) (w : World) (h : NdP w x u v) :
    Calls Tryz.prog 31 #[.agg #[.int .i64 x.me, .int .i64 x.next, u, v], .agg #[.int .i64 r, .int .i64 s]] w fun e w' => e = .returned (.int .i64 (atZ x.leads r s)) ∧ Below w.heap.size w w' := by
  obtain ⟨⟨a1, n1, c1, rfl⟩, _⟩ := h.form
  obtain ⟨h1, a, ca, rfl, hca, ha⟩ := h.2
  obtain ⟨l, hl⟩ : ∃ l, x.leads = l := ⟨_, rfl⟩
  rw [hl] at h1 hca ha ⊢
  generalize hn : l.length = n at h1 ha hca ⊢
  have HN := Lib.hid hn
  have HA := Lib.hid ha
  have X0 := Lib.hid ((Bx.new w 30 #[.int .i64 x.me, .int .i64 x.next, .slice a1 n1 c1, .slice a n ca] _ rfl).alloc (.cells #[.int .i64 r, .int .i64 s] 63))
  have I0 := Lib.hid (Bx.new (w.alloc (.cells #[.int .i64 x.me, .int .i64 x.next, .slice a1 n1 c1, .slice a n ca] 30)) 63 #[.int .i64 r, .int .i64 s] (w.heap.size + 1) (by simp))
  have A0 := Lib.hid (((Af.refl w).alloc (.cells #[.int .i64 x.me, .int .i64 x.next, .slice a1 n1 c1, .slice a n ca] 30)).alloc (.cells #[.int .i64 r, .int .i64 s] 63))
  clear hn ha hca h hl
  go_enter Tryz.func31, Tryz.ntmps31
  go_wp2
  go_loopw [5] (fun i wr => ∃ k : Nat, k ≤ n ∧ i = .int .i64 k ∧ (∀ j, j < k → ¬ ((nthL l j).rep = r ∧ (nthL l j).slot = s)) ∧ Bx wr w.heap.size 30 #[.int .i64 x.me, .int .i64 x.next, .slice a1 n1 c1, .slice a n ca] ∧ Bx wr (w.heap.size + 1) 63 #[.int .i64 r, .int .i64 s] ∧ Af w wr) (fun i _ => n - (intOf i).toNat)
  case atStart => exact ⟨0, by omega, rfl, fun j hj => by omega, X0.out, I0.out, A0.out⟩
  case round =>
    obtain ⟨k, hk, rfl, he, hx, hi, haf⟩ := hrel
    have HE := Lib.hid he
    have XB := Lib.hid hx
    have IB := Lib.hid hi
    have A := Lib.hid haf
    clear he hx hi haf X0 I0 A0
    obtain ⟨x0, x1, x2, x3⟩ := cells4 XB.out
    have i0 : wr.cell? ⟨w.heap.size + 1, 0, none⟩ = some (.int .i64 r) := IB.out.cell 0 _ rfl
    have i1 : wr.cell? ⟨w.heap.size + 1, 1, none⟩ = some (.int .i64 s) := IB.out.cell 1 _ rfl
    by_cases hlt : k < n
    · obtain ⟨b, o, rfl, hb, hcx⟩ := HA.out (by omega)
      obtain ⟨d, f, cc, pp⟩ := hcx k hlt
      obtain ⟨m0, m1, m2, m3, m4, m5, m6, m7⟩ := cc.below A.out hb
      obtain ⟨q, hq⟩ : ∃ q, nthL l k = q := ⟨_, rfl⟩
      have HQ := Lib.hid hq
      rw [hq] at m0 m1 m2 m3 m4 m7
      have y1 : (k : Int) < (n : Int) := by omega
      have y0 : (0 : Int) ≤ (k : Int) := by omega
      have hbr : b < wr.heap.size := Nat.lt_of_lt_of_le hb (Af.size A.out)
      have HL := Lib.hid (fun W (h : LatI wr W) => And.intro (cells4 (XB.out.after h)) (And.intro (And.intro ((h.cell (p := ⟨w.heap.size + 1, 0, none⟩) IB.out.lt).trans i0) ((h.cell (p := ⟨w.heap.size + 1, 1, none⟩) IB.out.lt).trans i1)) (And.intro ((h.cell (p := ⟨b, o + k * 8, none⟩) hbr).trans m0) ((h.cell (p := ⟨b, o + k * 8 + 1, none⟩) hbr).trans m1))))
      clear hcx cc pp hq
      by_cases hr1 : q.rep = r
      · by_cases hr2 : q.slot = s
        · have HX := Lib.hid (show atZ l r s = k from atZ_hit l r s k (by rw [HN.out]; exact hlt) HE.out (by rw [HQ.out]; exact hr1) (by rw [HQ.out]; exact hr2))
          have hs1 : (q.rep == r) = true := by simpa using hr1
          have hs2 : (q.slot == s) = true := by simpa using hr2
          clear hr1 hr2
          go_wp2_with fail
          refine wp_region_quiet (C := LatI wr) (by kernel_rfl) (by kernel_rfl) (show LatI wr wr.drew from Below.drew (Below.refl _ _)) ?_
          dsimp only
          repeat (first | go_big_quiet_skip | (go_big_quiet_want; go_big_quiet_op; (first | go_big_quiet_on | (refine ⟨_, fun _ _ => rfl, ?_⟩; go_big_quiet_on) | (refine ⟨.slice (some ⟨b, o, none⟩) n ca, ?_, ?_⟩; intro w' hw'; obtain ⟨⟨e0, e1, e2, e3⟩, ⟨d0, d1⟩, p0, p1⟩ := HL.out w' hw'; simp [e3, Result.andThen]; go_big_quiet_on) | (refine ⟨.agg #[.int .i64 r, .int .i64 s], ?_, ?_⟩; intro w' hw'; obtain ⟨⟨e0, e1, e2, e3⟩, ⟨d0, d1⟩, p0, p1⟩ := HL.out w' hw'; simp [d0, d1, Result.andThen]; go_big_quiet_on) | (refine ⟨.agg #[.int .i64 q.rep, .int .i64 q.slot], ?_, ?_⟩; intro w' hw'; obtain ⟨⟨e0, e1, e2, e3⟩, ⟨d0, d1⟩, p0, p1⟩ := HL.out w' hw'; simp [p0, p1, Result.andThen]; go_big_quiet_on))))
          refine wpQuiet_nil ?_
          intro w2 L2
          have A2 := Lib.hid (A.out.after L2)
          have X2 := Lib.hid (XB.out.after L2)
          have I2 := Lib.hid (IB.out.after L2)
          clear L2 HL
          go_wp2
          go_ret
          exact ⟨by rw [HX.out]; rfl, A2.out⟩
        · have HNE := Lib.hid (show ¬ ((nthL l k).rep = r ∧ (nthL l k).slot = s) by rw [HQ.out]; exact fun e => hr2 e.2)
          have hs1 : (q.rep == r) = true := by simpa using hr1
          have hs2 : (q.slot == s) = false := ine_no hr2
          clear hr1 hr2
          go_wp2_with fail
          refine wp_region_quiet (C := LatI wr) (by kernel_rfl) (by kernel_rfl) (show LatI wr wr.drew from Below.drew (Below.refl _ _)) ?_
          dsimp only
          repeat (first | go_big_quiet_skip | (go_big_quiet_want; go_big_quiet_op; (first | go_big_quiet_on | (refine ⟨_, fun _ _ => rfl, ?_⟩; go_big_quiet_on) | (refine ⟨.slice (some ⟨b, o, none⟩) n ca, ?_, ?_⟩; intro w' hw'; obtain ⟨⟨e0, e1, e2, e3⟩, ⟨d0, d1⟩, p0, p1⟩ := HL.out w' hw'; simp [e3, Result.andThen]; go_big_quiet_on) | (refine ⟨.agg #[.int .i64 r, .int .i64 s], ?_, ?_⟩; intro w' hw'; obtain ⟨⟨e0, e1, e2, e3⟩, ⟨d0, d1⟩, p0, p1⟩ := HL.out w' hw'; simp [d0, d1, Result.andThen]; go_big_quiet_on) | (refine ⟨.agg #[.int .i64 q.rep, .int .i64 q.slot], ?_, ?_⟩; intro w' hw'; obtain ⟨⟨e0, e1, e2, e3⟩, ⟨d0, d1⟩, p0, p1⟩ := HL.out w' hw'; simp [p0, p1, Result.andThen]; go_big_quiet_on))))
          refine wpQuiet_nil ?_
          intro w2 L2
          have A2 := Lib.hid (A.out.after L2)
          have X2 := Lib.hid (XB.out.after L2)
          have I2 := Lib.hid (IB.out.after L2)
          clear L2 HL
          go_wp2
          go_roundw
          case rel =>
            refine ⟨k + 1, by omega, by go_num, fun j hj => ?_, X2.out, I2.out, A2.out⟩
            by_cases e : j = k
            · subst e; exact HNE.out
            · exact HE.out j (by omega)
          case measure => simp only [intOf]; omega
      · have HNE := Lib.hid (show ¬ ((nthL l k).rep = r ∧ (nthL l k).slot = s) by rw [HQ.out]; exact fun e => hr1 e.1)
        have hs1 : (q.rep == r) = false := ine_no hr1
        clear hr1
        go_wp2_with fail
        refine wp_region_quiet (C := LatI wr) (by kernel_rfl) (by kernel_rfl) (show LatI wr wr.drew from Below.drew (Below.refl _ _)) ?_
        dsimp only
        repeat (first | go_big_quiet_skip | (go_big_quiet_want; go_big_quiet_op; (first | go_big_quiet_on | (refine ⟨_, fun _ _ => rfl, ?_⟩; go_big_quiet_on) | (refine ⟨.slice (some ⟨b, o, none⟩) n ca, ?_, ?_⟩; intro w' hw'; obtain ⟨⟨e0, e1, e2, e3⟩, ⟨d0, d1⟩, p0, p1⟩ := HL.out w' hw'; simp [e3, Result.andThen]; go_big_quiet_on) | (refine ⟨.agg #[.int .i64 r, .int .i64 s], ?_, ?_⟩; intro w' hw'; obtain ⟨⟨e0, e1, e2, e3⟩, ⟨d0, d1⟩, p0, p1⟩ := HL.out w' hw'; simp [d0, d1, Result.andThen]; go_big_quiet_on) | (refine ⟨.agg #[.int .i64 q.rep, .int .i64 q.slot], ?_, ?_⟩; intro w' hw'; obtain ⟨⟨e0, e1, e2, e3⟩, ⟨d0, d1⟩, p0, p1⟩ := HL.out w' hw'; simp [p0, p1, Result.andThen]; go_big_quiet_on))))
        refine wpQuiet_nil ?_
        intro w2 L2
        have A2 := Lib.hid (A.out.after L2)
        have X2 := Lib.hid (XB.out.after L2)
        have I2 := Lib.hid (IB.out.after L2)
        clear L2 HL
        go_wp2
        go_roundw
        case rel =>
          refine ⟨k + 1, by omega, by go_num, fun j hj => ?_, X2.out, I2.out, A2.out⟩
          by_cases e : j = k
          · subst e; exact HNE.out
          · exact HE.out j (by omega)
        case measure => simp only [intOf]; omega
    · obtain rfl : k = n := by omega
      have HX := Lib.hid (atZ_miss l r s (fun j hj => HE.out j (by rw [← HN.out]; exact hj)))
      go_wp2
      go_ret
      exact ⟨by rw [HX.out]; rfl, A.out⟩
theorem l_spec_lead (x : Ld) (d f : Value) (b : Bool) (e : ldB x = b) (w0 w : World) (hp : LPts w0 x d f) (h : LatI w0 w) : Calls Tryz.prog 30 #[.agg #[.int .i64 x.rep, .int .i64 x.slot, .int .i64 x.bal, .int .i64 x.ph, .int .i64 x.seq, d, f, .bool x.same]] w fun e w' => e = .returned (.bool b) ∧ LatI w0 w' :=
  (spec_lead x d f w (hp.later h)).mono fun _ w' hh => ⟨e ▸ hh.1, h.trans hh.2⟩
theorem l_spec_at9 (x : Nd) (u v : Value) (r s z : Int) (e : atZ x.leads r s = z) (w0 w : World) (hp : NdP w0 x u v) (h : LatI w0 w) : Calls Tryz.prog 31 #[.agg #[.int .i64 x.me, .int .i64 x.next, u, v], .agg #[.int .i64 r, .int .i64 s]] w fun e w' => e = .returned (.int .i64 z) ∧ LatI w0 w' :=
  (spec_at9 x u v r s w (hp.later h)).mono fun _ w' hh => ⟨e ▸ hh.1, h.trans hh.2⟩
set_option maxRecDepth 100000 in
set_option maxHeartbeats 4000000 in
theorem spec_nodeOk (x : Nd) (u v : Value) (w : World) (h : NdP w x u v) :
    Calls Tryz.prog 13 #[.agg #[.int .i64 x.me, .int .i64 x.next, u, v]] w fun e w' => e = .returned (.bool (nodeB x)) ∧ Below w.heap.size w w' := by
  obtain ⟨⟨a1, n1, c1, rfl⟩, a2, n2, c2, rfl⟩ := h.form
  have PH := Lib.hid h
  have X0 := Lib.hid (Bx.new w 30 #[.int .i64 x.me, .int .i64 x.next, .slice a1 n1 c1, .slice a2 n2 c2] _ rfl)
  have A0 := Lib.hid ((Af.refl w).alloc (.cells #[.int .i64 x.me, .int .i64 x.next, .slice a1 n1 c1, .slice a2 n2 c2] 30))
  clear h
  go_enter Tryz.func13, Tryz.ntmps13
  go_wp2_with fail
  refine (spec_node x.me _).mono ?_
  rintro e w1 ⟨rfl, rfl⟩
  cases q0 : iv x.me 0 2
  · have HF := Lib.hid (show nodeB x = false by rw [nodeB_eq]; simp [q0])
    go_wp2
    go_ret
    exact ⟨by rw [HF.out]; rfl, A0.out⟩
  obtain ⟨x0, x1, x2, x3⟩ := cells4 X0.out
  go_wp2_with fail
  clear x0 x1 x2 x3
  refine (idin_s x.next 1 7 _).mono ?_
  rintro e w1 ⟨rfl, rfl⟩
  cases q1 : iv x.next 1 7
  · have HF := Lib.hid (show nodeB x = false by rw [nodeB_eq]; simp [q0, q1])
    go_wp2
    go_ret
    exact ⟨by rw [HF.out]; rfl, A0.out⟩
  obtain ⟨x0, x1, x2, x3⟩ := cells4 X0.out
  go_wp2_with fail
  clear x0 x1 x2 x3
  refine (spec_insts _ x.insts _ (PH.out.later A0.out).1).mono ?_
  rintro e w1 ⟨rfl, bb⟩
  have X1 := Lib.hid (X0.out.after bb)
  have A1 := Lib.hid (A0.out.after bb)
  clear bb X0 A0
  cases q2 : instsB x.insts
  · have HF := Lib.hid (show nodeB x = false by rw [nodeB_eq]; simp [q0, q1, q2])
    go_wp2
    go_ret
    exact ⟨by rw [HF.out]; rfl, A1.out⟩
  have HF := Lib.hid (show nodeB x = (noneB x.me x.next x.insts && ldsB x.leads) by rw [nodeB_eq]; simp [q0, q1, q2])
  obtain ⟨k1, a, ca, he, hca, ha⟩ := PH.out.2
  simp only [Value.slice.injEq] at he
  obtain ⟨rfl, rfl, rfl⟩ := he
  obtain ⟨l, hl⟩ : ∃ l, x.leads = l := ⟨_, rfl⟩
  have HLX := Lib.hid hl
  rw [hl] at HF k1 hca ha X1
  obtain ⟨n, hn⟩ : ∃ n, l.length = n := ⟨_, rfl⟩
  rw [hn] at k1 hca ha X1
  have HN := Lib.hid hn
  have HA := Lib.hid ha
  obtain ⟨j1, b1, cb, he, hcb, hbi⟩ := PH.out.1
  simp only [Value.slice.injEq] at he
  obtain ⟨rfl, rfl, rfl⟩ := he
  obtain ⟨li, hli⟩ : ∃ l, x.insts = l := ⟨_, rfl⟩
  have HLI := Lib.hid hli
  rw [hli] at HF j1 hcb hbi X1
  obtain ⟨m, hm⟩ : ∃ m, li.length = m := ⟨_, rfl⟩
  rw [hm] at j1 hcb hbi X1
  have HM := Lib.hid hm
  have HBI := Lib.hid hbi
  clear hl hn ha hca hli hm hbi hcb q0 q1 q2
  by_cases h8 : n ≤ 8
  case neg =>
    have HX := Lib.hid (ldsB_big l (by rw [HN.out]; omega))
    have hd : decide (8 < (n : Int)) = true := dec_t (by omega)
    obtain ⟨x0, x1, x2, x3⟩ := cells4 X1.out
    go_wp2
    go_ret
    exact ⟨by rw [HF.out, HX.out, Bool.and_false]; rfl, A1.out⟩
  have hd : decide (8 < (n : Int)) = false := dec_f (by omega)
  obtain ⟨x0, x1, x2, x3⟩ := cells4 X1.out
  go_wp2
  clear hd
  go_loopw [3] (fun i wr => ∃ k : Nat, k ≤ m ∧ i = .int .i64 k ∧ (∀ j, j < k → earlyB x.me x.next (nth li j).rep (nth li j).slot = false) ∧ Bx wr w.heap.size 30 #[.int .i64 x.me, .int .i64 x.next, .slice a1 m c1, .slice a2 n c2] ∧ Af w wr) (fun i _ => m - (intOf i).toNat)
  case atStart => exact ⟨0, by omega, rfl, fun j hj => by omega, X1.out, A1.out⟩
  case round =>
    clear x0 x1 x2 x3 X1 A1
    obtain ⟨k, hk, rfl, he, hx, haf⟩ := hrel
    have HE := Lib.hid he
    have XB := Lib.hid hx
    have A := Lib.hid haf
    clear he hx haf
    obtain ⟨x0, x1, x2, x3⟩ := cells4 XB.out
    by_cases hlt : k < m
    · obtain ⟨b, o, rfl, hb, hcx⟩ := HBI.out (by omega)
      obtain ⟨u, d, cc, pp⟩ := hcx k hlt
      obtain ⟨m0, m1, _⟩ := cc.below A.out hb
      obtain ⟨q, hq⟩ : ∃ q, nth li k = q := ⟨_, rfl⟩
      have HQ := Lib.hid hq
      rw [hq] at m0 m1
      have y1 : (k : Int) < (m : Int) := by omega
      have y0 : (0 : Int) ≤ (k : Int) := by omega
      clear hcx cc pp hq
      cases hq1 : (q.rep == x.me)
      · have HK := Lib.hid (show earlyB x.me x.next (nth li k).rep (nth li k).slot = false by rw [HQ.out, earlyB_eq, hq1]; rfl)
        go_wp2
        go_quiet (fail)
        go_wp2
        go_roundw
        case rel =>
          refine ⟨k + 1, by omega, by go_num, fun j hj => ?_, XB.out.drewN _, A.out.drewN _⟩
          by_cases e : j = k
          · subst e; exact HK.out
          · exact HE.out j (by omega)
        case measure => simp only [intOf]; omega
      · cases hq2 : decide (x.next ≤ q.slot)
        · have HK := Lib.hid (show earlyB x.me x.next (nth li k).rep (nth li k).slot = false by rw [HQ.out, earlyB_eq, hq1, hq2]; rfl)
          go_wp2
          go_quiet (fail)
          go_wp2
          go_roundw
          case rel =>
            refine ⟨k + 1, by omega, by go_num, fun j hj => ?_, XB.out.drewN _, A.out.drewN _⟩
            by_cases e : j = k
            · subst e; exact HK.out
            · exact HE.out j (by omega)
          case measure => simp only [intOf]; omega
        · have HK := Lib.hid (show earlyB x.me x.next (nth li k).rep (nth li k).slot = true by rw [HQ.out, earlyB_eq, hq1, hq2]; rfl)
          go_wp2
          go_quiet (fail)
          go_wp2
          go_ret
          exact ⟨by rw [HF.out, noneB_no x.me x.next li k (by rw [HM.out]; exact hlt) HK.out]; rfl, A.out.drewN _⟩
    · obtain rfl : m = k := by omega
      have HF := Lib.hid (show nodeB x = ldsB l by rw [HF.out, noneB_yes x.me x.next li (fun j hj => HE.out j (by rw [← HM.out]; exact hj))]; rfl)
      clear HE
      go_wp2
      clear x0 x1 x2 x3
      go_loopw [4] (fun i wr => ∃ k : Nat, k ≤ n ∧ i = .int .i64 k ∧ (∀ j, j < k → ldsAt l j = true) ∧ Bx wr w.heap.size 30 #[.int .i64 x.me, .int .i64 x.next, .slice a1 m c1, .slice a2 n c2] ∧ Af w wr) (fun i _ => n - (intOf i).toNat)
      case atStart => exact ⟨0, by omega, rfl, fun j hj => by omega, XB.out, A.out⟩
      case round =>
        clear XB A
        obtain ⟨k, hk, rfl, he, hx, haf⟩ := hrel
        have HE := Lib.hid he
        have XB := Lib.hid hx
        have A := Lib.hid haf
        clear he hx haf
        obtain ⟨x0, x1, x2, x3⟩ := cells4 XB.out
        by_cases hlt : k < n
        · obtain ⟨b, o, rfl, hb, hcx⟩ := HA.out (by omega)
          obtain ⟨d, f, cc, pp⟩ := hcx k hlt
          have hbr : b < wr.heap.size := Nat.lt_of_lt_of_le hb (Af.size A.out)
          have CK := Lib.hid (cc.below A.out hb)
          have PK := Lib.hid (pp.later A.out)
          have NP := Lib.hid (show NdP wr x (.slice a1 m c1) (.slice (some ⟨b, o, none⟩) n c2) from by have h := PH.out.later A.out; rw [HLI.out, HM.out, HLX.out, HN.out] at h; exact h)
          obtain ⟨⟨a3, n3, c3, rfl⟩, a4, n4, c4, rfl⟩ := pp.form
          obtain ⟨q, hq⟩ : ∃ q, nthL l k = q := ⟨_, rfl⟩
          have HQ := Lib.hid hq
          rw [hq] at CK PK
          obtain ⟨z, hz⟩ : ∃ z, atZ l q.rep q.slot = z := ⟨_, rfl⟩
          have y1 : (k : Int) < (n : Int) := by omega
          have y0 : (0 : Int) ≤ (k : Int) := by omega
          clear hcx cc pp hq
          cases hld : ldB q
          · have HK := Lib.hid (show ldsAt l k = false by rw [ldsAt_eq, HQ.out, hld]; rfl)
            have HC1 := Lib.hid (fun W (h : LatI wr W) => l_spec_lead q _ _ _ hld wr W PK.out h)
            clear hld
            go_wp2_with fail
            have HL := Lib.hid (fun W (h : LatI wr W) => And.intro (cells4 (XB.out.after h)) (CK.out.below h hbr))
            refine wp_region_quiet (C := LatI wr) (by kernel_rfl) (by kernel_rfl) (show LatI wr wr.drew from Below.drew (Below.refl _ _)) ?_
            dsimp only
            repeat (first | go_big_quiet_skip | (go_big_quiet_want; go_big_quiet_op; (first | go_big_quiet_on | (refine ⟨_, fun _ _ => rfl, ?_⟩; go_big_quiet_on) | (refine ⟨.slice (some ⟨b, o, none⟩) n c2, ?_, ?_⟩; intro w' hw'; obtain ⟨⟨x0, x1, x2, x3⟩, e0, e1, e2, e3, e4, e5, e6, e7⟩ := HL.out w' hw'; simp [x3, Result.andThen]; go_big_quiet_on) | (refine ⟨.agg #[.int .i64 q.rep, .int .i64 q.slot, .int .i64 q.bal, .int .i64 q.ph, .int .i64 q.seq, .slice a3 n3 c3, .slice a4 n4 c4, .bool q.same], ?_, ?_⟩; intro w' hw'; obtain ⟨⟨x0, x1, x2, x3⟩, e0, e1, e2, e3, e4, e5, e6, e7⟩ := HL.out w' hw'; simp [e0, e1, e2, e3, e4, e5, e6, e7, Result.andThen]; go_big_quiet_on) | (refine ⟨_, fun w' hw' => HC1.out w' hw', ?_⟩; go_big_quiet_on))))
            refine wpQuiet_nil ?_
            intro w2 L2
            have A2 := Lib.hid (A.out.after L2)
            have X2 := Lib.hid (XB.out.after L2)
            clear L2 HL
            go_wp2
            go_ret
            exact ⟨by rw [HF.out, ldsB_no l k (by rw [HN.out]; exact hlt) HK.out]; rfl, A2.out⟩
          · cases hdu : dupB l k
            · have HK := Lib.hid (show ldsAt l k = true by rw [ldsAt_eq, HQ.out, hld, hdu]; rfl)
              have HC1 := Lib.hid (fun W (h : LatI wr W) => l_spec_lead q _ _ _ hld wr W PK.out h)
              have hzk : (z == (k : Int)) = true := by have := atZ_dup l k (by rw [HN.out]; exact hlt); rw [HQ.out, hz, hdu] at this; exact this
              have hzn : (z != (k : Int)) = false := by rw [bne, hzk]; rfl
              have HC2 := Lib.hid (fun W (h : LatI wr W) => l_spec_at9 x _ _ q.rep q.slot z (by rw [HLX.out]; exact hz) wr W NP.out h)
              clear hz
              clear hld hdu
              go_wp2_with fail
              have HL := Lib.hid (fun W (h : LatI wr W) => And.intro (cells4 (XB.out.after h)) (CK.out.below h hbr))
              refine wp_region_quiet (C := LatI wr) (by kernel_rfl) (by kernel_rfl) (show LatI wr wr.drew from Below.drew (Below.refl _ _)) ?_
              dsimp only
              repeat (first | go_big_quiet_skip | (go_big_quiet_want; go_big_quiet_op; (first | go_big_quiet_on | (refine ⟨_, fun _ _ => rfl, ?_⟩; go_big_quiet_on) | (refine ⟨.slice (some ⟨b, o, none⟩) n c2, ?_, ?_⟩; intro w' hw'; obtain ⟨⟨x0, x1, x2, x3⟩, e0, e1, e2, e3, e4, e5, e6, e7⟩ := HL.out w' hw'; simp [x3, Result.andThen]; go_big_quiet_on) | (refine ⟨.agg #[.int .i64 q.rep, .int .i64 q.slot, .int .i64 q.bal, .int .i64 q.ph, .int .i64 q.seq, .slice a3 n3 c3, .slice a4 n4 c4, .bool q.same], ?_, ?_⟩; intro w' hw'; obtain ⟨⟨x0, x1, x2, x3⟩, e0, e1, e2, e3, e4, e5, e6, e7⟩ := HL.out w' hw'; simp [e0, e1, e2, e3, e4, e5, e6, e7, Result.andThen]; go_big_quiet_on) | (refine ⟨_, fun w' hw' => HC1.out w' hw', ?_⟩; go_big_quiet_on) | (refine ⟨.agg #[.int .i64 x.me, .int .i64 x.next, .slice a1 m c1, .slice (some ⟨b, o, none⟩) n c2], ?_, ?_⟩; intro w' hw'; obtain ⟨⟨x0, x1, x2, x3⟩, e0, e1, e2, e3, e4, e5, e6, e7⟩ := HL.out w' hw'; simp [x0, x1, x2, x3, Result.andThen]; go_big_quiet_on) | (refine ⟨.agg #[.int .i64 q.rep, .int .i64 q.slot], ?_, ?_⟩; intro w' hw'; obtain ⟨⟨x0, x1, x2, x3⟩, e0, e1, e2, e3, e4, e5, e6, e7⟩ := HL.out w' hw'; simp [e0, e1, Result.andThen]; go_big_quiet_on) | (refine ⟨_, fun w' hw' => HC2.out w' hw', ?_⟩; go_big_quiet_on))))
              refine wpQuiet_nil ?_
              intro w2 L2
              have A2 := Lib.hid (A.out.after L2)
              have X2 := Lib.hid (XB.out.after L2)
              clear L2 HL
              go_wp2
              go_roundw
              case rel =>
                refine ⟨k + 1, by omega, by go_num, fun j hj => ?_, X2.out, A2.out⟩
                by_cases e : j = k
                · subst e; exact HK.out
                · exact HE.out j (by omega)
              case measure => simp only [intOf]; omega
            · have HK := Lib.hid (show ldsAt l k = false by rw [ldsAt_eq, HQ.out, hld, hdu]; rfl)
              have HC1 := Lib.hid (fun W (h : LatI wr W) => l_spec_lead q _ _ _ hld wr W PK.out h)
              have hzk : (z == (k : Int)) = false := by have := atZ_dup l k (by rw [HN.out]; exact hlt); rw [HQ.out, hz, hdu] at this; exact this
              have hzn : (z != (k : Int)) = true := by rw [bne, hzk]; rfl
              have HC2 := Lib.hid (fun W (h : LatI wr W) => l_spec_at9 x _ _ q.rep q.slot z (by rw [HLX.out]; exact hz) wr W NP.out h)
              clear hz
              clear hld hdu
              go_wp2_with fail
              have HL := Lib.hid (fun W (h : LatI wr W) => And.intro (cells4 (XB.out.after h)) (CK.out.below h hbr))
              refine wp_region_quiet (C := LatI wr) (by kernel_rfl) (by kernel_rfl) (show LatI wr wr.drew from Below.drew (Below.refl _ _)) ?_
              dsimp only
              repeat (first | go_big_quiet_skip | (go_big_quiet_want; go_big_quiet_op; (first | go_big_quiet_on | (refine ⟨_, fun _ _ => rfl, ?_⟩; go_big_quiet_on) | (refine ⟨.slice (some ⟨b, o, none⟩) n c2, ?_, ?_⟩; intro w' hw'; obtain ⟨⟨x0, x1, x2, x3⟩, e0, e1, e2, e3, e4, e5, e6, e7⟩ := HL.out w' hw'; simp [x3, Result.andThen]; go_big_quiet_on) | (refine ⟨.agg #[.int .i64 q.rep, .int .i64 q.slot, .int .i64 q.bal, .int .i64 q.ph, .int .i64 q.seq, .slice a3 n3 c3, .slice a4 n4 c4, .bool q.same], ?_, ?_⟩; intro w' hw'; obtain ⟨⟨x0, x1, x2, x3⟩, e0, e1, e2, e3, e4, e5, e6, e7⟩ := HL.out w' hw'; simp [e0, e1, e2, e3, e4, e5, e6, e7, Result.andThen]; go_big_quiet_on) | (refine ⟨_, fun w' hw' => HC1.out w' hw', ?_⟩; go_big_quiet_on) | (refine ⟨.agg #[.int .i64 x.me, .int .i64 x.next, .slice a1 m c1, .slice (some ⟨b, o, none⟩) n c2], ?_, ?_⟩; intro w' hw'; obtain ⟨⟨x0, x1, x2, x3⟩, e0, e1, e2, e3, e4, e5, e6, e7⟩ := HL.out w' hw'; simp [x0, x1, x2, x3, Result.andThen]; go_big_quiet_on) | (refine ⟨.agg #[.int .i64 q.rep, .int .i64 q.slot], ?_, ?_⟩; intro w' hw'; obtain ⟨⟨x0, x1, x2, x3⟩, e0, e1, e2, e3, e4, e5, e6, e7⟩ := HL.out w' hw'; simp [e0, e1, Result.andThen]; go_big_quiet_on) | (refine ⟨_, fun w' hw' => HC2.out w' hw', ?_⟩; go_big_quiet_on))))
              refine wpQuiet_nil ?_
              intro w2 L2
              have A2 := Lib.hid (A.out.after L2)
              have X2 := Lib.hid (XB.out.after L2)
              clear L2 HL
              go_wp2
              go_ret
              exact ⟨by rw [HF.out, ldsB_no l k (by rw [HN.out]; exact hlt) HK.out]; rfl, A2.out⟩
        · obtain rfl : k = n := by omega
          have HX := Lib.hid (ldsB_yes l (by rw [HN.out]; omega) (fun j hj => HE.out j (by rw [← HN.out]; exact hj)))
          go_wp2
          go_ret
          exact ⟨by rw [HF.out, HX.out]; rfl, A.out⟩
end Go.Proofs.YtckeeadkhopljaaGreatDoor
/- When a node is valid: the program's looks through its lists. -/
namespace Go.Proofs.YtckeeadkhopljaaGreatDoor
open Go.RowKit Go.PlainAid
set_option linter.unusedVariables false

set_option maxHeartbeats 400000 in
theorem impl_tooEarly (me next r s : Int) (au av : Option Addr) (nu cu nv cv : Nat) (w : World) :
    Calls Tryz.prog 70 #[.agg #[.int .i64 me, .int .i64 next, .slice au nu cu, .slice av nv cv], .agg #[.int .i64 r, .int .i64 s]] w fun e w' => e = .returned (.bool (earlyB me next r s)) ∧ Below w.heap.size w w' := by
  have A0 := Lib.hid (((Af.refl w).alloc (.cells #[.int .i64 me, .int .i64 next, .slice au nu cu, .slice av nv cv] 30)).alloc (.cells #[.int .i64 r, .int .i64 s] 63))
  rw [earlyB_eq]
  cases h1 : (r == me)
  · go_enter Tryz.func70, Tryz.ntmps70
    go_wp2
    go_ret
    exact ⟨rfl, A0.out⟩
  · go_enter Tryz.func70, Tryz.ntmps70
    go_wp2
    go_ret
    exact ⟨rfl, A0.out⟩
set_option maxHeartbeats 400000 in
theorem impl_instEarly (me next : Int) (x : In) (u d : Value) (au av : Option Addr) (nu cu nv cv : Nat) (w : World) (h : Pts w x u d) :
    Calls Tryz.prog 39 #[.agg #[.int .i64 me, .int .i64 next, .slice au nu cu, .slice av nv cv], .agg #[.int .i64 x.rep, .int .i64 x.slot, .int .i64 x.bal, .int .i64 x.vbal, .int .i64 x.st, .int .i64 x.cmd.kind, .int .i64 x.cmd.client, .int .i64 x.cmd.no, .string x.cmd.set, .string x.cmd.name, .string x.cmd.tag, .int .i64 x.cmd.n, u, .int .i64 x.seq, d, .bool x.same]] w fun e w' => e = .returned (.bool (earlyB me next x.rep x.slot)) ∧ Below w.heap.size w w' := by
  obtain ⟨⟨a1, n1, c1, rfl⟩, a2, n2, c2, rfl⟩ := h.form
  have A0 := Lib.hid (((Af.refl w).alloc (.cells #[.int .i64 me, .int .i64 next, .slice au nu cu, .slice av nv cv] 30)).alloc (.cells #[.int .i64 x.rep, .int .i64 x.slot, .int .i64 x.bal, .int .i64 x.vbal, .int .i64 x.st, .int .i64 x.cmd.kind, .int .i64 x.cmd.client, .int .i64 x.cmd.no, .string x.cmd.set, .string x.cmd.name, .string x.cmd.tag, .int .i64 x.cmd.n, .slice a1 n1 c1, .int .i64 x.seq, .slice a2 n2 c2, .bool x.same] 67))
  clear h
  go_enter Tryz.func39, Tryz.ntmps39
  go_wp2_with fail
  refine (impl_tooEarly me next x.rep x.slot au av nu cu nv cv _).mono ?_
  rintro e w1 ⟨rfl, bb⟩
  have A1 := Lib.hid (A0.out.after bb)
  clear bb A0
  go_wp2
  go_ret
  exact ⟨rfl, A1.out⟩
set_option maxRecDepth 100000 in
set_option maxHeartbeats 2000000 in
theorem impl_idxEarly (me next : Int) (v : Value) (l : List In) (au av : Option Addr) (nu cu nv cv : Nat) (w : World) (hv : Insts w v l) :
    Calls Tryz.prog 69 #[v, .func (.func 39) #[.agg #[.int .i64 me, .int .i64 next, .slice au nu cu, .slice av nv cv]] #[]] w fun e w' => (∃ z : Int, e = .returned (.int .i64 z) ∧ decide (0 ≤ z) = !noneB me next l) ∧ Below w.heap.size w w' := by
  obtain ⟨h1, a, ca, rfl, hca, ha⟩ := hv
  generalize hn : l.length = n at h1 ha hca
  have HN := Lib.hid hn
  have HA := Lib.hid ha
  clear hn ha hca
  go_enter Tryz.func69, Tryz.ntmps69
  go_wp2
  go_loopw [8] (fun i wr => ∃ k : Nat, k ≤ n ∧ i = .int .i64 k ∧ (∀ j, j < k → earlyB me next (nth l j).rep (nth l j).slot = false) ∧ Below w.heap.size w wr) (fun i _ => n - (intOf i).toNat)
  case atStart => exact ⟨0, by omega, rfl, fun j hj => by omega, Below.refl _ _⟩
  case round =>
    obtain ⟨k, hk, rfl, he, hbw⟩ := hrel
    have HE := Lib.hid he
    have HBW := Lib.hid hbw
    clear he hbw
    by_cases hlt : k < n
    · obtain ⟨x, o, rfl, hx, hcx⟩ := HA.out (by omega)
      obtain ⟨u, d, cc, pp⟩ := hcx k hlt
      obtain ⟨m0, m1, m2, m3, m4, m5, m6, m7, m8, m9, m10, m11, m12, m13, m14, m15⟩ := cc.below HBW.out hx
      have PK := Lib.hid (pp.later HBW.out)
      obtain ⟨⟨a1, n1, c1, rfl⟩, a2, n2, c2, rfl⟩ := pp.form
      obtain ⟨q, hq⟩ : ∃ q, nth l k = q := ⟨_, rfl⟩
      have HQ := Lib.hid hq
      rw [hq] at PK m0 m1 m2 m3 m4 m5 m6 m7 m8 m9 m10 m11 m13 m15
      have y1 : (k : Int) < (n : Int) := by omega
      have y0 : (0 : Int) ≤ (k : Int) := by omega
      clear hcx cc pp hq
      go_wp2_with fail
      clear m0 m1 m2 m3 m4 m5 m6 m7 m8 m9 m10 m11 m12 m13 m14 m15
      refine (impl_instEarly me next q _ _ au av nu cu nv cv _ PK.out).mono ?_
      rintro e w2 ⟨rfl, bb⟩
      have HB2 := Lib.hid (HBW.out.trans (bb.mono HBW.out.size))
      clear bb
      cases he : earlyB me next q.rep q.slot
      · have HK := Lib.hid (show earlyB me next (nth l k).rep (nth l k).slot = false by rw [HQ.out, he])
        go_wp2
        go_roundw
        case rel =>
          refine ⟨k + 1, by omega, by go_num, fun j hj => ?_, HB2.out⟩
          by_cases e : j = k
          · subst e; exact HK.out
          · exact HE.out j (by omega)
        case measure => simp only [intOf]; omega
      · have HK := Lib.hid (noneB_no me next l k (by rw [HN.out]; exact hlt) (by rw [HQ.out, he]))
        go_wp2
        go_ret
        exact ⟨⟨_, rfl, by rw [HK.out]; exact dec_t (by omega)⟩, HB2.out⟩
    · obtain rfl : k = n := by omega
      go_wp2
      go_ret
      exact ⟨⟨_, rfl, by rw [noneB_yes me next l (fun j hj => HE.out j (by rw [← HN.out]; exact hj))]; rfl⟩, HBW.out⟩
set_option maxHeartbeats 400000 in
theorem impl_anyEarly (me next : Int) (v : Value) (l : List In) (au av : Option Addr) (nu cu nv cv : Nat) (w : World) (hv : Insts w v l) :
    Calls Tryz.prog 38 #[v, .func (.func 39) #[.agg #[.int .i64 me, .int .i64 next, .slice au nu cu, .slice av nv cv]] #[]] w fun e w' => e = .returned (.bool (!noneB me next l)) ∧ Below w.heap.size w w' := by
  have HV := Lib.hid hv
  obtain ⟨a, n, c, rfl⟩ := hv.form
  clear hv
  go_enter Tryz.func38, Tryz.ntmps38
  go_wp2_with fail
  refine (impl_idxEarly me next _ l au av nu cu nv cv _ HV.out).mono ?_
  rintro e w2 ⟨⟨z, rfl, hz⟩, b2⟩
  have A2 := Lib.hid b2
  have HZ := Lib.hid hz
  clear b2 hz
  go_wp2
  go_ret
  exact ⟨by rw [← HZ.out]; rfl, A2.out⟩
/-! ### the Leads -/
set_option maxHeartbeats 400000 in
theorem impl_sameId (x y : Ld) (d f d' f' : Value) (w : World) (h : LPts w x d f) (h' : LPts w y d' f') :
    Calls Tryz.prog 73 #[.agg #[.int .i64 x.rep, .int .i64 x.slot, .int .i64 x.bal, .int .i64 x.ph, .int .i64 x.seq, d, f, .bool x.same], .agg #[.int .i64 y.rep, .int .i64 y.slot, .int .i64 y.bal, .int .i64 y.ph, .int .i64 y.seq, d', f', .bool y.same]] w fun e w' => e = .returned (.bool (decide (x.rep = y.rep ∧ x.slot = y.slot))) ∧ Below w.heap.size w w' := by
  obtain ⟨⟨a1, n1, c1, rfl⟩, a2, n2, c2, rfl⟩ := h.form
  obtain ⟨⟨a3, n3, c3, rfl⟩, a4, n4, c4, rfl⟩ := h'.form
  have A := Lib.hid (((Af.refl w).alloc (.cells #[.int .i64 x.rep, .int .i64 x.slot, .int .i64 x.bal, .int .i64 x.ph, .int .i64 x.seq, .slice a1 n1 c1, .slice a2 n2 c2, .bool x.same] 70)).alloc (.cells #[.int .i64 y.rep, .int .i64 y.slot, .int .i64 y.bal, .int .i64 y.ph, .int .i64 y.seq, .slice a3 n3 c3, .slice a4 n4 c4, .bool y.same] 70))
  clear h h'
  by_cases h1 : x.rep = y.rep
  · by_cases h2 : x.slot = y.slot
    · rw [dec_t ⟨h1, h2⟩]
      have hs1 : (x.rep == y.rep) = true := by simpa using h1
      have hs2 : (x.slot == y.slot) = true := by simpa using h2
      clear h1 h2
      go_enter Tryz.func73, Tryz.ntmps73
      go_wp2
      go_ret
      exact ⟨rfl, A.out⟩
    · rw [dec_f (fun e => h2 e.2)]
      have hs1 : (x.rep == y.rep) = true := by simpa using h1
      have hs2 : (x.slot == y.slot) = false := ine_no h2
      clear h1 h2
      go_enter Tryz.func73, Tryz.ntmps73
      go_wp2
      go_ret
      exact ⟨rfl, A.out⟩
  · rw [dec_f (fun e => h1 e.1)]
    have hs1 : (x.rep == y.rep) = false := ine_no h1
    clear h1
    go_enter Tryz.func73, Tryz.ntmps73
    go_wp2
    go_ret
    exact ⟨rfl, A.out⟩
/-- One of the first k has x's Id. -/
@[irreducible] def hasL (l : List Ld) (k : Nat) (x : Ld) : Bool := (List.range k).any (fun j => decide (x.rep = (nthL l j).rep ∧ x.slot = (nthL l j).slot))
theorem hasL_yes (l : List Ld) (k : Nat) (x : Ld) (j : Nat) (hj : j < k) (h : x.rep = (nthL l j).rep ∧ x.slot = (nthL l j).slot) : hasL l k x = true := by
  unfold hasL
  rw [List.any_eq_true]
  exact ⟨j, by simpa using hj, decide_eq_true h⟩
theorem hasL_no (l : List Ld) (k : Nat) (x : Ld) (h : ∀ j, j < k → ¬ (x.rep = (nthL l j).rep ∧ x.slot = (nthL l j).slot)) : hasL l k x = false := by
  unfold hasL
  rw [List.any_eq_false]
  intro j hj
  simp only [decide_eq_true_eq]
  exact h j (by simpa using hj)
theorem hasL_dup (l : List Ld) (k : Nat) : hasL l k (nthL l k) = dupB l k := by
  cases h : dupB l k
  · exact hasL_no l k _ (fun j hj e => by rw [dupB_yes l k j hj ⟨e.1.symm, e.2.symm⟩] at h; cases h)
  · obtain ⟨j, hj, e1, e2⟩ := (dupB_iff l k).1 h
    exact hasL_yes l k _ j hj ⟨e1.symm, e2.symm⟩
set_option maxRecDepth 100000 in
set_option maxHeartbeats 2000000 in
theorem impl_idxLead (v : Value) (l : List Ld) (m : Nat) (x : Ld) (d f : Value) (w : World) (h : Leads w v l) (hm : m ≤ l.length) (hx : LPts w x d f) (a : Option Addr) (cap : Nat) (hv : ∃ c, v = .slice a l.length c) (hcm : m ≤ cap) :
    Calls Tryz.prog 90 #[.slice a m cap, .func (.func 73) #[.agg #[.int .i64 x.rep, .int .i64 x.slot, .int .i64 x.bal, .int .i64 x.ph, .int .i64 x.seq, d, f, .bool x.same]] #[]] w fun e w' => (∃ z : Int, e = .returned (.int .i64 z) ∧ decide (0 ≤ z) = hasL l m x) ∧ Below w.heap.size w w' := by
  obtain ⟨h1, a', ca, hve, hca, ha⟩ := h
  obtain ⟨c0, hv⟩ := hv
  rw [hve] at hv
  simp only [Value.slice.injEq] at hv
  obtain ⟨rfl, _, _⟩ := hv
  have HA := Lib.hid ha
  have HX := Lib.hid hx
  obtain ⟨⟨x1, x2, x3, rfl⟩, x4, x5, x6, rfl⟩ := hx.form
  have hml : m ≤ 9223372036854775807 := by omega
  clear ha hca hx hve
  go_enter Tryz.func90, Tryz.ntmps90
  go_wp2
  go_loopw [8] (fun i wr => ∃ k : Nat, k ≤ m ∧ i = .int .i64 k ∧ (∀ j, j < k → ¬ (x.rep = (nthL l j).rep ∧ x.slot = (nthL l j).slot)) ∧ Below w.heap.size w wr) (fun i _ => m - (intOf i).toNat)
  case atStart => exact ⟨0, by omega, rfl, fun j hj => by omega, Below.refl _ _⟩
  case round =>
    obtain ⟨k, hk, rfl, he, hbw⟩ := hrel
    have HE := Lib.hid he
    have HBW := Lib.hid hbw
    clear he hbw
    by_cases hlt : k < m
    · obtain ⟨b, o, rfl, hb, hcx⟩ := HA.out (by omega)
      obtain ⟨d', f', cc, pp⟩ := hcx k (by omega)
      obtain ⟨m0, m1, m2, m3, m4, m5, m6, m7⟩ := cc.below HBW.out hb
      have PK := Lib.hid (pp.later HBW.out)
      obtain ⟨⟨a1, n1, c1, rfl⟩, a2, n2, c2, rfl⟩ := pp.form
      obtain ⟨q, hq⟩ : ∃ q, nthL l k = q := ⟨_, rfl⟩
      have HQ := Lib.hid hq
      rw [hq] at PK m0 m1 m2 m3 m4 m7
      have y1 : (k : Int) < (m : Int) := by omega
      have y0 : (0 : Int) ≤ (k : Int) := by omega
      clear hcx cc pp hq
      go_wp2_with fail
      clear m0 m1 m2 m3 m4 m5 m6 m7
      refine (impl_sameId x q _ _ _ _ _ (HX.out.later HBW.out) PK.out).mono ?_
      rintro e w2 ⟨rfl, bb⟩
      have HB2 := Lib.hid (HBW.out.trans (bb.mono HBW.out.size))
      clear bb
      cases he : decide (x.rep = q.rep ∧ x.slot = q.slot)
      · have HK := Lib.hid (show ¬ (x.rep = (nthL l k).rep ∧ x.slot = (nthL l k).slot) by rw [HQ.out]; exact of_decide_eq_false he)
        clear he
        go_wp2
        go_roundw
        case rel =>
          refine ⟨k + 1, by omega, by go_num, fun j hj => ?_, HB2.out⟩
          by_cases e : j = k
          · subst e; exact HK.out
          · exact HE.out j (by omega)
        case measure => simp only [intOf]; omega
      · have HK := Lib.hid (hasL_yes l m x k hlt (by rw [HQ.out]; exact of_decide_eq_true he))
        clear he
        go_wp2
        go_ret
        exact ⟨⟨_, rfl, by rw [HK.out]; exact dec_t (by omega)⟩, HB2.out⟩
    · obtain rfl : k = m := by omega
      go_wp2
      go_ret
      exact ⟨⟨_, rfl, by rw [hasL_no l k x HE.out]; rfl⟩, HBW.out⟩
set_option maxHeartbeats 400000 in
theorem impl_anyLead (v : Value) (l : List Ld) (m : Nat) (x : Ld) (d f : Value) (w : World) (h : Leads w v l) (hm : m ≤ l.length) (hx : LPts w x d f) (a : Option Addr) (cap : Nat) (hv : ∃ c, v = .slice a l.length c) (hcm : m ≤ cap) :
    Calls Tryz.prog 72 #[.slice a m cap, .func (.func 73) #[.agg #[.int .i64 x.rep, .int .i64 x.slot, .int .i64 x.bal, .int .i64 x.ph, .int .i64 x.seq, d, f, .bool x.same]] #[]] w fun e w' => e = .returned (.bool (hasL l m x)) ∧ Below w.heap.size w w' := by
  have HI := Lib.hid (impl_idxLead v l m x d f w h hm hx a cap hv hcm)
  obtain ⟨⟨x1, x2, x3, rfl⟩, x4, x5, x6, rfl⟩ := hx.form
  clear h hx hv
  go_enter Tryz.func72, Tryz.ntmps72
  go_wp2_with fail
  refine HI.out.mono ?_
  rintro e w2 ⟨⟨z, rfl, hz⟩, b2⟩
  have A2 := Lib.hid b2
  have HZ := Lib.hid hz
  clear b2 hz
  go_wp2
  go_ret
  exact ⟨by rw [← HZ.out]; rfl, A2.out⟩
end Go.Proofs.YtckeeadkhopljaaGreatDoor
/- When a node is valid: the program's walk. -/
namespace Go.Proofs.YtckeeadkhopljaaGreatDoor
open Go.RowKit Go.PlainAid
set_option linter.unusedVariables false

theorem l_impl_lead (x : Ld) (d f : Value) (b : Bool) (e : ldB x = b) (w0 w : World) (hp : LPts w0 x d f) (h : LatI w0 w) : Calls Tryz.prog 71 #[.agg #[.int .i64 x.rep, .int .i64 x.slot, .int .i64 x.bal, .int .i64 x.ph, .int .i64 x.seq, d, f, .bool x.same]] w fun e w' => e = .returned (.bool b) ∧ LatI w0 w' :=
  (impl_lead x d f w (hp.later h)).mono fun _ w' hh => ⟨e ▸ hh.1, h.trans hh.2⟩
theorem l_impl_anyLead (v : Value) (l : List Ld) (m : Nat) (x : Ld) (d f : Value) (b : Bool) (e : hasL l m x = b) (w0 w : World) (hp : Leads w0 v l) (hm : m ≤ l.length) (hx : LPts w0 x d f) (a : Option Addr) (cap : Nat) (hv : ∃ c, v = .slice a l.length c) (hcm : m ≤ cap) (h : LatI w0 w) :
    Calls Tryz.prog 72 #[.slice a m cap, .func (.func 73) #[.agg #[.int .i64 x.rep, .int .i64 x.slot, .int .i64 x.bal, .int .i64 x.ph, .int .i64 x.seq, d, f, .bool x.same]] #[]] w fun e w' => e = .returned (.bool b) ∧ LatI w0 w' :=
  (impl_anyLead v l m x d f w (hp.later h) hm (hx.later h) a cap hv hcm).mono fun _ w' hh => ⟨e ▸ hh.1, h.trans hh.2⟩
set_option maxRecDepth 100000 in
set_option maxHeartbeats 4000000 in
theorem impl_leadsOk (v : Value) (l : List Ld) (w : World) (hv : Leads w v l) :
    Calls Tryz.prog 40 #[v] w fun e w' => e = .returned (.bool (ldsB l)) ∧ Below w.heap.size w w' := by
  have HV := Lib.hid hv
  obtain ⟨h1, a, ca, rfl, hca, ha⟩ := hv
  obtain ⟨n, hn⟩ : ∃ n, l.length = n := ⟨_, rfl⟩
  have HN := Lib.hid hn
  rw [hn] at h1 hca ha HV ⊢
  have HA := Lib.hid ha
  clear hn ha
  by_cases h8 : n ≤ 8
  case neg =>
    have HX := Lib.hid (ldsB_big l (by rw [HN.out]; omega))
    have hd : decide (8 < (n : Int)) = true := dec_t (by omega)
    go_enter Tryz.func40, Tryz.ntmps40
    go_wp2
    go_ret
    exact ⟨by rw [HX.out]; rfl, Below.refl _ _⟩
  have hd : decide (8 < (n : Int)) = false := dec_f (by omega)
  go_enter Tryz.func40, Tryz.ntmps40
  go_wp2
  clear hd
  go_loopw [10] (fun i wr => ∃ k : Nat, k ≤ n ∧ i = .int .i64 k ∧ (∀ j, j < k → ldsAt l j = true) ∧ Af w wr) (fun i _ => n - (intOf i).toNat)
  case atStart => exact ⟨0, by omega, rfl, fun j hj => by omega, Af.refl w⟩
  case round =>
    obtain ⟨k, hk, rfl, he, haf⟩ := hrel
    have HE := Lib.hid he
    have A := Lib.hid haf
    clear he haf
    by_cases hlt : k < n
    · obtain ⟨b, o, rfl, hb, hcx⟩ := HA.out (by omega)
      obtain ⟨d, f, cc, pp⟩ := hcx k hlt
      obtain ⟨m0, m1, m2, m3, m4, m5, m6, m7⟩ := cc.below A.out hb
      have PK := pp.later A.out
      obtain ⟨⟨a3, n3, c3, rfl⟩, a4, n4, c4, rfl⟩ := pp.form
      obtain ⟨q, hq⟩ : ∃ q, nthL l k = q := ⟨_, rfl⟩
      have HQ := Lib.hid hq
      rw [hq] at PK m0 m1 m2 m3 m4 m7
      have PZ := Lib.hid (PK.alloc (.cells #[.int .i64 q.rep, .int .i64 q.slot, .int .i64 q.bal, .int .i64 q.ph, .int .i64 q.seq, .slice a3 n3 c3, .slice a4 n4 c4, .bool q.same] 70))
      have LZ := Lib.hid ((HV.out.later A.out).alloc (.cells #[.int .i64 q.rep, .int .i64 q.slot, .int .i64 q.bal, .int .i64 q.ph, .int .i64 q.seq, .slice a3 n3 c3, .slice a4 n4 c4, .bool q.same] 70))
      have AZ := Lib.hid (A.out.alloc (.cells #[.int .i64 q.rep, .int .i64 q.slot, .int .i64 q.bal, .int .i64 q.ph, .int .i64 q.seq, .slice a3 n3 c3, .slice a4 n4 c4, .bool q.same] 70))
      have Z := Lib.hid (Bx.new wr 70 #[.int .i64 q.rep, .int .i64 q.slot, .int .i64 q.bal, .int .i64 q.ph, .int .i64 q.seq, .slice a3 n3 c3, .slice a4 n4 c4, .bool q.same] _ rfl)
      have y1 : (k : Int) < (n : Int) := by omega
      have y0 : (0 : Int) ≤ (k : Int) := by omega
      have y5 : (k : Int) ≤ (ca : Int) := by omega
      clear hcx cc pp PK
      cases hld : ldB q
      · clear hq
        have HK := Lib.hid (show ldsAt l k = false by rw [ldsAt_eq, HQ.out, hld]; rfl)
        have HC1 := Lib.hid (fun W (h : LatI (wr.alloc (.cells #[.int .i64 q.rep, .int .i64 q.slot, .int .i64 q.bal, .int .i64 q.ph, .int .i64 q.seq, .slice a3 n3 c3, .slice a4 n4 c4, .bool q.same] 70)) W) => l_impl_lead q _ _ _ hld (wr.alloc (.cells #[.int .i64 q.rep, .int .i64 q.slot, .int .i64 q.bal, .int .i64 q.ph, .int .i64 q.seq, .slice a3 n3 c3, .slice a4 n4 c4, .bool q.same] 70)) W PZ.out h)
        clear hld
        go_wp2_with fail
        clear m0 m1 m2 m3 m4 m5 m6 m7
        have HL := Lib.hid (fun W (h : LatI (wr.alloc (.cells #[.int .i64 q.rep, .int .i64 q.slot, .int .i64 q.bal, .int .i64 q.ph, .int .i64 q.seq, .slice a3 n3 c3, .slice a4 n4 c4, .bool q.same] 70)) W) => (Z.out.after h).c8L)
        refine wp_region_quiet (C := LatI (wr.alloc (.cells #[.int .i64 q.rep, .int .i64 q.slot, .int .i64 q.bal, .int .i64 q.ph, .int .i64 q.seq, .slice a3 n3 c3, .slice a4 n4 c4, .bool q.same] 70))) (by kernel_rfl) (by kernel_rfl) (show LatI (wr.alloc (.cells #[.int .i64 q.rep, .int .i64 q.slot, .int .i64 q.bal, .int .i64 q.ph, .int .i64 q.seq, .slice a3 n3 c3, .slice a4 n4 c4, .bool q.same] 70)) (wr.alloc (.cells #[.int .i64 q.rep, .int .i64 q.slot, .int .i64 q.bal, .int .i64 q.ph, .int .i64 q.seq, .slice a3 n3 c3, .slice a4 n4 c4, .bool q.same] 70)).drew from Below.drew (Below.refl _ _)) ?_
        dsimp only
        repeat (first | go_big_quiet_skip | (go_big_quiet_want; go_big_quiet_op; (first | go_big_quiet_on | (refine ⟨_, fun _ _ => rfl, ?_⟩; go_big_quiet_on) | (refine ⟨.agg #[.int .i64 q.rep, .int .i64 q.slot, .int .i64 q.bal, .int .i64 q.ph, .int .i64 q.seq, .slice a3 n3 c3, .slice a4 n4 c4, .bool q.same], ?_, ?_⟩; intro w' hw'; obtain ⟨e0, e1, e2, e3, e4, e5, e6, e7⟩ := HL.out w' hw'; simp [e0, e1, e2, e3, e4, e5, e6, e7, Result.andThen]; go_big_quiet_on) | (refine ⟨_, fun w' hw' => HC1.out w' hw', ?_⟩; go_big_quiet_on))))
        refine wpQuiet_nil ?_
        intro w2 L2
        have A2 := Lib.hid (AZ.out.after L2)
        clear L2 HL
        go_wp2
        go_ret
        exact ⟨by rw [ldsB_no l k (by rw [HN.out]; exact hlt) HK.out]; rfl, A2.out⟩
      · cases hdu : dupB l k
        · have hdq : hasL l k q = false := by rw [← hq, hasL_dup, hdu]
          clear hq
          have HK := Lib.hid (show ldsAt l k = true by rw [ldsAt_eq, HQ.out, hld, hdu]; rfl)
          have HC1 := Lib.hid (fun W (h : LatI (wr.alloc (.cells #[.int .i64 q.rep, .int .i64 q.slot, .int .i64 q.bal, .int .i64 q.ph, .int .i64 q.seq, .slice a3 n3 c3, .slice a4 n4 c4, .bool q.same] 70)) W) => l_impl_lead q _ _ _ hld (wr.alloc (.cells #[.int .i64 q.rep, .int .i64 q.slot, .int .i64 q.bal, .int .i64 q.ph, .int .i64 q.seq, .slice a3 n3 c3, .slice a4 n4 c4, .bool q.same] 70)) W PZ.out h)
          have HC2 := Lib.hid (fun W (h : LatI (wr.alloc (.cells #[.int .i64 q.rep, .int .i64 q.slot, .int .i64 q.bal, .int .i64 q.ph, .int .i64 q.seq, .slice a3 n3 c3, .slice a4 n4 c4, .bool q.same] 70)) W) => l_impl_anyLead _ l k q _ _ _ hdq (wr.alloc (.cells #[.int .i64 q.rep, .int .i64 q.slot, .int .i64 q.bal, .int .i64 q.ph, .int .i64 q.seq, .slice a3 n3 c3, .slice a4 n4 c4, .bool q.same] 70)) W LZ.out (by rw [HN.out]; omega) PZ.out (some ⟨b, o, none⟩) ca ⟨ca, by rw [HN.out]⟩ (by omega) h)
          clear hld hdu hdq
          go_wp2_with fail
          clear m0 m1 m2 m3 m4 m5 m6 m7
          have HL := Lib.hid (fun W (h : LatI (wr.alloc (.cells #[.int .i64 q.rep, .int .i64 q.slot, .int .i64 q.bal, .int .i64 q.ph, .int .i64 q.seq, .slice a3 n3 c3, .slice a4 n4 c4, .bool q.same] 70)) W) => (Z.out.after h).c8L)
          refine wp_region_quiet (C := LatI (wr.alloc (.cells #[.int .i64 q.rep, .int .i64 q.slot, .int .i64 q.bal, .int .i64 q.ph, .int .i64 q.seq, .slice a3 n3 c3, .slice a4 n4 c4, .bool q.same] 70))) (by kernel_rfl) (by kernel_rfl) (show LatI (wr.alloc (.cells #[.int .i64 q.rep, .int .i64 q.slot, .int .i64 q.bal, .int .i64 q.ph, .int .i64 q.seq, .slice a3 n3 c3, .slice a4 n4 c4, .bool q.same] 70)) (wr.alloc (.cells #[.int .i64 q.rep, .int .i64 q.slot, .int .i64 q.bal, .int .i64 q.ph, .int .i64 q.seq, .slice a3 n3 c3, .slice a4 n4 c4, .bool q.same] 70)).drew from Below.drew (Below.refl _ _)) ?_
          dsimp only
          repeat (first | go_big_quiet_skip | (go_big_quiet_want; go_big_quiet_op; (first | go_big_quiet_on | (refine ⟨_, fun _ _ => rfl, ?_⟩; go_big_quiet_on) | (refine ⟨.agg #[.int .i64 q.rep, .int .i64 q.slot, .int .i64 q.bal, .int .i64 q.ph, .int .i64 q.seq, .slice a3 n3 c3, .slice a4 n4 c4, .bool q.same], ?_, ?_⟩; intro w' hw'; obtain ⟨e0, e1, e2, e3, e4, e5, e6, e7⟩ := HL.out w' hw'; simp [e0, e1, e2, e3, e4, e5, e6, e7, Result.andThen]; go_big_quiet_on) | (refine ⟨_, fun w' hw' => HC1.out w' hw', ?_⟩; go_big_quiet_on) | (refine ⟨_, fun w' hw' => HC2.out w' hw', ?_⟩; go_big_quiet_on))))
          refine wpQuiet_nil ?_
          intro w2 L2
          have A2 := Lib.hid (AZ.out.after L2)
          clear L2 HL
          go_wp2
          go_roundw
          case rel =>
            refine ⟨k + 1, by omega, by go_num, fun j hj => ?_, A2.out⟩
            by_cases e : j = k
            · subst e; exact HK.out
            · exact HE.out j (by omega)
          case measure => simp only [intOf]; omega
        · have hdq : hasL l k q = true := by rw [← hq, hasL_dup, hdu]
          clear hq
          have HK := Lib.hid (show ldsAt l k = false by rw [ldsAt_eq, HQ.out, hld, hdu]; rfl)
          have HC1 := Lib.hid (fun W (h : LatI (wr.alloc (.cells #[.int .i64 q.rep, .int .i64 q.slot, .int .i64 q.bal, .int .i64 q.ph, .int .i64 q.seq, .slice a3 n3 c3, .slice a4 n4 c4, .bool q.same] 70)) W) => l_impl_lead q _ _ _ hld (wr.alloc (.cells #[.int .i64 q.rep, .int .i64 q.slot, .int .i64 q.bal, .int .i64 q.ph, .int .i64 q.seq, .slice a3 n3 c3, .slice a4 n4 c4, .bool q.same] 70)) W PZ.out h)
          have HC2 := Lib.hid (fun W (h : LatI (wr.alloc (.cells #[.int .i64 q.rep, .int .i64 q.slot, .int .i64 q.bal, .int .i64 q.ph, .int .i64 q.seq, .slice a3 n3 c3, .slice a4 n4 c4, .bool q.same] 70)) W) => l_impl_anyLead _ l k q _ _ _ hdq (wr.alloc (.cells #[.int .i64 q.rep, .int .i64 q.slot, .int .i64 q.bal, .int .i64 q.ph, .int .i64 q.seq, .slice a3 n3 c3, .slice a4 n4 c4, .bool q.same] 70)) W LZ.out (by rw [HN.out]; omega) PZ.out (some ⟨b, o, none⟩) ca ⟨ca, by rw [HN.out]⟩ (by omega) h)
          clear hld hdu hdq
          go_wp2_with fail
          clear m0 m1 m2 m3 m4 m5 m6 m7
          have HL := Lib.hid (fun W (h : LatI (wr.alloc (.cells #[.int .i64 q.rep, .int .i64 q.slot, .int .i64 q.bal, .int .i64 q.ph, .int .i64 q.seq, .slice a3 n3 c3, .slice a4 n4 c4, .bool q.same] 70)) W) => (Z.out.after h).c8L)
          refine wp_region_quiet (C := LatI (wr.alloc (.cells #[.int .i64 q.rep, .int .i64 q.slot, .int .i64 q.bal, .int .i64 q.ph, .int .i64 q.seq, .slice a3 n3 c3, .slice a4 n4 c4, .bool q.same] 70))) (by kernel_rfl) (by kernel_rfl) (show LatI (wr.alloc (.cells #[.int .i64 q.rep, .int .i64 q.slot, .int .i64 q.bal, .int .i64 q.ph, .int .i64 q.seq, .slice a3 n3 c3, .slice a4 n4 c4, .bool q.same] 70)) (wr.alloc (.cells #[.int .i64 q.rep, .int .i64 q.slot, .int .i64 q.bal, .int .i64 q.ph, .int .i64 q.seq, .slice a3 n3 c3, .slice a4 n4 c4, .bool q.same] 70)).drew from Below.drew (Below.refl _ _)) ?_
          dsimp only
          repeat (first | go_big_quiet_skip | (go_big_quiet_want; go_big_quiet_op; (first | go_big_quiet_on | (refine ⟨_, fun _ _ => rfl, ?_⟩; go_big_quiet_on) | (refine ⟨.agg #[.int .i64 q.rep, .int .i64 q.slot, .int .i64 q.bal, .int .i64 q.ph, .int .i64 q.seq, .slice a3 n3 c3, .slice a4 n4 c4, .bool q.same], ?_, ?_⟩; intro w' hw'; obtain ⟨e0, e1, e2, e3, e4, e5, e6, e7⟩ := HL.out w' hw'; simp [e0, e1, e2, e3, e4, e5, e6, e7, Result.andThen]; go_big_quiet_on) | (refine ⟨_, fun w' hw' => HC1.out w' hw', ?_⟩; go_big_quiet_on) | (refine ⟨_, fun w' hw' => HC2.out w' hw', ?_⟩; go_big_quiet_on))))
          refine wpQuiet_nil ?_
          intro w2 L2
          have A2 := Lib.hid (AZ.out.after L2)
          clear L2 HL
          go_wp2
          go_ret
          exact ⟨by rw [ldsB_no l k (by rw [HN.out]; exact hlt) HK.out]; rfl, A2.out⟩
    · obtain rfl : k = n := by omega
      have HX := Lib.hid (ldsB_yes l (by rw [HN.out]; omega) (fun j hj => HE.out j (by rw [← HN.out]; exact hj)))
      go_wp2
      go_ret
      exact ⟨by rw [HX.out]; rfl, A.out⟩
set_option maxRecDepth 100000 in
set_option maxHeartbeats 2000000 in
theorem impl_nodeOk (x : Nd) (u v : Value) (a : Addr) (w : World) (h : NdP w x u v) (hS : Sent w a) :
    Calls Tryz.prog 17 #[.agg #[.int .i64 x.me, .int .i64 x.next, u, v]] w fun e w' => e = .returned (.bool (nodeB x)) ∧ Below w.heap.size w w' := by
  obtain ⟨⟨a1, n1, c1, rfl⟩, a2, n2, c2, rfl⟩ := h.form
  have PH := Lib.hid h
  have HS := Lib.hid hS
  have X0 := Lib.hid (Bx.new w 30 #[.int .i64 x.me, .int .i64 x.next, .slice a1 n1 c1, .slice a2 n2 c2] _ rfl)
  have A0 := Lib.hid ((Af.refl w).alloc (.cells #[.int .i64 x.me, .int .i64 x.next, .slice a1 n1 c1, .slice a2 n2 c2] 30))
  clear h hS
  go_enter Tryz.func17, Tryz.ntmps17
  go_wp2_with fail
  refine (impl_rep x.me _).mono ?_
  rintro e w1 ⟨rfl, rfl⟩
  cases q0 : iv x.me 0 2
  · have HF := Lib.hid (show nodeB x = false by rw [nodeB_eq]; simp [q0])
    go_wp2
    go_ret
    exact ⟨by rw [HF.out]; rfl, A0.out⟩
  obtain ⟨x0, x1, x2, x3⟩ := cells4 X0.out
  go_wp2_with fail
  clear x0 x1 x2 x3
  refine (idin_i x.next 1 7 _).mono ?_
  rintro e w1 ⟨rfl, rfl⟩
  cases q1 : iv x.next 1 7
  · have HF := Lib.hid (show nodeB x = false by rw [nodeB_eq]; simp [q0, q1])
    go_wp2
    go_ret
    exact ⟨by rw [HF.out]; rfl, A0.out⟩
  obtain ⟨x0, x1, x2, x3⟩ := cells4 X0.out
  go_wp2_with fail
  clear x0 x1 x2 x3
  refine (impl_insts _ x.insts a _ (PH.out.later A0.out).1 (HS.out.later A0.out)).mono ?_
  rintro e w1 ⟨rfl, bb⟩
  have X1 := Lib.hid (X0.out.after bb)
  have A1 := Lib.hid (A0.out.after bb)
  clear bb X0 A0
  cases q2 : instsB x.insts
  · have HF := Lib.hid (show nodeB x = false by rw [nodeB_eq]; simp [q0, q1, q2])
    go_wp2
    go_ret
    exact ⟨by rw [HF.out]; rfl, A1.out⟩
  obtain ⟨x0, x1, x2, x3⟩ := cells4 X1.out
  go_wp2_with fail
  clear x0 x1 x2 x3
  refine (impl_anyEarly x.me x.next _ x.insts _ _ _ _ _ _ _ (PH.out.later A1.out).1).mono ?_
  rintro e w2 ⟨rfl, bb⟩
  have X2 := Lib.hid (X1.out.after bb)
  have A2 := Lib.hid (A1.out.after bb)
  clear bb X1 A1
  cases q3 : noneB x.me x.next x.insts
  · have HF := Lib.hid (show nodeB x = false by rw [nodeB_eq]; simp [q0, q1, q2, q3])
    go_wp2
    go_ret
    exact ⟨by rw [HF.out]; rfl, A2.out⟩
  have HF := Lib.hid (show nodeB x = ldsB x.leads by rw [nodeB_eq]; simp [q0, q1, q2, q3])
  obtain ⟨x0, x1, x2, x3⟩ := cells4 X2.out
  go_wp2_with fail
  clear x0 x1 x2 x3
  refine (impl_leadsOk _ x.leads _ (PH.out.later A2.out).2).mono ?_
  rintro e w3 ⟨rfl, bb⟩
  have A3 := Lib.hid (A2.out.after bb)
  clear bb X2 A2
  go_wp2
  go_ret
  exact ⟨by rw [HF.out]; rfl, A3.out⟩
end Go.Proofs.YtckeeadkhopljaaGreatDoor
