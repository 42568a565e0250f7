/- When a node is valid: the model's walk. -/
import Derived.Test.YthihihphbcaieaaDoorNdW
import Derived.Test.YthihihphbcaieaaDoorLdVs
import Derived.Test.YthihihphbcaieaaDoorInLs
namespace Go.Proofs.YthihihphbcaieaaDoor
open Go.RowKit Go.PlainAid
set_option linter.unusedVariables false

set_option maxRecDepth 100000 in
set_option maxHeartbeats 2000000 in
theorem spec_at9 (x : Nd) (u v : Value) (r s : Int) (w : World) (h : NdP w x u v) :
    Calls Tryd.prog 123 #[.agg #[.int .i64 x.me, .int .i64 x.next, u, v], .agg #[.int .i64 r, .int .i64 s]] w fun e w' => e = .returned (.int .i64 (atZ x.leads r s)) ∧ Below w.heap.size w w' := by
  obtain ⟨⟨a1, n1, c1, rfl⟩, _⟩ := h.form
  obtain ⟨h1, a, ca, rfl, hca, ha⟩ := h.2
  obtain ⟨l, hl⟩ : ∃ l, x.leads = l := ⟨_, rfl⟩
  rw [hl] at h1 hca ha ⊢
  generalize hn : l.length = n at h1 ha hca ⊢
  have HN := Lib.hid hn
  have HA := Lib.hid ha
  have X0 := Lib.hid ((Bx.new w 101 #[.int .i64 x.me, .int .i64 x.next, .slice a1 n1 c1, .slice a n ca] _ rfl).alloc (.cells #[.int .i64 r, .int .i64 s] 40))
  have I0 := Lib.hid (Bx.new (w.alloc (.cells #[.int .i64 x.me, .int .i64 x.next, .slice a1 n1 c1, .slice a n ca] 101)) 40 #[.int .i64 r, .int .i64 s] (w.heap.size + 1) (by simp))
  have A0 := Lib.hid (((Af.refl w).alloc (.cells #[.int .i64 x.me, .int .i64 x.next, .slice a1 n1 c1, .slice a n ca] 101)).alloc (.cells #[.int .i64 r, .int .i64 s] 40))
  clear hn ha hca h hl
  go_enter Tryd.func123, Tryd.ntmps123
  go_wp2
  go_loopw [5] (fun i wr => ∃ k : Nat, k ≤ n ∧ i = .int .i64 k ∧ (∀ j, j < k → ¬ ((nthL l j).rep = r ∧ (nthL l j).slot = s)) ∧ Bx wr w.heap.size 101 #[.int .i64 x.me, .int .i64 x.next, .slice a1 n1 c1, .slice a n ca] ∧ Bx wr (w.heap.size + 1) 40 #[.int .i64 r, .int .i64 s] ∧ Af w wr) (fun i _ => n - (intOf i).toNat)
  case atStart => exact ⟨0, by omega, rfl, fun j hj => by omega, X0.out, I0.out, A0.out⟩
  case round =>
    obtain ⟨k, hk, rfl, he, hx, hi, haf⟩ := hrel
    have HE := Lib.hid he
    have XB := Lib.hid hx
    have IB := Lib.hid hi
    have A := Lib.hid haf
    clear he hx hi haf X0 I0 A0
    obtain ⟨x0, x1, x2, x3⟩ := cells4 XB.out
    have i0 : wr.cell? ⟨w.heap.size + 1, 0, none⟩ = some (.int .i64 r) := IB.out.cell 0 _ rfl
    have i1 : wr.cell? ⟨w.heap.size + 1, 1, none⟩ = some (.int .i64 s) := IB.out.cell 1 _ rfl
    by_cases hlt : k < n
    · obtain ⟨b, o, rfl, hb, hcx⟩ := HA.out (by omega)
      obtain ⟨d, f, cc, pp⟩ := hcx k hlt
      obtain ⟨m0, m1, m2, m3, m4, m5, m6, m7⟩ := cc.below A.out hb
      obtain ⟨q, hq⟩ : ∃ q, nthL l k = q := ⟨_, rfl⟩
      have HQ := Lib.hid hq
      rw [hq] at m0 m1 m2 m3 m4 m7
      have y1 : (k : Int) < (n : Int) := by omega
      have y0 : (0 : Int) ≤ (k : Int) := by omega
      have hbr : b < wr.heap.size := Nat.lt_of_lt_of_le hb (Af.size A.out)
      have HL := Lib.hid (fun W (h : LatI wr W) => And.intro (cells4 (XB.out.after h)) (And.intro (And.intro ((h.cell (p := ⟨w.heap.size + 1, 0, none⟩) IB.out.lt).trans i0) ((h.cell (p := ⟨w.heap.size + 1, 1, none⟩) IB.out.lt).trans i1)) (And.intro ((h.cell (p := ⟨b, o + k * 8, none⟩) hbr).trans m0) ((h.cell (p := ⟨b, o + k * 8 + 1, none⟩) hbr).trans m1))))
      clear hcx cc pp hq
      by_cases hr1 : q.rep = r
      · by_cases hr2 : q.slot = s
        · have HX := Lib.hid (show atZ l r s = k from atZ_hit l r s k (by rw [HN.out]; exact hlt) HE.out (by rw [HQ.out]; exact hr1) (by rw [HQ.out]; exact hr2))
          have hs1 : (q.rep == r) = true := by simpa using hr1
          have hs2 : (q.slot == s) = true := by simpa using hr2
          clear hr1 hr2
          go_wp2_with fail
          refine wp_region_quiet (C := LatI wr) (by kernel_rfl) (by kernel_rfl) (show LatI wr wr.drew from Below.drew (Below.refl _ _)) ?_
          dsimp only
          repeat (first | go_big_quiet_skip | (go_big_quiet_want; go_big_quiet_op; (first | go_big_quiet_on | (refine ⟨_, fun _ _ => rfl, ?_⟩; go_big_quiet_on) | (refine ⟨.slice (some ⟨b, o, none⟩) n ca, ?_, ?_⟩; intro w' hw'; obtain ⟨⟨e0, e1, e2, e3⟩, ⟨d0, d1⟩, p0, p1⟩ := HL.out w' hw'; simp [e3, Result.andThen]; go_big_quiet_on) | (refine ⟨.agg #[.int .i64 r, .int .i64 s], ?_, ?_⟩; intro w' hw'; obtain ⟨⟨e0, e1, e2, e3⟩, ⟨d0, d1⟩, p0, p1⟩ := HL.out w' hw'; simp [d0, d1, Result.andThen]; go_big_quiet_on) | (refine ⟨.agg #[.int .i64 q.rep, .int .i64 q.slot], ?_, ?_⟩; intro w' hw'; obtain ⟨⟨e0, e1, e2, e3⟩, ⟨d0, d1⟩, p0, p1⟩ := HL.out w' hw'; simp [p0, p1, Result.andThen]; go_big_quiet_on))))
          refine wpQuiet_nil ?_
          intro w2 L2
          have A2 := Lib.hid (A.out.after L2)
          have X2 := Lib.hid (XB.out.after L2)
          have I2 := Lib.hid (IB.out.after L2)
          clear L2 HL
          go_wp2
          go_ret
          exact ⟨by rw [HX.out]; rfl, A2.out⟩
        · have HNE := Lib.hid (show ¬ ((nthL l k).rep = r ∧ (nthL l k).slot = s) by rw [HQ.out]; exact fun e => hr2 e.2)
          have hs1 : (q.rep == r) = true := by simpa using hr1
          have hs2 : (q.slot == s) = false := ine_no hr2
          clear hr1 hr2
          go_wp2_with fail
          refine wp_region_quiet (C := LatI wr) (by kernel_rfl) (by kernel_rfl) (show LatI wr wr.drew from Below.drew (Below.refl _ _)) ?_
          dsimp only
          repeat (first | go_big_quiet_skip | (go_big_quiet_want; go_big_quiet_op; (first | go_big_quiet_on | (refine ⟨_, fun _ _ => rfl, ?_⟩; go_big_quiet_on) | (refine ⟨.slice (some ⟨b, o, none⟩) n ca, ?_, ?_⟩; intro w' hw'; obtain ⟨⟨e0, e1, e2, e3⟩, ⟨d0, d1⟩, p0, p1⟩ := HL.out w' hw'; simp [e3, Result.andThen]; go_big_quiet_on) | (refine ⟨.agg #[.int .i64 r, .int .i64 s], ?_, ?_⟩; intro w' hw'; obtain ⟨⟨e0, e1, e2, e3⟩, ⟨d0, d1⟩, p0, p1⟩ := HL.out w' hw'; simp [d0, d1, Result.andThen]; go_big_quiet_on) | (refine ⟨.agg #[.int .i64 q.rep, .int .i64 q.slot], ?_, ?_⟩; intro w' hw'; obtain ⟨⟨e0, e1, e2, e3⟩, ⟨d0, d1⟩, p0, p1⟩ := HL.out w' hw'; simp [p0, p1, Result.andThen]; go_big_quiet_on))))
          refine wpQuiet_nil ?_
          intro w2 L2
          have A2 := Lib.hid (A.out.after L2)
          have X2 := Lib.hid (XB.out.after L2)
          have I2 := Lib.hid (IB.out.after L2)
          clear L2 HL
          go_wp2
          go_roundw
          case rel =>
            refine ⟨k + 1, by omega, by go_num, fun j hj => ?_, X2.out, I2.out, A2.out⟩
            by_cases e : j = k
            · subst e; exact HNE.out
            · exact HE.out j (by omega)
          case measure => simp only [intOf]; omega
      · have HNE := Lib.hid (show ¬ ((nthL l k).rep = r ∧ (nthL l k).slot = s) by rw [HQ.out]; exact fun e => hr1 e.1)
        have hs1 : (q.rep == r) = false := ine_no hr1
        clear hr1
        go_wp2_with fail
        refine wp_region_quiet (C := LatI wr) (by kernel_rfl) (by kernel_rfl) (show LatI wr wr.drew from Below.drew (Below.refl _ _)) ?_
        dsimp only
        repeat (first | go_big_quiet_skip | (go_big_quiet_want; go_big_quiet_op; (first | go_big_quiet_on | (refine ⟨_, fun _ _ => rfl, ?_⟩; go_big_quiet_on) | (refine ⟨.slice (some ⟨b, o, none⟩) n ca, ?_, ?_⟩; intro w' hw'; obtain ⟨⟨e0, e1, e2, e3⟩, ⟨d0, d1⟩, p0, p1⟩ := HL.out w' hw'; simp [e3, Result.andThen]; go_big_quiet_on) | (refine ⟨.agg #[.int .i64 r, .int .i64 s], ?_, ?_⟩; intro w' hw'; obtain ⟨⟨e0, e1, e2, e3⟩, ⟨d0, d1⟩, p0, p1⟩ := HL.out w' hw'; simp [d0, d1, Result.andThen]; go_big_quiet_on) | (refine ⟨.agg #[.int .i64 q.rep, .int .i64 q.slot], ?_, ?_⟩; intro w' hw'; obtain ⟨⟨e0, e1, e2, e3⟩, ⟨d0, d1⟩, p0, p1⟩ := HL.out w' hw'; simp [p0, p1, Result.andThen]; go_big_quiet_on))))
        refine wpQuiet_nil ?_
        intro w2 L2
        have A2 := Lib.hid (A.out.after L2)
        have X2 := Lib.hid (XB.out.after L2)
        have I2 := Lib.hid (IB.out.after L2)
        clear L2 HL
        go_wp2
        go_roundw
        case rel =>
          refine ⟨k + 1, by omega, by go_num, fun j hj => ?_, X2.out, I2.out, A2.out⟩
          by_cases e : j = k
          · subst e; exact HNE.out
          · exact HE.out j (by omega)
        case measure => simp only [intOf]; omega
    · obtain rfl : k = n := by omega
      have HX := Lib.hid (atZ_miss l r s (fun j hj => HE.out j (by rw [← HN.out]; exact hj)))
      go_wp2
      go_ret
      exact ⟨by rw [HX.out]; rfl, A.out⟩
theorem l_spec_lead (x : Ld) (d f : Value) (b : Bool) (e : ldB x = b) (w0 w : World) (hp : LPts w0 x d f) (h : LatI w0 w) : Calls Tryd.prog 122 #[.agg #[.int .i64 x.rep, .int .i64 x.slot, .int .i64 x.bal, .int .i64 x.ph, .int .i64 x.seq, d, f, .bool x.same]] w fun e w' => e = .returned (.bool b) ∧ LatI w0 w' :=
  (spec_lead x d f w (hp.later h)).mono fun _ w' hh => ⟨e ▸ hh.1, h.trans hh.2⟩
theorem l_spec_at9 (x : Nd) (u v : Value) (r s z : Int) (e : atZ x.leads r s = z) (w0 w : World) (hp : NdP w0 x u v) (h : LatI w0 w) : Calls Tryd.prog 123 #[.agg #[.int .i64 x.me, .int .i64 x.next, u, v], .agg #[.int .i64 r, .int .i64 s]] w fun e w' => e = .returned (.int .i64 z) ∧ LatI w0 w' :=
  (spec_at9 x u v r s w (hp.later h)).mono fun _ w' hh => ⟨e ▸ hh.1, h.trans hh.2⟩
set_option maxRecDepth 100000 in
set_option maxHeartbeats 4000000 in
theorem spec_nodeOk (x : Nd) (u v : Value) (w : World) (h : NdP w x u v) :
    Calls Tryd.prog 61 #[.agg #[.int .i64 x.me, .int .i64 x.next, u, v]] w fun e w' => e = .returned (.bool (nodeB x)) ∧ Below w.heap.size w w' := by
  obtain ⟨⟨a1, n1, c1, rfl⟩, a2, n2, c2, rfl⟩ := h.form
  have PH := Lib.hid h
  have X0 := Lib.hid (Bx.new w 101 #[.int .i64 x.me, .int .i64 x.next, .slice a1 n1 c1, .slice a2 n2 c2] _ rfl)
  have A0 := Lib.hid ((Af.refl w).alloc (.cells #[.int .i64 x.me, .int .i64 x.next, .slice a1 n1 c1, .slice a2 n2 c2] 101))
  clear h
  go_enter Tryd.func61, Tryd.ntmps61
  go_wp2_with fail
  refine (spec_node x.me _).mono ?_
  rintro e w1 ⟨rfl, rfl⟩
  cases q0 : iv x.me 0 2
  · have HF := Lib.hid (show nodeB x = false by rw [nodeB_eq]; simp [q0])
    go_wp2
    go_ret
    exact ⟨by rw [HF.out]; rfl, A0.out⟩
  obtain ⟨x0, x1, x2, x3⟩ := cells4 X0.out
  go_wp2_with fail
  clear x0 x1 x2 x3
  refine (idin_s x.next 1 7 _).mono ?_
  rintro e w1 ⟨rfl, rfl⟩
  cases q1 : iv x.next 1 7
  · have HF := Lib.hid (show nodeB x = false by rw [nodeB_eq]; simp [q0, q1])
    go_wp2
    go_ret
    exact ⟨by rw [HF.out]; rfl, A0.out⟩
  obtain ⟨x0, x1, x2, x3⟩ := cells4 X0.out
  go_wp2_with fail
  clear x0 x1 x2 x3
  refine (spec_insts _ x.insts _ (PH.out.later A0.out).1).mono ?_
  rintro e w1 ⟨rfl, bb⟩
  have X1 := Lib.hid (X0.out.after bb)
  have A1 := Lib.hid (A0.out.after bb)
  clear bb X0 A0
  cases q2 : instsB x.insts
  · have HF := Lib.hid (show nodeB x = false by rw [nodeB_eq]; simp [q0, q1, q2])
    go_wp2
    go_ret
    exact ⟨by rw [HF.out]; rfl, A1.out⟩
  have HF := Lib.hid (show nodeB x = (noneB x.me x.next x.insts && ldsB x.leads) by rw [nodeB_eq]; simp [q0, q1, q2])
  obtain ⟨k1, a, ca, he, hca, ha⟩ := PH.out.2
  simp only [Value.slice.injEq] at he
  obtain ⟨rfl, rfl, rfl⟩ := he
  obtain ⟨l, hl⟩ : ∃ l, x.leads = l := ⟨_, rfl⟩
  have HLX := Lib.hid hl
  rw [hl] at HF k1 hca ha X1
  obtain ⟨n, hn⟩ : ∃ n, l.length = n := ⟨_, rfl⟩
  rw [hn] at k1 hca ha X1
  have HN := Lib.hid hn
  have HA := Lib.hid ha
  obtain ⟨j1, b1, cb, he, hcb, hbi⟩ := PH.out.1
  simp only [Value.slice.injEq] at he
  obtain ⟨rfl, rfl, rfl⟩ := he
  obtain ⟨li, hli⟩ : ∃ l, x.insts = l := ⟨_, rfl⟩
  have HLI := Lib.hid hli
  rw [hli] at HF j1 hcb hbi X1
  obtain ⟨m, hm⟩ : ∃ m, li.length = m := ⟨_, rfl⟩
  rw [hm] at j1 hcb hbi X1
  have HM := Lib.hid hm
  have HBI := Lib.hid hbi
  clear hl hn ha hca hli hm hbi hcb q0 q1 q2
  by_cases h8 : n ≤ 8
  case neg =>
    have HX := Lib.hid (ldsB_big l (by rw [HN.out]; omega))
    have hd : decide (8 < (n : Int)) = true := dec_t (by omega)
    obtain ⟨x0, x1, x2, x3⟩ := cells4 X1.out
    go_wp2
    go_ret
    exact ⟨by rw [HF.out, HX.out, Bool.and_false]; rfl, A1.out⟩
  have hd : decide (8 < (n : Int)) = false := dec_f (by omega)
  obtain ⟨x0, x1, x2, x3⟩ := cells4 X1.out
  go_wp2
  clear hd
  go_loopw [3] (fun i wr => ∃ k : Nat, k ≤ m ∧ i = .int .i64 k ∧ (∀ j, j < k → earlyB x.me x.next (nth li j).rep (nth li j).slot = false) ∧ Bx wr w.heap.size 101 #[.int .i64 x.me, .int .i64 x.next, .slice a1 m c1, .slice a2 n c2] ∧ Af w wr) (fun i _ => m - (intOf i).toNat)
  case atStart => exact ⟨0, by omega, rfl, fun j hj => by omega, X1.out, A1.out⟩
  case round =>
    clear x0 x1 x2 x3 X1 A1
    obtain ⟨k, hk, rfl, he, hx, haf⟩ := hrel
    have HE := Lib.hid he
    have XB := Lib.hid hx
    have A := Lib.hid haf
    clear he hx haf
    obtain ⟨x0, x1, x2, x3⟩ := cells4 XB.out
    by_cases hlt : k < m
    · obtain ⟨b, o, rfl, hb, hcx⟩ := HBI.out (by omega)
      obtain ⟨u, d, cc, pp⟩ := hcx k hlt
      obtain ⟨m0, m1, _⟩ := cc.below A.out hb
      obtain ⟨q, hq⟩ : ∃ q, nth li k = q := ⟨_, rfl⟩
      have HQ := Lib.hid hq
      rw [hq] at m0 m1
      have y1 : (k : Int) < (m : Int) := by omega
      have y0 : (0 : Int) ≤ (k : Int) := by omega
      clear hcx cc pp hq
      cases hq1 : (q.rep == x.me)
      · have HK := Lib.hid (show earlyB x.me x.next (nth li k).rep (nth li k).slot = false by rw [HQ.out, earlyB_eq, hq1]; rfl)
        go_wp2
        go_quiet (fail)
        go_wp2
        go_roundw
        case rel =>
          refine ⟨k + 1, by omega, by go_num, fun j hj => ?_, XB.out.drewN _, A.out.drewN _⟩
          by_cases e : j = k
          · subst e; exact HK.out
          · exact HE.out j (by omega)
        case measure => simp only [intOf]; omega
      · cases hq2 : decide (x.next ≤ q.slot)
        · have HK := Lib.hid (show earlyB x.me x.next (nth li k).rep (nth li k).slot = false by rw [HQ.out, earlyB_eq, hq1, hq2]; rfl)
          go_wp2
          go_quiet (fail)
          go_wp2
          go_roundw
          case rel =>
            refine ⟨k + 1, by omega, by go_num, fun j hj => ?_, XB.out.drewN _, A.out.drewN _⟩
            by_cases e : j = k
            · subst e; exact HK.out
            · exact HE.out j (by omega)
          case measure => simp only [intOf]; omega
        · have HK := Lib.hid (show earlyB x.me x.next (nth li k).rep (nth li k).slot = true by rw [HQ.out, earlyB_eq, hq1, hq2]; rfl)
          go_wp2
          go_quiet (fail)
          go_wp2
          go_ret
          exact ⟨by rw [HF.out, noneB_no x.me x.next li k (by rw [HM.out]; exact hlt) HK.out]; rfl, A.out.drewN _⟩
    · obtain rfl : m = k := by omega
      have HF := Lib.hid (show nodeB x = ldsB l by rw [HF.out, noneB_yes x.me x.next li (fun j hj => HE.out j (by rw [← HM.out]; exact hj))]; rfl)
      clear HE
      go_wp2
      clear x0 x1 x2 x3
      go_loopw [4] (fun i wr => ∃ k : Nat, k ≤ n ∧ i = .int .i64 k ∧ (∀ j, j < k → ldsAt l j = true) ∧ Bx wr w.heap.size 101 #[.int .i64 x.me, .int .i64 x.next, .slice a1 m c1, .slice a2 n c2] ∧ Af w wr) (fun i _ => n - (intOf i).toNat)
      case atStart => exact ⟨0, by omega, rfl, fun j hj => by omega, XB.out, A.out⟩
      case round =>
        clear XB A
        obtain ⟨k, hk, rfl, he, hx, haf⟩ := hrel
        have HE := Lib.hid he
        have XB := Lib.hid hx
        have A := Lib.hid haf
        clear he hx haf
        obtain ⟨x0, x1, x2, x3⟩ := cells4 XB.out
        by_cases hlt : k < n
        · obtain ⟨b, o, rfl, hb, hcx⟩ := HA.out (by omega)
          obtain ⟨d, f, cc, pp⟩ := hcx k hlt
          have hbr : b < wr.heap.size := Nat.lt_of_lt_of_le hb (Af.size A.out)
          have CK := Lib.hid (cc.below A.out hb)
          have PK := Lib.hid (pp.later A.out)
          have NP := Lib.hid (show NdP wr x (.slice a1 m c1) (.slice (some ⟨b, o, none⟩) n c2) from by have h := PH.out.later A.out; rw [HLI.out, HM.out, HLX.out, HN.out] at h; exact h)
          obtain ⟨⟨a3, n3, c3, rfl⟩, a4, n4, c4, rfl⟩ := pp.form
          obtain ⟨q, hq⟩ : ∃ q, nthL l k = q := ⟨_, rfl⟩
          have HQ := Lib.hid hq
          rw [hq] at CK PK
          obtain ⟨z, hz⟩ : ∃ z, atZ l q.rep q.slot = z := ⟨_, rfl⟩
          have y1 : (k : Int) < (n : Int) := by omega
          have y0 : (0 : Int) ≤ (k : Int) := by omega
          clear hcx cc pp hq
          cases hld : ldB q
          · have HK := Lib.hid (show ldsAt l k = false by rw [ldsAt_eq, HQ.out, hld]; rfl)
            have HC1 := Lib.hid (fun W (h : LatI wr W) => l_spec_lead q _ _ _ hld wr W PK.out h)
            clear hld
            go_wp2_with fail
            have HL := Lib.hid (fun W (h : LatI wr W) => And.intro (cells4 (XB.out.after h)) (CK.out.below h hbr))
            refine wp_region_quiet (C := LatI wr) (by kernel_rfl) (by kernel_rfl) (show LatI wr wr.drew from Below.drew (Below.refl _ _)) ?_
            dsimp only
            repeat (first | go_big_quiet_skip | (go_big_quiet_want; go_big_quiet_op; (first | go_big_quiet_on | (refine ⟨_, fun _ _ => rfl, ?_⟩; go_big_quiet_on) | (refine ⟨.slice (some ⟨b, o, none⟩) n c2, ?_, ?_⟩; intro w' hw'; obtain ⟨⟨x0, x1, x2, x3⟩, e0, e1, e2, e3, e4, e5, e6, e7⟩ := HL.out w' hw'; simp [x3, Result.andThen]; go_big_quiet_on) | (refine ⟨.agg #[.int .i64 q.rep, .int .i64 q.slot, .int .i64 q.bal, .int .i64 q.ph, .int .i64 q.seq, .slice a3 n3 c3, .slice a4 n4 c4, .bool q.same], ?_, ?_⟩; intro w' hw'; obtain ⟨⟨x0, x1, x2, x3⟩, e0, e1, e2, e3, e4, e5, e6, e7⟩ := HL.out w' hw'; simp [e0, e1, e2, e3, e4, e5, e6, e7, Result.andThen]; go_big_quiet_on) | (refine ⟨_, fun w' hw' => HC1.out w' hw', ?_⟩; go_big_quiet_on))))
            refine wpQuiet_nil ?_
            intro w2 L2
            have A2 := Lib.hid (A.out.after L2)
            have X2 := Lib.hid (XB.out.after L2)
            clear L2 HL
            go_wp2
            go_ret
            exact ⟨by rw [HF.out, ldsB_no l k (by rw [HN.out]; exact hlt) HK.out]; rfl, A2.out⟩
          · cases hdu : dupB l k
            · have HK := Lib.hid (show ldsAt l k = true by rw [ldsAt_eq, HQ.out, hld, hdu]; rfl)
              have HC1 := Lib.hid (fun W (h : LatI wr W) => l_spec_lead q _ _ _ hld wr W PK.out h)
              have hzk : (z == (k : Int)) = true := by have := atZ_dup l k (by rw [HN.out]; exact hlt); rw [HQ.out, hz, hdu] at this; exact this
              have hzn : (z != (k : Int)) = false := by rw [bne, hzk]; rfl
              have HC2 := Lib.hid (fun W (h : LatI wr W) => l_spec_at9 x _ _ q.rep q.slot z (by rw [HLX.out]; exact hz) wr W NP.out h)
              clear hz
              clear hld hdu
              go_wp2_with fail
              have HL := Lib.hid (fun W (h : LatI wr W) => And.intro (cells4 (XB.out.after h)) (CK.out.below h hbr))
              refine wp_region_quiet (C := LatI wr) (by kernel_rfl) (by kernel_rfl) (show LatI wr wr.drew from Below.drew (Below.refl _ _)) ?_
              dsimp only
              repeat (first | go_big_quiet_skip | (go_big_quiet_want; go_big_quiet_op; (first | go_big_quiet_on | (refine ⟨_, fun _ _ => rfl, ?_⟩; go_big_quiet_on) | (refine ⟨.slice (some ⟨b, o, none⟩) n c2, ?_, ?_⟩; intro w' hw'; obtain ⟨⟨x0, x1, x2, x3⟩, e0, e1, e2, e3, e4, e5, e6, e7⟩ := HL.out w' hw'; simp [x3, Result.andThen]; go_big_quiet_on) | (refine ⟨.agg #[.int .i64 q.rep, .int .i64 q.slot, .int .i64 q.bal, .int .i64 q.ph, .int .i64 q.seq, .slice a3 n3 c3, .slice a4 n4 c4, .bool q.same], ?_, ?_⟩; intro w' hw'; obtain ⟨⟨x0, x1, x2, x3⟩, e0, e1, e2, e3, e4, e5, e6, e7⟩ := HL.out w' hw'; simp [e0, e1, e2, e3, e4, e5, e6, e7, Result.andThen]; go_big_quiet_on) | (refine ⟨_, fun w' hw' => HC1.out w' hw', ?_⟩; go_big_quiet_on) | (refine ⟨.agg #[.int .i64 x.me, .int .i64 x.next, .slice a1 m c1, .slice (some ⟨b, o, none⟩) n c2], ?_, ?_⟩; intro w' hw'; obtain ⟨⟨x0, x1, x2, x3⟩, e0, e1, e2, e3, e4, e5, e6, e7⟩ := HL.out w' hw'; simp [x0, x1, x2, x3, Result.andThen]; go_big_quiet_on) | (refine ⟨.agg #[.int .i64 q.rep, .int .i64 q.slot], ?_, ?_⟩; intro w' hw'; obtain ⟨⟨x0, x1, x2, x3⟩, e0, e1, e2, e3, e4, e5, e6, e7⟩ := HL.out w' hw'; simp [e0, e1, Result.andThen]; go_big_quiet_on) | (refine ⟨_, fun w' hw' => HC2.out w' hw', ?_⟩; go_big_quiet_on))))
              refine wpQuiet_nil ?_
              intro w2 L2
              have A2 := Lib.hid (A.out.after L2)
              have X2 := Lib.hid (XB.out.after L2)
              clear L2 HL
              go_wp2
              go_roundw
              case rel =>
                refine ⟨k + 1, by omega, by go_num, fun j hj => ?_, X2.out, A2.out⟩
                by_cases e : j = k
                · subst e; exact HK.out
                · exact HE.out j (by omega)
              case measure => simp only [intOf]; omega
            · have HK := Lib.hid (show ldsAt l k = false by rw [ldsAt_eq, HQ.out, hld, hdu]; rfl)
              have HC1 := Lib.hid (fun W (h : LatI wr W) => l_spec_lead q _ _ _ hld wr W PK.out h)
              have hzk : (z == (k : Int)) = false := by have := atZ_dup l k (by rw [HN.out]; exact hlt); rw [HQ.out, hz, hdu] at this; exact this
              have hzn : (z != (k : Int)) = true := by rw [bne, hzk]; rfl
              have HC2 := Lib.hid (fun W (h : LatI wr W) => l_spec_at9 x _ _ q.rep q.slot z (by rw [HLX.out]; exact hz) wr W NP.out h)
              clear hz
              clear hld hdu
              go_wp2_with fail
              have HL := Lib.hid (fun W (h : LatI wr W) => And.intro (cells4 (XB.out.after h)) (CK.out.below h hbr))
              refine wp_region_quiet (C := LatI wr) (by kernel_rfl) (by kernel_rfl) (show LatI wr wr.drew from Below.drew (Below.refl _ _)) ?_
              dsimp only
              repeat (first | go_big_quiet_skip | (go_big_quiet_want; go_big_quiet_op; (first | go_big_quiet_on | (refine ⟨_, fun _ _ => rfl, ?_⟩; go_big_quiet_on) | (refine ⟨.slice (some ⟨b, o, none⟩) n c2, ?_, ?_⟩; intro w' hw'; obtain ⟨⟨x0, x1, x2, x3⟩, e0, e1, e2, e3, e4, e5, e6, e7⟩ := HL.out w' hw'; simp [x3, Result.andThen]; go_big_quiet_on) | (refine ⟨.agg #[.int .i64 q.rep, .int .i64 q.slot, .int .i64 q.bal, .int .i64 q.ph, .int .i64 q.seq, .slice a3 n3 c3, .slice a4 n4 c4, .bool q.same], ?_, ?_⟩; intro w' hw'; obtain ⟨⟨x0, x1, x2, x3⟩, e0, e1, e2, e3, e4, e5, e6, e7⟩ := HL.out w' hw'; simp [e0, e1, e2, e3, e4, e5, e6, e7, Result.andThen]; go_big_quiet_on) | (refine ⟨_, fun w' hw' => HC1.out w' hw', ?_⟩; go_big_quiet_on) | (refine ⟨.agg #[.int .i64 x.me, .int .i64 x.next, .slice a1 m c1, .slice (some ⟨b, o, none⟩) n c2], ?_, ?_⟩; intro w' hw'; obtain ⟨⟨x0, x1, x2, x3⟩, e0, e1, e2, e3, e4, e5, e6, e7⟩ := HL.out w' hw'; simp [x0, x1, x2, x3, Result.andThen]; go_big_quiet_on) | (refine ⟨.agg #[.int .i64 q.rep, .int .i64 q.slot], ?_, ?_⟩; intro w' hw'; obtain ⟨⟨x0, x1, x2, x3⟩, e0, e1, e2, e3, e4, e5, e6, e7⟩ := HL.out w' hw'; simp [e0, e1, Result.andThen]; go_big_quiet_on) | (refine ⟨_, fun w' hw' => HC2.out w' hw', ?_⟩; go_big_quiet_on))))
              refine wpQuiet_nil ?_
              intro w2 L2
              have A2 := Lib.hid (A.out.after L2)
              have X2 := Lib.hid (XB.out.after L2)
              clear L2 HL
              go_wp2
              go_ret
              exact ⟨by rw [HF.out, ldsB_no l k (by rw [HN.out]; exact hlt) HK.out]; rfl, A2.out⟩
        · obtain rfl : k = n := by omega
          have HX := Lib.hid (ldsB_yes l (by rw [HN.out]; omega) (fun j hj => HE.out j (by rw [← HN.out]; exact hj)))
          go_wp2
          go_ret
          exact ⟨by rw [HF.out, HX.out]; rfl, A.out⟩
end Go.Proofs.YthihihphbcaieaaDoor
