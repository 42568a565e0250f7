/- A bundle of texts: NtV, NtI, QTake, QMix, NtLaw. -/
import Derived.Test.YtdokglckfabdaaaGreatDoorNtW
import Derived.Test.YtdokglckfabdaaaGreatDoorNdVX
import Derived.Test.YtdokglckfabdaaaGreatDoorSmS
import Derived.Test.YtdokglckfabdaaaGreatDoorIdL
import Derived.Test.YtdokglckfabdaaaGreatDoorNtS
import Derived.Test.YtdokglckfabdaaaGreatDoorSmE
import Derived.Test.YtdokglckfabdaaaGreatDoorRows
import Derived.WalkKit
import Derived.OrdersHeld
import Derived.StillTail
/- Valid networks: the model. -/
namespace Go.Proofs.YtdokglckfabdaaaGreatDoor
open Go.RowKit Go.PlainAid
set_option linter.unusedVariables false

theorem l_spec_same (x y : Em) (u d u' d' : Value) (b : Bool) (hb : smB x y = b) (w0 w : World) (h : Pts w0 x.i u d) (h' : Pts w0 y.i u' d') (hl : LatI w0 w) :
    Calls Tryz.prog 31 #[.agg #[.int .i64 x.kind, .int .i64 x.frm, .int .i64 x.dst, .int .i64 x.i.rep, .int .i64 x.i.slot, .int .i64 x.i.bal, .int .i64 x.i.cmd.kind, .int .i64 x.i.cmd.client, .int .i64 x.i.cmd.no, .string x.i.cmd.set, .string x.i.cmd.name, .string x.i.cmd.tag, .int .i64 x.i.cmd.n, u, .int .i64 x.i.seq, d, .int .i64 x.i.st, .int .i64 x.i.vbal, .bool x.i.same], .agg #[.int .i64 y.kind, .int .i64 y.frm, .int .i64 y.dst, .int .i64 y.i.rep, .int .i64 y.i.slot, .int .i64 y.i.bal, .int .i64 y.i.cmd.kind, .int .i64 y.i.cmd.client, .int .i64 y.i.cmd.no, .string y.i.cmd.set, .string y.i.cmd.name, .string y.i.cmd.tag, .int .i64 y.i.cmd.n, u', .int .i64 y.i.seq, d', .int .i64 y.i.st, .int .i64 y.i.vbal, .bool y.i.same]] w fun e w' => e = .returned (.bool b) ∧ LatI w0 w' :=
  (spec_sameMsg x y u d u' d' w (h.later hl) (h'.later hl)).mono fun _ w' hh => ⟨hb ▸ hh.1, hl.trans hh.2⟩
theorem l_spec_emsg (x : Em) (u d : Value) (b : Bool) (hb : emB x = b) (w0 w : World) (h : Pts w0 x.i u d) (hl : LatI w0 w) :
    Calls Tryz.prog 12 #[.agg #[.int .i64 x.kind, .int .i64 x.frm, .int .i64 x.dst, .int .i64 x.i.rep, .int .i64 x.i.slot, .int .i64 x.i.bal, .int .i64 x.i.cmd.kind, .int .i64 x.i.cmd.client, .int .i64 x.i.cmd.no, .string x.i.cmd.set, .string x.i.cmd.name, .string x.i.cmd.tag, .int .i64 x.i.cmd.n, u, .int .i64 x.i.seq, d, .int .i64 x.i.st, .int .i64 x.i.vbal, .bool x.i.same]] w fun e w' => e = .returned (.bool b) ∧ LatI w0 w' :=
  (spec_emsg x u d w (h.later hl)).mono fun _ w' hh => ⟨hb ▸ hh.1, hl.trans hh.2⟩
set_option maxRecDepth 100000 in
set_option maxHeartbeats 4000000 in
theorem spec_hasM (v : Value) (l : List Em) (m : Em) (mu md : Value) (w : World) (hv : Msgs w v l) (hm : Pts w m.i mu md) :
    Calls Tryz.prog 13 #[v, .agg #[.int .i64 m.kind, .int .i64 m.frm, .int .i64 m.dst, .int .i64 m.i.rep, .int .i64 m.i.slot, .int .i64 m.i.bal, .int .i64 m.i.cmd.kind, .int .i64 m.i.cmd.client, .int .i64 m.i.cmd.no, .string m.i.cmd.set, .string m.i.cmd.name, .string m.i.cmd.tag, .int .i64 m.i.cmd.n, mu, .int .i64 m.i.seq, md, .int .i64 m.i.st, .int .i64 m.i.vbal, .bool m.i.same]] w fun e w' => e = .returned (.bool (hasE l l.length m)) ∧ Below w.heap.size w w' := by
  obtain ⟨h1, a, ca, rfl, hca, ha⟩ := hv
  obtain ⟨⟨y1, y2, y3, rfl⟩, y4, y5, y6, rfl⟩ := hm.form
  generalize hn : l.length = n at h1 ha hca
  have HN := Lib.hid hn
  have HA := Lib.hid ha
  have HM := Lib.hid hm
  have X0 := Lib.hid (Bx.new w 50 #[.int .i64 m.kind, .int .i64 m.frm, .int .i64 m.dst, .int .i64 m.i.rep, .int .i64 m.i.slot, .int .i64 m.i.bal, .int .i64 m.i.cmd.kind, .int .i64 m.i.cmd.client, .int .i64 m.i.cmd.no, .string m.i.cmd.set, .string m.i.cmd.name, .string m.i.cmd.tag, .int .i64 m.i.cmd.n, .slice y1 y2 y3, .int .i64 m.i.seq, .slice y4 y5 y6, .int .i64 m.i.st, .int .i64 m.i.vbal, .bool m.i.same] _ rfl)
  have A0 := Lib.hid ((Af.refl w).alloc (.cells #[.int .i64 m.kind, .int .i64 m.frm, .int .i64 m.dst, .int .i64 m.i.rep, .int .i64 m.i.slot, .int .i64 m.i.bal, .int .i64 m.i.cmd.kind, .int .i64 m.i.cmd.client, .int .i64 m.i.cmd.no, .string m.i.cmd.set, .string m.i.cmd.name, .string m.i.cmd.tag, .int .i64 m.i.cmd.n, .slice y1 y2 y3, .int .i64 m.i.seq, .slice y4 y5 y6, .int .i64 m.i.st, .int .i64 m.i.vbal, .bool m.i.same] 50))
  clear hn ha hca hm
  go_enter Tryz.func13, Tryz.ntmps13
  go_wp2
  go_loopw [5] (fun i wr => ∃ k : Nat, k ≤ n ∧ i = .int .i64 k ∧ (∀ j, j < k → smB (nthE l j) m = false) ∧ Bx wr w.heap.size 50 #[.int .i64 m.kind, .int .i64 m.frm, .int .i64 m.dst, .int .i64 m.i.rep, .int .i64 m.i.slot, .int .i64 m.i.bal, .int .i64 m.i.cmd.kind, .int .i64 m.i.cmd.client, .int .i64 m.i.cmd.no, .string m.i.cmd.set, .string m.i.cmd.name, .string m.i.cmd.tag, .int .i64 m.i.cmd.n, .slice y1 y2 y3, .int .i64 m.i.seq, .slice y4 y5 y6, .int .i64 m.i.st, .int .i64 m.i.vbal, .bool m.i.same] ∧ Af w wr) (fun i _ => n - (intOf i).toNat)
  case atStart => exact ⟨0, by omega, rfl, fun j hj => by omega, X0.out, A0.out⟩
  case round =>
    obtain ⟨k, hk, rfl, he, hx, haf⟩ := hrel
    have HE := Lib.hid he
    have X := Lib.hid hx
    have A := Lib.hid haf
    clear he hx haf X0 A0
    by_cases hlt : k < n
    · obtain ⟨b, o, rfl, hb, hcb⟩ := HA.out (by omega)
      obtain ⟨u, d, cc, pp⟩ := hcb k hlt
      have PK := Lib.hid (pp.later A.out)
      have PM := Lib.hid (HM.out.later A.out)
      obtain ⟨⟨a1, n1, c1, rfl⟩, a2, n2, c2, rfl⟩ := pp.form
      obtain ⟨q, hq⟩ : ∃ q, nthE l k = q := ⟨_, rfl⟩
      have HQ := Lib.hid hq
      rw [hq] at cc PK
      have HL := Lib.hid (fun W (h : LatI wr W) => And.intro (cc.below (A.out.after h) hb) (X.out.after h).c19)
      have z1 : (k : Int) < (n : Int) := by omega
      have z0 : (0 : Int) ≤ (k : Int) := by omega
      clear hcb cc pp hq
      cases hs : smB q m
      · have HK := Lib.hid (show smB (nthE l k) m = false by rw [HQ.out, hs])
        have HC := Lib.hid (fun W (h : LatI wr W) => l_spec_same q m _ _ _ _ false hs wr W PK.out PM.out h)
        clear hs
        go_wp2_with fail
        refine wp_region_quiet (C := LatI wr) (by kernel_rfl) (by kernel_rfl) (show LatI wr (World.drew _) from Below.drew (Below.refl _ _)) ?_
        dsimp only
        repeat (first | go_big_quiet_skip | (go_big_quiet_want; go_big_quiet_op; (first | go_big_quiet_on | (refine ⟨_, fun _ _ => rfl, ?_⟩; go_big_quiet_on) | (refine ⟨.agg #[.int .i64 q.kind, .int .i64 q.frm, .int .i64 q.dst, .int .i64 q.i.rep, .int .i64 q.i.slot, .int .i64 q.i.bal, .int .i64 q.i.cmd.kind, .int .i64 q.i.cmd.client, .int .i64 q.i.cmd.no, .string q.i.cmd.set, .string q.i.cmd.name, .string q.i.cmd.tag, .int .i64 q.i.cmd.n, .slice a1 n1 c1, .int .i64 q.i.seq, .slice a2 n2 c2, .int .i64 q.i.st, .int .i64 q.i.vbal, .bool q.i.same], ?_, ?_⟩; intro w' hw'; obtain ⟨⟨e0, e1, e2, e3, e4, e5, e6, e7, e8, e9, e10, e11, e12, e13, e14, e15, e16, e17, e18⟩, _⟩ := HL.out w' hw'; simp [e0, e1, e2, e3, e4, e5, e6, e7, e8, e9, e10, e11, e12, e13, e14, e15, e16, e17, e18, Result.andThen]; go_big_quiet_on) | (refine ⟨.agg #[.int .i64 m.kind, .int .i64 m.frm, .int .i64 m.dst, .int .i64 m.i.rep, .int .i64 m.i.slot, .int .i64 m.i.bal, .int .i64 m.i.cmd.kind, .int .i64 m.i.cmd.client, .int .i64 m.i.cmd.no, .string m.i.cmd.set, .string m.i.cmd.name, .string m.i.cmd.tag, .int .i64 m.i.cmd.n, .slice y1 y2 y3, .int .i64 m.i.seq, .slice y4 y5 y6, .int .i64 m.i.st, .int .i64 m.i.vbal, .bool m.i.same], ?_, ?_⟩; intro w' hw'; obtain ⟨_, e0, e1, e2, e3, e4, e5, e6, e7, e8, e9, e10, e11, e12, e13, e14, e15, e16, e17, e18⟩ := HL.out w' hw'; simp [e0, e1, e2, e3, e4, e5, e6, e7, e8, e9, e10, e11, e12, e13, e14, e15, e16, e17, e18, Result.andThen]; go_big_quiet_on) | (refine ⟨_, fun w' hw' => HC.out w' hw', ?_⟩; go_big_quiet_on))))
        refine wpQuiet_nil ?_
        intro w2 L2
        have X2 := Lib.hid (X.out.after L2)
        have A2 := Lib.hid (A.out.after L2)
        clear L2 HL HC
        go_wp2
        go_roundw
        case rel =>
          refine ⟨k + 1, by omega, by go_num, fun j hj => ?_, X2.out, A2.out⟩
          by_cases e : j = k
          · subst e; exact HK.out
          · exact HE.out j (by omega)
        case measure => simp only [intOf]; omega
      · have HK := Lib.hid (hasE_yes l n k m hlt (by rw [HQ.out, hs]))
        have HC := Lib.hid (fun W (h : LatI wr W) => l_spec_same q m _ _ _ _ true hs wr W PK.out PM.out h)
        clear hs
        go_wp2_with fail
        refine wp_region_quiet (C := LatI wr) (by kernel_rfl) (by kernel_rfl) (show LatI wr (World.drew _) from Below.drew (Below.refl _ _)) ?_
        dsimp only
        repeat (first | go_big_quiet_skip | (go_big_quiet_want; go_big_quiet_op; (first | go_big_quiet_on | (refine ⟨_, fun _ _ => rfl, ?_⟩; go_big_quiet_on) | (refine ⟨.agg #[.int .i64 q.kind, .int .i64 q.frm, .int .i64 q.dst, .int .i64 q.i.rep, .int .i64 q.i.slot, .int .i64 q.i.bal, .int .i64 q.i.cmd.kind, .int .i64 q.i.cmd.client, .int .i64 q.i.cmd.no, .string q.i.cmd.set, .string q.i.cmd.name, .string q.i.cmd.tag, .int .i64 q.i.cmd.n, .slice a1 n1 c1, .int .i64 q.i.seq, .slice a2 n2 c2, .int .i64 q.i.st, .int .i64 q.i.vbal, .bool q.i.same], ?_, ?_⟩; intro w' hw'; obtain ⟨⟨e0, e1, e2, e3, e4, e5, e6, e7, e8, e9, e10, e11, e12, e13, e14, e15, e16, e17, e18⟩, _⟩ := HL.out w' hw'; simp [e0, e1, e2, e3, e4, e5, e6, e7, e8, e9, e10, e11, e12, e13, e14, e15, e16, e17, e18, Result.andThen]; go_big_quiet_on) | (refine ⟨.agg #[.int .i64 m.kind, .int .i64 m.frm, .int .i64 m.dst, .int .i64 m.i.rep, .int .i64 m.i.slot, .int .i64 m.i.bal, .int .i64 m.i.cmd.kind, .int .i64 m.i.cmd.client, .int .i64 m.i.cmd.no, .string m.i.cmd.set, .string m.i.cmd.name, .string m.i.cmd.tag, .int .i64 m.i.cmd.n, .slice y1 y2 y3, .int .i64 m.i.seq, .slice y4 y5 y6, .int .i64 m.i.st, .int .i64 m.i.vbal, .bool m.i.same], ?_, ?_⟩; intro w' hw'; obtain ⟨_, e0, e1, e2, e3, e4, e5, e6, e7, e8, e9, e10, e11, e12, e13, e14, e15, e16, e17, e18⟩ := HL.out w' hw'; simp [e0, e1, e2, e3, e4, e5, e6, e7, e8, e9, e10, e11, e12, e13, e14, e15, e16, e17, e18, Result.andThen]; go_big_quiet_on) | (refine ⟨_, fun w' hw' => HC.out w' hw', ?_⟩; go_big_quiet_on))))
        refine wpQuiet_nil ?_
        intro w2 L2
        have A2 := Lib.hid (A.out.after L2)
        clear L2 HL HC
        go_wp2
        go_ret
        exact ⟨by rw [HK.out] <;> rfl, A2.out⟩
    · obtain rfl : k = n := by omega
      go_wp2
      go_ret
      exact ⟨by rw [hasE_no l k m HE.out] <;> rfl, A.out⟩
theorem l_spec_hasM (v : Value) (l : List Em) (m : Em) (mu md : Value) (b : Bool) (hb : hasE l l.length m = b) (w0 w : World) (h : Msgs w0 v l) (hm : Pts w0 m.i mu md) (hl : LatI w0 w) :
    Calls Tryz.prog 13 #[v, .agg #[.int .i64 m.kind, .int .i64 m.frm, .int .i64 m.dst, .int .i64 m.i.rep, .int .i64 m.i.slot, .int .i64 m.i.bal, .int .i64 m.i.cmd.kind, .int .i64 m.i.cmd.client, .int .i64 m.i.cmd.no, .string m.i.cmd.set, .string m.i.cmd.name, .string m.i.cmd.tag, .int .i64 m.i.cmd.n, mu, .int .i64 m.i.seq, md, .int .i64 m.i.st, .int .i64 m.i.vbal, .bool m.i.same]] w fun e w' => e = .returned (.bool b) ∧ LatI w0 w' :=
  (spec_hasM v l m mu md w (h.later hl) (hm.later hl)).mono fun _ w' hh => ⟨hb ▸ hh.1, hl.trans hh.2⟩
set_option maxRecDepth 100000 in
set_option maxHeartbeats 8000000 in
theorem spec_netOk (x : Nt) (u v : Value) (w : World) (h : NtP w x u v) :
    Calls Tryz.prog 5 #[.agg #[u, v]] w fun e w' => e = .returned (.bool (netB x)) ∧ Below w.heap.size w w' := by
  obtain ⟨hn, hm⟩ := h
  have HMS := Lib.hid hm
  obtain ⟨k1, ap, cp, rfl, hcp, hpl⟩ := hm
  obtain ⟨h1, a, ca, rfl, hca, ha⟩ := hn
  obtain ⟨n, hn⟩ : ∃ n, x.nodes.length = n := ⟨_, rfl⟩
  obtain ⟨r, hr⟩ : ∃ r, x.pool.length = r := ⟨_, rfl⟩
  have HN := Lib.hid hn
  have HR := Lib.hid hr
  rw [hr] at HMS k1 hcp hpl ⊢
  rw [hn] at h1 hca ha ⊢
  have HA := Lib.hid ha
  have HP := Lib.hid hpl
  have X0 := Lib.hid (Bx.new w 31 #[.slice a n ca, .slice ap r cp] _ rfl)
  have A0 := Lib.hid ((Af.refl w).alloc (.cells #[.slice a n ca, .slice ap r cp] 31))
  clear hn hr ha hca hpl
  by_cases hl3 : n = 3
  case neg =>
    have hne : (((n : Nat) : Int) != 3) = true := by simp; omega
    have HF := Lib.hid (netB_n (nodesB_len x.nodes (by rw [HN.out]; exact hl3)))
    go_enter Tryz.func5, Tryz.ntmps5
    go_wp2
    go_ret
    exact ⟨by rw [HF.out] <;> rfl, A0.out⟩
  subst hl3
  by_cases hbig : 160 < r
  · have hgt : decide ((160 : Int) < (r : Int)) = true := dec_t (by omega)
    have HF := Lib.hid (netB_p (poolB_big x.pool (by rw [HR.out]; exact hbig)))
    go_enter Tryz.func5, Tryz.ntmps5
    go_wp2
    go_ret
    exact ⟨by rw [HF.out] <;> rfl, A0.out⟩
  have hgt : decide ((160 : Int) < (r : Int)) = false := dec_f (by omega)
  go_enter Tryz.func5, Tryz.ntmps5
  go_wp2
  clear hgt
  go_loopw [3] (fun i wr => ∃ k : Nat, k ≤ 3 ∧ i = .int .i64 k ∧ (∀ j, j < k → okN x.nodes j = true) ∧ Bx wr w.heap.size 31 #[.slice a 3 ca, .slice ap r cp] ∧ Af w wr) (fun i _ => 3 - (intOf i).toNat)
  case atStart => exact ⟨0, by omega, rfl, fun j hj => by omega, X0.out, A0.out⟩
  case round =>
    clear X0 A0
    obtain ⟨k, hk, rfl, he, hx, haf⟩ := hrel
    have HE := Lib.hid he
    have X := Lib.hid hx
    have A := Lib.hid haf
    clear he hx haf
    by_cases hlt : k < 3
    · obtain ⟨b, o, rfl, hb, hcb⟩ := HA.out (by omega)
      obtain ⟨u, d, cc, pp⟩ := hcb k hlt
      have PK := Lib.hid (pp.later A.out)
      obtain ⟨⟨a1, n1, c1, rfl⟩, a2, n2, c2, rfl⟩ := pp.form
      obtain ⟨q, hq⟩ : ∃ q, nthN x.nodes k = q := ⟨_, rfl⟩
      have HQ := Lib.hid hq
      rw [hq] at cc PK
      have HC := Lib.hid (fun W (h : Af w W) => cc.below h hb)
      have z1 : (k : Int) < 3 := by omega
      have z0 : (0 : Int) ≤ (k : Int) := by omega
      obtain ⟨x0, x1⟩ := X.out.cT
      obtain ⟨e0, e1, e2, e3⟩ := HC.out _ A.out
      clear hcb cc pp hq
      go_wp2_with fail
      clear x0 x1 e0 e1 e2 e3
      refine (spec_nodeOk q _ _ _ PK.out).mono ?_
      rintro e w2 ⟨rfl, bb⟩
      have X := Lib.hid (X.out.after bb)
      have A := Lib.hid (A.out.after bb)
      clear bb
      cases hnb : nodeB q
      · have HF := Lib.hid (netB_n (nodesB_no x.nodes k hlt (by rw [okN_eq, HQ.out, hnb]; simp)))
        clear hnb
        go_wp2
        go_ret
        exact ⟨by rw [HF.out] <;> rfl, A.out⟩
      · obtain ⟨x0, x1⟩ := X.out.cT
        obtain ⟨e0, e1, e2, e3⟩ := HC.out _ A.out
        by_cases hme : q.me = (k : Int)
        · have HK := Lib.hid (show okN x.nodes k = true by rw [okN_eq, HQ.out, hnb, decide_eq_true hme]; rfl)
          have hmb : (q.me != (k : Int)) = false := by simpa using hme
          clear hnb hme
          go_wp2
          go_roundw
          case rel =>
            refine ⟨k + 1, by omega, by go_num, fun j hj => ?_, X.out, A.out⟩
            by_cases e : j = k
            · subst e; exact HK.out
            · exact HE.out j (by omega)
          case measure => simp only [intOf]; omega
        · have HF := Lib.hid (netB_n (nodesB_no x.nodes k hlt (by rw [okN_eq, HQ.out, decide_eq_false hme]; rfl)))
          have hmb : (q.me != (k : Int)) = true := by simpa using hme
          clear hnb hme
          go_wp2
          go_ret
          exact ⟨by rw [HF.out] <;> rfl, A.out⟩
    · obtain rfl : k = 3 := by omega
      have HNB := Lib.hid (nodesB_yes x.nodes HN.out HE.out)
      clear hlt HE
      go_wp2
      go_loopw [4] (fun i wr => ∃ k : Nat, k ≤ r ∧ i = .int .i64 k ∧ (∀ j, j < k → okM x.pool j = true) ∧ Bx wr w.heap.size 31 #[.slice a 3 ca, .slice ap r cp] ∧ Af w wr) (fun i _ => r - (intOf i).toNat)
      case atStart => exact ⟨0, by omega, rfl, fun j hj => by omega, X.out, A.out⟩
      case round =>
        clear X A
        obtain ⟨k, hk, rfl, he, hx, haf⟩ := hrel
        have HE := Lib.hid he
        have X := Lib.hid hx
        have A := Lib.hid haf
        clear he hx haf
        by_cases hlt : k < r
        · obtain ⟨b, o, rfl, hb, hcb⟩ := HP.out (by omega)
          obtain ⟨u, d, cc, pp⟩ := hcb k hlt
          have PK := Lib.hid (pp.later A.out)
          have PT := Lib.hid ((HMS.out.take k (by rw [HR.out]; omega)).later A.out)
          obtain ⟨⟨a1, n1, c1, rfl⟩, a2, n2, c2, rfl⟩ := pp.form
          obtain ⟨q, hq⟩ : ∃ q, nthE x.pool k = q := ⟨_, rfl⟩
          have HQ := Lib.hid hq
          rw [hq] at cc PK
          have HL := Lib.hid (fun W (h : LatI wr W) => And.intro (cc.below (A.out.after h) hb) (X.out.after h).cT)
          have z1 : (k : Int) < (r : Int) := by omega
          have z0 : (0 : Int) ≤ (k : Int) := by omega
          have z2 : k ≤ cp := by omega
          have z3 : (k : Int) ≤ (cp : Int) := by omega
          clear hcb cc pp hq
          obtain ⟨x0, x1⟩ := X.out.cT
          cases hem : emB q
          · have HF := Lib.hid (netB_p (poolB_no x.pool k (by rw [HR.out]; exact hlt) (by rw [okM_eq, HQ.out, hem]; rfl)))
            have HC := Lib.hid (fun W (h : LatI wr W) => l_spec_emsg q _ _ false hem wr W PK.out h)
            have HC2 := HC
            clear hem
            go_wp2_with fail
            clear x0 x1
            refine wp_region_quiet (C := LatI wr) (by kernel_rfl) (by kernel_rfl) (show LatI wr (World.drew _) from Below.drew (Below.refl _ _)) ?_
            dsimp only
            repeat (first | go_big_quiet_skip | (go_big_quiet_want; go_big_quiet_op; (first | go_big_quiet_on | (refine ⟨_, fun _ _ => rfl, ?_⟩; go_big_quiet_on) | (refine ⟨.slice (some ⟨b, o, none⟩) r cp, ?_, ?_⟩; intro w' hw'; obtain ⟨_, i0, i1⟩ := HL.out w' hw'; simp [i1, Result.andThen]; go_big_quiet_on) | (refine ⟨.agg #[.int .i64 q.kind, .int .i64 q.frm, .int .i64 q.dst, .int .i64 q.i.rep, .int .i64 q.i.slot, .int .i64 q.i.bal, .int .i64 q.i.cmd.kind, .int .i64 q.i.cmd.client, .int .i64 q.i.cmd.no, .string q.i.cmd.set, .string q.i.cmd.name, .string q.i.cmd.tag, .int .i64 q.i.cmd.n, .slice a1 n1 c1, .int .i64 q.i.seq, .slice a2 n2 c2, .int .i64 q.i.st, .int .i64 q.i.vbal, .bool q.i.same], ?_, ?_⟩; intro w' hw'; obtain ⟨⟨e0, e1, e2, e3, e4, e5, e6, e7, e8, e9, e10, e11, e12, e13, e14, e15, e16, e17, e18⟩, _⟩ := HL.out w' hw'; simp [e0, e1, e2, e3, e4, e5, e6, e7, e8, e9, e10, e11, e12, e13, e14, e15, e16, e17, e18, Result.andThen]; go_big_quiet_on) | (refine ⟨.slice (some ⟨b, o, none⟩) k cp, ?_, ?_⟩; intro w' hw'; go_simp; go_big_quiet_on) | (refine ⟨_, fun w' hw' => HC.out w' hw', ?_⟩; go_big_quiet_on) | (refine ⟨_, fun w' hw' => HC2.out w' hw', ?_⟩; go_big_quiet_on))))
            refine wpQuiet_nil ?_
            intro w2 L2
            have A2 := Lib.hid (A.out.after L2)
            clear L2 HL HC HC2
            go_wp2
            go_ret
            exact ⟨by rw [HF.out] <;> rfl, A2.out⟩
          · have HC := Lib.hid (fun W (h : LatI wr W) => l_spec_emsg q _ _ true hem wr W PK.out h)
            cases hhs : hasE x.pool k q
            · have HK := Lib.hid (show okM x.pool k = true by rw [okM_eq, HQ.out, hem, hhs]; rfl)
              have HC2 := Lib.hid (fun W (h : LatI wr W) => l_spec_hasM _ _ q _ _ false (by rw [hasE_take x.pool k q (by rw [HR.out]; omega)]; exact hhs) wr W PT.out PK.out h)
              clear hem hhs
              go_wp2_with fail
              clear x0 x1
              refine wp_region_quiet (C := LatI wr) (by kernel_rfl) (by kernel_rfl) (show LatI wr (World.drew _) from Below.drew (Below.refl _ _)) ?_
              dsimp only
              repeat (first | go_big_quiet_skip | (go_big_quiet_want; go_big_quiet_op; (first | go_big_quiet_on | (refine ⟨_, fun _ _ => rfl, ?_⟩; go_big_quiet_on) | (refine ⟨.slice (some ⟨b, o, none⟩) r cp, ?_, ?_⟩; intro w' hw'; obtain ⟨_, i0, i1⟩ := HL.out w' hw'; simp [i1, Result.andThen]; go_big_quiet_on) | (refine ⟨.agg #[.int .i64 q.kind, .int .i64 q.frm, .int .i64 q.dst, .int .i64 q.i.rep, .int .i64 q.i.slot, .int .i64 q.i.bal, .int .i64 q.i.cmd.kind, .int .i64 q.i.cmd.client, .int .i64 q.i.cmd.no, .string q.i.cmd.set, .string q.i.cmd.name, .string q.i.cmd.tag, .int .i64 q.i.cmd.n, .slice a1 n1 c1, .int .i64 q.i.seq, .slice a2 n2 c2, .int .i64 q.i.st, .int .i64 q.i.vbal, .bool q.i.same], ?_, ?_⟩; intro w' hw'; obtain ⟨⟨e0, e1, e2, e3, e4, e5, e6, e7, e8, e9, e10, e11, e12, e13, e14, e15, e16, e17, e18⟩, _⟩ := HL.out w' hw'; simp [e0, e1, e2, e3, e4, e5, e6, e7, e8, e9, e10, e11, e12, e13, e14, e15, e16, e17, e18, Result.andThen]; go_big_quiet_on) | (refine ⟨.slice (some ⟨b, o, none⟩) k cp, ?_, ?_⟩; intro w' hw'; go_simp; go_big_quiet_on) | (refine ⟨_, fun w' hw' => HC.out w' hw', ?_⟩; go_big_quiet_on) | (refine ⟨_, fun w' hw' => HC2.out w' hw', ?_⟩; go_big_quiet_on))))
              refine wpQuiet_nil ?_
              intro w2 L2
              have X2 := Lib.hid (X.out.after L2)
              have A2 := Lib.hid (A.out.after L2)
              clear L2 HL HC HC2
              go_wp2
              go_roundw
              case rel =>
                refine ⟨k + 1, by omega, by go_num, fun j hj => ?_, X2.out, A2.out⟩
                by_cases e : j = k
                · subst e; exact HK.out
                · exact HE.out j (by omega)
              case measure => simp only [intOf]; omega
            · have HF := Lib.hid (netB_p (poolB_no x.pool k (by rw [HR.out]; exact hlt) (by rw [okM_eq, HQ.out, hhs]; simp)))
              have HC2 := Lib.hid (fun W (h : LatI wr W) => l_spec_hasM _ _ q _ _ true (by rw [hasE_take x.pool k q (by rw [HR.out]; omega)]; exact hhs) wr W PT.out PK.out h)
              clear hem hhs
              go_wp2_with fail
              clear x0 x1
              refine wp_region_quiet (C := LatI wr) (by kernel_rfl) (by kernel_rfl) (show LatI wr (World.drew _) from Below.drew (Below.refl _ _)) ?_
              dsimp only
              repeat (first | go_big_quiet_skip | (go_big_quiet_want; go_big_quiet_op; (first | go_big_quiet_on | (refine ⟨_, fun _ _ => rfl, ?_⟩; go_big_quiet_on) | (refine ⟨.slice (some ⟨b, o, none⟩) r cp, ?_, ?_⟩; intro w' hw'; obtain ⟨_, i0, i1⟩ := HL.out w' hw'; simp [i1, Result.andThen]; go_big_quiet_on) | (refine ⟨.agg #[.int .i64 q.kind, .int .i64 q.frm, .int .i64 q.dst, .int .i64 q.i.rep, .int .i64 q.i.slot, .int .i64 q.i.bal, .int .i64 q.i.cmd.kind, .int .i64 q.i.cmd.client, .int .i64 q.i.cmd.no, .string q.i.cmd.set, .string q.i.cmd.name, .string q.i.cmd.tag, .int .i64 q.i.cmd.n, .slice a1 n1 c1, .int .i64 q.i.seq, .slice a2 n2 c2, .int .i64 q.i.st, .int .i64 q.i.vbal, .bool q.i.same], ?_, ?_⟩; intro w' hw'; obtain ⟨⟨e0, e1, e2, e3, e4, e5, e6, e7, e8, e9, e10, e11, e12, e13, e14, e15, e16, e17, e18⟩, _⟩ := HL.out w' hw'; simp [e0, e1, e2, e3, e4, e5, e6, e7, e8, e9, e10, e11, e12, e13, e14, e15, e16, e17, e18, Result.andThen]; go_big_quiet_on) | (refine ⟨.slice (some ⟨b, o, none⟩) k cp, ?_, ?_⟩; intro w' hw'; go_simp; go_big_quiet_on) | (refine ⟨_, fun w' hw' => HC.out w' hw', ?_⟩; go_big_quiet_on) | (refine ⟨_, fun w' hw' => HC2.out w' hw', ?_⟩; go_big_quiet_on))))
              refine wpQuiet_nil ?_
              intro w2 L2
              have A2 := Lib.hid (A.out.after L2)
              clear L2 HL HC HC2
              go_wp2
              go_ret
              exact ⟨by rw [HF.out] <;> rfl, A2.out⟩
        · obtain rfl : k = r := by omega
          have HF := Lib.hid (show netB x = true by rw [netB_eq, HNB.out, poolB_yes x.pool (by rw [HR.out]; omega) (fun j hj => HE.out j (by rw [← HR.out]; exact hj))]; rfl)
          obtain ⟨x0, x1⟩ := X.out.cT
          go_wp2
          go_ret
          exact ⟨by rw [HF.out] <;> rfl, A.out⟩
end Go.Proofs.YtdokglckfabdaaaGreatDoor
/- Valid networks: the program. -/
namespace Go.Proofs.YtdokglckfabdaaaGreatDoor
open Go.RowKit Go.PlainAid
set_option linter.unusedVariables false

theorem l_impl_emsg (x : Em) (u d : Value) (a : Addr) (b : Bool) (hb : emB x = b) (w0 w : World) (h : Pts w0 x.i u d) (hS : Sent w0 a) (hl : LatI w0 w) :
    Calls Tryz.prog 35 #[.agg #[.int .i64 x.kind, .int .i64 x.frm, .int .i64 x.dst, .int .i64 x.i.rep, .int .i64 x.i.slot, .int .i64 x.i.bal, .int .i64 x.i.cmd.kind, .int .i64 x.i.cmd.client, .int .i64 x.i.cmd.no, .string x.i.cmd.set, .string x.i.cmd.name, .string x.i.cmd.tag, .int .i64 x.i.cmd.n, u, .int .i64 x.i.seq, d, .int .i64 x.i.st, .int .i64 x.i.vbal, .bool x.i.same]] w fun e w' => e = .returned (.bool b) ∧ LatI w0 w' :=
  (impl_emsg x u d a w (h.later hl) (hS.later hl)).mono fun _ w' hh => ⟨hb ▸ hh.1, hl.trans hh.2⟩
attribute [local go_sem] blkO_eq aggO_eq okA_mk offO_eq World.setRow_alloc_new
attribute [local go_sem ↓] load_emsg_pre store_emsg_pre load_msg_at
set_option maxRecDepth 100000 in
set_option maxHeartbeats 1000000 in
theorem impl_sameC (q m : Em) (u d mu md : Value) (gm : Nat) (w : World) (hq : Pts w q.i u d) (hm : Pts w m.i mu md) (hx : Bx w gm 50 #[.int .i64 m.kind, .int .i64 m.frm, .int .i64 m.dst, .int .i64 m.i.rep, .int .i64 m.i.slot, .int .i64 m.i.bal, .int .i64 m.i.cmd.kind, .int .i64 m.i.cmd.client, .int .i64 m.i.cmd.no, .string m.i.cmd.set, .string m.i.cmd.name, .string m.i.cmd.tag, .int .i64 m.i.cmd.n, mu, .int .i64 m.i.seq, md, .int .i64 m.i.st, .int .i64 m.i.vbal, .bool m.i.same]) :
    Calls Tryz.prog 63 #[.agg #[.int .i64 q.kind, .int .i64 q.frm, .int .i64 q.dst, .int .i64 q.i.rep, .int .i64 q.i.slot, .int .i64 q.i.bal, .int .i64 q.i.cmd.kind, .int .i64 q.i.cmd.client, .int .i64 q.i.cmd.no, .string q.i.cmd.set, .string q.i.cmd.name, .string q.i.cmd.tag, .int .i64 q.i.cmd.n, u, .int .i64 q.i.seq, d, .int .i64 q.i.st, .int .i64 q.i.vbal, .bool q.i.same], .pointer (some ⟨gm, 0, none⟩)] w fun e w' => e = .returned (.bool (smB q m)) ∧ Below w.heap.size w w' := by
  obtain ⟨⟨a1, n1, c1, rfl⟩, a2, n2, c2, rfl⟩ := hq.form
  obtain ⟨⟨y1, y2, y3, rfl⟩, y4, y5, y6, rfl⟩ := hm.form
  have HQ := Lib.hid hq
  have HM := Lib.hid hm
  have G := Lib.hid (hx.alloc (.cells #[.int .i64 q.kind, .int .i64 q.frm, .int .i64 q.dst, .int .i64 q.i.rep, .int .i64 q.i.slot, .int .i64 q.i.bal, .int .i64 q.i.cmd.kind, .int .i64 q.i.cmd.client, .int .i64 q.i.cmd.no, .string q.i.cmd.set, .string q.i.cmd.name, .string q.i.cmd.tag, .int .i64 q.i.cmd.n, .slice a1 n1 c1, .int .i64 q.i.seq, .slice a2 n2 c2, .int .i64 q.i.st, .int .i64 q.i.vbal, .bool q.i.same] 50))
  have X := Lib.hid (Bx.new w 50 #[.int .i64 q.kind, .int .i64 q.frm, .int .i64 q.dst, .int .i64 q.i.rep, .int .i64 q.i.slot, .int .i64 q.i.bal, .int .i64 q.i.cmd.kind, .int .i64 q.i.cmd.client, .int .i64 q.i.cmd.no, .string q.i.cmd.set, .string q.i.cmd.name, .string q.i.cmd.tag, .int .i64 q.i.cmd.n, .slice a1 n1 c1, .int .i64 q.i.seq, .slice a2 n2 c2, .int .i64 q.i.st, .int .i64 q.i.vbal, .bool q.i.same] _ rfl)
  have A := Lib.hid ((Af.refl w).alloc (.cells #[.int .i64 q.kind, .int .i64 q.frm, .int .i64 q.dst, .int .i64 q.i.rep, .int .i64 q.i.slot, .int .i64 q.i.bal, .int .i64 q.i.cmd.kind, .int .i64 q.i.cmd.client, .int .i64 q.i.cmd.no, .string q.i.cmd.set, .string q.i.cmd.name, .string q.i.cmd.tag, .int .i64 q.i.cmd.n, .slice a1 n1 c1, .int .i64 q.i.seq, .slice a2 n2 c2, .int .i64 q.i.st, .int .i64 q.i.vbal, .bool q.i.same] 50))
  clear hq hm hx
  obtain ⟨rX1, rX2⟩ := X.out.row rfl
  obtain ⟨rG1, rG2⟩ := G.out.row rfl
  go_enter Tryz.func63, Tryz.ntmps63
  go_wp2_with fail
  clear rX1 rX2 rG1 rG2
  refine (impl_sameMsg q m _ _ _ _ _ (HQ.out.later A.out) (HM.out.later A.out)).mono ?_
  rintro e w2 ⟨rfl, bb⟩
  have A := Lib.hid (A.out.after bb)
  clear bb
  go_wp2
  go_ret
  exact ⟨rfl, A.out⟩
set_option maxRecDepth 100000 in
set_option maxHeartbeats 2000000 in
theorem impl_idxMsg (v : Value) (l : List Em) (m : Em) (mu md : Value) (gm : Nat) (w : World) (hv : Msgs w v l) (hm : Pts w m.i mu md) (hx : Bx w gm 50 #[.int .i64 m.kind, .int .i64 m.frm, .int .i64 m.dst, .int .i64 m.i.rep, .int .i64 m.i.slot, .int .i64 m.i.bal, .int .i64 m.i.cmd.kind, .int .i64 m.i.cmd.client, .int .i64 m.i.cmd.no, .string m.i.cmd.set, .string m.i.cmd.name, .string m.i.cmd.tag, .int .i64 m.i.cmd.n, mu, .int .i64 m.i.seq, md, .int .i64 m.i.st, .int .i64 m.i.vbal, .bool m.i.same]) :
    Calls Tryz.prog 90 #[v, .func (.func 63) #[] #[.pointer (some ⟨gm, 0, none⟩)]] w fun e w' => (∃ z : Int, e = .returned (.int .i64 z) ∧ decide (0 ≤ z) = hasE l l.length m) ∧ Below w.heap.size w w' := by
  obtain ⟨h1, a, ca, rfl, hca, ha⟩ := hv
  generalize hn : l.length = n at h1 ha hca
  have HN := Lib.hid hn
  have HA := Lib.hid ha
  have HM := Lib.hid hm
  have G0 := Lib.hid hx
  clear hn ha hca hm hx
  go_enter Tryz.func90, Tryz.ntmps90
  go_wp2
  go_loopw [8] (fun i wr => ∃ k : Nat, k ≤ n ∧ i = .int .i64 k ∧ (∀ j, j < k → smB (nthE l j) m = false) ∧ Below w.heap.size w wr) (fun i _ => n - (intOf i).toNat)
  case atStart => exact ⟨0, by omega, rfl, fun j hj => by omega, Below.refl _ _⟩
  case round =>
    obtain ⟨k, hk, rfl, he, hbw⟩ := hrel
    have HE := Lib.hid he
    have HBW := Lib.hid hbw
    clear he hbw
    by_cases hlt : k < n
    · obtain ⟨b, o, rfl, hb, hcb⟩ := HA.out (by omega)
      obtain ⟨u, d, cc, pp⟩ := hcb k hlt
      have CCQ := Lib.hid (cc.below HBW.out hb)
      have PK := Lib.hid (pp.later HBW.out)
      obtain ⟨⟨a1, n1, c1, rfl⟩, a2, n2, c2, rfl⟩ := pp.form
      obtain ⟨q, hq⟩ : ∃ q, nthE l k = q := ⟨_, rfl⟩
      have HQ := Lib.hid hq
      rw [hq] at PK CCQ
      obtain ⟨rq1, rq2⟩ := msg_at CCQ.out
      have z1 : (k : Int) < (n : Int) := by omega
      have z0 : (0 : Int) ≤ (k : Int) := by omega
      clear hcb cc pp hq
      go_wp2_with fail
      clear rq1 rq2
      refine (impl_sameC q m _ _ _ _ gm _ PK.out (HM.out.later HBW.out) (G0.out.after HBW.out)).mono ?_
      rintro e w2 ⟨rfl, bb⟩
      have HB2 := Lib.hid (HBW.out.trans (bb.mono HBW.out.size))
      clear bb
      cases he : smB q m
      · have HK := Lib.hid (show smB (nthE l k) m = false by rw [HQ.out, he])
        go_wp2
        go_roundw
        case rel =>
          refine ⟨k + 1, by omega, by go_num, fun j hj => ?_, HB2.out⟩
          by_cases e : j = k
          · subst e; exact HK.out
          · exact HE.out j (by omega)
        case measure => simp only [intOf]; omega
      · have HK := Lib.hid (hasE_yes l n k m hlt (by rw [HQ.out, he]))
        go_wp2
        go_ret
        exact ⟨⟨_, rfl, by rw [HK.out]; exact dec_t (by omega)⟩, HB2.out⟩
    · obtain rfl : k = n := by omega
      go_wp2
      go_ret
      exact ⟨⟨_, rfl, by rw [hasE_no l k m HE.out]; rfl⟩, HBW.out⟩
set_option maxHeartbeats 400000 in
theorem impl_anyMsg (v : Value) (l : List Em) (m : Em) (mu md : Value) (gm : Nat) (w : World) (hv : Msgs w v l) (hm : Pts w m.i mu md) (hx : Bx w gm 50 #[.int .i64 m.kind, .int .i64 m.frm, .int .i64 m.dst, .int .i64 m.i.rep, .int .i64 m.i.slot, .int .i64 m.i.bal, .int .i64 m.i.cmd.kind, .int .i64 m.i.cmd.client, .int .i64 m.i.cmd.no, .string m.i.cmd.set, .string m.i.cmd.name, .string m.i.cmd.tag, .int .i64 m.i.cmd.n, mu, .int .i64 m.i.seq, md, .int .i64 m.i.st, .int .i64 m.i.vbal, .bool m.i.same]) :
    Calls Tryz.prog 62 #[v, .func (.func 63) #[] #[.pointer (some ⟨gm, 0, none⟩)]] w fun e w' => e = .returned (.bool (hasE l l.length m)) ∧ Below w.heap.size w w' := by
  have HV := Lib.hid hv
  have HM := Lib.hid hm
  have G0 := Lib.hid hx
  obtain ⟨a, n, c, rfl⟩ := hv.form
  clear hv hm hx
  go_enter Tryz.func62, Tryz.ntmps62
  go_wp2_with fail
  refine (impl_idxMsg _ l m _ _ gm _ HV.out HM.out G0.out).mono ?_
  rintro e w2 ⟨⟨z, rfl, hz⟩, b2⟩
  have A2 := Lib.hid b2
  have HZ := Lib.hid hz
  clear b2 hz
  go_wp2
  go_ret
  exact ⟨by rw [← HZ.out]; rfl, A2.out⟩
set_option maxRecDepth 100000 in
set_option maxHeartbeats 1000000 in
theorem impl_hasM (v : Value) (l : List Em) (m : Em) (mu md : Value) (w : World) (hv : Msgs w v l) (hm : Pts w m.i mu md) :
    Calls Tryz.prog 36 #[v, .agg #[.int .i64 m.kind, .int .i64 m.frm, .int .i64 m.dst, .int .i64 m.i.rep, .int .i64 m.i.slot, .int .i64 m.i.bal, .int .i64 m.i.cmd.kind, .int .i64 m.i.cmd.client, .int .i64 m.i.cmd.no, .string m.i.cmd.set, .string m.i.cmd.name, .string m.i.cmd.tag, .int .i64 m.i.cmd.n, mu, .int .i64 m.i.seq, md, .int .i64 m.i.st, .int .i64 m.i.vbal, .bool m.i.same]] w fun e w' => e = .returned (.bool (hasE l l.length m)) ∧ Below w.heap.size w w' := by
  obtain ⟨a, n, c, rfl⟩ := hv.form
  obtain ⟨⟨y1, y2, y3, rfl⟩, y4, y5, y6, rfl⟩ := hm.form
  have HV := Lib.hid hv
  have HM := Lib.hid hm
  have X := Lib.hid (Bx.new w 50 #[.int .i64 m.kind, .int .i64 m.frm, .int .i64 m.dst, .int .i64 m.i.rep, .int .i64 m.i.slot, .int .i64 m.i.bal, .int .i64 m.i.cmd.kind, .int .i64 m.i.cmd.client, .int .i64 m.i.cmd.no, .string m.i.cmd.set, .string m.i.cmd.name, .string m.i.cmd.tag, .int .i64 m.i.cmd.n, .slice y1 y2 y3, .int .i64 m.i.seq, .slice y4 y5 y6, .int .i64 m.i.st, .int .i64 m.i.vbal, .bool m.i.same] _ rfl)
  have A := Lib.hid ((Af.refl w).alloc (.cells #[.int .i64 m.kind, .int .i64 m.frm, .int .i64 m.dst, .int .i64 m.i.rep, .int .i64 m.i.slot, .int .i64 m.i.bal, .int .i64 m.i.cmd.kind, .int .i64 m.i.cmd.client, .int .i64 m.i.cmd.no, .string m.i.cmd.set, .string m.i.cmd.name, .string m.i.cmd.tag, .int .i64 m.i.cmd.n, .slice y1 y2 y3, .int .i64 m.i.seq, .slice y4 y5 y6, .int .i64 m.i.st, .int .i64 m.i.vbal, .bool m.i.same] 50))
  clear hv hm
  have hmf : ∀ (fn : Fn) (first cap : Array Value) (w : World), (Instr.makeFunc fn first cap).run Tryz.prog w = .ok (.func fn first cap) w := fun _ _ _ _ => rfl
  go_enter Tryz.func36, Tryz.ntmps36
  go_wp2_with fail
  refine (impl_anyMsg _ l m _ _ w.heap.size _ (HV.out.later A.out) (HM.out.later A.out) X.out).mono ?_
  rintro e w2 ⟨rfl, bb⟩
  have A := Lib.hid (A.out.after bb)
  clear bb
  go_wp2
  go_ret
  exact ⟨rfl, A.out⟩
theorem l_impl_has (v : Value) (l : List Em) (m : Em) (mu md : Value) (b : Bool) (hb : hasE l l.length m = b) (w0 w : World) (h : Msgs w0 v l) (hm : Pts w0 m.i mu md) (hl : LatI w0 w) :
    Calls Tryz.prog 36 #[v, .agg #[.int .i64 m.kind, .int .i64 m.frm, .int .i64 m.dst, .int .i64 m.i.rep, .int .i64 m.i.slot, .int .i64 m.i.bal, .int .i64 m.i.cmd.kind, .int .i64 m.i.cmd.client, .int .i64 m.i.cmd.no, .string m.i.cmd.set, .string m.i.cmd.name, .string m.i.cmd.tag, .int .i64 m.i.cmd.n, mu, .int .i64 m.i.seq, md, .int .i64 m.i.st, .int .i64 m.i.vbal, .bool m.i.same]] w fun e w' => e = .returned (.bool b) ∧ LatI w0 w' :=
  (impl_hasM v l m mu md w (h.later hl) (hm.later hl)).mono fun _ w' hh => ⟨hb ▸ hh.1, hl.trans hh.2⟩
set_option maxRecDepth 100000 in
set_option maxHeartbeats 2000000 in
theorem impl_nodesOk (v : Value) (l : List Nd) (a0 : Addr) (w : World) (hv : Nodes w v l) (hS : Sent w a0) :
    Calls Tryz.prog 16 #[v] w fun e w' => e = .returned (.bool (nodesB l)) ∧ Below w.heap.size w w' := by
  obtain ⟨h1, a, ca, rfl, hca, ha⟩ := hv
  generalize hn : l.length = n at h1 ha hca
  have HN := Lib.hid hn
  have HA := Lib.hid ha
  have HS := Lib.hid hS
  clear hn ha hca hS
  by_cases hl3 : n = 3
  case neg =>
    have hne : (((n : Nat) : Int) != 3) = true := by simp; omega
    have HF := Lib.hid (nodesB_len l (by rw [HN.out]; exact hl3))
    go_enter Tryz.func16, Tryz.ntmps16
    go_wp2
    go_ret
    exact ⟨by rw [HF.out] <;> rfl, Below.refl _ _⟩
  subst hl3
  go_enter Tryz.func16, Tryz.ntmps16
  go_wp2
  go_loopw [10] (fun i wr => ∃ k : Nat, k ≤ 3 ∧ i = .int .i64 k ∧ (∀ j, j < k → okN l j = true) ∧ Below w.heap.size w wr) (fun i _ => 3 - (intOf i).toNat)
  case atStart => exact ⟨0, by omega, rfl, fun j hj => by omega, Below.refl _ _⟩
  case round =>
    obtain ⟨k, hk, rfl, he, hbw⟩ := hrel
    have HE := Lib.hid he
    have HBW := Lib.hid hbw
    clear he hbw
    by_cases hlt : k < 3
    · obtain ⟨b, o, rfl, hb, hcb⟩ := HA.out (by omega)
      obtain ⟨u, d, cc, pp⟩ := hcb k hlt
      obtain ⟨e0, e1, e2, e3⟩ := cc.below HBW.out hb
      have PK := Lib.hid (pp.later HBW.out)
      obtain ⟨⟨a1, n1, c1, rfl⟩, a2, n2, c2, rfl⟩ := pp.form
      obtain ⟨q, hq⟩ : ∃ q, nthN l k = q := ⟨_, rfl⟩
      have HQ := Lib.hid hq
      rw [hq] at PK e0 e1
      have z1 : (k : Int) < 3 := by omega
      have z0 : (0 : Int) ≤ (k : Int) := by omega
      have HB1 := Lib.hid (HBW.out.alloc HBW.out.size (.cells #[.int .i64 q.me, .int .i64 q.next, .slice a1 n1 c1, .slice a2 n2 c2] 41))
      have PK1 := Lib.hid (PK.out.alloc (.cells #[.int .i64 q.me, .int .i64 q.next, .slice a1 n1 c1, .slice a2 n2 c2] 41))
      clear hcb cc pp hq
      by_cases hme : q.me = (k : Int)
      · have hmb : (q.me != (k : Int)) = false := by simpa using hme
        have HME := Lib.hid hme
        clear hme
        go_wp2_with fail
        clear e0 e1 e2 e3
        refine (impl_nodeOk q _ _ a0 _ PK1.out (HS.out.later HB1.out)).mono ?_
        rintro e w2 ⟨rfl, bb⟩
        have HB2 := Lib.hid (HB1.out.trans (bb.mono HB1.out.size))
        clear bb hmb
        cases hnb : nodeB q
        · have HF := Lib.hid (nodesB_no l k hlt (by rw [okN_eq, HQ.out, hnb]; simp))
          clear hnb
          go_wp2
          go_ret
          exact ⟨by rw [HF.out] <;> rfl, HB2.out⟩
        · have HK := Lib.hid (show okN l k = true by rw [okN_eq, HQ.out, hnb, decide_eq_true HME.out]; rfl)
          clear hnb
          go_wp2
          go_roundw
          case rel =>
            refine ⟨k + 1, by omega, by go_num, fun j hj => ?_, HB2.out⟩
            by_cases e : j = k
            · subst e; exact HK.out
            · exact HE.out j (by omega)
          case measure => simp only [intOf]; omega
      · have hmb : (q.me != (k : Int)) = true := by simpa using hme
        have HF := Lib.hid (nodesB_no l k hlt (by rw [okN_eq, HQ.out, decide_eq_false hme]; rfl))
        clear hme
        go_wp2
        go_ret
        exact ⟨by rw [HF.out] <;> rfl, HB1.out⟩
    · obtain rfl : k = 3 := by omega
      have HF := Lib.hid (nodesB_yes l HN.out HE.out)
      go_wp2
      go_ret
      exact ⟨by rw [HF.out] <;> rfl, HBW.out⟩
set_option maxRecDepth 100000 in
set_option maxHeartbeats 4000000 in
theorem impl_poolOk (v : Value) (l : List Em) (a0 : Addr) (w : World) (hv : Msgs w v l) (hS : Sent w a0) :
    Calls Tryz.prog 17 #[v] w fun e w' => e = .returned (.bool (poolB l)) ∧ Below w.heap.size w w' := by
  have HMS := Lib.hid hv
  obtain ⟨h1, ap, cp, rfl, hcp, ha⟩ := hv
  obtain ⟨r, hr⟩ : ∃ r, l.length = r := ⟨_, rfl⟩
  have HR := Lib.hid hr
  rw [hr] at HMS h1 hcp ha ⊢
  have HP := Lib.hid ha
  have HS := Lib.hid hS
  clear hr ha hS
  by_cases hbig : 160 < r
  · have hgt : decide ((160 : Int) < (r : Int)) = true := dec_t (by omega)
    have HF := Lib.hid (poolB_big l (by rw [HR.out]; exact hbig))
    go_enter Tryz.func17, Tryz.ntmps17
    go_wp2
    go_ret
    exact ⟨by rw [HF.out] <;> rfl, Below.refl _ _⟩
  have hgt : decide ((160 : Int) < (r : Int)) = false := dec_f (by omega)
  go_enter Tryz.func17, Tryz.ntmps17
  go_wp2
  clear hgt
  go_loopw [10] (fun i wr => ∃ k : Nat, k ≤ r ∧ i = .int .i64 k ∧ (∀ j, j < k → okM l j = true) ∧ Below w.heap.size w wr) (fun i _ => r - (intOf i).toNat)
  case atStart => exact ⟨0, by omega, rfl, fun j hj => by omega, Below.refl _ _⟩
  case round =>
    obtain ⟨k, hk, rfl, he, hbw⟩ := hrel
    have HE := Lib.hid he
    have HBW := Lib.hid hbw
    clear he hbw
    by_cases hlt : k < r
    · obtain ⟨b, o, rfl, hb, hcb⟩ := HP.out (by omega)
      obtain ⟨u, d, cc, pp⟩ := hcb k hlt
      have CCQ := Lib.hid (cc.below HBW.out hb)
      obtain ⟨⟨a1, n1, c1, rfl⟩, a2, n2, c2, rfl⟩ := pp.form
      obtain ⟨q, hq⟩ : ∃ q, nthE l k = q := ⟨_, rfl⟩
      have HQ := Lib.hid hq
      rw [hq] at pp CCQ
      obtain ⟨rq1, rq2⟩ := msg_at CCQ.out
      have HB1 := Lib.hid (HBW.out.alloc HBW.out.size (.cells #[.int .i64 q.kind, .int .i64 q.frm, .int .i64 q.dst, .int .i64 q.i.rep, .int .i64 q.i.slot, .int .i64 q.i.bal, .int .i64 q.i.cmd.kind, .int .i64 q.i.cmd.client, .int .i64 q.i.cmd.no, .string q.i.cmd.set, .string q.i.cmd.name, .string q.i.cmd.tag, .int .i64 q.i.cmd.n, .slice a1 n1 c1, .int .i64 q.i.seq, .slice a2 n2 c2, .int .i64 q.i.st, .int .i64 q.i.vbal, .bool q.i.same] 50))
      have PK := Lib.hid (pp.later HB1.out)
      have PT := Lib.hid ((HMS.out.take k (by rw [HR.out]; omega)).later HB1.out)
      have HS1 := Lib.hid (HS.out.later HB1.out)
      have X := Lib.hid (Bx.new wr 50 #[.int .i64 q.kind, .int .i64 q.frm, .int .i64 q.dst, .int .i64 q.i.rep, .int .i64 q.i.slot, .int .i64 q.i.bal, .int .i64 q.i.cmd.kind, .int .i64 q.i.cmd.client, .int .i64 q.i.cmd.no, .string q.i.cmd.set, .string q.i.cmd.name, .string q.i.cmd.tag, .int .i64 q.i.cmd.n, .slice a1 n1 c1, .int .i64 q.i.seq, .slice a2 n2 c2, .int .i64 q.i.st, .int .i64 q.i.vbal, .bool q.i.same] _ rfl)
      have HL := Lib.hid (fun W (h : LatI (wr.alloc (.cells #[.int .i64 q.kind, .int .i64 q.frm, .int .i64 q.dst, .int .i64 q.i.rep, .int .i64 q.i.slot, .int .i64 q.i.bal, .int .i64 q.i.cmd.kind, .int .i64 q.i.cmd.client, .int .i64 q.i.cmd.no, .string q.i.cmd.set, .string q.i.cmd.name, .string q.i.cmd.tag, .int .i64 q.i.cmd.n, .slice a1 n1 c1, .int .i64 q.i.seq, .slice a2 n2 c2, .int .i64 q.i.st, .int .i64 q.i.vbal, .bool q.i.same] 50)) W) => (X.out.after h).c19)
      have hzn := rowP_new wr
      have z1 : (k : Int) < (r : Int) := by omega
      have z0 : (0 : Int) ≤ (k : Int) := by omega
      have z2 : k ≤ cp := by omega
      have z3 : (k : Int) ≤ (cp : Int) := by omega
      clear hcb cc pp hq
      cases hem : emB q
      · have HF := Lib.hid (poolB_no l k (by rw [HR.out]; exact hlt) (by rw [okM_eq, HQ.out, hem]; rfl))
        have HC := Lib.hid (fun W (h : LatI (wr.alloc (.cells #[.int .i64 q.kind, .int .i64 q.frm, .int .i64 q.dst, .int .i64 q.i.rep, .int .i64 q.i.slot, .int .i64 q.i.bal, .int .i64 q.i.cmd.kind, .int .i64 q.i.cmd.client, .int .i64 q.i.cmd.no, .string q.i.cmd.set, .string q.i.cmd.name, .string q.i.cmd.tag, .int .i64 q.i.cmd.n, .slice a1 n1 c1, .int .i64 q.i.seq, .slice a2 n2 c2, .int .i64 q.i.st, .int .i64 q.i.vbal, .bool q.i.same] 50)) W) => l_impl_emsg q _ _ a0 false hem _ W PK.out HS1.out h)
        have HC2 := HC
        clear hem
        go_wp2_with fail
        clear rq1 rq2 hzn
        refine wp_region_quiet (C := LatI (wr.alloc (.cells #[.int .i64 q.kind, .int .i64 q.frm, .int .i64 q.dst, .int .i64 q.i.rep, .int .i64 q.i.slot, .int .i64 q.i.bal, .int .i64 q.i.cmd.kind, .int .i64 q.i.cmd.client, .int .i64 q.i.cmd.no, .string q.i.cmd.set, .string q.i.cmd.name, .string q.i.cmd.tag, .int .i64 q.i.cmd.n, .slice a1 n1 c1, .int .i64 q.i.seq, .slice a2 n2 c2, .int .i64 q.i.st, .int .i64 q.i.vbal, .bool q.i.same] 50))) (by kernel_rfl) (by kernel_rfl) (show LatI (wr.alloc (.cells #[.int .i64 q.kind, .int .i64 q.frm, .int .i64 q.dst, .int .i64 q.i.rep, .int .i64 q.i.slot, .int .i64 q.i.bal, .int .i64 q.i.cmd.kind, .int .i64 q.i.cmd.client, .int .i64 q.i.cmd.no, .string q.i.cmd.set, .string q.i.cmd.name, .string q.i.cmd.tag, .int .i64 q.i.cmd.n, .slice a1 n1 c1, .int .i64 q.i.seq, .slice a2 n2 c2, .int .i64 q.i.st, .int .i64 q.i.vbal, .bool q.i.same] 50)) (World.drew _) from Below.drew (Below.refl _ _)) ?_
        dsimp only
        repeat (first | go_big_quiet_skip | (go_big_quiet_want; go_big_quiet_op; (first | go_big_quiet_on | (refine ⟨_, fun _ _ => rfl, ?_⟩; go_big_quiet_on) | (refine ⟨.agg #[.int .i64 q.kind, .int .i64 q.frm, .int .i64 q.dst, .int .i64 q.i.rep, .int .i64 q.i.slot, .int .i64 q.i.bal, .int .i64 q.i.cmd.kind, .int .i64 q.i.cmd.client, .int .i64 q.i.cmd.no, .string q.i.cmd.set, .string q.i.cmd.name, .string q.i.cmd.tag, .int .i64 q.i.cmd.n, .slice a1 n1 c1, .int .i64 q.i.seq, .slice a2 n2 c2, .int .i64 q.i.st, .int .i64 q.i.vbal, .bool q.i.same], ?_, ?_⟩; intro w' hw'; obtain ⟨e0, e1, e2, e3, e4, e5, e6, e7, e8, e9, e10, e11, e12, e13, e14, e15, e16, e17, e18⟩ := HL.out w' hw'; simp [e0, e1, e2, e3, e4, e5, e6, e7, e8, e9, e10, e11, e12, e13, e14, e15, e16, e17, e18, Result.andThen]; go_big_quiet_on) | (refine ⟨.slice (some ⟨b, o, none⟩) k cp, ?_, ?_⟩; intro w' hw'; go_simp; go_big_quiet_on) | (refine ⟨_, fun w' hw' => HC.out w' hw', ?_⟩; go_big_quiet_on) | (refine ⟨_, fun w' hw' => HC2.out w' hw', ?_⟩; go_big_quiet_on))))
        refine wpQuiet_nil ?_
        intro w2 L2
        have HB2 := Lib.hid (HB1.out.trans (Below.mono L2 HB1.out.size))
        clear L2 HL HC HC2
        go_wp2
        go_ret
        exact ⟨by rw [HF.out] <;> rfl, HB2.out⟩
      · have HC := Lib.hid (fun W (h : LatI (wr.alloc (.cells #[.int .i64 q.kind, .int .i64 q.frm, .int .i64 q.dst, .int .i64 q.i.rep, .int .i64 q.i.slot, .int .i64 q.i.bal, .int .i64 q.i.cmd.kind, .int .i64 q.i.cmd.client, .int .i64 q.i.cmd.no, .string q.i.cmd.set, .string q.i.cmd.name, .string q.i.cmd.tag, .int .i64 q.i.cmd.n, .slice a1 n1 c1, .int .i64 q.i.seq, .slice a2 n2 c2, .int .i64 q.i.st, .int .i64 q.i.vbal, .bool q.i.same] 50)) W) => l_impl_emsg q _ _ a0 true hem _ W PK.out HS1.out h)
        cases hhs : hasE l k q
        · have HK := Lib.hid (show okM l k = true by rw [okM_eq, HQ.out, hem, hhs]; rfl)
          have HC2 := Lib.hid (fun W (h : LatI (wr.alloc (.cells #[.int .i64 q.kind, .int .i64 q.frm, .int .i64 q.dst, .int .i64 q.i.rep, .int .i64 q.i.slot, .int .i64 q.i.bal, .int .i64 q.i.cmd.kind, .int .i64 q.i.cmd.client, .int .i64 q.i.cmd.no, .string q.i.cmd.set, .string q.i.cmd.name, .string q.i.cmd.tag, .int .i64 q.i.cmd.n, .slice a1 n1 c1, .int .i64 q.i.seq, .slice a2 n2 c2, .int .i64 q.i.st, .int .i64 q.i.vbal, .bool q.i.same] 50)) W) => l_impl_has _ _ q _ _ false (by rw [hasE_take l k q (by rw [HR.out]; omega)]; exact hhs) _ W PT.out PK.out h)
          clear hem hhs
          go_wp2_with fail
          clear rq1 rq2 hzn
          refine wp_region_quiet (C := LatI (wr.alloc (.cells #[.int .i64 q.kind, .int .i64 q.frm, .int .i64 q.dst, .int .i64 q.i.rep, .int .i64 q.i.slot, .int .i64 q.i.bal, .int .i64 q.i.cmd.kind, .int .i64 q.i.cmd.client, .int .i64 q.i.cmd.no, .string q.i.cmd.set, .string q.i.cmd.name, .string q.i.cmd.tag, .int .i64 q.i.cmd.n, .slice a1 n1 c1, .int .i64 q.i.seq, .slice a2 n2 c2, .int .i64 q.i.st, .int .i64 q.i.vbal, .bool q.i.same] 50))) (by kernel_rfl) (by kernel_rfl) (show LatI (wr.alloc (.cells #[.int .i64 q.kind, .int .i64 q.frm, .int .i64 q.dst, .int .i64 q.i.rep, .int .i64 q.i.slot, .int .i64 q.i.bal, .int .i64 q.i.cmd.kind, .int .i64 q.i.cmd.client, .int .i64 q.i.cmd.no, .string q.i.cmd.set, .string q.i.cmd.name, .string q.i.cmd.tag, .int .i64 q.i.cmd.n, .slice a1 n1 c1, .int .i64 q.i.seq, .slice a2 n2 c2, .int .i64 q.i.st, .int .i64 q.i.vbal, .bool q.i.same] 50)) (World.drew _) from Below.drew (Below.refl _ _)) ?_
          dsimp only
          repeat (first | go_big_quiet_skip | (go_big_quiet_want; go_big_quiet_op; (first | go_big_quiet_on | (refine ⟨_, fun _ _ => rfl, ?_⟩; go_big_quiet_on) | (refine ⟨.agg #[.int .i64 q.kind, .int .i64 q.frm, .int .i64 q.dst, .int .i64 q.i.rep, .int .i64 q.i.slot, .int .i64 q.i.bal, .int .i64 q.i.cmd.kind, .int .i64 q.i.cmd.client, .int .i64 q.i.cmd.no, .string q.i.cmd.set, .string q.i.cmd.name, .string q.i.cmd.tag, .int .i64 q.i.cmd.n, .slice a1 n1 c1, .int .i64 q.i.seq, .slice a2 n2 c2, .int .i64 q.i.st, .int .i64 q.i.vbal, .bool q.i.same], ?_, ?_⟩; intro w' hw'; obtain ⟨e0, e1, e2, e3, e4, e5, e6, e7, e8, e9, e10, e11, e12, e13, e14, e15, e16, e17, e18⟩ := HL.out w' hw'; simp [e0, e1, e2, e3, e4, e5, e6, e7, e8, e9, e10, e11, e12, e13, e14, e15, e16, e17, e18, Result.andThen]; go_big_quiet_on) | (refine ⟨.slice (some ⟨b, o, none⟩) k cp, ?_, ?_⟩; intro w' hw'; go_simp; go_big_quiet_on) | (refine ⟨_, fun w' hw' => HC.out w' hw', ?_⟩; go_big_quiet_on) | (refine ⟨_, fun w' hw' => HC2.out w' hw', ?_⟩; go_big_quiet_on))))
          refine wpQuiet_nil ?_
          intro w2 L2
          have HB2 := Lib.hid (HB1.out.trans (Below.mono L2 HB1.out.size))
          clear L2 HL HC HC2
          go_wp2
          go_roundw
          case rel =>
            refine ⟨k + 1, by omega, by go_num, fun j hj => ?_, HB2.out⟩
            by_cases e : j = k
            · subst e; exact HK.out
            · exact HE.out j (by omega)
          case measure => simp only [intOf]; omega
        · have HF := Lib.hid (poolB_no l k (by rw [HR.out]; exact hlt) (by rw [okM_eq, HQ.out, hhs]; simp))
          have HC2 := Lib.hid (fun W (h : LatI (wr.alloc (.cells #[.int .i64 q.kind, .int .i64 q.frm, .int .i64 q.dst, .int .i64 q.i.rep, .int .i64 q.i.slot, .int .i64 q.i.bal, .int .i64 q.i.cmd.kind, .int .i64 q.i.cmd.client, .int .i64 q.i.cmd.no, .string q.i.cmd.set, .string q.i.cmd.name, .string q.i.cmd.tag, .int .i64 q.i.cmd.n, .slice a1 n1 c1, .int .i64 q.i.seq, .slice a2 n2 c2, .int .i64 q.i.st, .int .i64 q.i.vbal, .bool q.i.same] 50)) W) => l_impl_has _ _ q _ _ true (by rw [hasE_take l k q (by rw [HR.out]; omega)]; exact hhs) _ W PT.out PK.out h)
          clear hem hhs
          go_wp2_with fail
          clear rq1 rq2 hzn
          refine wp_region_quiet (C := LatI (wr.alloc (.cells #[.int .i64 q.kind, .int .i64 q.frm, .int .i64 q.dst, .int .i64 q.i.rep, .int .i64 q.i.slot, .int .i64 q.i.bal, .int .i64 q.i.cmd.kind, .int .i64 q.i.cmd.client, .int .i64 q.i.cmd.no, .string q.i.cmd.set, .string q.i.cmd.name, .string q.i.cmd.tag, .int .i64 q.i.cmd.n, .slice a1 n1 c1, .int .i64 q.i.seq, .slice a2 n2 c2, .int .i64 q.i.st, .int .i64 q.i.vbal, .bool q.i.same] 50))) (by kernel_rfl) (by kernel_rfl) (show LatI (wr.alloc (.cells #[.int .i64 q.kind, .int .i64 q.frm, .int .i64 q.dst, .int .i64 q.i.rep, .int .i64 q.i.slot, .int .i64 q.i.bal, .int .i64 q.i.cmd.kind, .int .i64 q.i.cmd.client, .int .i64 q.i.cmd.no, .string q.i.cmd.set, .string q.i.cmd.name, .string q.i.cmd.tag, .int .i64 q.i.cmd.n, .slice a1 n1 c1, .int .i64 q.i.seq, .slice a2 n2 c2, .int .i64 q.i.st, .int .i64 q.i.vbal, .bool q.i.same] 50)) (World.drew _) from Below.drew (Below.refl _ _)) ?_
          dsimp only
          repeat (first | go_big_quiet_skip | (go_big_quiet_want; go_big_quiet_op; (first | go_big_quiet_on | (refine ⟨_, fun _ _ => rfl, ?_⟩; go_big_quiet_on) | (refine ⟨.agg #[.int .i64 q.kind, .int .i64 q.frm, .int .i64 q.dst, .int .i64 q.i.rep, .int .i64 q.i.slot, .int .i64 q.i.bal, .int .i64 q.i.cmd.kind, .int .i64 q.i.cmd.client, .int .i64 q.i.cmd.no, .string q.i.cmd.set, .string q.i.cmd.name, .string q.i.cmd.tag, .int .i64 q.i.cmd.n, .slice a1 n1 c1, .int .i64 q.i.seq, .slice a2 n2 c2, .int .i64 q.i.st, .int .i64 q.i.vbal, .bool q.i.same], ?_, ?_⟩; intro w' hw'; obtain ⟨e0, e1, e2, e3, e4, e5, e6, e7, e8, e9, e10, e11, e12, e13, e14, e15, e16, e17, e18⟩ := HL.out w' hw'; simp [e0, e1, e2, e3, e4, e5, e6, e7, e8, e9, e10, e11, e12, e13, e14, e15, e16, e17, e18, Result.andThen]; go_big_quiet_on) | (refine ⟨.slice (some ⟨b, o, none⟩) k cp, ?_, ?_⟩; intro w' hw'; go_simp; go_big_quiet_on) | (refine ⟨_, fun w' hw' => HC.out w' hw', ?_⟩; go_big_quiet_on) | (refine ⟨_, fun w' hw' => HC2.out w' hw', ?_⟩; go_big_quiet_on))))
          refine wpQuiet_nil ?_
          intro w2 L2
          have HB2 := Lib.hid (HB1.out.trans (Below.mono L2 HB1.out.size))
          clear L2 HL HC HC2
          go_wp2
          go_ret
          exact ⟨by rw [HF.out] <;> rfl, HB2.out⟩
    · obtain rfl : k = r := by omega
      have HF := Lib.hid (poolB_yes l (by rw [HR.out]; omega) (fun j hj => HE.out j (by rw [← HR.out]; exact hj)))
      go_wp2
      go_ret
      exact ⟨by rw [HF.out] <;> rfl, HBW.out⟩
set_option maxRecDepth 100000 in
set_option maxHeartbeats 1000000 in
theorem impl_netOk (x : Nt) (u v : Value) (a0 : Addr) (w : World) (h : NtP w x u v) (hS : Sent w a0) :
    Calls Tryz.prog 7 #[.agg #[u, v]] w fun e w' => e = .returned (.bool (netB x)) ∧ Below w.heap.size w w' := by
  obtain ⟨⟨a1, n1, c1, rfl⟩, a2, n2, c2, rfl⟩ := h.form
  have PH := Lib.hid h
  have HS := Lib.hid hS
  have X := Lib.hid (Bx.new w 31 #[.slice a1 n1 c1, .slice a2 n2 c2] _ rfl)
  have A := Lib.hid ((Af.refl w).alloc (.cells #[.slice a1 n1 c1, .slice a2 n2 c2] 31))
  clear h hS
  go_enter Tryz.func7, Tryz.ntmps7
  go_wp2_with fail
  refine (impl_nodesOk _ x.nodes a0 _ (PH.out.later A.out).1 (HS.out.later A.out)).mono ?_
  rintro e w2 ⟨rfl, bb⟩
  have X := Lib.hid (X.out.after bb)
  have A := Lib.hid (A.out.after bb)
  clear bb
  cases hn : nodesB x.nodes
  · have HF := Lib.hid (netB_n hn)
    clear hn
    go_wp2
    go_ret
    exact ⟨by rw [HF.out] <;> rfl, A.out⟩
  · have HF := Lib.hid (show netB x = poolB x.pool by rw [netB_eq, hn]; rfl)
    clear hn
    obtain ⟨x0, x1⟩ := X.out.cT
    go_wp2_with fail
    clear x0 x1
    refine (impl_poolOk _ x.pool a0 _ (PH.out.later A.out).2 (HS.out.later A.out)).mono ?_
    rintro e w3 ⟨rfl, bb⟩
    have A := Lib.hid (A.out.after bb)
    clear bb
    go_wp2
    go_ret
    exact ⟨by rw [HF.out] <;> rfl, A.out⟩
end Go.Proofs.YtdokglckfabdaaaGreatDoor
/- A region that draws its order: what only reads is taken first; S is held up to the operations that wait for all of that. -/
namespace Go.Proofs.YtdokglckfabdaaaGreatDoor
open Go.RowKit
set_option linter.unusedVariables false
section
variable {P : Program} {ops : Array Oper} {Q : Exit → Act → World → Prop} {md : Region.Mode} {S : World → Prop} {T : Nat → Bool}
/-- Whatever order is picked; S holds behind each operation outside T. -/
def wpAnyT (P : Program) (md : Region.Mode) (ops : Array Oper) (Q : Exit → Act → World → Prop) (S : World → Prop) (T : Nat → Bool) : Nat → Array Bool → Act → World → Prop
  | 0, listed, a, w => Region.ready md ops listed = [] ∧ Q .normal a w
  | f + 1, listed, a, w => (Region.ready md ops listed = [] → Q .normal a w) ∧ ∀ i ∈ Region.ready md ops listed, wpOp P ops Q i (fun a' w' => (T i = false → S w') ∧ wpAnyT P md ops Q S T f (listed.setIfInBounds i true) a' w') a w
theorem wpAny_of_T : ∀ (f : Nat) (listed : Array Bool) (a : Act) (w : World), wpAnyT P md ops Q S T f listed a w → wpAny P md ops Q f listed a w
  | 0, _, _, _, h => h
  | f + 1, _, _, _, h => ⟨h.1, fun i hi => wpOp_mono (fun a' w' h' => wpAny_of_T f _ a' w' h'.2) (h.2 i hi)⟩
theorem wpAnyT_first {i : Nat} {oi : Oper} {v : Value} (hi : ops[i]? = some oi) (hsel : ∀ (j : Nat) (o : Oper) cs b, ops[j]? = some o → o.op ≠ .select cs b)
    (hQ : ∀ c a w, Q (.panic c) (a.put oi.dst v) w → Q (.panic c) a w) (hT : ∀ j oj, ops[j]? = some oj → T j = true → ∃ e ∈ oj.after, Region.binds md e = true ∧ e.on = i) (f : Nat) :
    ∀ (listed : Array Bool) (a : Act) (w : World), (∀ j oj, ops[j]? = some oj → j ≠ i → listed.getD j true = false → (∀ e ∈ oj.after, Region.binds md e = true → e.on ≠ i) → oi.apart ops oj = true) →
      i ∈ Region.ready md ops listed → YieldsIf P ops S oi v a → S w → wpAnyT P md ops Q S T f (listed.setIfInBounds i true) (a.put oi.dst v) w → wpAnyT P md ops Q S T (f + 1) listed a w := by
  induction f with
  | zero =>
    intro listed a w _ hr hy hS H
    refine ⟨fun h => absurd hr (by rw [h]; exact List.not_mem_nil), fun j hj => ?_⟩
    by_cases hji : j = i
    · subst hji; exact hy.wpOp hi hS ⟨fun _ => hS, H⟩
    · have := ready_mono hj hji
      rw [H.1] at this
      cases this
  | succ f ih =>
    intro listed a w hfree hr hy hS H
    refine ⟨fun h => absurd hr (by rw [h]; exact List.not_mem_nil), fun j hj => ?_⟩
    by_cases hji : j = i
    · subst hji; exact hy.wpOp hi hS ⟨fun _ => hS, H⟩
    · have h1 := H.2 j (ready_mono hj hji)
      obtain ⟨hjun, oj, hoj, hall⟩ := mem_ready.1 hj
      have hun : listed.getD i false = false := getD_both (mem_ready.1 hr).1
      have hnot : ∀ e ∈ oj.after, Region.binds md e = true → e.on ≠ i := fun e he hb heq => by
        have h2 := hall e he hb
        rw [heq, hun] at h2
        cases h2
      have htj : T j = false := by
        cases ht : T j with
        | false => rfl
        | true =>
          obtain ⟨e, he, hb, ho⟩ := hT j oj hoj ht
          exact absurd ho (hnot e he hb)
      have h2 := wpOp_putIf hoj (hfree j oj hoj hji hjun hnot) (fun cs b => hsel i oi cs b hi) (fun cs b => hsel j oj cs b hoj) hQ hy h1
      refine wpOp_mono (fun a' w' h3 => ⟨h3.2.1, ih (listed.setIfInBounds j true) a' w' (fun k ok hk hki hu hno => hfree k ok hk hki ?_ hno) (ready_mono hr (Ne.symm hji)) h3.1 (h3.2.1 htj) ?_⟩) h2
      · by_cases hjk : j = k
        · subst hjk; exact hjun
        · rw [getD_set_ne true hjk] at hu; exact hu
      · rw [Array.setIfInBounds_comm _ _ hji]
        exact h3.2.2
/-- In this very order. -/
def wpSeqT (P : Program) (ops : Array Oper) (Q : Exit → Act → World → Prop) (S : World → Prop) (T : Nat → Bool) : List Nat → Act → World → Prop
  | [], a, w => Q .normal a w
  | k :: r, a, w => wpOp P ops Q k (fun a' w' => (T k = false → S w') ∧ wpSeqT P ops Q S T r a' w') a w
def seqI (md : Region.Mode) (ops : Array Oper) : List Nat → Array Bool → Bool
  | [], listed => (Region.ready md ops listed).isEmpty
  | k :: r, listed => decide (Region.ready md ops listed = [k]) && seqI md ops r (listed.setIfInBounds k true)
theorem wpAnyT_of_seq : ∀ (r : List Nat) (listed : Array Bool) (a : Act) (w : World), seqI md ops r listed = true → wpSeqT P ops Q S T r a w → wpAnyT P md ops Q S T r.length listed a w
  | [], listed, a, w, hB, h => ⟨by simpa [seqI] using hB, h⟩
  | k :: r, listed, a, w, hB, h => by
    simp only [seqI, Bool.and_eq_true, decide_eq_true_eq] at hB
    refine ⟨fun h0 => absurd hB.1 (by rw [h0]; simp), fun i hi => ?_⟩
    rw [hB.1] at hi
    obtain rfl : i = k := by simpa using hi
    exact wpOp_mono (fun a' w' h' => ⟨h'.1, wpAnyT_of_seq r _ a' w' hB.2 h'.2⟩) h
def takeB (md : Region.Mode) (ops : Array Oper) (T : Nat → Bool) (r : List Nat) : List Nat → Array Bool → Bool
  | [], listed => seqI md ops r listed
  | k :: t, listed => (Region.ready md ops listed).contains k && Region.free md ops listed k && ((List.range ops.size).all fun j => !T j || Region.waitsFor md ops j k) && takeB md ops T r t (listed.setIfInBounds k true)
def wpTakes (P : Program) (ops : Array Oper) (Q : Exit → Act → World → Prop) (S : World → Prop) (T : Nat → Bool) (r : List Nat) : List Nat → Act → World → Prop
  | [], a, w => wpSeqT P ops Q S T r a w
  | k :: t, a, w => ∃ o v, ops[k]? = some o ∧ YieldsIf P ops S o v a ∧ wpTakes P ops Q S T r t (a.put o.dst v) w
theorem wpAnyT_takes {r : List Nat} (hsel : Region.noSelect ops = true) (hQ : ∀ c (a : Act) d v w, Q (.panic c) (a.put d v) w → Q (.panic c) a w) :
    ∀ (t : List Nat) (listed : Array Bool) (a : Act) (w : World), takeB md ops T r t listed = true → S w → wpTakes P ops Q S T r t a w → wpAnyT P md ops Q S T (t.length + r.length) listed a w
  | [], listed, a, w, hB, _, h => by rw [List.length_nil, Nat.zero_add]; exact wpAnyT_of_seq r listed a w hB h
  | k :: t, listed, a, w, hB, hS, h => by
    obtain ⟨o, v, ho, hy, hr⟩ := h
    simp only [takeB, Bool.and_eq_true] at hB
    obtain ⟨⟨⟨h1, h2⟩, h3⟩, h4⟩ := hB
    rw [List.length_cons, Nat.add_right_comm]
    refine wpAnyT_first ho (Region.noSelect_spec hsel) (fun c a w => hQ c a _ _ w) (fun j oj hj ht => ?_) _ listed a w (Region.free_spec ho h2) (by simpa using h1) hy hS (wpAnyT_takes hsel hQ t _ _ w h4 hS hr)
    have hjl : j < ops.size := (Array.getElem?_eq_some_iff.1 hj).1
    have h5 := List.all_eq_true.1 h3 j (List.mem_range.2 hjl)
    rw [ht] at h5
    obtain ⟨o', ho', e, he, hb, hon⟩ := Region.waitsFor_spec (show Region.waitsFor md ops j k = true by simpa using h5)
    rw [hj] at ho'
    cases ho'
    exact ⟨e, he, hb, hon⟩
theorem wp_region_takes {id : Nat} {a : Act} {w : World} (t r : List Nat) (hm : P.follows .mixedOrders = true) (hsel : Region.noSelect ops = true) (hlen : t.length + r.length = ops.size) (hB : takeB .any ops T r t (Array.replicate ops.size false) = true)
    (hQ : ∀ c (a : Act) d v w, Q (.panic c) (a.put d v) w → Q (.panic c) a w) (hS : S w.drew) (h : wpTakes P ops Q S T r t a w.drew) : (Code.region id ops true).wp P Q a w := by
  have H := wpAny_of_T _ _ _ _ (wpAnyT_takes hsel hQ t _ a w.drew hB hS h)
  rw [hlen] at H
  exact wp_region_any hm H
theorem op_then {o : Oper} {a : Act} {w : World} {K K2 : Act → World → Prop} (h : o.wp P a w K (Exit.then K2 Q)) : o.wp P a w K Q := by
  unfold Oper.wp at *
  generalize (execOp a.eval o).run P w = r at *
  cases r with
  | ok n w' =>
    cases n <;> simp only [Oper.upon] at h ⊢ <;>
      first
        | exact h
        | exact Calls.mono h (fun e w'' he => by cases e <;> exact he)
  | halt x w' => cases x <;> simp only [Oper.upon] at h ⊢ <;> exact h
theorem wpSeqT_step {k : Nat} {r : List Nat} {o : Oper} {a : Act} {w : World} (hk : ops[k]? = some o) (h : wpList P ops (Exit.then (fun a' w' => (T k = false → S w') ∧ wpSeqT P ops Q S T r a' w') Q) [o] a w) : wpSeqT P ops Q S T (k :: r) a w := by
  unfold wpSeqT wpOp
  unfold wpList at h
  simp only [hk]
  split
  · rename_i hw
    rw [if_pos hw] at h
    exact h.imp op_then id
  · rename_i hw
    rw [if_neg hw] at h
    exact h
theorem wpTakes_step {k : Nat} {r t : List Nat} {o : Oper} {v : Value} {a : Act} {w : World} (hk : ops[k]? = some o) (hg : Region.wanted o (yielded ops a.tmps) = true) (hv : ∀ w, S w → (execOp a.eval o).run P w = .ok (.value v) w) (h : wpTakes P ops Q S T r t (a.put o.dst v) w) : wpTakes P ops Q S T r (k :: t) a w :=
  ⟨o, v, hk, .inl ⟨hg, hv⟩, h⟩
end
end Go.Proofs.YtdokglckfabdaaaGreatDoor
/- A region that draws its order: what only reads is taken wherever it is ready; all else in its one order. -/
namespace Go.Proofs.YtdokglckfabdaaaGreatDoor
open Go.RowKit
set_option linter.unusedVariables false
section
variable {P : Program} {ops : Array Oper} {Q : Exit → Act → World → Prop} {md : Region.Mode} {S : World → Prop}
def mixB (md : Region.Mode) (ops : Array Oper) : List (Bool × Nat) → Array Bool → Bool
  | [], listed => (Region.ready md ops listed).isEmpty
  | (true, k) :: r, listed => (Region.ready md ops listed).contains k && Region.free md ops listed k && mixB md ops r (listed.setIfInBounds k true)
  | (false, k) :: r, listed => decide (Region.ready md ops listed = [k]) && mixB md ops r (listed.setIfInBounds k true)
def wpMix (P : Program) (ops : Array Oper) (Q : Exit → Act → World → Prop) (S : World → Prop) : List (Bool × Nat) → Act → World → Prop
  | [], a, w => Q .normal a w
  | (true, k) :: r, a, w => ∃ o v, ops[k]? = some o ∧ YieldsIf P ops S o v a ∧ wpMix P ops Q S r (a.put o.dst v) w
  | (false, k) :: r, a, w => wpOp P ops Q k (fun a' w' => S w' ∧ wpMix P ops Q S r a' w') a w
theorem wpAnyT_mix (hsel : Region.noSelect ops = true) (hQ : ∀ c (a : Act) d v w, Q (.panic c) (a.put d v) w → Q (.panic c) a w) :
    ∀ (t : List (Bool × Nat)) (listed : Array Bool) (a : Act) (w : World), mixB md ops t listed = true → S w → wpMix P ops Q S t a w → wpAnyT P md ops Q S (fun _ => false) t.length listed a w
  | [], listed, a, w, hB, _, h => ⟨by simpa [mixB] using hB, h⟩
  | (true, k) :: t, listed, a, w, hB, hS, h => by
    obtain ⟨o, v, ho, hy, hr⟩ := h
    simp only [mixB, Bool.and_eq_true] at hB
    obtain ⟨⟨h1, h2⟩, h4⟩ := hB
    exact wpAnyT_first ho (Region.noSelect_spec hsel) (fun c a w => hQ c a _ _ w) (fun j oj hj ht => by cases ht) _ listed a w (Region.free_spec ho h2) (by simpa using h1) hy hS (wpAnyT_mix hsel hQ t _ _ w h4 hS hr)
  | (false, k) :: t, listed, a, w, hB, hS, h => by
    simp only [mixB, Bool.and_eq_true, decide_eq_true_eq] at hB
    refine ⟨fun h0 => absurd hB.1 (by rw [h0]; simp), fun i hi => ?_⟩
    rw [hB.1] at hi
    obtain rfl : i = k := by simpa using hi
    exact wpOp_mono (fun a' w' h' => ⟨fun _ => h'.1, wpAnyT_mix hsel hQ t _ a' w' hB.2 h'.1 h'.2⟩) h
theorem wp_region_mix {id : Nat} {a : Act} {w : World} (t : List (Bool × Nat)) (hm : P.follows .mixedOrders = true) (hsel : Region.noSelect ops = true) (hlen : t.length = ops.size) (hB : mixB .any ops t (Array.replicate ops.size false) = true)
    (hQ : ∀ c (a : Act) d v w, Q (.panic c) (a.put d v) w → Q (.panic c) a w) (hS : S w.drew) (h : wpMix P ops Q S t a w.drew) : (Code.region id ops true).wp P Q a w := by
  have H := wpAny_of_T _ _ _ _ (wpAnyT_mix hsel hQ t _ a w.drew hB hS h)
  rw [hlen] at H
  exact wp_region_any hm H
theorem wpMix_take {k : Nat} {t : List (Bool × Nat)} {o : Oper} {v : Value} {a : Act} {w : World} (hk : ops[k]? = some o) (hg : Region.wanted o (yielded ops a.tmps) = true) (hv : ∀ w, S w → (execOp a.eval o).run P w = .ok (.value v) w) (h : wpMix P ops Q S t (a.put o.dst v) w) : wpMix P ops Q S ((true, k) :: t) a w :=
  ⟨o, v, hk, .inl ⟨hg, hv⟩, h⟩
theorem wpMix_step {k : Nat} {r : List (Bool × Nat)} {o : Oper} {a : Act} {w : World} (hk : ops[k]? = some o) (h : wpList P ops (Exit.then (fun a' w' => S w' ∧ wpMix P ops Q S r a' w') Q) [o] a w) : wpMix P ops Q S ((false, k) :: r) a w := by
  unfold wpMix wpOp
  unfold wpList at h
  simp only [hk]
  split
  · rename_i hw
    rw [if_pos hw] at h
    exact h.imp op_then id
  · rename_i hw
    rw [if_neg hw] at h
    exact h
end
end Go.Proofs.YtdokglckfabdaaaGreatDoor
/- The law over ENetOk and its model: it returns true. -/
namespace Go.Proofs.YtdokglckfabdaaaGreatDoor
open Go.RowKit Go.PlainAid
set_option linter.unusedVariables false

set_option maxRecDepth 100000 in
set_option maxHeartbeats 4000000 in
theorem law_netOk (x : Nt) (u v : Value) (a : Addr) (w : World) (h : NtP w x u v) (hS : Sent w a) :
    Calls Tryz.prog 3 #[.agg #[u, v]] w fun e w' => e = .returned (.bool true) ∧ Below w.heap.size w w' := by
  obtain ⟨⟨a1, n1, c1, rfl⟩, a2, n2, c2, rfl⟩ := h.form
  have P0 := Lib.hid h
  have HS := Lib.hid hS
  have X := Lib.hid (Bx.new w 25 #[.slice a1 n1 c1, .slice a2 n2 c2] _ rfl)
  have A := Lib.hid ((Af.refl w).alloc (.cells #[.slice a1 n1 c1, .slice a2 n2 c2] 25))
  clear h hS
  go_enter Tryz.func3, Tryz.ntmps3
  go_wp2_with fail
  refine (sz_net x _ _ _ (P0.out.later A.out)).mono ?_
  rintro e w1 ⟨hsz, bb⟩
  have X := Lib.hid (X.out.after bb)
  have A := Lib.hid (A.out.after bb)
  clear bb
  rcases hsz with rfl | ⟨r, rfl, r0, r1, r2, r3⟩
  · go_wp2
    go_ret
    exact ⟨rfl, A.out⟩
  have HC := Lib.hid (And.intro r2 r3)
  have hd : decide (r < 0) = false := dec_f (by omega)
  clear r1 r2 r3
  obtain ⟨x0, x1⟩ := X.out.cT
  go_wp2_with fail
  clear x0 x1 hd
  refine (to_net x _ _ _ (P0.out.later A.out) HC.out.1 HC.out.2).mono ?_
  rintro e w2 ⟨⟨a3, n3, c3, a4, n4, c4, rfl, p2⟩, bb⟩
  have X := Lib.hid (X.out.after bb)
  have A := Lib.hid (A.out.after bb)
  have P2 := Lib.hid p2
  clear bb p2
  go_wp2_with fail
  refine (spec_netOk x _ _ _ P2.out).mono ?_
  rintro e w3 ⟨rfl, bb⟩
  have X := Lib.hid (X.out.after bb)
  have A := Lib.hid (A.out.after bb)
  clear bb P2
  obtain ⟨x0, x1⟩ := X.out.cT
  go_wp2_with fail
  clear x0 x1
  refine (to_net x _ _ _ (P0.out.later A.out) HC.out.1 HC.out.2).mono ?_
  rintro e w4 ⟨⟨a5, n5, c5, a6, n6, c6, rfl, p4⟩, bb⟩
  have X := Lib.hid ((X.out.after bb).alloc (.cells #[.slice a5 n5 c5, .slice a6 n6 c6] 31))
  have Y := Lib.hid (Bx.new w4 31 #[.slice a5 n5 c5, .slice a6 n6 c6] _ rfl)
  have A := Lib.hid ((A.out.after bb).alloc (.cells #[.slice a5 n5 c5, .slice a6 n6 c6] 31))
  have P4 := Lib.hid (p4.alloc (.cells #[.slice a5 n5 c5, .slice a6 n6 c6] 31))
  clear bb p4
  go_wp2_with fail
  refine (impl_netOk x _ _ a _ P4.out (HS.out.later A.out)).mono ?_
  rintro e w5 ⟨rfl, bb⟩
  have X := Lib.hid (X.out.after bb)
  have Y := Lib.hid (Y.out.after bb)
  have A := Lib.hid (A.out.after bb)
  have P4 := Lib.hid (P4.out.later bb)
  clear bb
  have hbn : (netB x != netB x) = false := by simp
  go_wp2_with fail
  have X := Lib.hid X.out.drew
  have Y := Lib.hid Y.out.drew
  have A := Lib.hid A.out.drew
  have P4 := Lib.hid (P4.out.later (Below.refl _ _).drew)
  refine wp_region_noPanic ?_
  refine wp_region_mix (S := fun w' => w'.cell? ⟨w4.heap.size, 0, none⟩ = some (.slice a5 n5 c5) ∧ w'.cell? ⟨w4.heap.size, 1, none⟩ = some (.slice a6 n6 c6) ∧ w'.cell? ⟨w.heap.size, 0, none⟩ = some (.slice a1 n1 c1) ∧ w'.cell? ⟨w.heap.size, 1, none⟩ = some (.slice a2 n2 c2)) [(true, 0), (true, 1), (false, 2), (false, 3), (true, 4)] (by kernel_rfl) (by kernel_rfl) (by kernel_rfl) (by kernel_rfl) (fun _ _ _ _ _ h => h) ⟨Y.out.cT.1, Y.out.cT.2, X.out.cT.1, X.out.cT.2⟩ ?_
  (refine wpMix_take (v := ?_) rfl rfl ?_ ?_; rotate_left; (intro w' hS'; (try dsimp only at hS'); go_simp; (try with_reducible rfl)); simp only [List.getElem_toArray, List.getElem_cons_zero, Act.put, List.setIfInBounds_toArray, List.set_cons_zero, List.set_cons_succ])
  (refine wpMix_take (v := ?_) rfl rfl ?_ ?_; rotate_left; (intro w' hS'; (try dsimp only at hS'); go_simp; (try with_reducible rfl)); simp only [List.getElem_toArray, List.getElem_cons_succ, List.getElem_cons_zero, Act.put, List.setIfInBounds_toArray, List.set_cons_zero, List.set_cons_succ])
  refine wpMix_step rfl ?_
  go_wp2_with fail
  refine (to_net x _ _ _ (P0.out.later A.out) HC.out.1 HC.out.2).mono ?_
  rintro e w6 ⟨⟨a7, n7, c7, a8, n8, c8, rfl, p6⟩, bb⟩
  have X := Lib.hid (X.out.after bb)
  have Y := Lib.hid (Y.out.after bb)
  have A := Lib.hid (A.out.after bb)
  have P4 := Lib.hid (P4.out.later bb)
  have P6 := Lib.hid p6
  clear bb p6
  go_wp2
  refine ⟨⟨Y.out.cT.1, Y.out.cT.2, X.out.cT.1, X.out.cT.2⟩, ?_⟩
  refine wpMix_step rfl ?_
  go_wp2_with fail
  refine (eq_netT x _ _ _ _ _ P4.out P6.out).mono ?_
  rintro e w7 ⟨rfl, bb⟩
  have X := Lib.hid (X.out.after bb)
  have Y := Lib.hid (Y.out.after bb)
  have A := Lib.hid (A.out.after bb)
  clear bb
  go_wp2
  refine ⟨⟨Y.out.cT.1, Y.out.cT.2, X.out.cT.1, X.out.cT.2⟩, ?_⟩
  (refine wpMix_take (v := ?_) rfl rfl ?_ ?_; rotate_left; (intro w' hS'; (try dsimp only at hS'); go_simp; (try with_reducible rfl)); simp only [List.getElem_toArray, List.getElem_cons_succ, List.getElem_cons_zero, Act.put, List.setIfInBounds_toArray, List.set_cons_zero, List.set_cons_succ])
  unfold wpMix
  refine NoPanic.normal ?_
  go_wp2
  go_ret
  exact ⟨rfl, A.out⟩
end Go.Proofs.YtdokglckfabdaaaGreatDoor
