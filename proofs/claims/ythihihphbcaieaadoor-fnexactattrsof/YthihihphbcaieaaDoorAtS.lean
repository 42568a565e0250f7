/- AttrsOf: the model's walk. -/
import Derived.Test.YthihihphbcaieaaDoorAtI
import Derived.Test.YthihihphbcaieaaDoorInLs
namespace Go.Proofs.YthihihphbcaieaaDoor
open Go.RowKit Go.PlainAid
set_option linter.unusedVariables false

theorem l_spec_clash (c d : CmdM) (v u : Value) (b : Bool) (e : clashB c d = b) (w0 w : World) (hv : Strs w0 v c.ch) (hu : Strs w0 u d.ch) (cs : c.set.size ≤ 9223372036854775807) (cn : c.name.size ≤ 9223372036854775807) (ct : c.tag.size ≤ 9223372036854775807) (ds : d.set.size ≤ 9223372036854775807) (dn : d.name.size ≤ 9223372036854775807) (dt : d.tag.size ≤ 9223372036854775807) (h : LatI w0 w) : Calls Tryd.prog 25 #[.agg #[.int .i64 c.kind, .int .i64 c.client, .int .i64 c.no, .string c.set, .string c.name, .string c.tag, .int .i64 c.n, v], .agg #[.int .i64 d.kind, .int .i64 d.client, .int .i64 d.no, .string d.set, .string d.name, .string d.tag, .int .i64 d.n, u]] w fun e w' => e = .returned (.bool b) ∧ LatI w0 w' :=
  (spec_clash c d v u w (hv.later h) (hu.later h) cs cn ct ds dn dt).mono fun _ w' hh => ⟨e ▸ hh.1, h.trans hh.2⟩
set_option maxRecDepth 100000 in
set_option maxHeartbeats 2000000 in
theorem spec_l8attrs (v : Value) (l : List In) (r s : Int) (c : CmdM) (cu : Value) (w : World) (hv : Insts w v l) (hc : Strs w cu c.ch) (fs : c.set.size ≤ 9223372036854775807) (fn : c.name.size ≤ 9223372036854775807) (ft : c.tag.size ≤ 9223372036854775807) (hl : l.length ≤ 1048576) (hok : instsB l = true) :
    Calls Tryd.prog 85 #[v, .agg #[.int .i64 r, .int .i64 s], .agg #[.int .i64 c.kind, .int .i64 c.client, .int .i64 c.no, .string c.set, .string c.name, .string c.tag, .int .i64 c.n, cu]] w fun e w' => (∃ u, e = .returned (.tuple #[.int .i64 (mxL r s c l + 1), u]) ∧ IdRow w' w.heap.size u (depL r s c l)) ∧ Below w.heap.size w w' := by
  have CH := Lib.hid hc
  obtain ⟨ac, nc, cc, rfl⟩ := hc.form
  obtain ⟨h1, a, ca, rfl, hca, ha⟩ := hv
  obtain ⟨n, hn⟩ : ∃ n, l.length = n := ⟨_, rfl⟩
  have HN := Lib.hid hn
  rw [hn] at h1 ha hca hl ⊢
  have HA := Lib.hid ha
  have HSQ := Lib.hid (fun k (hk : k < n) => seq_of_ok hok k (by rw [HN.out]; exact hk))
  have I0 := Lib.hid ((Bx.new w 40 #[.int .i64 r, .int .i64 s] _ rfl).alloc (.cells #[.int .i64 c.kind, .int .i64 c.client, .int .i64 c.no, .string c.set, .string c.name, .string c.tag, .int .i64 c.n, .slice ac nc cc] 43))
  have C0 := Lib.hid (Bx.new (w.alloc (.cells #[.int .i64 r, .int .i64 s] 40)) 43 #[.int .i64 c.kind, .int .i64 c.client, .int .i64 c.no, .string c.set, .string c.name, .string c.tag, .int .i64 c.n, .slice ac nc cc] (w.heap.size + 1) (by simp))
  have A0 := Lib.hid (((Af.refl w).alloc (.cells #[.int .i64 r, .int .i64 s] 40)).alloc (.cells #[.int .i64 c.kind, .int .i64 c.client, .int .i64 c.no, .string c.set, .string c.name, .string c.tag, .int .i64 c.n, .slice ac nc cc] 43))
  clear hn ha hca hc hok
  go_enter Tryd.func85, Tryd.ntmps85
  go_wp2
  go_loopw [8, 9, 10] (fun mv dv iv wr => ∃ (k : Nat) (a' : Option Addr) (n' c' : Nat) (m : Int), k ≤ n ∧ iv = .int .i64 k ∧ mv = .int .i64 (m + 1) ∧ m = mxL r s c (l.take k) ∧ 0 ≤ m ∧ m ≤ 60 ∧ dv = .slice a' n' c' ∧ IdRow wr (w.heap.size + 2) (.slice a' n' c') (depL r s c (l.take k)) ∧ Bx wr w.heap.size 40 #[.int .i64 r, .int .i64 s] ∧ Bx wr (w.heap.size + 1) 43 #[.int .i64 c.kind, .int .i64 c.client, .int .i64 c.no, .string c.set, .string c.name, .string c.tag, .int .i64 c.n, .slice ac nc cc] ∧ Af w wr) (fun _ _ iv _ => n - (intOf iv).toNat)
  case atStart => exact ⟨0, _, _, _, 0, by omega, rfl, rfl, by simp [mxL], by omega, by omega, rfl, by have h := idRow_new ((w.alloc (.cells #[.int .i64 r, .int .i64 s] 40)).alloc (.cells #[.int .i64 c.kind, .int .i64 c.client, .int .i64 c.no, .string c.set, .string c.name, .string c.tag, .int .i64 c.n, .slice ac nc cc] 43)) (w.heap.size + 2) (by simp); simpa [depL] using h, I0.out.alloc _, C0.out.alloc _, A0.out.alloc _⟩
  case round =>
    clear I0 C0 A0
    obtain ⟨k, a', n', c', m, hk, rfl, rfl, hm, hm0, hm1, rfl, hr, hi, hcb, haf⟩ := hrel
    have HM := Lib.hid hm
    have R := Lib.hid hr
    have I := Lib.hid hi
    have CB := Lib.hid hcb
    have A := Lib.hid haf
    have hszr : w.heap.size + 2 ≤ wr.heap.size := by have := hcb.lt; omega
    clear hr hi hcb haf hm
    by_cases hlt : k < n
    · obtain ⟨b, o, rfl, hb, hcx⟩ := HA.out (by omega)
      obtain ⟨u, d, ccx, pp⟩ := hcx k hlt
      have PK := Lib.hid (pp.later A.out)
      obtain ⟨⟨a1, n1, c1, rfl⟩, a2, n2, c2, rfl⟩ := pp.form
      have hsq := HSQ.out k hlt
      obtain ⟨q, hq⟩ : ∃ q, nth l k = q := ⟨_, rfl⟩
      have HQ := Lib.hid hq
      rw [hq] at ccx PK hsq
      have HCK := Lib.hid (fun W (h : Af w W) => ccx.below h hb)
      have y1 : (k : Int) < (n : Int) := by omega
      have y0 : (0 : Int) ≤ (k : Int) := by omega
      have HL := Lib.hid (fun W (h : LatI wr W) => And.intro (HCK.out W (A.out.after h)) (And.intro (I.out.after h).c2a (CB.out.after h).c8))
      clear hcx ccx pp hq
      by_cases hsame : q.rep = r ∧ q.slot = s
      · have HP := Lib.hid (show pickB r s c (nth l k) = false by rw [HQ.out]; exact pickB_same c hsame.1 hsame.2)
        have hs1 : (q.rep == r) = true := by simpa using hsame.1
        have hs2 : (q.slot == s) = true := by simpa using hsame.2
        clear hsame
        go_wp2_with fail
        refine wp_region_quiet (C := LatI wr) (by kernel_rfl) (by kernel_rfl) (show LatI wr wr.drew from Below.drew (Below.refl _ _)) ?_
        dsimp only
        repeat (first | go_big_quiet_skip | (go_big_quiet_want; go_big_quiet_op; (first | go_big_quiet_on | (refine ⟨_, fun _ _ => rfl, ?_⟩; go_big_quiet_on) | (refine ⟨.agg #[.int .i64 q.rep, .int .i64 q.slot], ?_, ?_⟩; intro w' hw'; obtain ⟨⟨e0, e1, e2, e3, e4, e5, e6, e7, e8, e9, e10, e11, e12, e13, e14, e15⟩, ⟨i0, i1⟩, k0, k1, k2, k3, k4, k5, k6, k7⟩ := HL.out w' hw'; simp [e0, e1, Result.andThen]; go_big_quiet_on) | (refine ⟨.agg #[.int .i64 r, .int .i64 s], ?_, ?_⟩; intro w' hw'; obtain ⟨⟨e0, e1, e2, e3, e4, e5, e6, e7, e8, e9, e10, e11, e12, e13, e14, e15⟩, ⟨i0, i1⟩, k0, k1, k2, k3, k4, k5, k6, k7⟩ := HL.out w' hw'; simp [i0, i1, Result.andThen]; go_big_quiet_on) | (refine ⟨.int .i64 q.st, ?_, ?_⟩; intro w' hw'; obtain ⟨⟨e0, e1, e2, e3, e4, e5, e6, e7, e8, e9, e10, e11, e12, e13, e14, e15⟩, ⟨i0, i1⟩, k0, k1, k2, k3, k4, k5, k6, k7⟩ := HL.out w' hw'; simp [e4, Result.andThen]; go_big_quiet_on) | (refine ⟨.agg #[.int .i64 c.kind, .int .i64 c.client, .int .i64 c.no, .string c.set, .string c.name, .string c.tag, .int .i64 c.n, .slice ac nc cc], ?_, ?_⟩; intro w' hw'; obtain ⟨⟨e0, e1, e2, e3, e4, e5, e6, e7, e8, e9, e10, e11, e12, e13, e14, e15⟩, ⟨i0, i1⟩, k0, k1, k2, k3, k4, k5, k6, k7⟩ := HL.out w' hw'; simp [k0, k1, k2, k3, k4, k5, k6, k7, Result.andThen]; go_big_quiet_on) | (refine ⟨.agg #[.int .i64 q.cmd.kind, .int .i64 q.cmd.client, .int .i64 q.cmd.no, .string q.cmd.set, .string q.cmd.name, .string q.cmd.tag, .int .i64 q.cmd.n, .slice a1 n1 c1], ?_, ?_⟩; intro w' hw'; obtain ⟨⟨e0, e1, e2, e3, e4, e5, e6, e7, e8, e9, e10, e11, e12, e13, e14, e15⟩, ⟨i0, i1⟩, k0, k1, k2, k3, k4, k5, k6, k7⟩ := HL.out w' hw'; simp [e5, e6, e7, e8, e9, e10, e11, e12, Result.andThen]; go_big_quiet_on))))
        refine wpQuiet_nil ?_
        intro w2 L2
        have I2 := Lib.hid (I.out.after L2)
        have C2 := Lib.hid (CB.out.after L2)
        have A2 := Lib.hid (A.out.after L2)
        have R2 := Lib.hid (R.out.later L2)
        obtain ⟨⟨e0, e1, e2, e3, e4, e5, e6, e7, e8, e9, e10, e11, e12, e13, e14, e15⟩, _⟩ := HL.out w2 L2
        clear L2 HL
        clear e0 e1 e2 e3 e4 e5 e6 e7 e8 e9 e10 e11 e12 e13 e14 e15
        go_wp2
        go_roundw
        case rel => exact ⟨k + 1, a', n', c', m, by omega, by go_num, rfl, by rw [mxL_no (by rw [HN.out]; exact hlt) HP.out]; exact HM.out, hm0, hm1, rfl, by rw [depL_no (by rw [HN.out]; exact hlt) HP.out]; exact R2.out, I2.out, C2.out, A2.out⟩
        case measure => simp only [intOf]; omega
      have HNS := Lib.hid hsame
      by_cases hr1 : q.rep = r
      · have hs2 := ine_no (fun e => hsame ⟨hr1, e⟩)
        have hs1 : (q.rep == r) = true := by simpa using hr1
        clear hr1 hsame
        by_cases hst : q.st = 0
        · have HP := Lib.hid (show pickB r s c (nth l k) = false by rw [HQ.out]; exact pickB_none r s c hst)
          have hst1 : (q.st == 0) = true := by simpa using hst
          clear hst
          go_wp2_with fail
          refine wp_region_quiet (C := LatI wr) (by kernel_rfl) (by kernel_rfl) (show LatI wr wr.drew from Below.drew (Below.refl _ _)) ?_
          dsimp only
          repeat (first | go_big_quiet_skip | (go_big_quiet_want; go_big_quiet_op; (first | go_big_quiet_on | (refine ⟨_, fun _ _ => rfl, ?_⟩; go_big_quiet_on) | (refine ⟨.agg #[.int .i64 q.rep, .int .i64 q.slot], ?_, ?_⟩; intro w' hw'; obtain ⟨⟨e0, e1, e2, e3, e4, e5, e6, e7, e8, e9, e10, e11, e12, e13, e14, e15⟩, ⟨i0, i1⟩, k0, k1, k2, k3, k4, k5, k6, k7⟩ := HL.out w' hw'; simp [e0, e1, Result.andThen]; go_big_quiet_on) | (refine ⟨.agg #[.int .i64 r, .int .i64 s], ?_, ?_⟩; intro w' hw'; obtain ⟨⟨e0, e1, e2, e3, e4, e5, e6, e7, e8, e9, e10, e11, e12, e13, e14, e15⟩, ⟨i0, i1⟩, k0, k1, k2, k3, k4, k5, k6, k7⟩ := HL.out w' hw'; simp [i0, i1, Result.andThen]; go_big_quiet_on) | (refine ⟨.int .i64 q.st, ?_, ?_⟩; intro w' hw'; obtain ⟨⟨e0, e1, e2, e3, e4, e5, e6, e7, e8, e9, e10, e11, e12, e13, e14, e15⟩, ⟨i0, i1⟩, k0, k1, k2, k3, k4, k5, k6, k7⟩ := HL.out w' hw'; simp [e4, Result.andThen]; go_big_quiet_on) | (refine ⟨.agg #[.int .i64 c.kind, .int .i64 c.client, .int .i64 c.no, .string c.set, .string c.name, .string c.tag, .int .i64 c.n, .slice ac nc cc], ?_, ?_⟩; intro w' hw'; obtain ⟨⟨e0, e1, e2, e3, e4, e5, e6, e7, e8, e9, e10, e11, e12, e13, e14, e15⟩, ⟨i0, i1⟩, k0, k1, k2, k3, k4, k5, k6, k7⟩ := HL.out w' hw'; simp [k0, k1, k2, k3, k4, k5, k6, k7, Result.andThen]; go_big_quiet_on) | (refine ⟨.agg #[.int .i64 q.cmd.kind, .int .i64 q.cmd.client, .int .i64 q.cmd.no, .string q.cmd.set, .string q.cmd.name, .string q.cmd.tag, .int .i64 q.cmd.n, .slice a1 n1 c1], ?_, ?_⟩; intro w' hw'; obtain ⟨⟨e0, e1, e2, e3, e4, e5, e6, e7, e8, e9, e10, e11, e12, e13, e14, e15⟩, ⟨i0, i1⟩, k0, k1, k2, k3, k4, k5, k6, k7⟩ := HL.out w' hw'; simp [e5, e6, e7, e8, e9, e10, e11, e12, Result.andThen]; go_big_quiet_on))))
          refine wpQuiet_nil ?_
          intro w2 L2
          have I2 := Lib.hid (I.out.after L2)
          have C2 := Lib.hid (CB.out.after L2)
          have A2 := Lib.hid (A.out.after L2)
          have R2 := Lib.hid (R.out.later L2)
          obtain ⟨⟨e0, e1, e2, e3, e4, e5, e6, e7, e8, e9, e10, e11, e12, e13, e14, e15⟩, _⟩ := HL.out w2 L2
          clear L2 HL
          clear e0 e1 e2 e3 e4 e5 e6 e7 e8 e9 e10 e11 e12 e13 e14 e15
          go_wp2
          go_roundw
          case rel => exact ⟨k + 1, a', n', c', m, by omega, by go_num, rfl, by rw [mxL_no (by rw [HN.out]; exact hlt) HP.out]; exact HM.out, hm0, hm1, rfl, by rw [depL_no (by rw [HN.out]; exact hlt) HP.out]; exact R2.out, I2.out, C2.out, A2.out⟩
          case measure => simp only [intOf]; omega
        have hst1 : (q.st == 0) = false := ine_no hst
        have HPE := Lib.hid (show pickB r s c (nth l k) = clashB c q.cmd by rw [HQ.out, clashB_comm]; exact pickB_other c HNS.out hst)
        clear hst
        cases hcl : clashB c q.cmd
        · have HP := Lib.hid (show pickB r s c (nth l k) = false by rw [HPE.out, hcl])
          have HC := Lib.hid (fun W (h : LatI wr W) => l_spec_clash c q.cmd (.slice ac nc cc) (.slice a1 n1 c1) false hcl wr W (CH.out.later A.out) PK.out.1 fs fn ft PK.out.2.2.1 PK.out.2.2.2.1 PK.out.2.2.2.2 h)
          clear hcl
          go_wp2_with fail
          refine wp_region_quiet (C := LatI wr) (by kernel_rfl) (by kernel_rfl) (show LatI wr wr.drew from Below.drew (Below.refl _ _)) ?_
          dsimp only
          repeat (first | go_big_quiet_skip | (go_big_quiet_want; go_big_quiet_op; (first | go_big_quiet_on | (refine ⟨_, fun _ _ => rfl, ?_⟩; go_big_quiet_on) | (refine ⟨.agg #[.int .i64 q.rep, .int .i64 q.slot], ?_, ?_⟩; intro w' hw'; obtain ⟨⟨e0, e1, e2, e3, e4, e5, e6, e7, e8, e9, e10, e11, e12, e13, e14, e15⟩, ⟨i0, i1⟩, k0, k1, k2, k3, k4, k5, k6, k7⟩ := HL.out w' hw'; simp [e0, e1, Result.andThen]; go_big_quiet_on) | (refine ⟨.agg #[.int .i64 r, .int .i64 s], ?_, ?_⟩; intro w' hw'; obtain ⟨⟨e0, e1, e2, e3, e4, e5, e6, e7, e8, e9, e10, e11, e12, e13, e14, e15⟩, ⟨i0, i1⟩, k0, k1, k2, k3, k4, k5, k6, k7⟩ := HL.out w' hw'; simp [i0, i1, Result.andThen]; go_big_quiet_on) | (refine ⟨.int .i64 q.st, ?_, ?_⟩; intro w' hw'; obtain ⟨⟨e0, e1, e2, e3, e4, e5, e6, e7, e8, e9, e10, e11, e12, e13, e14, e15⟩, ⟨i0, i1⟩, k0, k1, k2, k3, k4, k5, k6, k7⟩ := HL.out w' hw'; simp [e4, Result.andThen]; go_big_quiet_on) | (refine ⟨.agg #[.int .i64 c.kind, .int .i64 c.client, .int .i64 c.no, .string c.set, .string c.name, .string c.tag, .int .i64 c.n, .slice ac nc cc], ?_, ?_⟩; intro w' hw'; obtain ⟨⟨e0, e1, e2, e3, e4, e5, e6, e7, e8, e9, e10, e11, e12, e13, e14, e15⟩, ⟨i0, i1⟩, k0, k1, k2, k3, k4, k5, k6, k7⟩ := HL.out w' hw'; simp [k0, k1, k2, k3, k4, k5, k6, k7, Result.andThen]; go_big_quiet_on) | (refine ⟨.agg #[.int .i64 q.cmd.kind, .int .i64 q.cmd.client, .int .i64 q.cmd.no, .string q.cmd.set, .string q.cmd.name, .string q.cmd.tag, .int .i64 q.cmd.n, .slice a1 n1 c1], ?_, ?_⟩; intro w' hw'; obtain ⟨⟨e0, e1, e2, e3, e4, e5, e6, e7, e8, e9, e10, e11, e12, e13, e14, e15⟩, ⟨i0, i1⟩, k0, k1, k2, k3, k4, k5, k6, k7⟩ := HL.out w' hw'; simp [e5, e6, e7, e8, e9, e10, e11, e12, Result.andThen]; go_big_quiet_on) | (refine ⟨_, fun w' hw' => HC.out w' hw', ?_⟩; go_big_quiet_on))))
          refine wpQuiet_nil ?_
          intro w2 L2
          have I2 := Lib.hid (I.out.after L2)
          have C2 := Lib.hid (CB.out.after L2)
          have A2 := Lib.hid (A.out.after L2)
          have R2 := Lib.hid (R.out.later L2)
          obtain ⟨⟨e0, e1, e2, e3, e4, e5, e6, e7, e8, e9, e10, e11, e12, e13, e14, e15⟩, _⟩ := HL.out w2 L2
          clear L2 HL
          clear e0 e1 e2 e3 e4 e5 e6 e7 e8 e9 e10 e11 e12 e13 e14 e15
          go_wp2
          go_roundw
          case rel => exact ⟨k + 1, a', n', c', m, by omega, by go_num, rfl, by rw [mxL_no (by rw [HN.out]; exact hlt) HP.out]; exact HM.out, hm0, hm1, rfl, by rw [depL_no (by rw [HN.out]; exact hlt) HP.out]; exact R2.out, I2.out, C2.out, A2.out⟩
          case measure => simp only [intOf]; omega
        have HP := Lib.hid (show pickB r s c (nth l k) = true by rw [HPE.out, hcl])
        have HC := Lib.hid (fun W (h : LatI wr W) => l_spec_clash c q.cmd (.slice ac nc cc) (.slice a1 n1 c1) true hcl wr W (CH.out.later A.out) PK.out.1 fs fn ft PK.out.2.2.1 PK.out.2.2.2.1 PK.out.2.2.2.2 h)
        have HLEN := Lib.hid (depL_length r s c l k)
        clear hcl
        go_wp2_with fail
        refine wp_region_quiet (C := LatI wr) (by kernel_rfl) (by kernel_rfl) (show LatI wr wr.drew from Below.drew (Below.refl _ _)) ?_
        dsimp only
        repeat (first | go_big_quiet_skip | (go_big_quiet_want; go_big_quiet_op; (first | go_big_quiet_on | (refine ⟨_, fun _ _ => rfl, ?_⟩; go_big_quiet_on) | (refine ⟨.agg #[.int .i64 q.rep, .int .i64 q.slot], ?_, ?_⟩; intro w' hw'; obtain ⟨⟨e0, e1, e2, e3, e4, e5, e6, e7, e8, e9, e10, e11, e12, e13, e14, e15⟩, ⟨i0, i1⟩, k0, k1, k2, k3, k4, k5, k6, k7⟩ := HL.out w' hw'; simp [e0, e1, Result.andThen]; go_big_quiet_on) | (refine ⟨.agg #[.int .i64 r, .int .i64 s], ?_, ?_⟩; intro w' hw'; obtain ⟨⟨e0, e1, e2, e3, e4, e5, e6, e7, e8, e9, e10, e11, e12, e13, e14, e15⟩, ⟨i0, i1⟩, k0, k1, k2, k3, k4, k5, k6, k7⟩ := HL.out w' hw'; simp [i0, i1, Result.andThen]; go_big_quiet_on) | (refine ⟨.int .i64 q.st, ?_, ?_⟩; intro w' hw'; obtain ⟨⟨e0, e1, e2, e3, e4, e5, e6, e7, e8, e9, e10, e11, e12, e13, e14, e15⟩, ⟨i0, i1⟩, k0, k1, k2, k3, k4, k5, k6, k7⟩ := HL.out w' hw'; simp [e4, Result.andThen]; go_big_quiet_on) | (refine ⟨.agg #[.int .i64 c.kind, .int .i64 c.client, .int .i64 c.no, .string c.set, .string c.name, .string c.tag, .int .i64 c.n, .slice ac nc cc], ?_, ?_⟩; intro w' hw'; obtain ⟨⟨e0, e1, e2, e3, e4, e5, e6, e7, e8, e9, e10, e11, e12, e13, e14, e15⟩, ⟨i0, i1⟩, k0, k1, k2, k3, k4, k5, k6, k7⟩ := HL.out w' hw'; simp [k0, k1, k2, k3, k4, k5, k6, k7, Result.andThen]; go_big_quiet_on) | (refine ⟨.agg #[.int .i64 q.cmd.kind, .int .i64 q.cmd.client, .int .i64 q.cmd.no, .string q.cmd.set, .string q.cmd.name, .string q.cmd.tag, .int .i64 q.cmd.n, .slice a1 n1 c1], ?_, ?_⟩; intro w' hw'; obtain ⟨⟨e0, e1, e2, e3, e4, e5, e6, e7, e8, e9, e10, e11, e12, e13, e14, e15⟩, ⟨i0, i1⟩, k0, k1, k2, k3, k4, k5, k6, k7⟩ := HL.out w' hw'; simp [e5, e6, e7, e8, e9, e10, e11, e12, Result.andThen]; go_big_quiet_on) | (refine ⟨_, fun w' hw' => HC.out w' hw', ?_⟩; go_big_quiet_on))))
        refine wpQuiet_nil ?_
        intro w2 L2
        have I2 := Lib.hid (I.out.after L2)
        have C2 := Lib.hid (CB.out.after L2)
        have A2 := Lib.hid (A.out.after L2)
        have R2 := Lib.hid (R.out.later L2)
        obtain ⟨⟨e0, e1, e2, e3, e4, e5, e6, e7, e8, e9, e10, e11, e12, e13, e14, e15⟩, _⟩ := HL.out w2 L2
        clear L2 HL
        have hsz2 : w.heap.size + 2 ≤ w2.heap.size := by have := C2.out.lt; omega
        by_cases hmx : q.seq ≤ m
        · have hmax : max m q.seq = m := by omega
          have HMX := Lib.hid hmax
          have hdg : decide (m + 1 < q.seq + 1) = false := dec_f (by omega)
          go_wp2_with (at_builtin; refine wp_append_id rfl (.tmp 43) (.tmp 49) rfl (w.heap.size + 2) (.slice a' n' c') (depL r s c (l.take k)) [⟨q.rep, q.slot⟩] rfl (R2.out.alloc _) w2.heap.size 0 1 rfl (fun j hj => ii_one (x := ⟨q.rep, q.slot⟩) (Bx.new w2 _ _ _ rfl).c2a j hj) (by have := HLEN.out; simp only [List.length_singleton]; omega) (by simp; omega) ?_; intro v6 w6 hr6 hg6; obtain ⟨a6, n6, c6, hv6⟩ := hr6.own.form; subst hv6; have I6 := Lib.hid ((I2.out.alloc (.cells #[.int .i64 q.rep, .int .i64 q.slot] 40)).keep hg6 (fun e => by have := (R2.out.lt _ e.symm).1; omega)); have C6 := Lib.hid ((C2.out.alloc (.cells #[.int .i64 q.rep, .int .i64 q.slot] 40)).keep hg6 (fun e => by have := (R2.out.lt _ e.symm).1; omega)); have A6 := Lib.hid ((A2.out.alloc (.cells #[.int .i64 q.rep, .int .i64 q.slot] 40)).grow hg6 (fun k hk => by have := (R2.out.lt _ hk).1; omega)); have R6 := Lib.hid hr6; obtain ⟨t0, t1, t2, t3, t4, t5, t6, t7, t8, t9, t10, t11, t12, t13, t14, t15⟩ := HCK.out w6 A6.out; clear hr6 hg6 e0 e1 e2 e3 e4 e5 e6 e7 e8 e9 e10 e11 e12 e13 e14 e15)
          go_roundw
          case rel => exact ⟨k + 1, a6, n6, c6, m, by omega, by go_num, rfl, by rw [mxL_yes (by rw [HN.out]; exact hlt) HP.out, ← HM.out, HQ.out]; exact HMX.out.symm, by omega, by omega, rfl, by rw [depL_yes (by rw [HN.out]; exact hlt) HP.out, HQ.out]; exact R6.out, I6.out, C6.out, A6.out⟩
          case measure => simp only [intOf]; omega
        · have hmax : max m q.seq = q.seq := by omega
          have HMX := Lib.hid hmax
          have hdg : decide (m + 1 < q.seq + 1) = true := dec_t (by omega)
          go_wp2_with (at_builtin; refine wp_append_id rfl (.tmp 43) (.tmp 49) rfl (w.heap.size + 2) (.slice a' n' c') (depL r s c (l.take k)) [⟨q.rep, q.slot⟩] rfl (R2.out.alloc _) w2.heap.size 0 1 rfl (fun j hj => ii_one (x := ⟨q.rep, q.slot⟩) (Bx.new w2 _ _ _ rfl).c2a j hj) (by have := HLEN.out; simp only [List.length_singleton]; omega) (by simp; omega) ?_; intro v6 w6 hr6 hg6; obtain ⟨a6, n6, c6, hv6⟩ := hr6.own.form; subst hv6; have I6 := Lib.hid ((I2.out.alloc (.cells #[.int .i64 q.rep, .int .i64 q.slot] 40)).keep hg6 (fun e => by have := (R2.out.lt _ e.symm).1; omega)); have C6 := Lib.hid ((C2.out.alloc (.cells #[.int .i64 q.rep, .int .i64 q.slot] 40)).keep hg6 (fun e => by have := (R2.out.lt _ e.symm).1; omega)); have A6 := Lib.hid ((A2.out.alloc (.cells #[.int .i64 q.rep, .int .i64 q.slot] 40)).grow hg6 (fun k hk => by have := (R2.out.lt _ hk).1; omega)); have R6 := Lib.hid hr6; obtain ⟨t0, t1, t2, t3, t4, t5, t6, t7, t8, t9, t10, t11, t12, t13, t14, t15⟩ := HCK.out w6 A6.out; clear hr6 hg6 e0 e1 e2 e3 e4 e5 e6 e7 e8 e9 e10 e11 e12 e13 e14 e15)
          go_roundw
          case rel => exact ⟨k + 1, a6, n6, c6, q.seq, by omega, by go_num, by go_num, by rw [mxL_yes (by rw [HN.out]; exact hlt) HP.out, ← HM.out, HQ.out]; exact HMX.out.symm, by omega, by omega, rfl, by rw [depL_yes (by rw [HN.out]; exact hlt) HP.out, HQ.out]; exact R6.out, I6.out, C6.out, A6.out⟩
          case measure => simp only [intOf]; omega
      · have hs1 := ine_no hr1
        clear hr1 hsame
        by_cases hst : q.st = 0
        · have HP := Lib.hid (show pickB r s c (nth l k) = false by rw [HQ.out]; exact pickB_none r s c hst)
          have hst1 : (q.st == 0) = true := by simpa using hst
          clear hst
          go_wp2_with fail
          refine wp_region_quiet (C := LatI wr) (by kernel_rfl) (by kernel_rfl) (show LatI wr wr.drew from Below.drew (Below.refl _ _)) ?_
          dsimp only
          repeat (first | go_big_quiet_skip | (go_big_quiet_want; go_big_quiet_op; (first | go_big_quiet_on | (refine ⟨_, fun _ _ => rfl, ?_⟩; go_big_quiet_on) | (refine ⟨.agg #[.int .i64 q.rep, .int .i64 q.slot], ?_, ?_⟩; intro w' hw'; obtain ⟨⟨e0, e1, e2, e3, e4, e5, e6, e7, e8, e9, e10, e11, e12, e13, e14, e15⟩, ⟨i0, i1⟩, k0, k1, k2, k3, k4, k5, k6, k7⟩ := HL.out w' hw'; simp [e0, e1, Result.andThen]; go_big_quiet_on) | (refine ⟨.agg #[.int .i64 r, .int .i64 s], ?_, ?_⟩; intro w' hw'; obtain ⟨⟨e0, e1, e2, e3, e4, e5, e6, e7, e8, e9, e10, e11, e12, e13, e14, e15⟩, ⟨i0, i1⟩, k0, k1, k2, k3, k4, k5, k6, k7⟩ := HL.out w' hw'; simp [i0, i1, Result.andThen]; go_big_quiet_on) | (refine ⟨.int .i64 q.st, ?_, ?_⟩; intro w' hw'; obtain ⟨⟨e0, e1, e2, e3, e4, e5, e6, e7, e8, e9, e10, e11, e12, e13, e14, e15⟩, ⟨i0, i1⟩, k0, k1, k2, k3, k4, k5, k6, k7⟩ := HL.out w' hw'; simp [e4, Result.andThen]; go_big_quiet_on) | (refine ⟨.agg #[.int .i64 c.kind, .int .i64 c.client, .int .i64 c.no, .string c.set, .string c.name, .string c.tag, .int .i64 c.n, .slice ac nc cc], ?_, ?_⟩; intro w' hw'; obtain ⟨⟨e0, e1, e2, e3, e4, e5, e6, e7, e8, e9, e10, e11, e12, e13, e14, e15⟩, ⟨i0, i1⟩, k0, k1, k2, k3, k4, k5, k6, k7⟩ := HL.out w' hw'; simp [k0, k1, k2, k3, k4, k5, k6, k7, Result.andThen]; go_big_quiet_on) | (refine ⟨.agg #[.int .i64 q.cmd.kind, .int .i64 q.cmd.client, .int .i64 q.cmd.no, .string q.cmd.set, .string q.cmd.name, .string q.cmd.tag, .int .i64 q.cmd.n, .slice a1 n1 c1], ?_, ?_⟩; intro w' hw'; obtain ⟨⟨e0, e1, e2, e3, e4, e5, e6, e7, e8, e9, e10, e11, e12, e13, e14, e15⟩, ⟨i0, i1⟩, k0, k1, k2, k3, k4, k5, k6, k7⟩ := HL.out w' hw'; simp [e5, e6, e7, e8, e9, e10, e11, e12, Result.andThen]; go_big_quiet_on))))
          refine wpQuiet_nil ?_
          intro w2 L2
          have I2 := Lib.hid (I.out.after L2)
          have C2 := Lib.hid (CB.out.after L2)
          have A2 := Lib.hid (A.out.after L2)
          have R2 := Lib.hid (R.out.later L2)
          obtain ⟨⟨e0, e1, e2, e3, e4, e5, e6, e7, e8, e9, e10, e11, e12, e13, e14, e15⟩, _⟩ := HL.out w2 L2
          clear L2 HL
          clear e0 e1 e2 e3 e4 e5 e6 e7 e8 e9 e10 e11 e12 e13 e14 e15
          go_wp2
          go_roundw
          case rel => exact ⟨k + 1, a', n', c', m, by omega, by go_num, rfl, by rw [mxL_no (by rw [HN.out]; exact hlt) HP.out]; exact HM.out, hm0, hm1, rfl, by rw [depL_no (by rw [HN.out]; exact hlt) HP.out]; exact R2.out, I2.out, C2.out, A2.out⟩
          case measure => simp only [intOf]; omega
        have hst1 : (q.st == 0) = false := ine_no hst
        have HPE := Lib.hid (show pickB r s c (nth l k) = clashB c q.cmd by rw [HQ.out, clashB_comm]; exact pickB_other c HNS.out hst)
        clear hst
        cases hcl : clashB c q.cmd
        · have HP := Lib.hid (show pickB r s c (nth l k) = false by rw [HPE.out, hcl])
          have HC := Lib.hid (fun W (h : LatI wr W) => l_spec_clash c q.cmd (.slice ac nc cc) (.slice a1 n1 c1) false hcl wr W (CH.out.later A.out) PK.out.1 fs fn ft PK.out.2.2.1 PK.out.2.2.2.1 PK.out.2.2.2.2 h)
          clear hcl
          go_wp2_with fail
          refine wp_region_quiet (C := LatI wr) (by kernel_rfl) (by kernel_rfl) (show LatI wr wr.drew from Below.drew (Below.refl _ _)) ?_
          dsimp only
          repeat (first | go_big_quiet_skip | (go_big_quiet_want; go_big_quiet_op; (first | go_big_quiet_on | (refine ⟨_, fun _ _ => rfl, ?_⟩; go_big_quiet_on) | (refine ⟨.agg #[.int .i64 q.rep, .int .i64 q.slot], ?_, ?_⟩; intro w' hw'; obtain ⟨⟨e0, e1, e2, e3, e4, e5, e6, e7, e8, e9, e10, e11, e12, e13, e14, e15⟩, ⟨i0, i1⟩, k0, k1, k2, k3, k4, k5, k6, k7⟩ := HL.out w' hw'; simp [e0, e1, Result.andThen]; go_big_quiet_on) | (refine ⟨.agg #[.int .i64 r, .int .i64 s], ?_, ?_⟩; intro w' hw'; obtain ⟨⟨e0, e1, e2, e3, e4, e5, e6, e7, e8, e9, e10, e11, e12, e13, e14, e15⟩, ⟨i0, i1⟩, k0, k1, k2, k3, k4, k5, k6, k7⟩ := HL.out w' hw'; simp [i0, i1, Result.andThen]; go_big_quiet_on) | (refine ⟨.int .i64 q.st, ?_, ?_⟩; intro w' hw'; obtain ⟨⟨e0, e1, e2, e3, e4, e5, e6, e7, e8, e9, e10, e11, e12, e13, e14, e15⟩, ⟨i0, i1⟩, k0, k1, k2, k3, k4, k5, k6, k7⟩ := HL.out w' hw'; simp [e4, Result.andThen]; go_big_quiet_on) | (refine ⟨.agg #[.int .i64 c.kind, .int .i64 c.client, .int .i64 c.no, .string c.set, .string c.name, .string c.tag, .int .i64 c.n, .slice ac nc cc], ?_, ?_⟩; intro w' hw'; obtain ⟨⟨e0, e1, e2, e3, e4, e5, e6, e7, e8, e9, e10, e11, e12, e13, e14, e15⟩, ⟨i0, i1⟩, k0, k1, k2, k3, k4, k5, k6, k7⟩ := HL.out w' hw'; simp [k0, k1, k2, k3, k4, k5, k6, k7, Result.andThen]; go_big_quiet_on) | (refine ⟨.agg #[.int .i64 q.cmd.kind, .int .i64 q.cmd.client, .int .i64 q.cmd.no, .string q.cmd.set, .string q.cmd.name, .string q.cmd.tag, .int .i64 q.cmd.n, .slice a1 n1 c1], ?_, ?_⟩; intro w' hw'; obtain ⟨⟨e0, e1, e2, e3, e4, e5, e6, e7, e8, e9, e10, e11, e12, e13, e14, e15⟩, ⟨i0, i1⟩, k0, k1, k2, k3, k4, k5, k6, k7⟩ := HL.out w' hw'; simp [e5, e6, e7, e8, e9, e10, e11, e12, Result.andThen]; go_big_quiet_on) | (refine ⟨_, fun w' hw' => HC.out w' hw', ?_⟩; go_big_quiet_on))))
          refine wpQuiet_nil ?_
          intro w2 L2
          have I2 := Lib.hid (I.out.after L2)
          have C2 := Lib.hid (CB.out.after L2)
          have A2 := Lib.hid (A.out.after L2)
          have R2 := Lib.hid (R.out.later L2)
          obtain ⟨⟨e0, e1, e2, e3, e4, e5, e6, e7, e8, e9, e10, e11, e12, e13, e14, e15⟩, _⟩ := HL.out w2 L2
          clear L2 HL
          clear e0 e1 e2 e3 e4 e5 e6 e7 e8 e9 e10 e11 e12 e13 e14 e15
          go_wp2
          go_roundw
          case rel => exact ⟨k + 1, a', n', c', m, by omega, by go_num, rfl, by rw [mxL_no (by rw [HN.out]; exact hlt) HP.out]; exact HM.out, hm0, hm1, rfl, by rw [depL_no (by rw [HN.out]; exact hlt) HP.out]; exact R2.out, I2.out, C2.out, A2.out⟩
          case measure => simp only [intOf]; omega
        have HP := Lib.hid (show pickB r s c (nth l k) = true by rw [HPE.out, hcl])
        have HC := Lib.hid (fun W (h : LatI wr W) => l_spec_clash c q.cmd (.slice ac nc cc) (.slice a1 n1 c1) true hcl wr W (CH.out.later A.out) PK.out.1 fs fn ft PK.out.2.2.1 PK.out.2.2.2.1 PK.out.2.2.2.2 h)
        have HLEN := Lib.hid (depL_length r s c l k)
        clear hcl
        go_wp2_with fail
        refine wp_region_quiet (C := LatI wr) (by kernel_rfl) (by kernel_rfl) (show LatI wr wr.drew from Below.drew (Below.refl _ _)) ?_
        dsimp only
        repeat (first | go_big_quiet_skip | (go_big_quiet_want; go_big_quiet_op; (first | go_big_quiet_on | (refine ⟨_, fun _ _ => rfl, ?_⟩; go_big_quiet_on) | (refine ⟨.agg #[.int .i64 q.rep, .int .i64 q.slot], ?_, ?_⟩; intro w' hw'; obtain ⟨⟨e0, e1, e2, e3, e4, e5, e6, e7, e8, e9, e10, e11, e12, e13, e14, e15⟩, ⟨i0, i1⟩, k0, k1, k2, k3, k4, k5, k6, k7⟩ := HL.out w' hw'; simp [e0, e1, Result.andThen]; go_big_quiet_on) | (refine ⟨.agg #[.int .i64 r, .int .i64 s], ?_, ?_⟩; intro w' hw'; obtain ⟨⟨e0, e1, e2, e3, e4, e5, e6, e7, e8, e9, e10, e11, e12, e13, e14, e15⟩, ⟨i0, i1⟩, k0, k1, k2, k3, k4, k5, k6, k7⟩ := HL.out w' hw'; simp [i0, i1, Result.andThen]; go_big_quiet_on) | (refine ⟨.int .i64 q.st, ?_, ?_⟩; intro w' hw'; obtain ⟨⟨e0, e1, e2, e3, e4, e5, e6, e7, e8, e9, e10, e11, e12, e13, e14, e15⟩, ⟨i0, i1⟩, k0, k1, k2, k3, k4, k5, k6, k7⟩ := HL.out w' hw'; simp [e4, Result.andThen]; go_big_quiet_on) | (refine ⟨.agg #[.int .i64 c.kind, .int .i64 c.client, .int .i64 c.no, .string c.set, .string c.name, .string c.tag, .int .i64 c.n, .slice ac nc cc], ?_, ?_⟩; intro w' hw'; obtain ⟨⟨e0, e1, e2, e3, e4, e5, e6, e7, e8, e9, e10, e11, e12, e13, e14, e15⟩, ⟨i0, i1⟩, k0, k1, k2, k3, k4, k5, k6, k7⟩ := HL.out w' hw'; simp [k0, k1, k2, k3, k4, k5, k6, k7, Result.andThen]; go_big_quiet_on) | (refine ⟨.agg #[.int .i64 q.cmd.kind, .int .i64 q.cmd.client, .int .i64 q.cmd.no, .string q.cmd.set, .string q.cmd.name, .string q.cmd.tag, .int .i64 q.cmd.n, .slice a1 n1 c1], ?_, ?_⟩; intro w' hw'; obtain ⟨⟨e0, e1, e2, e3, e4, e5, e6, e7, e8, e9, e10, e11, e12, e13, e14, e15⟩, ⟨i0, i1⟩, k0, k1, k2, k3, k4, k5, k6, k7⟩ := HL.out w' hw'; simp [e5, e6, e7, e8, e9, e10, e11, e12, Result.andThen]; go_big_quiet_on) | (refine ⟨_, fun w' hw' => HC.out w' hw', ?_⟩; go_big_quiet_on))))
        refine wpQuiet_nil ?_
        intro w2 L2
        have I2 := Lib.hid (I.out.after L2)
        have C2 := Lib.hid (CB.out.after L2)
        have A2 := Lib.hid (A.out.after L2)
        have R2 := Lib.hid (R.out.later L2)
        obtain ⟨⟨e0, e1, e2, e3, e4, e5, e6, e7, e8, e9, e10, e11, e12, e13, e14, e15⟩, _⟩ := HL.out w2 L2
        clear L2 HL
        have hsz2 : w.heap.size + 2 ≤ w2.heap.size := by have := C2.out.lt; omega
        by_cases hmx : q.seq ≤ m
        · have hmax : max m q.seq = m := by omega
          have HMX := Lib.hid hmax
          have hdg : decide (m + 1 < q.seq + 1) = false := dec_f (by omega)
          go_wp2_with (at_builtin; refine wp_append_id rfl (.tmp 43) (.tmp 49) rfl (w.heap.size + 2) (.slice a' n' c') (depL r s c (l.take k)) [⟨q.rep, q.slot⟩] rfl (R2.out.alloc _) w2.heap.size 0 1 rfl (fun j hj => ii_one (x := ⟨q.rep, q.slot⟩) (Bx.new w2 _ _ _ rfl).c2a j hj) (by have := HLEN.out; simp only [List.length_singleton]; omega) (by simp; omega) ?_; intro v6 w6 hr6 hg6; obtain ⟨a6, n6, c6, hv6⟩ := hr6.own.form; subst hv6; have I6 := Lib.hid ((I2.out.alloc (.cells #[.int .i64 q.rep, .int .i64 q.slot] 40)).keep hg6 (fun e => by have := (R2.out.lt _ e.symm).1; omega)); have C6 := Lib.hid ((C2.out.alloc (.cells #[.int .i64 q.rep, .int .i64 q.slot] 40)).keep hg6 (fun e => by have := (R2.out.lt _ e.symm).1; omega)); have A6 := Lib.hid ((A2.out.alloc (.cells #[.int .i64 q.rep, .int .i64 q.slot] 40)).grow hg6 (fun k hk => by have := (R2.out.lt _ hk).1; omega)); have R6 := Lib.hid hr6; obtain ⟨t0, t1, t2, t3, t4, t5, t6, t7, t8, t9, t10, t11, t12, t13, t14, t15⟩ := HCK.out w6 A6.out; clear hr6 hg6 e0 e1 e2 e3 e4 e5 e6 e7 e8 e9 e10 e11 e12 e13 e14 e15)
          go_roundw
          case rel => exact ⟨k + 1, a6, n6, c6, m, by omega, by go_num, rfl, by rw [mxL_yes (by rw [HN.out]; exact hlt) HP.out, ← HM.out, HQ.out]; exact HMX.out.symm, by omega, by omega, rfl, by rw [depL_yes (by rw [HN.out]; exact hlt) HP.out, HQ.out]; exact R6.out, I6.out, C6.out, A6.out⟩
          case measure => simp only [intOf]; omega
        · have hmax : max m q.seq = q.seq := by omega
          have HMX := Lib.hid hmax
          have hdg : decide (m + 1 < q.seq + 1) = true := dec_t (by omega)
          go_wp2_with (at_builtin; refine wp_append_id rfl (.tmp 43) (.tmp 49) rfl (w.heap.size + 2) (.slice a' n' c') (depL r s c (l.take k)) [⟨q.rep, q.slot⟩] rfl (R2.out.alloc _) w2.heap.size 0 1 rfl (fun j hj => ii_one (x := ⟨q.rep, q.slot⟩) (Bx.new w2 _ _ _ rfl).c2a j hj) (by have := HLEN.out; simp only [List.length_singleton]; omega) (by simp; omega) ?_; intro v6 w6 hr6 hg6; obtain ⟨a6, n6, c6, hv6⟩ := hr6.own.form; subst hv6; have I6 := Lib.hid ((I2.out.alloc (.cells #[.int .i64 q.rep, .int .i64 q.slot] 40)).keep hg6 (fun e => by have := (R2.out.lt _ e.symm).1; omega)); have C6 := Lib.hid ((C2.out.alloc (.cells #[.int .i64 q.rep, .int .i64 q.slot] 40)).keep hg6 (fun e => by have := (R2.out.lt _ e.symm).1; omega)); have A6 := Lib.hid ((A2.out.alloc (.cells #[.int .i64 q.rep, .int .i64 q.slot] 40)).grow hg6 (fun k hk => by have := (R2.out.lt _ hk).1; omega)); have R6 := Lib.hid hr6; obtain ⟨t0, t1, t2, t3, t4, t5, t6, t7, t8, t9, t10, t11, t12, t13, t14, t15⟩ := HCK.out w6 A6.out; clear hr6 hg6 e0 e1 e2 e3 e4 e5 e6 e7 e8 e9 e10 e11 e12 e13 e14 e15)
          go_roundw
          case rel => exact ⟨k + 1, a6, n6, c6, q.seq, by omega, by go_num, by go_num, by rw [mxL_yes (by rw [HN.out]; exact hlt) HP.out, ← HM.out, HQ.out]; exact HMX.out.symm, by omega, by omega, rfl, by rw [depL_yes (by rw [HN.out]; exact hlt) HP.out, HQ.out]; exact R6.out, I6.out, C6.out, A6.out⟩
          case measure => simp only [intOf]; omega
    · obtain rfl : k = n := by omega
      have HT := Lib.hid (show l.take k = l by rw [← HN.out, List.take_length])
      rw [HT.out] at HM R
      go_wp2
      go_ret2
      rw [← HM.out]
      exact ⟨⟨_, rfl, R.out.mono (by omega)⟩, A.out⟩
end Go.Proofs.YthihihphbcaieaaDoor
