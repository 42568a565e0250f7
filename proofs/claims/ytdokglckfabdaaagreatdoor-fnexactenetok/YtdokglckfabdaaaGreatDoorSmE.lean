/- Two messages compared: the program. -/
import Derived.Test.YtdokglckfabdaaaGreatDoorSmM
import Derived.Test.YtdokglckfabdaaaGreatDoorIdE
import Derived.Test.YtdokglckfabdaaaGreatDoorCmdE
namespace Go.Proofs.YtdokglckfabdaaaGreatDoor
open Go.RowKit Go.PlainAid
set_option linter.unusedVariables false

set_option maxHeartbeats 1000000 in
theorem equal_ids (v u : Value) (l m : List Ii) (w : World) (hv : Ids w v l) (hu : Ids w u m) :
    Calls Tryz.prog 92 #[v, u] w fun e w' => e = .returned (.bool (decide (l = m))) ∧ Below w.heap.size w w' := by
  obtain ⟨h1, a, ca, rfl, hca, ha⟩ := hv
  obtain ⟨k1, b, cb, rfl, hcb, hb⟩ := hu
  by_cases hlen : l.length = m.length
  · have HL := Lib.hid hlen
    rw [← hlen] at k1 hb hcb ⊢
    generalize hn : l.length = n at h1 ha hca k1 hb hcb
    have HN := Lib.hid hn
    have HA := Lib.hid ha
    have HB := Lib.hid hb
    clear hlen hn ha hb hca hcb
    go_enter Tryz.func92, Tryz.ntmps92
    go_wp2
    go_loopw [13] (fun i wr => ∃ k : Nat, k ≤ n ∧ i = .int .i64 k ∧ (∀ j, j < k → iR l j = iR m j ∧ iS l j = iS m j) ∧ Below w.heap.size w wr) (fun i _ => n - (intOf i).toNat)
    case atStart => exact ⟨0, by omega, rfl, fun j hj => by omega, Below.refl _ _⟩
    case round =>
      obtain ⟨k, hk, rfl, he, hbw⟩ := hrel
      have HE := Lib.hid he
      have HBW := Lib.hid hbw
      clear he hbw
      by_cases hlt : k < n
      · obtain ⟨x, o, rfl, hx, hcx⟩ := HA.out (by omega)
        obtain ⟨y, p, rfl, hy, hcy⟩ := HB.out (by omega)
        obtain ⟨c1, c2⟩ := (hcx k hlt).below HBW.out hx
        obtain ⟨d1, d2⟩ := (hcy k hlt).below HBW.out hy
        clear hcx hcy
        have y1 : (k : Int) < (n : Int) := by omega
        have y0 : (0 : Int) ≤ (k : Int) := by omega
        by_cases hr : iR l k = iR m k
        · by_cases hs : iS l k = iS m k
          · have HKE := Lib.hid (And.intro hr hs)
            rw [← hr] at d1
            rw [← hs] at d2
            clear hr hs
            go_wp2
            go_quiet (fail)
            go_wp2
            go_roundw
            case rel =>
              refine ⟨k + 1, by omega, by go_num, fun j hj => ?_, dn HBW.out _⟩
              by_cases e : j = k
              · subst e; exact HKE.out
              · exact HE.out j (by omega)
            case measure => simp only [intOf]; omega
          · have HKE := Lib.hid (show ¬ (iR l k = iR m k ∧ iS l k = iS m k) from fun e => hs e.2)
            have hb := ine_no hs
            rw [← hr] at d1
            clear hr hs
            go_wp2
            go_quiet (fail)
            go_wp2
            go_ret
            exact ⟨by rw [decide_eq_false (fun e => HKE.out (by rw [e]; exact ⟨rfl, rfl⟩))]; rfl, dn HBW.out _⟩
        · have HKE := Lib.hid (show ¬ (iR l k = iR m k ∧ iS l k = iS m k) from fun e => hr e.1)
          have hb := ine_no hr
          clear hr
          go_wp2
          go_quiet (fail)
          go_wp2
          go_ret
          exact ⟨by rw [decide_eq_false (fun e => HKE.out (by rw [e]; exact ⟨rfl, rfl⟩))]; rfl, dn HBW.out _⟩
      · obtain rfl : k = n := by omega
        go_wp2
        go_ret
        exact ⟨by rw [decide_eq_true (ii_ext l m HL.out (fun j hj => HE.out j (by rw [← HN.out]; exact hj)))]; rfl, HBW.out⟩
  · have hne : l.length < m.length ∨ m.length < l.length := by omega
    have hlm : l ≠ m := fun e => hlen (by rw [e])
    have HL := Lib.hid hlm
    clear hlen hlm ha hb hca hcb
    generalize l.length = n at *
    generalize m.length = n' at *
    rcases hne with hne | hne
    all_goals
      go_enter Tryz.func92, Tryz.ntmps92
      go_wp2
      go_ret
      exact ⟨by rw [decide_eq_false HL.out]; rfl, Below.refl _ _⟩
set_option maxRecDepth 100000 in
set_option maxHeartbeats 4000000 in
theorem impl_sameMsg_x (k f t r s b q st vb : Int) (sm : Bool) (c : CmdM) (l : List Ii) (u d : Value) (k' f' t' r' s' b' q' st' vb' : Int) (sm' : Bool) (c' : CmdM) (l' : List Ii) (u' d' : Value) (w : World) (hu : Strs w u c.ch) (hd : Ids w d l) (hu' : Strs w u' c'.ch) (hd' : Ids w d' l') :
    Calls Tryz.prog 64 #[.agg #[.int .i64 k, .int .i64 f, .int .i64 t, .int .i64 r, .int .i64 s, .int .i64 b, .int .i64 c.kind, .int .i64 c.client, .int .i64 c.no, .string c.set, .string c.name, .string c.tag, .int .i64 c.n, u, .int .i64 q, d, .int .i64 st, .int .i64 vb, .bool sm], .agg #[.int .i64 k', .int .i64 f', .int .i64 t', .int .i64 r', .int .i64 s', .int .i64 b', .int .i64 c'.kind, .int .i64 c'.client, .int .i64 c'.no, .string c'.set, .string c'.name, .string c'.tag, .int .i64 c'.n, u', .int .i64 q', d', .int .i64 st', .int .i64 vb', .bool sm']] w fun e w' => e = .returned (.bool (decide (k = k' ∧ f = f' ∧ t = t' ∧ r = r' ∧ s = s' ∧ b = b' ∧ q = q' ∧ st = st' ∧ vb = vb' ∧ sm = sm' ∧ c = c' ∧ l = l'))) ∧ Below w.heap.size w w' := by
  obtain ⟨a1, n1, e1, rfl⟩ := hu.form
  obtain ⟨a2, n2, e2, rfl⟩ := hd.form
  obtain ⟨a3, n3, e3, rfl⟩ := hu'.form
  obtain ⟨a4, n4, e4, rfl⟩ := hd'.form
  have X := Lib.hid ((Bx.new w 50 #[.int .i64 k, .int .i64 f, .int .i64 t, .int .i64 r, .int .i64 s, .int .i64 b, .int .i64 c.kind, .int .i64 c.client, .int .i64 c.no, .string c.set, .string c.name, .string c.tag, .int .i64 c.n, .slice a1 n1 e1, .int .i64 q, .slice a2 n2 e2, .int .i64 st, .int .i64 vb, .bool sm] _ rfl).alloc (.cells #[.int .i64 k', .int .i64 f', .int .i64 t', .int .i64 r', .int .i64 s', .int .i64 b', .int .i64 c'.kind, .int .i64 c'.client, .int .i64 c'.no, .string c'.set, .string c'.name, .string c'.tag, .int .i64 c'.n, .slice a3 n3 e3, .int .i64 q', .slice a4 n4 e4, .int .i64 st', .int .i64 vb', .bool sm'] 50))
  have Y := Lib.hid (Bx.new (w.alloc (.cells #[.int .i64 k, .int .i64 f, .int .i64 t, .int .i64 r, .int .i64 s, .int .i64 b, .int .i64 c.kind, .int .i64 c.client, .int .i64 c.no, .string c.set, .string c.name, .string c.tag, .int .i64 c.n, .slice a1 n1 e1, .int .i64 q, .slice a2 n2 e2, .int .i64 st, .int .i64 vb, .bool sm] 50)) 50 #[.int .i64 k', .int .i64 f', .int .i64 t', .int .i64 r', .int .i64 s', .int .i64 b', .int .i64 c'.kind, .int .i64 c'.client, .int .i64 c'.no, .string c'.set, .string c'.name, .string c'.tag, .int .i64 c'.n, .slice a3 n3 e3, .int .i64 q', .slice a4 n4 e4, .int .i64 st', .int .i64 vb', .bool sm'] (w.heap.size + 1) (by simp))
  have S1 := Lib.hid ((hu.alloc (.cells #[.int .i64 k, .int .i64 f, .int .i64 t, .int .i64 r, .int .i64 s, .int .i64 b, .int .i64 c.kind, .int .i64 c.client, .int .i64 c.no, .string c.set, .string c.name, .string c.tag, .int .i64 c.n, .slice a1 n1 e1, .int .i64 q, .slice a2 n2 e2, .int .i64 st, .int .i64 vb, .bool sm] 50)).alloc (.cells #[.int .i64 k', .int .i64 f', .int .i64 t', .int .i64 r', .int .i64 s', .int .i64 b', .int .i64 c'.kind, .int .i64 c'.client, .int .i64 c'.no, .string c'.set, .string c'.name, .string c'.tag, .int .i64 c'.n, .slice a3 n3 e3, .int .i64 q', .slice a4 n4 e4, .int .i64 st', .int .i64 vb', .bool sm'] 50))
  have D1 := Lib.hid ((hd.alloc (.cells #[.int .i64 k, .int .i64 f, .int .i64 t, .int .i64 r, .int .i64 s, .int .i64 b, .int .i64 c.kind, .int .i64 c.client, .int .i64 c.no, .string c.set, .string c.name, .string c.tag, .int .i64 c.n, .slice a1 n1 e1, .int .i64 q, .slice a2 n2 e2, .int .i64 st, .int .i64 vb, .bool sm] 50)).alloc (.cells #[.int .i64 k', .int .i64 f', .int .i64 t', .int .i64 r', .int .i64 s', .int .i64 b', .int .i64 c'.kind, .int .i64 c'.client, .int .i64 c'.no, .string c'.set, .string c'.name, .string c'.tag, .int .i64 c'.n, .slice a3 n3 e3, .int .i64 q', .slice a4 n4 e4, .int .i64 st', .int .i64 vb', .bool sm'] 50))
  have S2 := Lib.hid ((hu'.alloc (.cells #[.int .i64 k, .int .i64 f, .int .i64 t, .int .i64 r, .int .i64 s, .int .i64 b, .int .i64 c.kind, .int .i64 c.client, .int .i64 c.no, .string c.set, .string c.name, .string c.tag, .int .i64 c.n, .slice a1 n1 e1, .int .i64 q, .slice a2 n2 e2, .int .i64 st, .int .i64 vb, .bool sm] 50)).alloc (.cells #[.int .i64 k', .int .i64 f', .int .i64 t', .int .i64 r', .int .i64 s', .int .i64 b', .int .i64 c'.kind, .int .i64 c'.client, .int .i64 c'.no, .string c'.set, .string c'.name, .string c'.tag, .int .i64 c'.n, .slice a3 n3 e3, .int .i64 q', .slice a4 n4 e4, .int .i64 st', .int .i64 vb', .bool sm'] 50))
  have D2 := Lib.hid ((hd'.alloc (.cells #[.int .i64 k, .int .i64 f, .int .i64 t, .int .i64 r, .int .i64 s, .int .i64 b, .int .i64 c.kind, .int .i64 c.client, .int .i64 c.no, .string c.set, .string c.name, .string c.tag, .int .i64 c.n, .slice a1 n1 e1, .int .i64 q, .slice a2 n2 e2, .int .i64 st, .int .i64 vb, .bool sm] 50)).alloc (.cells #[.int .i64 k', .int .i64 f', .int .i64 t', .int .i64 r', .int .i64 s', .int .i64 b', .int .i64 c'.kind, .int .i64 c'.client, .int .i64 c'.no, .string c'.set, .string c'.name, .string c'.tag, .int .i64 c'.n, .slice a3 n3 e3, .int .i64 q', .slice a4 n4 e4, .int .i64 st', .int .i64 vb', .bool sm'] 50))
  have A := Lib.hid (((Af.refl w).alloc (.cells #[.int .i64 k, .int .i64 f, .int .i64 t, .int .i64 r, .int .i64 s, .int .i64 b, .int .i64 c.kind, .int .i64 c.client, .int .i64 c.no, .string c.set, .string c.name, .string c.tag, .int .i64 c.n, .slice a1 n1 e1, .int .i64 q, .slice a2 n2 e2, .int .i64 st, .int .i64 vb, .bool sm] 50)).alloc (.cells #[.int .i64 k', .int .i64 f', .int .i64 t', .int .i64 r', .int .i64 s', .int .i64 b', .int .i64 c'.kind, .int .i64 c'.client, .int .i64 c'.no, .string c'.set, .string c'.name, .string c'.tag, .int .i64 c'.n, .slice a3 n3 e3, .int .i64 q', .slice a4 n4 e4, .int .i64 st', .int .i64 vb', .bool sm'] 50))
  clear hu hd hu' hd'
  obtain ⟨R, hR⟩ : ∃ R, decide (k = k' ∧ f = f' ∧ t = t' ∧ r = r' ∧ s = s' ∧ b = b' ∧ q = q' ∧ st = st' ∧ vb = vb' ∧ sm = sm' ∧ c = c' ∧ l = l') = R := ⟨_, rfl⟩
  rw [hR]
  have HR := Lib.hid hR
  clear hR
  by_cases hh : k = k'
  case neg =>
    have hb : (k == k') = false := by simpa using hh
    have H := Lib.hid hh
    clear hh
    go_enter Tryz.func64, Tryz.ntmps64
    go_wp2
    go_ret
    exact ⟨by rw [← HR.out, decide_eq_false (fun e => H.out e.1)]; rfl, A.out⟩
  subst hh
  by_cases hh : f = f'
  case neg =>
    have hb : (f == f') = false := by simpa using hh
    have H := Lib.hid hh
    clear hh
    go_enter Tryz.func64, Tryz.ntmps64
    go_wp2
    go_ret
    exact ⟨by rw [← HR.out, decide_eq_false (fun e => H.out e.2.1)]; rfl, A.out⟩
  subst hh
  by_cases hh : t = t'
  case neg =>
    have hb : (t == t') = false := by simpa using hh
    have H := Lib.hid hh
    clear hh
    go_enter Tryz.func64, Tryz.ntmps64
    go_wp2
    go_ret
    exact ⟨by rw [← HR.out, decide_eq_false (fun e => H.out e.2.2.1)]; rfl, A.out⟩
  subst hh
  by_cases hh : r = r'
  case neg =>
    have hb : (r == r') = false := by simpa using hh
    have H := Lib.hid hh
    clear hh
    go_enter Tryz.func64, Tryz.ntmps64
    go_wp2
    go_ret
    exact ⟨by rw [← HR.out, decide_eq_false (fun e => H.out e.2.2.2.1)]; rfl, A.out⟩
  subst hh
  by_cases hh : s = s'
  case neg =>
    have hb : (s == s') = false := by simpa using hh
    have H := Lib.hid hh
    clear hh
    go_enter Tryz.func64, Tryz.ntmps64
    go_wp2
    go_ret
    exact ⟨by rw [← HR.out, decide_eq_false (fun e => H.out e.2.2.2.2.1)]; rfl, A.out⟩
  subst hh
  by_cases hh : b = b'
  case neg =>
    have hb : (b == b') = false := by simpa using hh
    have H := Lib.hid hh
    clear hh
    go_enter Tryz.func64, Tryz.ntmps64
    go_wp2
    go_ret
    exact ⟨by rw [← HR.out, decide_eq_false (fun e => H.out e.2.2.2.2.2.1)]; rfl, A.out⟩
  subst hh
  by_cases hh : q = q'
  case neg =>
    have hb : (q == q') = false := by simpa using hh
    have H := Lib.hid hh
    clear hh
    go_enter Tryz.func64, Tryz.ntmps64
    go_wp2
    go_ret
    exact ⟨by rw [← HR.out, decide_eq_false (fun e => H.out e.2.2.2.2.2.2.1)]; rfl, A.out⟩
  subst hh
  by_cases hh : st = st'
  case neg =>
    have hb : (st == st') = false := by simpa using hh
    have H := Lib.hid hh
    clear hh
    go_enter Tryz.func64, Tryz.ntmps64
    go_wp2
    go_ret
    exact ⟨by rw [← HR.out, decide_eq_false (fun e => H.out e.2.2.2.2.2.2.2.1)]; rfl, A.out⟩
  subst hh
  by_cases hh : vb = vb'
  case neg =>
    have hb : (vb == vb') = false := by simpa using hh
    have H := Lib.hid hh
    clear hh
    go_enter Tryz.func64, Tryz.ntmps64
    go_wp2
    go_ret
    exact ⟨by rw [← HR.out, decide_eq_false (fun e => H.out e.2.2.2.2.2.2.2.2.1)]; rfl, A.out⟩
  subst hh
  by_cases hh : sm = sm'
  case neg =>
    have hb : (sm == sm') = false := by simpa using hh
    have H := Lib.hid hh
    clear hh
    go_enter Tryz.func64, Tryz.ntmps64
    go_wp2
    go_ret
    exact ⟨by rw [← HR.out, decide_eq_false (fun e => H.out e.2.2.2.2.2.2.2.2.2.1)]; rfl, A.out⟩
  subst hh
  go_enter Tryz.func64, Tryz.ntmps64
  go_wp2_with fail
  refine (impl_same c c' _ _ _ S1.out S2.out).mono ?_
  rintro e w1 ⟨rfl, bb⟩
  have nX := Lib.hid (X.out.after bb)
  have nY := Lib.hid (Y.out.after bb)
  have nA := Lib.hid (A.out.after bb)
  have nS1 := Lib.hid (S1.out.later bb)
  have nS2 := Lib.hid (S2.out.later bb)
  have nD1 := Lib.hid (D1.out.later bb)
  have nD2 := Lib.hid (D2.out.later bb)
  clear bb X Y A S1 S2 D1 D2
  have X := nX
  have Y := nY
  have A := nA
  have S1 := nS1
  have S2 := nS2
  have D1 := nD1
  have D2 := nD2
  clear nX nY nA nS1 nS2 nD1 nD2
  by_cases hh : c = c'
  case neg =>
    rw [decide_eq_false hh]
    have H := Lib.hid hh
    clear hh
    go_wp2
    go_ret
    exact ⟨by rw [← HR.out, decide_eq_false (fun e => H.out e.2.2.2.2.2.2.2.2.2.2.1)]; rfl, A.out⟩
  rw [decide_eq_true hh]
  subst hh
  obtain ⟨x0, x1, x2, x3, x4, x5, x6, x7, x8, x9, x10, x11, x12, x13, x14, x15, x16, x17, x18⟩ := cells19 X.out
  obtain ⟨y0, y1, y2, y3, y4, y5, y6, y7, y8, y9, y10, y11, y12, y13, y14, y15, y16, y17, y18⟩ := cells19 Y.out
  go_wp2_with fail
  clear x0 x1 x2 x3 x4 x5 x6 x7 x8 x9 x10 x11 x12 x13 x14 x15 x16 x17 x18 y0 y1 y2 y3 y4 y5 y6 y7 y8 y9 y10 y11 y12 y13 y14 y15 y16 y17 y18
  refine (equal_ids _ _ l l' _ D1.out D2.out).mono ?_
  rintro e w2 ⟨rfl, bb⟩
  have nX := Lib.hid (X.out.after bb)
  have nY := Lib.hid (Y.out.after bb)
  have nA := Lib.hid (A.out.after bb)
  have nS1 := Lib.hid (S1.out.later bb)
  have nS2 := Lib.hid (S2.out.later bb)
  have nD1 := Lib.hid (D1.out.later bb)
  have nD2 := Lib.hid (D2.out.later bb)
  clear bb X Y A S1 S2 D1 D2
  have X := nX
  have Y := nY
  have A := nA
  have S1 := nS1
  have S2 := nS2
  have D1 := nD1
  have D2 := nD2
  clear nX nY nA nS1 nS2 nD1 nD2
  by_cases hh : l = l'
  case neg =>
    rw [decide_eq_false hh]
    have H := Lib.hid hh
    clear hh
    go_wp2
    go_ret
    exact ⟨by rw [← HR.out, decide_eq_false (fun e => H.out e.2.2.2.2.2.2.2.2.2.2.2)]; rfl, A.out⟩
  rw [decide_eq_true hh]
  subst hh
  go_wp2
  go_ret
  have hR : R = true := by rw [← HR.out]; simp
  exact ⟨by rw [hR]; rfl, A.out⟩
theorem impl_sameMsg (x y : Em) (u d u' d' : Value) (w : World) (h : Pts w x.i u d) (h' : Pts w y.i u' d') :
    Calls Tryz.prog 64 #[.agg #[.int .i64 x.kind, .int .i64 x.frm, .int .i64 x.dst, .int .i64 x.i.rep, .int .i64 x.i.slot, .int .i64 x.i.bal, .int .i64 x.i.cmd.kind, .int .i64 x.i.cmd.client, .int .i64 x.i.cmd.no, .string x.i.cmd.set, .string x.i.cmd.name, .string x.i.cmd.tag, .int .i64 x.i.cmd.n, u, .int .i64 x.i.seq, d, .int .i64 x.i.st, .int .i64 x.i.vbal, .bool x.i.same], .agg #[.int .i64 y.kind, .int .i64 y.frm, .int .i64 y.dst, .int .i64 y.i.rep, .int .i64 y.i.slot, .int .i64 y.i.bal, .int .i64 y.i.cmd.kind, .int .i64 y.i.cmd.client, .int .i64 y.i.cmd.no, .string y.i.cmd.set, .string y.i.cmd.name, .string y.i.cmd.tag, .int .i64 y.i.cmd.n, u', .int .i64 y.i.seq, d', .int .i64 y.i.st, .int .i64 y.i.vbal, .bool y.i.same]] w fun e w' => e = .returned (.bool (smB x y)) ∧ Below w.heap.size w w' :=
  impl_sameMsg_x x.kind x.frm x.dst x.i.rep x.i.slot x.i.bal x.i.seq x.i.st x.i.vbal x.i.same x.i.cmd x.i.deps u d y.kind y.frm y.dst y.i.rep y.i.slot y.i.bal y.i.seq y.i.st y.i.vbal y.i.same y.i.cmd y.i.deps u' d' w h.1 h.2.1 h'.1 h'.2.1
end Go.Proofs.YtdokglckfabdaaaGreatDoor
