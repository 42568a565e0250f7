/- AttrsOf: the program's walk. -/
import Derived.Test.YthihihphbcaieaaDoorAtM
import Derived.Test.YthihihphbcaieaaDoorInLi
import Derived.Test.YthihihphbcaieaaDoorIdG
namespace Go.Proofs.YthihihphbcaieaaDoor
open Go.RowKit Go.PlainAid
set_option linter.unusedVariables false

theorem Bx.c2a {w : World} {g : Nat} {t : TypeId} {x0 x1 : Value} (h : Bx w g t #[x0, x1]) : w.cell? ⟨g, 0, none⟩ = some x0 ∧ w.cell? ⟨g, 1, none⟩ = some x1 := ⟨h.cell 0 _ rfl, h.cell 1 _ rfl⟩
theorem Bx.c8 {w : World} {g : Nat} {t : TypeId} {x0 x1 x2 x3 x4 x5 x6 x7 : Value} (h : Bx w g t #[x0, x1, x2, x3, x4, x5, x6, x7]) : w.cell? ⟨g, 0, none⟩ = some x0 ∧ w.cell? ⟨g, 1, none⟩ = some x1 ∧ w.cell? ⟨g, 2, none⟩ = some x2 ∧ w.cell? ⟨g, 3, none⟩ = some x3 ∧ w.cell? ⟨g, 4, none⟩ = some x4 ∧ w.cell? ⟨g, 5, none⟩ = some x5 ∧ w.cell? ⟨g, 6, none⟩ = some x6 ∧ w.cell? ⟨g, 7, none⟩ = some x7 := ⟨h.cell 0 _ rfl, h.cell 1 _ rfl, h.cell 2 _ rfl, h.cell 3 _ rfl, h.cell 4 _ rfl, h.cell 5 _ rfl, h.cell 6 _ rfl, h.cell 7 _ rfl⟩
set_option maxRecDepth 100000 in
set_option maxHeartbeats 2000000 in
theorem impl_attrs (v : Value) (l : List In) (r s : Int) (c : CmdM) (cu : Value) (a0 : Addr) (w : World) (hv : Insts w v l) (hc : Strs w cu c.ch) (hS : Sent w a0) (fs : c.set.size ≤ 9223372036854775807) (fn : c.name.size ≤ 9223372036854775807) (ft : c.tag.size ≤ 9223372036854775807) (hl : l.length ≤ 1048576) :
    Calls Tryd.prog 21 #[v, .agg #[.int .i64 r, .int .i64 s], .agg #[.int .i64 c.kind, .int .i64 c.client, .int .i64 c.no, .string c.set, .string c.name, .string c.tag, .int .i64 c.n, cu]] w fun e w' => (∃ u, e = .returned (.tuple #[.int .i64 (atSeq r s c l), u]) ∧ IdRow w' w.heap.size u (atDep r s c l)) ∧ Below w.heap.size w w' := by
  have VH := Lib.hid hv
  have CH := Lib.hid hc
  have HS := Lib.hid hS
  obtain ⟨ac, nc, cc, rfl⟩ := hc.form
  obtain ⟨h1, a, ca, rfl, hca, ha⟩ := hv
  obtain ⟨n, hn⟩ : ∃ n, l.length = n := ⟨_, rfl⟩
  have HN := Lib.hid hn
  rw [hn] at h1 ha hca VH hl ⊢
  have HA := Lib.hid ha
  have I0 := Lib.hid ((Bx.new w 40 #[.int .i64 r, .int .i64 s] _ rfl).alloc (.cells #[.int .i64 c.kind, .int .i64 c.client, .int .i64 c.no, .string c.set, .string c.name, .string c.tag, .int .i64 c.n, .slice ac nc cc] 43))
  have C0 := Lib.hid (Bx.new (w.alloc (.cells #[.int .i64 r, .int .i64 s] 40)) 43 #[.int .i64 c.kind, .int .i64 c.client, .int .i64 c.no, .string c.set, .string c.name, .string c.tag, .int .i64 c.n, .slice ac nc cc] (w.heap.size + 1) (by simp))
  have A0 := Lib.hid (((Af.refl w).alloc (.cells #[.int .i64 r, .int .i64 s] 40)).alloc (.cells #[.int .i64 c.kind, .int .i64 c.client, .int .i64 c.no, .string c.set, .string c.name, .string c.tag, .int .i64 c.n, .slice ac nc cc] 43))
  clear hn ha hca hc hS
  go_enter Tryd.func21, Tryd.ntmps21
  go_wp2_with fail
  refine (impl_insts _ l a0 _ (VH.out.later A0.out) (HS.out.later A0.out)).mono ?_
  rintro e w1 ⟨rfl, b1⟩
  have I1 := Lib.hid (I0.out.after b1)
  have C1 := Lib.hid (C0.out.after b1)
  have A1 := Lib.hid (A0.out.after b1)
  clear b1 I0 C0 A0
  cases hok : instsB l
  · have H1 := Lib.hid (show atSeq r s c l = 0 by rw [atSeq_eq, hok]; rfl)
    have H2 := Lib.hid (show atDep r s c l = [] by rw [atDep_eq, hok]; rfl)
    go_wp2
    go_ret2
    rw [H1.out, H2.out]
    exact ⟨⟨_, rfl, idRow_nil _ _⟩, A1.out⟩
  have H1 := Lib.hid (show atSeq r s c l = mxL r s c l + 1 by rw [atSeq_eq, hok]; rfl)
  have H2 := Lib.hid (show atDep r s c l = depL r s c l by rw [atDep_eq, hok]; rfl)
  have HSQ := Lib.hid (fun k (hk : k < n) => seq_of_ok hok k (by rw [HN.out]; exact hk))
  go_wp2
  clear hok
  go_loopw [8, 9, 17] (fun mv dv iv wr => ∃ (k : Nat) (a' : Option Addr) (n' c' : Nat) (m : Int), k ≤ n ∧ iv = .int .i64 k ∧ mv = .int .i64 m ∧ m = mxL r s c (l.take k) ∧ 0 ≤ m ∧ m ≤ 60 ∧ dv = .slice a' n' c' ∧ IdRow wr (w.heap.size + 2) (.slice a' n' c') (depL r s c (l.take k)) ∧ Bx wr w.heap.size 40 #[.int .i64 r, .int .i64 s] ∧ Bx wr (w.heap.size + 1) 43 #[.int .i64 c.kind, .int .i64 c.client, .int .i64 c.no, .string c.set, .string c.name, .string c.tag, .int .i64 c.n, .slice ac nc cc] ∧ Af w wr) (fun _ _ iv _ => n - (intOf iv).toNat)
  case atStart => exact ⟨0, _, _, _, 0, by omega, rfl, rfl, by simp [mxL], by omega, by omega, rfl, by simpa [depL] using idRow_nil _ _, I1.out, C1.out, A1.out⟩
  case round =>
    clear I1 C1 A1
    obtain ⟨k, a', n', c', m, hk, rfl, rfl, hm, hm0, hm1, rfl, hr, hi, hcb, haf⟩ := hrel
    have HM := Lib.hid hm
    have R := Lib.hid hr
    have I := Lib.hid hi
    have CB := Lib.hid hcb
    have A := Lib.hid haf
    have hszr : w.heap.size + 2 ≤ wr.heap.size := by have := hcb.lt; omega
    clear hr hi hcb haf hm
    by_cases hlt : k < n
    · obtain ⟨b, o, rfl, hb, hcx⟩ := HA.out (by omega)
      obtain ⟨u, d, ccx, pp⟩ := hcx k hlt
      have PK := Lib.hid (pp.later A.out)
      obtain ⟨⟨a1, n1, c1, rfl⟩, a2, n2, c2, rfl⟩ := pp.form
      have hsq := HSQ.out k hlt
      obtain ⟨q, hq⟩ : ∃ q, nth l k = q := ⟨_, rfl⟩
      have HQ := Lib.hid hq
      rw [hq] at ccx PK hsq
      obtain ⟨m0, m1, m2, m3, m4, m5, m6, m7, m8, m9, m10, m11, m12, m13, m14, m15⟩ := ccx.below A.out hb
      have y1 : (k : Int) < (n : Int) := by omega
      have y0 : (0 : Int) ≤ (k : Int) := by omega
      have Z := Lib.hid (Bx.new wr 52 #[.int .i64 q.rep, .int .i64 q.slot, .int .i64 q.bal, .int .i64 q.vbal, .int .i64 q.st, .int .i64 q.cmd.kind, .int .i64 q.cmd.client, .int .i64 q.cmd.no, .string q.cmd.set, .string q.cmd.name, .string q.cmd.tag, .int .i64 q.cmd.n, .slice a1 n1 c1, .int .i64 q.seq, .slice a2 n2 c2, .bool q.same] _ rfl)
      have IZ := Lib.hid (I.out.alloc (.cells #[.int .i64 q.rep, .int .i64 q.slot, .int .i64 q.bal, .int .i64 q.vbal, .int .i64 q.st, .int .i64 q.cmd.kind, .int .i64 q.cmd.client, .int .i64 q.cmd.no, .string q.cmd.set, .string q.cmd.name, .string q.cmd.tag, .int .i64 q.cmd.n, .slice a1 n1 c1, .int .i64 q.seq, .slice a2 n2 c2, .bool q.same] 52))
      have CZ := Lib.hid (CB.out.alloc (.cells #[.int .i64 q.rep, .int .i64 q.slot, .int .i64 q.bal, .int .i64 q.vbal, .int .i64 q.st, .int .i64 q.cmd.kind, .int .i64 q.cmd.client, .int .i64 q.cmd.no, .string q.cmd.set, .string q.cmd.name, .string q.cmd.tag, .int .i64 q.cmd.n, .slice a1 n1 c1, .int .i64 q.seq, .slice a2 n2 c2, .bool q.same] 52))
      have AZ := Lib.hid (A.out.alloc (.cells #[.int .i64 q.rep, .int .i64 q.slot, .int .i64 q.bal, .int .i64 q.vbal, .int .i64 q.st, .int .i64 q.cmd.kind, .int .i64 q.cmd.client, .int .i64 q.cmd.no, .string q.cmd.set, .string q.cmd.name, .string q.cmd.tag, .int .i64 q.cmd.n, .slice a1 n1 c1, .int .i64 q.seq, .slice a2 n2 c2, .bool q.same] 52))
      have RZ := Lib.hid (R.out.alloc (.cells #[.int .i64 q.rep, .int .i64 q.slot, .int .i64 q.bal, .int .i64 q.vbal, .int .i64 q.st, .int .i64 q.cmd.kind, .int .i64 q.cmd.client, .int .i64 q.cmd.no, .string q.cmd.set, .string q.cmd.name, .string q.cmd.tag, .int .i64 q.cmd.n, .slice a1 n1 c1, .int .i64 q.seq, .slice a2 n2 c2, .bool q.same] 52))
      have PZ := Lib.hid (PK.out.alloc (.cells #[.int .i64 q.rep, .int .i64 q.slot, .int .i64 q.bal, .int .i64 q.vbal, .int .i64 q.st, .int .i64 q.cmd.kind, .int .i64 q.cmd.client, .int .i64 q.cmd.no, .string q.cmd.set, .string q.cmd.name, .string q.cmd.tag, .int .i64 q.cmd.n, .slice a1 n1 c1, .int .i64 q.seq, .slice a2 n2 c2, .bool q.same] 52))
      obtain ⟨i0, i1⟩ := IZ.out.c2a
      clear hcx ccx pp hq
      by_cases hsame : q.rep = r ∧ q.slot = s
      · have HP := Lib.hid (show pickB r s c (nth l k) = false by rw [HQ.out]; exact pickB_same c hsame.1 hsame.2)
        have hs1 : (q.rep == r) = true := by simpa using hsame.1
        have hs2 : (q.slot == s) = true := by simpa using hsame.2
        clear hsame
        go_wp2
        go_roundw
        case rel => exact ⟨k + 1, a', n', c', m, by omega, by go_num, rfl, by rw [mxL_no (by rw [HN.out]; exact hlt) HP.out]; exact HM.out, hm0, hm1, rfl, by rw [depL_no (by rw [HN.out]; exact hlt) HP.out]; exact RZ.out, IZ.out, CZ.out, AZ.out⟩
        case measure => simp only [intOf]; omega
      have HNS := Lib.hid hsame
      by_cases hr1 : q.rep = r
      · have hs2 := ine_no (fun e => hsame ⟨hr1, e⟩)
        have hs1 : (q.rep == r) = true := by simpa using hr1
        clear hr1 hsame
        by_cases hst : q.st = 0
        · have HP := Lib.hid (show pickB r s c (nth l k) = false by rw [HQ.out]; exact pickB_none r s c hst)
          have hst1 : (q.st == 0) = true := by simpa using hst
          have hst2 : (q.st != 0) = false := by simpa using hst
          clear hst
          go_wp2
          go_roundw
          case rel => exact ⟨k + 1, a', n', c', m, by omega, by go_num, rfl, by rw [mxL_no (by rw [HN.out]; exact hlt) HP.out]; exact HM.out, hm0, hm1, rfl, by rw [depL_no (by rw [HN.out]; exact hlt) HP.out]; exact RZ.out, IZ.out, CZ.out, AZ.out⟩
          case measure => simp only [intOf]; omega
        have hst1 : (q.st == 0) = false := ine_no hst
        have hst2 : (q.st != 0) = true := by simpa using hst
        obtain ⟨z0, z1, z2, z3, z4, z5, z6, z7⟩ := CZ.out.c8
        have HPE := Lib.hid (show pickB r s c (nth l k) = clashB q.cmd c by rw [HQ.out]; exact pickB_other c HNS.out hst)
        go_wp2_with fail
        clear z0 z1 z2 z3 z4 z5 z6 z7 i0 i1 m0 m1 m2 m3 m4 m5 m6 m7 m8 m9 m10 m11 m12 m13 m14 m15 hs1 hst1 hst2 hst
        refine (impl_clash q.cmd c _ _ a0 _ PZ.out.1 (CH.out.later AZ.out) (HS.out.later AZ.out) PZ.out.2.2.1 PZ.out.2.2.2.1 PZ.out.2.2.2.2 fs fn ft).mono ?_
        rintro e w2 ⟨rfl, b2⟩
        have Z2 := Lib.hid (Z.out.after b2)
        have I2 := Lib.hid (IZ.out.after b2)
        have C2 := Lib.hid (CZ.out.after b2)
        have A2 := Lib.hid (AZ.out.after b2)
        have R2 := Lib.hid (RZ.out.later b2)
        have hsz2 : w.heap.size + 2 ≤ w2.heap.size := by have := b2.size; simp at this; omega
        clear b2
        cases hcl : clashB q.cmd c
        · have HP := Lib.hid (show pickB r s c (nth l k) = false by rw [HPE.out, hcl])
          go_wp2
          go_roundw
          case rel => exact ⟨k + 1, a', n', c', m, by omega, by go_num, rfl, by rw [mxL_no (by rw [HN.out]; exact hlt) HP.out]; exact HM.out, hm0, hm1, rfl, by rw [depL_no (by rw [HN.out]; exact hlt) HP.out]; exact R2.out, I2.out, C2.out, A2.out⟩
          case measure => simp only [intOf]; omega
        have HP := Lib.hid (show pickB r s c (nth l k) = true by rw [HPE.out, hcl])
        obtain ⟨p0, p1, p2, p3, p4, p5, p6, p7, p8, p9, p10, p11, p12, p13, p14, p15⟩ := Z2.out.c16
        have HLEN := Lib.hid (depL_length r s c l k)
        by_cases hmx : q.seq ≤ m
        · have hmax : max m q.seq = m := by omega
          have HMX := Lib.hid hmax
          go_wp2_with (at_builtin; refine wp_append_id rfl (.tmp 40) (.tmp 43) rfl (w.heap.size + 2) (.slice a' n' c') (depL r s c (l.take k)) [⟨q.rep, q.slot⟩] rfl (R2.out.alloc _) w2.heap.size 0 1 rfl (fun j hj => ii_one (x := ⟨q.rep, q.slot⟩) (Bx.new w2 _ _ _ rfl).c2a j hj) (by have := HLEN.out; simp only [List.length_singleton]; omega) (by simp; omega) ?_; intro v6 w6 hr6 hg6; obtain ⟨a6, n6, c6, hv6⟩ := hr6.own.form; subst hv6; have I6 := Lib.hid ((I2.out.alloc (.cells #[.int .i64 q.rep, .int .i64 q.slot] 40)).keep hg6 (fun e => by have := (R2.out.lt _ e.symm).1; omega)); have C6 := Lib.hid ((C2.out.alloc (.cells #[.int .i64 q.rep, .int .i64 q.slot] 40)).keep hg6 (fun e => by have := (R2.out.lt _ e.symm).1; omega)); have A6 := Lib.hid ((A2.out.alloc (.cells #[.int .i64 q.rep, .int .i64 q.slot] 40)).grow hg6 (fun k hk => by have := (R2.out.lt _ hk).1; omega)); have R6 := Lib.hid hr6; clear hr6 hg6)
          go_roundw
          case rel => exact ⟨k + 1, a6, n6, c6, m, by omega, by go_num, rfl, by rw [mxL_yes (by rw [HN.out]; exact hlt) HP.out, ← HM.out, HQ.out]; exact HMX.out.symm, by omega, by omega, rfl, by rw [depL_yes (by rw [HN.out]; exact hlt) HP.out, HQ.out]; exact R6.out, I6.out, C6.out, A6.out⟩
          case measure => simp only [intOf]; omega
        · have hmax : max m q.seq = q.seq := by omega
          have HMX := Lib.hid hmax
          go_wp2_with (at_builtin; refine wp_append_id rfl (.tmp 40) (.tmp 43) rfl (w.heap.size + 2) (.slice a' n' c') (depL r s c (l.take k)) [⟨q.rep, q.slot⟩] rfl (R2.out.alloc _) w2.heap.size 0 1 rfl (fun j hj => ii_one (x := ⟨q.rep, q.slot⟩) (Bx.new w2 _ _ _ rfl).c2a j hj) (by have := HLEN.out; simp only [List.length_singleton]; omega) (by simp; omega) ?_; intro v6 w6 hr6 hg6; obtain ⟨a6, n6, c6, hv6⟩ := hr6.own.form; subst hv6; have I6 := Lib.hid ((I2.out.alloc (.cells #[.int .i64 q.rep, .int .i64 q.slot] 40)).keep hg6 (fun e => by have := (R2.out.lt _ e.symm).1; omega)); have C6 := Lib.hid ((C2.out.alloc (.cells #[.int .i64 q.rep, .int .i64 q.slot] 40)).keep hg6 (fun e => by have := (R2.out.lt _ e.symm).1; omega)); have A6 := Lib.hid ((A2.out.alloc (.cells #[.int .i64 q.rep, .int .i64 q.slot] 40)).grow hg6 (fun k hk => by have := (R2.out.lt _ hk).1; omega)); have R6 := Lib.hid hr6; clear hr6 hg6)
          go_roundw
          case rel => exact ⟨k + 1, a6, n6, c6, q.seq, by omega, by go_num, rfl, by rw [mxL_yes (by rw [HN.out]; exact hlt) HP.out, ← HM.out, HQ.out]; exact HMX.out.symm, by omega, by omega, rfl, by rw [depL_yes (by rw [HN.out]; exact hlt) HP.out, HQ.out]; exact R6.out, I6.out, C6.out, A6.out⟩
          case measure => simp only [intOf]; omega
      · have hs1 := ine_no hr1
        clear hr1 hsame
        by_cases hst : q.st = 0
        · have HP := Lib.hid (show pickB r s c (nth l k) = false by rw [HQ.out]; exact pickB_none r s c hst)
          have hst1 : (q.st == 0) = true := by simpa using hst
          have hst2 : (q.st != 0) = false := by simpa using hst
          clear hst
          go_wp2
          go_roundw
          case rel => exact ⟨k + 1, a', n', c', m, by omega, by go_num, rfl, by rw [mxL_no (by rw [HN.out]; exact hlt) HP.out]; exact HM.out, hm0, hm1, rfl, by rw [depL_no (by rw [HN.out]; exact hlt) HP.out]; exact RZ.out, IZ.out, CZ.out, AZ.out⟩
          case measure => simp only [intOf]; omega
        have hst1 : (q.st == 0) = false := ine_no hst
        have hst2 : (q.st != 0) = true := by simpa using hst
        obtain ⟨z0, z1, z2, z3, z4, z5, z6, z7⟩ := CZ.out.c8
        have HPE := Lib.hid (show pickB r s c (nth l k) = clashB q.cmd c by rw [HQ.out]; exact pickB_other c HNS.out hst)
        go_wp2_with fail
        clear z0 z1 z2 z3 z4 z5 z6 z7 i0 i1 m0 m1 m2 m3 m4 m5 m6 m7 m8 m9 m10 m11 m12 m13 m14 m15 hs1 hst1 hst2 hst
        refine (impl_clash q.cmd c _ _ a0 _ PZ.out.1 (CH.out.later AZ.out) (HS.out.later AZ.out) PZ.out.2.2.1 PZ.out.2.2.2.1 PZ.out.2.2.2.2 fs fn ft).mono ?_
        rintro e w2 ⟨rfl, b2⟩
        have Z2 := Lib.hid (Z.out.after b2)
        have I2 := Lib.hid (IZ.out.after b2)
        have C2 := Lib.hid (CZ.out.after b2)
        have A2 := Lib.hid (AZ.out.after b2)
        have R2 := Lib.hid (RZ.out.later b2)
        have hsz2 : w.heap.size + 2 ≤ w2.heap.size := by have := b2.size; simp at this; omega
        clear b2
        cases hcl : clashB q.cmd c
        · have HP := Lib.hid (show pickB r s c (nth l k) = false by rw [HPE.out, hcl])
          go_wp2
          go_roundw
          case rel => exact ⟨k + 1, a', n', c', m, by omega, by go_num, rfl, by rw [mxL_no (by rw [HN.out]; exact hlt) HP.out]; exact HM.out, hm0, hm1, rfl, by rw [depL_no (by rw [HN.out]; exact hlt) HP.out]; exact R2.out, I2.out, C2.out, A2.out⟩
          case measure => simp only [intOf]; omega
        have HP := Lib.hid (show pickB r s c (nth l k) = true by rw [HPE.out, hcl])
        obtain ⟨p0, p1, p2, p3, p4, p5, p6, p7, p8, p9, p10, p11, p12, p13, p14, p15⟩ := Z2.out.c16
        have HLEN := Lib.hid (depL_length r s c l k)
        by_cases hmx : q.seq ≤ m
        · have hmax : max m q.seq = m := by omega
          have HMX := Lib.hid hmax
          go_wp2_with (at_builtin; refine wp_append_id rfl (.tmp 40) (.tmp 43) rfl (w.heap.size + 2) (.slice a' n' c') (depL r s c (l.take k)) [⟨q.rep, q.slot⟩] rfl (R2.out.alloc _) w2.heap.size 0 1 rfl (fun j hj => ii_one (x := ⟨q.rep, q.slot⟩) (Bx.new w2 _ _ _ rfl).c2a j hj) (by have := HLEN.out; simp only [List.length_singleton]; omega) (by simp; omega) ?_; intro v6 w6 hr6 hg6; obtain ⟨a6, n6, c6, hv6⟩ := hr6.own.form; subst hv6; have I6 := Lib.hid ((I2.out.alloc (.cells #[.int .i64 q.rep, .int .i64 q.slot] 40)).keep hg6 (fun e => by have := (R2.out.lt _ e.symm).1; omega)); have C6 := Lib.hid ((C2.out.alloc (.cells #[.int .i64 q.rep, .int .i64 q.slot] 40)).keep hg6 (fun e => by have := (R2.out.lt _ e.symm).1; omega)); have A6 := Lib.hid ((A2.out.alloc (.cells #[.int .i64 q.rep, .int .i64 q.slot] 40)).grow hg6 (fun k hk => by have := (R2.out.lt _ hk).1; omega)); have R6 := Lib.hid hr6; clear hr6 hg6)
          go_roundw
          case rel => exact ⟨k + 1, a6, n6, c6, m, by omega, by go_num, rfl, by rw [mxL_yes (by rw [HN.out]; exact hlt) HP.out, ← HM.out, HQ.out]; exact HMX.out.symm, by omega, by omega, rfl, by rw [depL_yes (by rw [HN.out]; exact hlt) HP.out, HQ.out]; exact R6.out, I6.out, C6.out, A6.out⟩
          case measure => simp only [intOf]; omega
        · have hmax : max m q.seq = q.seq := by omega
          have HMX := Lib.hid hmax
          go_wp2_with (at_builtin; refine wp_append_id rfl (.tmp 40) (.tmp 43) rfl (w.heap.size + 2) (.slice a' n' c') (depL r s c (l.take k)) [⟨q.rep, q.slot⟩] rfl (R2.out.alloc _) w2.heap.size 0 1 rfl (fun j hj => ii_one (x := ⟨q.rep, q.slot⟩) (Bx.new w2 _ _ _ rfl).c2a j hj) (by have := HLEN.out; simp only [List.length_singleton]; omega) (by simp; omega) ?_; intro v6 w6 hr6 hg6; obtain ⟨a6, n6, c6, hv6⟩ := hr6.own.form; subst hv6; have I6 := Lib.hid ((I2.out.alloc (.cells #[.int .i64 q.rep, .int .i64 q.slot] 40)).keep hg6 (fun e => by have := (R2.out.lt _ e.symm).1; omega)); have C6 := Lib.hid ((C2.out.alloc (.cells #[.int .i64 q.rep, .int .i64 q.slot] 40)).keep hg6 (fun e => by have := (R2.out.lt _ e.symm).1; omega)); have A6 := Lib.hid ((A2.out.alloc (.cells #[.int .i64 q.rep, .int .i64 q.slot] 40)).grow hg6 (fun k hk => by have := (R2.out.lt _ hk).1; omega)); have R6 := Lib.hid hr6; clear hr6 hg6)
          go_roundw
          case rel => exact ⟨k + 1, a6, n6, c6, q.seq, by omega, by go_num, rfl, by rw [mxL_yes (by rw [HN.out]; exact hlt) HP.out, ← HM.out, HQ.out]; exact HMX.out.symm, by omega, by omega, rfl, by rw [depL_yes (by rw [HN.out]; exact hlt) HP.out, HQ.out]; exact R6.out, I6.out, C6.out, A6.out⟩
          case measure => simp only [intOf]; omega
    · obtain rfl : k = n := by omega
      have HT := Lib.hid (show l.take k = l by rw [← HN.out, List.take_length])
      rw [HT.out] at HM R
      go_wp2
      go_ret2
      rw [H1.out, H2.out, ← HM.out]
      exact ⟨⟨_, rfl, R.out.mono (by omega)⟩, A.out⟩
end Go.Proofs.YthihihphbcaieaaDoor
