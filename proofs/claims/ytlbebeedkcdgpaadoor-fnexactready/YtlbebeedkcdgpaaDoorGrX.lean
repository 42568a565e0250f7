/- A bundle of texts: GrI, GrJ, GrS, GrK, GrL. -/
import Derived.Test.YtlbebeedkcdgpaaDoorGrN
import Derived.Test.YtlbebeedkcdgpaaDoorJnI
import Derived.Test.YtlbebeedkcdgpaaDoorAtI
import Derived.Test.YtlbebeedkcdgpaaDoorInLi
import Derived.Laws.EntriesVeiled
import Derived.Test.YtlbebeedkcdgpaaDoorJnS
import Derived.Test.YtlbebeedkcdgpaaDoorInTo
import Derived.Test.YtlbebeedkcdgpaaDoorInLs
/- Reach: the program's walks. -/
namespace Go.Proofs.YtlbebeedkcdgpaaDoor
open Go.RowKit Go.PlainAid
set_option linter.unusedVariables false

/-- The value of visit: what it captured. -/
abbrev fV (q : Nat) : Value := .func (.func 39) #[] #[.pointer (some ⟨q, 0, none⟩), .pointer (some ⟨q + 2, 0, none⟩), .pointer (some ⟨q + 3, 0, none⟩)]
/-- Where a visit stands: what is in reach so far. -/
structure St (w0 w : World) (gv : Value) (q : Nat) (rv : Value) (R : List Ii) : Prop where
  af : Af w0 w
  bg : Bx w q 51 #[gv]
  br : Bx w (q + 2) 26 #[rv]
  bv : Bx w (q + 3) 66 #[fV q]
  row : IdRow w (q + 4) rv R
theorem St.after {w0 w w' : World} {gv : Value} {q : Nat} {rv : Value} {R : List Ii} (h : St w0 w gv q rv R) (hb : Below w.heap.size w w') : St w0 w' gv q rv R :=
  ⟨h.af.after hb, h.bg.after hb, h.br.after hb, h.bv.after hb, h.row.later hb⟩
theorem St.alloc {w0 w : World} {gv : Value} {q : Nat} {rv : Value} {R : List Ii} (h : St w0 w gv q rv R) (o : Obj) : St w0 (w.alloc o) gv q rv R := h.after ((Below.refl _ _).alloc (Nat.le_refl _) _)
theorem St.put {w0 w : World} {gv : Value} {q : Nat} {rv : Value} {R : List Ii} (h : St w0 w gv q rv R) (hq : w0.heap.size ≤ q) {u : Value} {R2 : List Ii} (hr : IdRow w (q + 4) u R2) :
    St w0 (w.setCell ⟨q + 2, 0, none⟩ u) gv q u R2 := by
  have hg : w.grownBy (w.setCell ⟨q + 2, 0, none⟩ u) (some (q + 2)) := grownG w (q + 2) 0 u
  refine ⟨h.af.grow hg (fun k hk => by cases hk; omega), h.bg.keep hg (by simp), ?_, h.bv.keep hg (by simp), hr.kept hg (fun k hk e => ?_)⟩
  · have := h.br.set 0 u
    simpa using this
  · cases hk
    have := (hr.lt _ e).1
    omega
theorem St.size {w0 w : World} {gv : Value} {q : Nat} {rv : Value} {R : List Ii} (h : St w0 w gv q rv R) : q + 4 ≤ w.heap.size := h.bv.lt
theorem sub_len {R R' : List Ii} (h : idlB R = true) (h' : idlB R' = true) (hs : ∀ y, y ∈ R → y ∈ R') : R.length ≤ R'.length := by
  have e : R'.filter (fun y => decide (y ∈ R)) = R := srt_ext _ _ ((srt_of_ok h').filter _) (srt_of_ok h) fun z => by
    rw [List.mem_filter]
    simp only [decide_eq_true_eq]
    exact ⟨fun hh => hh.2, fun hh => ⟨hs z hh, hh⟩⟩
  have h1 := List.length_filter_le (fun y => decide (y ∈ R)) R'
  rw [e] at h1
  exact h1
set_option maxRecDepth 100000 in
set_option maxHeartbeats 4000000 in
theorem impl_visit (l : List In) (hl : instsB l = true) (gv : Value) (w0 : World) (hG : Grf w0 gv l) (q : Nat) (hq : w0.heap.size ≤ q) :
    ∀ (m : Nat) (r s : Int) (R : List Ii) (rv : Value) (w : World), Wf r s → idlB R = true → 18 - R.length ≤ m → St w0 w gv q rv R →
      Calls Tryd.prog 39 #[.agg #[.int .i64 r, .int .i64 s], .pointer (some ⟨q, 0, none⟩), .pointer (some ⟨q + 2, 0, none⟩), .pointer (some ⟨q + 3, 0, none⟩)] w fun e w' =>
        e = .returned (.tuple #[]) ∧ (∃ R' rv', Vis l ⟨r, s⟩ R R' ∧ St w0 w' gv q rv' R') ∧ w.grownBy w' (some (q + 2)) := by
  intro m
  induction m using Nat.strongRecOn with
  | ind m ih =>
    intro r s R rv w hwf hok hm hst
    have IH := Lib.hid ih
    have HG := Lib.hid hG
    have HOK := Lib.hid hok
    have HLO := Lib.hid hl
    have HD := Lib.hid (dps_ok hl ⟨r, s⟩)
    have HM := Lib.hid hm
    have S0 := Lib.hid (hst.alloc (.cells #[.int .i64 r, .int .i64 s] 30))
    have P0 := Lib.hid (Bx.new w 30 #[.int .i64 r, .int .i64 s] _ rfl)
    have G0 := Lib.hid (World.grownBy_alloc w (.cells #[.int .i64 r, .int .i64 s] 30) (some (q + 2)))
    obtain ⟨b, x, xa, xn, xc, d, rfl, hrun, hd⟩ := hG.get S0.out.af hwf
    obtain ⟨D, hD⟩ : ∃ D, dps l ⟨r, s⟩ = D := ⟨_, rfl⟩
    have HDE := Lib.hid hD
    rw [hD] at hd HD
    obtain ⟨hdl, da, dc, rfl, hdc, hda⟩ := hd
    obtain ⟨n, hn⟩ : ∃ n, D.length = n := ⟨_, rfl⟩
    have HN := Lib.hid hn
    rw [hn] at hdl hdc hda hrun
    have HA := Lib.hid hda
    have hfd : ∀ W : World, (Instr.field 48 (.agg #[.int .i64 x.rep, .int .i64 x.slot, .int .i64 x.bal, .int .i64 x.vbal, .int .i64 x.st, .int .i64 x.cmd.kind, .int .i64 x.cmd.client, .int .i64 x.cmd.no, .string x.cmd.set, .string x.cmd.name, .string x.cmd.tag, .int .i64 x.cmd.n, .slice xa xn xc, .int .i64 x.seq, .slice da n dc, .bool x.same]) 6).run Tryd.prog W = .ok (.slice da n dc) W := fun _ => by kernel_rfl
    have c0 := S0.out.bg.cell 0 _ rfl
    obtain ⟨p0, p1⟩ := P0.out.c2a
    clear ih hG hok hl hm hst hda hdc hn hD
    go_enter Tryd.func39, Tryd.ntmps39
    go_wp2
    clear hrun c0 p0 p1
    go_loopw [12] (fun iv wr => ∃ (k : Nat) (R' : List Ii) (rv' : Value), k ≤ n ∧ iv = .int .i64 k ∧ VisK l ⟨r, s⟩ k R R' ∧ St w0 wr (.map (some b)) q rv' R' ∧ w.grownBy wr (some (q + 2))) (fun iv _ => n - (intOf iv).toNat)
    case atStart => exact ⟨0, R, rv, by omega, rfl, VisK.zero HOK.out, S0.out, G0.out⟩
    case round =>
      obtain ⟨k, R1, rv1, hk, rfl, hvk, hst, hgr⟩ := hrel
      obtain ⟨a1, c1, rfl⟩ := hst.row.form
      have VK := Lib.hid hvk
      have L1 := Lib.hid (ids_18 hvk.ok)
      have S1 := Lib.hid hst
      have G1 := Lib.hid hgr
      clear hvk hst hgr S0 P0 G0
      by_cases hlt : k < n
      · obtain ⟨bd, od, rfl, hbd, hcb⟩ := HA.out (by omega)
        obtain ⟨k1, k2⟩ := (hcb k hlt).below S1.out.af hbd
        have y1 : (k : Int) < (n : Int) := by omega
        have y0 : (0 : Int) ≤ (k : Int) := by omega
        have S2 := Lib.hid (S1.out.alloc (.cells #[.int .i64 (iR D k), .int .i64 (iS D k)] 30))
        have T2 := Lib.hid (Bx.new wr 30 #[.int .i64 (iR D k), .int .i64 (iS D k)] _ rfl)
        have G2 := Lib.hid (G1.out.trans (World.grownBy_alloc wr (.cells #[.int .i64 (iR D k), .int .i64 (iS D k)] 30) (some (q + 2))))
        have HT := Lib.hid (show q + 2 ≠ wr.heap.size by have := S1.out.size; omega)
        have z0 := S2.out.br.cell 0 _ rfl
        obtain ⟨t0, t1⟩ := T2.out.c2a
        clear hcb S1 G1
        go_wp2_with fail
        clear z0 t0 t1 k1 k2
        refine (impl_has _ R1 (iR D k) (iS D k) _ S2.out.row.own.ids).mono ?_
        rintro e w3 ⟨rfl, bb⟩
        have S3 := Lib.hid (S2.out.after bb)
        have T3 := Lib.hid (T2.out.after bb)
        have G3 := Lib.hid (G2.out.trans (grown_allG bb (some (q + 2))))
        clear bb S2 T2 G2
        cases hq2 : hasB R1 (iR D k) (iS D k)
        · have HNM := Lib.hid (show (⟨iR D k, iS D k⟩ : Ii) ∉ R1 from fun e => by rw [(hasB_iff R1 _ _).2 e] at hq2; cases hq2)
          have HID := Lib.hid (ids_of_ok HD.out _ (ii_mem D k (by rw [HN.out]; exact hlt)))
          have z0 := S3.out.br.cell 0 _ rfl
          obtain ⟨t0, t1⟩ := T3.out.c2a
          clear hq2
          go_wp2_with fail
          clear z0 t0 t1
          refine (impl_put _ R1 (iR D k) (iS D k) _ S3.out.row.own.ids (by have := L1.out; omega)).mono ?_
          rintro e w4 ⟨⟨u4, rfl, r4⟩, bb⟩
          obtain ⟨a4, c4, rfl⟩ := r4.form
          have S3b := Lib.hid (S3.out.after bb)
          have S4 := Lib.hid (S3b.out.put hq (r4.mono S3.out.size))
          have T4 := Lib.hid ((T3.out.after bb).set_other ⟨q + 2, 0, none⟩ (.slice a4 (putI R1 ⟨iR D k, iS D k⟩).length c4) (fun e => HT.out e.symm))
          have G4 := Lib.hid ((G3.out.trans (grown_allG bb (some (q + 2)))).trans (grownG w4 (q + 2) 0 (.slice a4 (putI R1 ⟨iR D k, iS D k⟩).length c4)))
          have z0 := S3b.out.br.cell 0 _ rfl
          have z1 := S3b.out.br.frozen 0
          have z2 := S4.out.bv.cell 0 _ rfl
          obtain ⟨t0, t1⟩ := T4.out.c2a
          clear bb r4 S3 T3 G3
          go_wp2_with fail
          clear z0 z1 z2 t0 t1
          have hok4 := put_ok VK.out.ok ⟨iR D k, iS D k⟩ HID.out
          have hgr4 := putI_grow VK.out.ok HNM.out HID.out
          have hle := sub_len HOK.out VK.out.ok VK.out.sub
          have h18 := ids_18 hok4
          have hmm := HM.out
          refine (IH.out (m - 1) (by omega) (iR D k) (iS D k) _ _ _ (Wf.of HID.out) hok4 (by omega) S4.out).mono ?_
          rintro e w5 ⟨rfl, ⟨R5, rv5, hv5, hs5⟩, hg5⟩
          have VK5 := Lib.hid (show VisK l ⟨r, s⟩ (k + 1) R R5 from VK.out.step (by rw [HDE.out, HN.out]; exact hlt) (by rw [HDE.out]; exact hv5))
          have S5 := Lib.hid hs5
          have G5 := Lib.hid (G4.out.trans hg5)
          clear hv5 hs5 hg5 hok4 hgr4 hle h18 hmm
          go_wp2
          go_roundw
          case rel => exact ⟨k + 1, R5, rv5, by omega, by go_num, VK5.out, S5.out, G5.out⟩
          case measure => simp only [intOf]; omega
        · have HIM := Lib.hid ((hasB_iff R1 _ _).1 hq2)
          clear hq2
          go_wp2
          go_roundw
          case rel => exact ⟨k + 1, R1, _, by omega, by go_num, VK.out.skip (by rw [HDE.out]; exact HIM.out), S3.out, G3.out⟩
          case measure => simp only [intOf]; omega
      · obtain rfl : k = n := by omega
        go_wp2
        go_end0
        exact ⟨rfl, ⟨R1, _, VisK.fin (by rw [HDE.out, HN.out]; exact VK.out), S1.out⟩, G1.out⟩
end Go.Proofs.YtlbebeedkcdgpaaDoor
/- Reach: the program's map and its answer. -/
namespace Go.Proofs.YtlbebeedkcdgpaaDoor
open Go.RowKit Go.PlainAid
set_option linter.unusedVariables false

set_option maxRecDepth 100000 in
set_option maxHeartbeats 2000000 in
theorem impl_reachG (l : List In) (hl : instsB l = true) (gv : Value) (r s : Int) (w : World) (hG : Grf w gv l) (hwf : Wf r s) :
    Calls Tryd.prog 22 #[gv, .agg #[.int .i64 r, .int .i64 s]] w fun e w' => (∃ u X, e = .returned u ∧ IdRow w' w.heap.size u X ∧ IsR l ⟨r, s⟩ X) ∧ Below w.heap.size w w' := by
  have HG := Lib.hid hG
  obtain ⟨b, n, V, rfl, _, _⟩ := hG
  obtain ⟨W1, h1⟩ : ∃ W1, w.alloc (.cells #[.map (some b)] 51) = W1 := ⟨_, rfl⟩
  obtain ⟨W2, h2⟩ : ∃ W2, W1.alloc (.cells #[.int .i64 r, .int .i64 s] 30) = W2 := ⟨_, rfl⟩
  obtain ⟨W3, h3⟩ : ∃ W3, W2.alloc (.cells #[.slice none 0 0] 26) = W3 := ⟨_, rfl⟩
  obtain ⟨W4, h4⟩ : ∃ W4, W3.alloc (.cells #[fV w.heap.size] 66) = W4 := ⟨_, rfl⟩
  have e1 : W1.heap.size = w.heap.size + 1 := by rw [← h1]; simp
  have e2 : W2.heap.size = w.heap.size + 1 + 1 := by rw [← h2]; simp [e1]
  have e3 : W3.heap.size = w.heap.size + 1 + 1 + 1 := by rw [← h3]; simp [e2]
  have A4 : Af w W4 := h4 ▸ (h3 ▸ (h2 ▸ (h1 ▸ (Af.refl w).alloc _ : Af w W1).alloc _ : Af w W2).alloc _ : Af w W3).alloc _
  have b1 : Bx W1 w.heap.size 51 #[.map (some b)] := h1 ▸ Bx.new w _ _ _ rfl
  have b3 : Bx W3 (w.heap.size + 1 + 1) 26 #[.slice none 0 0] := h3 ▸ Bx.new W2 _ _ _ e2
  have b4 : Bx W4 (w.heap.size + 1 + 1 + 1) 66 #[fV w.heap.size] := h4 ▸ Bx.new W3 _ _ _ e3
  have b1' : Bx W4 w.heap.size 51 #[.map (some b)] := h4 ▸ (h3 ▸ (h2 ▸ b1.alloc _ : Bx W2 _ _ _).alloc _ : Bx W3 _ _ _).alloc _
  have b3' : Bx W4 (w.heap.size + 1 + 1) 26 #[.slice none 0 0] := h4 ▸ b3.alloc _
  have S5 : St w W4 (.map (some b)) w.heap.size (.slice none 0 0) [] := ⟨A4, b1', b3', b4, idRow_nil _ _⟩
  have S5 := Lib.hid S5
  clear b1 b3 b1' b3' b4 A4 e1 e2 e3
  subst h1 h2 h3 h4
  go_enter Tryd.func22, Tryd.ntmps22
  go_wp2_with fail
  refine (impl_visit l hl (.map (some b)) w HG.out w.heap.size (Nat.le_refl _) 18 r s [] (.slice none 0 0) _ hwf (idlB_yes _ (fun j hj => by simp at hj)) (by simp) S5.out).mono ?_
  rintro e w5 ⟨rfl, ⟨R5, rv5, hv5, hs5⟩, _⟩
  obtain ⟨a5, c5, rfl⟩ := hs5.row.form
  have S6 := Lib.hid hs5
  have z3 := hs5.br.cell 0 _ rfl
  clear hs5
  go_wp2
  go_ret
  exact ⟨⟨_, R5, rfl, S6.out.row.mono (by omega), hv5.done⟩, S6.out.af⟩
end Go.Proofs.YtlbebeedkcdgpaaDoor
/- The committed instance of an Id, its Deps, and what is in reach: the model's walks. -/
namespace Go.Proofs.YtlbebeedkcdgpaaDoor
open Go.RowKit Go.PlainAid
set_option linter.unusedVariables false

set_option maxRecDepth 100000 in
set_option maxHeartbeats 2000000 in
theorem spec_find (v : Value) (l : List In) (r s : Int) (w : World) (hv : Insts w v l) :
    Calls Tryd.prog 44 #[v, .agg #[.int .i64 r, .int .i64 s]] w fun e w' => e = .returned (.int .i64 (fndB l r s)) ∧ Below w.heap.size w w' := by
  obtain ⟨h1, a, ca, rfl, hca, ha⟩ := hv
  obtain ⟨n, hn⟩ : ∃ n, l.length = n := ⟨_, rfl⟩
  have HN := Lib.hid hn
  rw [hn] at h1 ha hca ⊢
  have HA := Lib.hid ha
  have X0 := Lib.hid (Bx.new w 30 #[.int .i64 r, .int .i64 s] _ rfl)
  have A0 := Lib.hid ((Af.refl w).alloc (.cells #[.int .i64 r, .int .i64 s] 30))
  clear hn ha hca
  go_enter Tryd.func44, Tryd.ntmps44
  go_wp2
  go_loopw [5] (fun i wr => ∃ k : Nat, k ≤ n ∧ i = .int .i64 k ∧ (∀ j, j < k → isC r s (nth l j) = false) ∧ Bx wr w.heap.size 30 #[.int .i64 r, .int .i64 s] ∧ Af w wr) (fun i _ => n - (intOf i).toNat)
  case atStart => exact ⟨0, by omega, rfl, fun j hj => by omega, X0.out, A0.out⟩
  case round =>
    obtain ⟨k, hk, rfl, he, hx, haf⟩ := hrel
    have HE := Lib.hid he
    have XB := Lib.hid hx
    have A := Lib.hid haf
    clear he hx haf X0 A0
    by_cases hlt : k < n
    · obtain ⟨b, o, rfl, hb, hcx⟩ := HA.out (by omega)
      obtain ⟨u, d, ccx, pp⟩ := hcx k hlt
      obtain ⟨q, hq⟩ : ∃ q, nth l k = q := ⟨_, rfl⟩
      have HQ := Lib.hid hq
      rw [hq] at ccx
      have HCK := Lib.hid (fun W (h : Af w W) => ccx.below h hb)
      have y1 : (k : Int) < (n : Int) := by omega
      have y0 : (0 : Int) ≤ (k : Int) := by omega
      have HL := Lib.hid (fun W (h : LatI wr W) => And.intro (HCK.out W (A.out.after h)) (XB.out.after h).c2a)
      clear hcx ccx pp hq
      by_cases q1 : q.rep = r
      · by_cases q2 : q.slot = s
        · have hs1 : (q.rep == r) = true := by simp [q1]
          have hs2 : (q.slot == s) = true := by simp [q2]
          by_cases q3 : q.st = 3
          · have hst : (q.st == 3) = true := by simp [q3]
            have HY := Lib.hid (show isC r s (nth l k) = true by rw [HQ.out, isC_iff]; exact ⟨q1, q2, q3⟩)
            clear q1 q2 q3
            go_wp2_with fail
            refine wp_region_quiet (C := LatI wr) (by kernel_rfl) (by kernel_rfl) (show LatI wr wr.drew from Below.drew (Below.refl _ _)) ?_
            dsimp only
            repeat (first | go_big_quiet_skip | (go_big_quiet_want; go_big_quiet_op; (first | go_big_quiet_on | (refine ⟨_, fun _ _ => rfl, ?_⟩; go_big_quiet_on) | (refine ⟨.agg #[.int .i64 q.rep, .int .i64 q.slot], ?_, ?_⟩; intro w' hw'; obtain ⟨⟨e0, e1, e2, e3, e4, e5, e6, e7, e8, e9, e10, e11, e12, e13, e14, e15⟩, i0, i1⟩ := HL.out w' hw'; simp [e0, e1, Result.andThen]; go_big_quiet_on) | (refine ⟨.agg #[.int .i64 r, .int .i64 s], ?_, ?_⟩; intro w' hw'; obtain ⟨⟨e0, e1, e2, e3, e4, e5, e6, e7, e8, e9, e10, e11, e12, e13, e14, e15⟩, i0, i1⟩ := HL.out w' hw'; simp [i0, i1, Result.andThen]; go_big_quiet_on) | (refine ⟨.int .i64 q.st, ?_, ?_⟩; intro w' hw'; obtain ⟨⟨e0, e1, e2, e3, e4, e5, e6, e7, e8, e9, e10, e11, e12, e13, e14, e15⟩, i0, i1⟩ := HL.out w' hw'; simp [e4, Result.andThen]; go_big_quiet_on))))
            refine wpQuiet_nil ?_
            intro w2 L2
            have A2 := Lib.hid (A.out.after L2)
            have X2 := Lib.hid (XB.out.after L2)
            clear L2 HL
            go_wp2
            go_ret
            exact ⟨by rw [fndB_first (by rw [HN.out]; exact hlt) HY.out HE.out]; rfl, A2.out⟩
          · have hst : (q.st == 3) = false := ine_no q3
            have HNE := Lib.hid (show isC r s (nth l k) = false by rw [HQ.out, isC_eq]; simp [q3])
            clear q1 q2 q3
            go_wp2_with fail
            refine wp_region_quiet (C := LatI wr) (by kernel_rfl) (by kernel_rfl) (show LatI wr wr.drew from Below.drew (Below.refl _ _)) ?_
            dsimp only
            repeat (first | go_big_quiet_skip | (go_big_quiet_want; go_big_quiet_op; (first | go_big_quiet_on | (refine ⟨_, fun _ _ => rfl, ?_⟩; go_big_quiet_on) | (refine ⟨.agg #[.int .i64 q.rep, .int .i64 q.slot], ?_, ?_⟩; intro w' hw'; obtain ⟨⟨e0, e1, e2, e3, e4, e5, e6, e7, e8, e9, e10, e11, e12, e13, e14, e15⟩, i0, i1⟩ := HL.out w' hw'; simp [e0, e1, Result.andThen]; go_big_quiet_on) | (refine ⟨.agg #[.int .i64 r, .int .i64 s], ?_, ?_⟩; intro w' hw'; obtain ⟨⟨e0, e1, e2, e3, e4, e5, e6, e7, e8, e9, e10, e11, e12, e13, e14, e15⟩, i0, i1⟩ := HL.out w' hw'; simp [i0, i1, Result.andThen]; go_big_quiet_on) | (refine ⟨.int .i64 q.st, ?_, ?_⟩; intro w' hw'; obtain ⟨⟨e0, e1, e2, e3, e4, e5, e6, e7, e8, e9, e10, e11, e12, e13, e14, e15⟩, i0, i1⟩ := HL.out w' hw'; simp [e4, Result.andThen]; go_big_quiet_on))))
            refine wpQuiet_nil ?_
            intro w2 L2
            have A2 := Lib.hid (A.out.after L2)
            have X2 := Lib.hid (XB.out.after L2)
            clear L2 HL
            go_wp2
            go_roundw
            case rel =>
              refine ⟨k + 1, by omega, by go_num, fun j hj => ?_, X2.out, A2.out⟩
              by_cases e : j = k
              · subst e; exact HNE.out
              · exact HE.out j (by omega)
            case measure => simp only [intOf]; omega
        · have hs1 : (q.rep == r) = true := by simp [q1]
          have hs2 : (q.slot == s) = false := ine_no q2
          have HNE := Lib.hid (show isC r s (nth l k) = false by rw [HQ.out, isC_eq]; simp [q2])
          clear q1 q2
          go_wp2_with fail
          refine wp_region_quiet (C := LatI wr) (by kernel_rfl) (by kernel_rfl) (show LatI wr wr.drew from Below.drew (Below.refl _ _)) ?_
          dsimp only
          repeat (first | go_big_quiet_skip | (go_big_quiet_want; go_big_quiet_op; (first | go_big_quiet_on | (refine ⟨_, fun _ _ => rfl, ?_⟩; go_big_quiet_on) | (refine ⟨.agg #[.int .i64 q.rep, .int .i64 q.slot], ?_, ?_⟩; intro w' hw'; obtain ⟨⟨e0, e1, e2, e3, e4, e5, e6, e7, e8, e9, e10, e11, e12, e13, e14, e15⟩, i0, i1⟩ := HL.out w' hw'; simp [e0, e1, Result.andThen]; go_big_quiet_on) | (refine ⟨.agg #[.int .i64 r, .int .i64 s], ?_, ?_⟩; intro w' hw'; obtain ⟨⟨e0, e1, e2, e3, e4, e5, e6, e7, e8, e9, e10, e11, e12, e13, e14, e15⟩, i0, i1⟩ := HL.out w' hw'; simp [i0, i1, Result.andThen]; go_big_quiet_on) | (refine ⟨.int .i64 q.st, ?_, ?_⟩; intro w' hw'; obtain ⟨⟨e0, e1, e2, e3, e4, e5, e6, e7, e8, e9, e10, e11, e12, e13, e14, e15⟩, i0, i1⟩ := HL.out w' hw'; simp [e4, Result.andThen]; go_big_quiet_on))))
          refine wpQuiet_nil ?_
          intro w2 L2
          have A2 := Lib.hid (A.out.after L2)
          have X2 := Lib.hid (XB.out.after L2)
          clear L2 HL
          go_wp2
          go_roundw
          case rel =>
            refine ⟨k + 1, by omega, by go_num, fun j hj => ?_, X2.out, A2.out⟩
            by_cases e : j = k
            · subst e; exact HNE.out
            · exact HE.out j (by omega)
          case measure => simp only [intOf]; omega
      · have hs1 : (q.rep == r) = false := ine_no q1
        have HNE := Lib.hid (show isC r s (nth l k) = false by rw [HQ.out, isC_eq]; simp [q1])
        clear q1
        go_wp2_with fail
        refine wp_region_quiet (C := LatI wr) (by kernel_rfl) (by kernel_rfl) (show LatI wr wr.drew from Below.drew (Below.refl _ _)) ?_
        dsimp only
        repeat (first | go_big_quiet_skip | (go_big_quiet_want; go_big_quiet_op; (first | go_big_quiet_on | (refine ⟨_, fun _ _ => rfl, ?_⟩; go_big_quiet_on) | (refine ⟨.agg #[.int .i64 q.rep, .int .i64 q.slot], ?_, ?_⟩; intro w' hw'; obtain ⟨⟨e0, e1, e2, e3, e4, e5, e6, e7, e8, e9, e10, e11, e12, e13, e14, e15⟩, i0, i1⟩ := HL.out w' hw'; simp [e0, e1, Result.andThen]; go_big_quiet_on) | (refine ⟨.agg #[.int .i64 r, .int .i64 s], ?_, ?_⟩; intro w' hw'; obtain ⟨⟨e0, e1, e2, e3, e4, e5, e6, e7, e8, e9, e10, e11, e12, e13, e14, e15⟩, i0, i1⟩ := HL.out w' hw'; simp [i0, i1, Result.andThen]; go_big_quiet_on) | (refine ⟨.int .i64 q.st, ?_, ?_⟩; intro w' hw'; obtain ⟨⟨e0, e1, e2, e3, e4, e5, e6, e7, e8, e9, e10, e11, e12, e13, e14, e15⟩, i0, i1⟩ := HL.out w' hw'; simp [e4, Result.andThen]; go_big_quiet_on))))
        refine wpQuiet_nil ?_
        intro w2 L2
        have A2 := Lib.hid (A.out.after L2)
        have X2 := Lib.hid (XB.out.after L2)
        clear L2 HL
        go_wp2
        go_roundw
        case rel =>
          refine ⟨k + 1, by omega, by go_num, fun j hj => ?_, X2.out, A2.out⟩
          by_cases e : j = k
          · subst e; exact HNE.out
          · exact HE.out j (by omega)
        case measure => simp only [intOf]; omega
    · obtain rfl : k = n := by omega
      go_wp2
      go_ret
      exact ⟨by rw [fndB_none (fun j hj => HE.out j (by rw [← HN.out]; exact hj))]; rfl, A.out⟩
set_option maxRecDepth 100000 in
set_option maxHeartbeats 1000000 in
theorem spec_l12deps (v : Value) (l : List In) (r s : Int) (w : World) (hv : Insts w v l) :
    Calls Tryd.prog 35 #[v, .agg #[.int .i64 r, .int .i64 s]] w fun e w' => (∃ u, e = .returned u ∧ Ids w' u (dps l ⟨r, s⟩)) ∧ Below w.heap.size w w' := by
  have VH := Lib.hid hv
  obtain ⟨h1, a, ca, rfl, hca, ha⟩ := hv
  obtain ⟨n, hn⟩ : ∃ n, l.length = n := ⟨_, rfl⟩
  have HN := Lib.hid hn
  rw [hn] at h1 ha hca VH ⊢
  have HA := Lib.hid ha
  have X0 := Lib.hid (Bx.new w 30 #[.int .i64 r, .int .i64 s] _ rfl)
  have A0 := Lib.hid ((Af.refl w).alloc (.cells #[.int .i64 r, .int .i64 s] 30))
  clear hn ha hca
  obtain ⟨x0, x1⟩ := X0.out.c2a
  go_enter Tryd.func35, Tryd.ntmps35
  go_wp2_with fail
  clear x0 x1
  refine (spec_find _ l r s _ (VH.out.later A0.out)).mono ?_
  rintro e w1 ⟨rfl, bb⟩
  have A1 := Lib.hid (A0.out.after bb)
  clear bb X0 A0
  rcases fnd_cases l r s with ⟨hf, hc⟩ | ⟨k, hk, hf, hc, _⟩
  · rw [hf]
    have HD := Lib.hid (dps_none (i := ⟨r, s⟩) hc)
    clear hf hc
    go_wp2
    go_ret
    exact ⟨⟨_, rfl, by rw [HD.out]; exact ids_nil _ _ _⟩, A1.out.alloc _⟩
  · rw [hf]
    have HD := Lib.hid (dps_some (i := ⟨r, s⟩) hc)
    rw [HN.out] at hk
    obtain ⟨b, o, rfl, hb, hcx⟩ := HA.out (by omega)
    obtain ⟨u, d, ccx, pp⟩ := hcx k hk
    have PP := Lib.hid (pp.later A1.out)
    obtain ⟨e0, e1, e2, e3, e4, e5, e6, e7, e8, e9, e10, e11, e12, e13, e14, e15⟩ := ccx.below A1.out hb
    have y1 : (k : Int) < (n : Int) := by omega
    have y0 : (0 : Int) ≤ (k : Int) := by omega
    have y2 : decide ((k : Int) < 0) = false := dec_f (by omega)
    clear hf hc hcx ccx pp
    go_wp2
    go_ret
    exact ⟨⟨_, rfl, by rw [HD.out]; exact PP.out.2.1⟩, A1.out⟩
set_option maxRecDepth 100000 in
set_option maxHeartbeats 4000000 in
theorem spec_l12reach (v : Value) (l : List In) (r s : Int) (w : World) (hv : Insts w v l) (hl : instsB l = true) :
    Calls Tryd.prog 19 #[v, .agg #[.int .i64 r, .int .i64 s]] w fun e w' => (∃ u X, e = .returned u ∧ IdRow w' w.heap.size u X ∧ IsR l ⟨r, s⟩ X) ∧ Below w.heap.size w w' := by
  have VH := Lib.hid hv
  have HOK := Lib.hid hl
  obtain ⟨va, vn, vc, rfl⟩ := hv.form
  have X0 := Lib.hid (Bx.new w 30 #[.int .i64 r, .int .i64 s] _ rfl)
  have A0 := Lib.hid ((Af.refl w).alloc (.cells #[.int .i64 r, .int .i64 s] 30))
  clear hv hl
  have X1 := Lib.hid (X0.out.alloc (.cells #[] 30))
  have A1 := Lib.hid (A0.out.alloc (.cells #[] 30))
  obtain ⟨x0, x1⟩ := X1.out.c2a
  go_enter Tryd.func19, Tryd.ntmps19
  go_wp2_with fail
  clear x0 x1
  refine (spec_l12deps _ l r s _ (VH.out.later A1.out)).mono ?_
  rintro e w1 ⟨⟨u1, rfl, hu1⟩, bb⟩
  obtain ⟨a1, n1, c1, rfl⟩ := hu1.form
  have A2 := Lib.hid (A1.out.after bb)
  have U1 := Lib.hid hu1
  clear bb hu1
  go_wp2_with fail
  refine (spec_l8join _ _ [] (dps l ⟨r, s⟩) _ (ids_nil _ _ _) U1.out (by have := ids_18 (dps_ok HOK.out ⟨r, s⟩); simp only [List.length_nil]; omega)).mono ?_
  rintro e w2 ⟨⟨u2, rfl, r2⟩, bb⟩
  have R2 := Lib.hid (r2.mono A2.out.size)
  have A3 := Lib.hid (A2.out.after bb)
  clear bb r2 U1 X0 X1 A0 A1 A2
  go_wp2
  go_loopw [5, 6] (fun ov rv wr => ∃ (k : Nat) (out : List Ii), k ≤ 18 ∧ rv = .int .i64 k ∧ Rnd l ⟨r, s⟩ k out ∧ IdRow wr w.heap.size ov out ∧ Af w wr) (fun _ rv _ => 18 - (intOf rv).toNat)
  case atStart => exact ⟨0, _, by omega, rfl, Rnd.zero HOK.out ⟨r, s⟩, R2.out, A3.out⟩
  case round =>
    obtain ⟨k, out, hk, rfl, hrnd, hrow, haf⟩ := hrel
    obtain ⟨oa, oc, rfl⟩ := hrow.form
    have RN := Lib.hid hrnd
    have RO := Lib.hid hrow
    have A := Lib.hid haf
    have L18 := Lib.hid (ids_18 hrnd.ok)
    clear hrnd hrow haf R2 A3
    by_cases hlt : k < 18
    · have y1 : (k : Int) < 18 := by omega
      obtain ⟨n, hn⟩ : ∃ n, out.length = n := ⟨_, rfl⟩
      have HN := Lib.hid hn
      have n18 := L18.out
      rw [hn] at n18 ⊢
      clear hn
      go_wp2
      go_loopw [7, 8] (fun nv iv wi => ∃ j : Nat, j ≤ n ∧ iv = .int .i64 j ∧ IdRow wi w.heap.size nv (stp l out j) ∧ IdRow wi w.heap.size (.slice oa n oc) out ∧ Af w wi) (fun _ iv _ => n - (intOf iv).toNat)
      case atStart => exact ⟨0, by omega, rfl, by rw [stp_zero, ← HN.out]; exact RO.out, by rw [← HN.out]; exact RO.out, A.out⟩
      case round =>
        obtain ⟨j, hj, rfl, hnx, hro, haf⟩ := hrel
        obtain ⟨na, nc, rfl⟩ := hnx.form
        have RX := Lib.hid hnx
        have RO := Lib.hid hro
        have A := Lib.hid haf
        clear hnx hro haf
        by_cases hjl : j < n
        · obtain ⟨_, a0, c0, e0, hc0, ha0⟩ := RO.out.own.ids
          rw [HN.out] at e0 ha0
          obtain ⟨b, o, hbo, hb, hcb⟩ := ha0 (by omega)
          subst hbo
          cases e0
          obtain ⟨z0, z1⟩ := hcb j hjl
          have y2 : (j : Int) < (n : Int) := by omega
          have y3 : (0 : Int) ≤ (j : Int) := by omega
          clear hcb ha0
          go_wp2_with fail
          clear z0 z1
          refine (spec_l12deps _ l (iR out j) (iS out j) _ (VH.out.later A.out)).mono ?_
          rintro e w4 ⟨⟨u4, rfl, hu4⟩, bb⟩
          obtain ⟨a4, n4, c4, rfl⟩ := hu4.form
          have U4 := Lib.hid hu4
          have RX4 := Lib.hid (RX.out.later bb)
          have RO4 := Lib.hid (RO.out.later bb)
          have A4 := Lib.hid (A.out.after bb)
          clear bb hu4
          go_wp2_with fail
          refine (spec_l8join _ _ (stp l out j) (dps l ⟨iR out j, iS out j⟩) _ RX4.out.own.ids U4.out (by have h1 := ids_18 (dps_ok HOK.out ⟨iR out j, iS out j⟩); have h2 := ids_18 (stp_ok HOK.out RN.out.ok j (by rw [HN.out]; omega)); omega)).mono ?_
          rintro e w5 ⟨⟨u5, rfl, r5⟩, bb⟩
          have R5 := Lib.hid (r5.mono A4.out.size)
          have RO5 := Lib.hid (RO4.out.later bb)
          have A5 := Lib.hid (A4.out.after bb)
          clear bb r5
          go_wp2
          go_roundw
          case rel => exact ⟨j + 1, by omega, by go_num, by rw [stp_succ l out j (by rw [HN.out]; exact hjl)]; exact R5.out, RO5.out, A5.out⟩
          case measure => simp only [intOf]; omega
        · obtain rfl : j = n := by omega
          have HS := Lib.hid (show (stp l out out.length) = stp l out j by rw [HN.out])
          obtain ⟨p, hp⟩ : ∃ p, (stp l out j).length = p := ⟨_, rfl⟩
          have HP := Lib.hid hp
          rw [hp] at RX ⊢
          clear hp
          by_cases hpe : p = j
          · have y4 : ((p : Int) == (j : Int)) = true := by simp [hpe]
            have HF := Lib.hid (RN.out.same HOK.out (by rw [HS.out, HP.out, HN.out]; exact hpe))
            clear hpe
            go_wp2
            go_ret
            exact ⟨⟨_, _, rfl, RO.out, HF.out⟩, A.out⟩
          · have y4 : ((p : Int) == (j : Int)) = false := by simp; omega
            have HG := Lib.hid (RN.out.grow HOK.out (by rw [HS.out, HP.out, HN.out]; exact hpe))
            clear hpe
            go_wp2
            go_roundw
            case rel => exact ⟨k + 1, stp l out j, by omega, by go_num, by rw [← HS.out]; exact HG.out, RX.out, A.out⟩
            case measure => simp only [intOf]; omega
    · obtain rfl : k = 18 := by omega
      go_wp2
      go_ret
      exact ⟨⟨_, _, rfl, RO.out, RN.out.full HOK.out⟩, A.out⟩
end Go.Proofs.YtlbebeedkcdgpaaDoor
/- Reach: the map of the committed instances, and the functions whole. -/
namespace Go.Proofs.YtlbebeedkcdgpaaDoor
open Go.RowKit Go.PlainAid
set_option linter.unusedVariables false

/-- An instance's value. -/
abbrev iVal (x : In) (u d : Value) : Value := .agg #[.int .i64 x.rep, .int .i64 x.slot, .int .i64 x.bal, .int .i64 x.vbal, .int .i64 x.st, .int .i64 x.cmd.kind, .int .i64 x.cmd.client, .int .i64 x.cmd.no, .string x.cmd.set, .string x.cmd.name, .string x.cmd.tag, .int .i64 x.cmd.n, u, .int .i64 x.seq, d, .bool x.same]
/-- What the map has of the first k. -/
def HasK (w : World) (l : List In) (k : Nat) (V : Int → Int → Option Value) : Prop :=
  ∀ r s, (V r s = none ∧ ∀ j, j < k → isC r s (nth l j) = false) ∨ ∃ (j : Nat) (a : Option Addr) (n c : Nat) (d : Value), j < k ∧ isC r s (nth l j) = true ∧ V r s = some (iVal (nth l j) (.slice a n c) d) ∧ Ids w d (nth l j).deps
theorem HasK.zero (w : World) (l : List In) : HasK w l 0 (fun _ _ => none) := fun r s => .inl ⟨rfl, fun j hj => by omega⟩
theorem HasK.skip {w : World} {l : List In} {k : Nat} {V : Int → Int → Option Value} (h : HasK w l k V) (hs : (nth l k).st ≠ 3) : HasK w l (k + 1) V := fun r s => by
  rcases h r s with ⟨h1, h2⟩ | ⟨j, a, n, c, d, hj, h2⟩
  · refine .inl ⟨h1, fun j hj => ?_⟩
    by_cases e : j = k
    · subst e
      rw [isC_eq]
      simp [hs]
    · exact h2 j (by omega)
  · exact .inr ⟨j, a, n, c, d, by omega, h2⟩
theorem HasK.put {w : World} {l : List In} {k : Nat} {V : Int → Int → Option Value} (h : HasK w l k V) (hs : (nth l k).st = 3) {a : Option Addr} {n c : Nat} {d : Value} (hd : Ids w d (nth l k).deps) :
    HasK w l (k + 1) (fun r s => if r = (nth l k).rep ∧ s = (nth l k).slot then some (iVal (nth l k) (.slice a n c) d) else V r s) := fun r s => by
  by_cases e : r = (nth l k).rep ∧ s = (nth l k).slot
  · refine .inr ⟨k, a, n, c, d, by omega, ?_, if_pos e, hd⟩
    rw [isC_iff]
    exact ⟨e.1.symm, e.2.symm, hs⟩
  · rcases h r s with ⟨h1, h2⟩ | ⟨j, a, n, c, d, hj, h2, h3, h4⟩
    · refine .inl ⟨(if_neg e).trans h1, fun j hj => ?_⟩
      by_cases ej : j = k
      · subst ej
        cases hc : isC r s (nth l j) with
        | false => rfl
        | true =>
          rw [isC_iff] at hc
          exact absurd ⟨hc.1.symm, hc.2.1.symm⟩ e
      · exact h2 j (by omega)
    · exact .inr ⟨j, a, n, c, d, by omega, h2, (if_neg e).trans h3, h4⟩
theorem HasK.all {w : World} {l : List In} {V : Int → Int → Option Value} (hl : instsB l = true) (h : HasK w l l.length V) : HasV w l V := fun r s _ => by
  rcases h r s with ⟨h1, h2⟩ | ⟨j, a, n, c, d, hj, h2, h3, h4⟩
  · exact .inl ⟨comB_none (i := ⟨r, s⟩) h2, h1⟩
  · refine .inr ⟨nth l j, a, n, c, d, comB_first (i := ⟨r, s⟩) hj h2 (fun i hi => ?_), h3, h4⟩
    cases hc : isC r s (nth l i) with
    | false => rfl
    | true =>
      have hs := List.pairwise_iff_getElem.1 (srtN_of_ok hl) i j (by omega) hj hi
      have ei := nth_get l i (by omega)
      have ej := nth_get l j hj
      rw [List.getElem?_eq_getElem (by omega)] at ei ej
      rw [Option.some.inj ei, Option.some.inj ej, ltN_iff] at hs
      rw [isC_iff] at hc h2
      omega
theorem graph_none (w : World) (b n : Nat) (h : GMap w b n (fun _ _ => none)) : Grf w (.map (some b)) [] :=
  ⟨b, n, _, rfl, h, fun r s _ => .inl ⟨comB_none (i := ⟨r, s⟩) (fun k hk => by simp at hk), rfl⟩⟩
/-- Of an invalid list there is no graph. -/
@[irreducible] def grL (l : List In) : List In := if instsB l then l else []
theorem grL_yes {l : List In} (h : instsB l = true) : grL l = l := by unfold grL; rw [h]; rfl
theorem grL_no {l : List In} (h : instsB l = false) : grL l = [] := by unfold grL; rw [h]; rfl
theorem grL_ok (l : List In) : instsB (grL l) = true := by
  cases h : instsB l
  · rw [grL_no h]; exact instsB_yes _ (fun j hj => by simp at hj)
  · rw [grL_yes h]; exact h
set_option maxRecDepth 100000 in
set_option maxHeartbeats 2000000 in
theorem impl_graphOf (v : Value) (l : List In) (a0 : Addr) (w : World) (hv : Insts w v l) (hS : Sent w a0) :
    Calls Tryd.prog 21 #[v] w fun e w' => (∃ u, e = .returned u ∧ Grf w' u (grL l)) ∧ Below w.heap.size w w' := by
  have VH := Lib.hid hv
  obtain ⟨h1, a, ca, rfl, hca, ha⟩ := hv
  obtain ⟨n, hn⟩ : ∃ n, l.length = n := ⟨_, rfl⟩
  have HN := Lib.hid hn
  rw [hn] at h1 ha hca VH ⊢
  have HA := Lib.hid ha
  have M0 := Lib.hid (gmap_made w)
  have A0 := Lib.hid ((Af.refl w).alloc (.map #[] 0))
  have HSN := Lib.hid (hS.later A0.out)
  have hmk := run_makeMap (P := Tryd.prog) 51 w
  clear hn ha hca hS
  go_enter Tryd.func21, Tryd.ntmps21
  go_wp2_with fail
  clear hmk
  refine (impl_insts _ l a0 _ (VH.out.later A0.out) HSN.out).mono ?_
  rintro e w1 ⟨rfl, bb⟩
  have M1 := Lib.hid (M0.out.later bb)
  have A1 := Lib.hid (A0.out.after bb)
  clear bb M0 A0 HSN
  cases hok : instsB l
  · have HGL := Lib.hid (grL_no hok)
    clear hok
    go_wp2
    go_ret
    exact ⟨⟨_, rfl, by rw [HGL.out]; exact graph_none _ _ _ M1.out⟩, A1.out⟩
  have HOK := Lib.hid hok
  have HGL := Lib.hid (grL_yes hok)
  have H18 := Lib.hid (insts_len hok)
  clear hok
  go_wp2
  go_loopw [13] (fun iv wr => ∃ (k : Nat) (V : Int → Int → Option Value), k ≤ n ∧ iv = .int .i64 k ∧ GMap wr w.heap.size k V ∧ HasK w l k V ∧ Af w wr) (fun iv _ => n - (intOf iv).toNat)
  case atStart => exact ⟨0, _, by omega, rfl, M1.out, HasK.zero w l, A1.out⟩
  case round =>
    obtain ⟨k, V, hk, rfl, hm, hh, haf⟩ := hrel
    have M := Lib.hid hm
    have HH := Lib.hid hh
    have A := Lib.hid haf
    clear hm hh haf M1 A1
    by_cases hlt : k < n
    · obtain ⟨b, o, rfl, hb, hcx⟩ := HA.out (by omega)
      obtain ⟨u, d, ccx, pp⟩ := hcx k hlt
      have PP := Lib.hid pp
      obtain ⟨⟨a1, n1, c1, rfl⟩, a2, n2, c2, rfl⟩ := pp.form
      obtain ⟨q, hq⟩ : ∃ q, nth l k = q := ⟨_, rfl⟩
      have HQ := Lib.hid hq
      have HID := Lib.hid (show Wf q.rep q.slot from Wf.of (by
        have h2 := instsB_at HOK.out k (by rw [HN.out]; exact hlt)
        rw [okIn_eq, instB_eq, hq] at h2
        simp only [Bool.and_eq_true] at h2
        exact h2.1.1))
      rw [hq] at ccx PP
      obtain ⟨e0, e1, e2, e3, e4, e5, e6, e7, e8, e9, e10, e11, e12, e13, e14, e15⟩ := ccx.below A.out hb
      have y1 : (k : Int) < (n : Int) := by omega
      have y0 : (0 : Int) ≤ (k : Int) := by omega
      clear hcx ccx pp hq
      have A2 := Lib.hid (A.out.alloc (.cells #[.int .i64 q.rep, .int .i64 q.slot, .int .i64 q.bal, .int .i64 q.vbal, .int .i64 q.st, .int .i64 q.cmd.kind, .int .i64 q.cmd.client, .int .i64 q.cmd.no, .string q.cmd.set, .string q.cmd.name, .string q.cmd.tag, .int .i64 q.cmd.n, .slice a1 n1 c1, .int .i64 q.seq, .slice a2 n2 c2, .bool q.same] 48))
      have M2 := Lib.hid (M.out.later ((Below.refl _ _).alloc (Nat.le_refl _) (.cells #[.int .i64 q.rep, .int .i64 q.slot, .int .i64 q.bal, .int .i64 q.vbal, .int .i64 q.st, .int .i64 q.cmd.kind, .int .i64 q.cmd.client, .int .i64 q.cmd.no, .string q.cmd.set, .string q.cmd.name, .string q.cmd.tag, .int .i64 q.cmd.n, .slice a1 n1 c1, .int .i64 q.seq, .slice a2 n2 c2, .bool q.same] 48)))
      by_cases hst : q.st = 3
      · have hs3 : (q.st == 3) = true := by simp [hst]
        obtain ⟨w4, hup, hm4, hg4⟩ := M2.out.put HID.out (iVal q (.slice a1 n1 c1) (.slice a2 n2 c2)) (by have := H18.out; have := HN.out; omega) (fun r' s' => rfl)
        have M4 := Lib.hid hm4
        have A4 := Lib.hid (A2.out.grow hg4 (fun j hj => by cases hj; exact Nat.le_refl _))
        have H4 := Lib.hid (HH.out.put (by rw [HQ.out]; exact hst) (a := a1) (n := n1) (c := c1) (d := .slice a2 n2 c2) (by rw [HQ.out]; exact PP.out.2.1))
        rw [HQ.out] at H4
        clear hm4 hg4 hst
        go_wp2
        go_roundw
        case rel => exact ⟨k + 1, _, by omega, by go_num, M4.out, H4.out, A4.out⟩
        case measure => simp only [intOf]; omega
      · have hs3 : (q.st == 3) = false := ine_no hst
        have H4 := Lib.hid (HH.out.skip (by rw [HQ.out]; exact hst))
        have M4 := Lib.hid (show GMap (wr.alloc (.cells #[.int .i64 q.rep, .int .i64 q.slot, .int .i64 q.bal, .int .i64 q.vbal, .int .i64 q.st, .int .i64 q.cmd.kind, .int .i64 q.cmd.client, .int .i64 q.cmd.no, .string q.cmd.set, .string q.cmd.name, .string q.cmd.tag, .int .i64 q.cmd.n, .slice a1 n1 c1, .int .i64 q.seq, .slice a2 n2 c2, .bool q.same] 48)) w.heap.size (k + 1) V from by
          obtain ⟨D, g1, g2⟩ := M2.out
          exact ⟨D, g1.mono (by omega), g2⟩)
        clear hst
        go_wp2
        go_roundw
        case rel => exact ⟨k + 1, _, by omega, by go_num, M4.out, H4.out, A2.out⟩
        case measure => simp only [intOf]; omega
    · obtain rfl : k = n := by omega
      go_wp2
      go_ret
      exact ⟨⟨_, rfl, by rw [HGL.out]; exact ⟨_, _, V, rfl, M.out, (HasK.all HOK.out (by rw [HN.out]; exact HH.out)).later A.out⟩⟩, A.out⟩
end Go.Proofs.YtlbebeedkcdgpaaDoor
/- Reach, whole: the program's and the model's. -/
namespace Go.Proofs.YtlbebeedkcdgpaaDoor
open Go.RowKit Go.PlainAid
set_option linter.unusedVariables false

theorem isR_nil (i : Ii) : IsR [] i [] := IsR.of (l := []) (by simp [Srt]) (fun y hy => by rw [dps_none (comB_none (fun k hk => by simp at hk))] at hy; exact hy) (fun y hy => by simp at hy)
set_option maxRecDepth 100000 in
set_option maxHeartbeats 2000000 in
theorem impl_Reach (v : Value) (l : List In) (r s : Int) (a0 : Addr) (w : World) (hv : Insts w v l) (hS : Sent w a0) (hwf : Wf r s) :
    Calls Tryd.prog 9 #[v, .agg #[.int .i64 r, .int .i64 s]] w fun e w' => (∃ u X, e = .returned u ∧ IdRow w' w.heap.size u X ∧ IsR (grL l) ⟨r, s⟩ X) ∧ Below w.heap.size w w' := by
  have VH := Lib.hid hv
  have HS := Lib.hid hS
  have IB := Lib.hid (Bx.new w 30 #[.int .i64 r, .int .i64 s] _ rfl)
  have AF := Lib.hid ((Af.refl w).alloc (.cells #[.int .i64 r, .int .i64 s] 30))
  obtain ⟨va, vn, vc, rfl⟩ := hv.form
  clear hv hS
  obtain ⟨i0, i1⟩ := IB.out.c2a
  go_enter Tryd.func9, Tryd.ntmps9
  go_wp2_with fail
  go_region_held3 (fun w' => w'.cell? ⟨w.heap.size, 0, none⟩ = some (.int .i64 r) ∧ w'.cell? ⟨w.heap.size, 1, none⟩ = some (.int .i64 s)) (first | (with_reducible exact ⟨i0, i1⟩) | (with_reducible exact CY.out) | go_keep)
    (first
    | (go_at_call 21; have IB := Lib.hid IB.out.drew; have AF := Lib.hid AF.out.drew; refine (impl_graphOf _ l a0 _ (VH.out.later AF.out) (HS.out.later AF.out)).mono ?_; rintro e w3 ⟨⟨u3, rfl, hg⟩, bb⟩; obtain ⟨gb, gn, gV, rfl, hg1, hg2⟩ := hg; have GG := Lib.hid (show Grf w3 (.map (some gb)) (grL l) from ⟨gb, gn, gV, rfl, hg1, hg2⟩); have IB := Lib.hid (IB.out.after bb); have AF := Lib.hid (AF.out.after bb); have CY := Lib.hid IB.out.c2a; clear bb hg1 hg2)
    | (go_at_call 22; refine (impl_reachG (grL l) (grL_ok l) _ r s _ GG.out hwf).mono ?_; rintro e w4 ⟨⟨u4, X4, rfl, hr4, hi4⟩, bb⟩; obtain ⟨a4, c4, rfl⟩ := hr4.form; have R4 := Lib.hid (hr4.mono AF.out.size); have I4 := Lib.hid hi4; have IB := Lib.hid (IB.out.after bb); have AF := Lib.hid (AF.out.after bb); have CY := Lib.hid IB.out.c2a; clear bb hr4 hi4))
  go_wp2
  go_ret
  exact ⟨⟨_, _, rfl, R4.out, I4.out⟩, AF.out⟩
set_option maxRecDepth 100000 in
set_option maxHeartbeats 2000000 in
theorem spec_Reach (v : Value) (l : List In) (r s : Int) (w : World) (hv : Insts w v l) :
    Calls Tryd.prog 6 #[v, .agg #[.int .i64 r, .int .i64 s]] w fun e w' => (∃ u X, e = .returned u ∧ IdRow w' w.heap.size u X ∧ IsR (grL l) ⟨r, s⟩ X) ∧ Below w.heap.size w w' := by
  have VH := Lib.hid hv
  have IB := Lib.hid (Bx.new w 30 #[.int .i64 r, .int .i64 s] _ rfl)
  have AF := Lib.hid ((Af.refl w).alloc (.cells #[.int .i64 r, .int .i64 s] 30))
  obtain ⟨va, vn, vc, rfl⟩ := hv.form
  clear hv
  go_enter Tryd.func6, Tryd.ntmps6
  go_wp2_with fail
  refine (spec_insts _ l _ (VH.out.later AF.out)).mono ?_
  rintro e w1 ⟨rfl, bb⟩
  have IB := Lib.hid (IB.out.after bb)
  have AF := Lib.hid (AF.out.after bb)
  clear bb
  cases hok : instsB l
  · have HGL := Lib.hid (grL_no hok)
    clear hok
    go_wp2
    go_ret
    exact ⟨⟨_, [], rfl, idRow_new w1 w.heap.size AF.out.size, by rw [HGL.out]; exact isR_nil _⟩, AF.out.alloc _⟩
  have HGL := Lib.hid (grL_yes hok)
  have HOK := Lib.hid hok
  obtain ⟨i0, i1⟩ := IB.out.c2a
  clear hok
  go_wp2_with fail
  clear i0 i1
  refine (spec_l12reach _ l r s _ (VH.out.later AF.out) HOK.out).mono ?_
  rintro e w2 ⟨⟨u2, X2, rfl, hr2, hi2⟩, bb⟩
  obtain ⟨a2, c2, rfl⟩ := hr2.form
  have R2 := Lib.hid (hr2.mono AF.out.size)
  have I2 := Lib.hid hi2
  have AF := Lib.hid (AF.out.after bb)
  clear bb hr2 hi2
  go_wp2
  go_ret
  exact ⟨⟨_, _, rfl, R2.out, by rw [HGL.out]; exact I2.out⟩, AF.out⟩
end Go.Proofs.YtlbebeedkcdgpaaDoor
