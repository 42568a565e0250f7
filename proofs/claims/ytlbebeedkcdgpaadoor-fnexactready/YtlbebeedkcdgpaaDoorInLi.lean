/- InstsOk: the program's loop. -/
import Derived.Test.YtlbebeedkcdgpaaDoorInL
namespace Go.Proofs.YtlbebeedkcdgpaaDoor
open Go.RowKit Go.PlainAid
set_option linter.unusedVariables false

set_option maxRecDepth 100000 in
set_option maxHeartbeats 4000000 in
theorem impl_orderedI (v : Value) (l : List In) (a0 : Addr) (w : World) (hv : Insts w v l) (hS : Sent w a0) :
    Calls Tryd.prog 53 #[v, .func (.func 54) #[] #[], .func (.func 55) #[] #[]] w fun e w' => e = .returned (.bool (instsB l)) ∧ Below w.heap.size w w' := by
  obtain ⟨h1, a, ca, rfl, hca, ha⟩ := hv
  generalize hn : l.length = n at h1 ha hca
  have HN := Lib.hid hn
  have HA := Lib.hid ha
  have HS := Lib.hid hS
  clear hS
  clear hn ha hca
  go_enter Tryd.func53, Tryd.ntmps53
  go_wp2
  go_loopw [11] (fun i wr => ∃ k : Nat, k ≤ n ∧ i = .int .i64 k ∧ (∀ j, j < k → okIn l j = true) ∧ Below w.heap.size w wr) (fun i _ => n - (intOf i).toNat)
  case atStart => exact ⟨0, by omega, rfl, fun j hj => by omega, Below.refl _ _⟩
  case round =>
    obtain ⟨k, hk, rfl, he, hbw⟩ := hrel
    have HE := Lib.hid he
    have HBW := Lib.hid hbw
    clear he hbw
    by_cases hlt : k < n
    · obtain ⟨x, o, rfl, hx, hcx⟩ := HA.out (by omega)
      obtain ⟨u, d, cc, pp⟩ := hcx k hlt
      have hxr : x < wr.heap.size := Nat.lt_of_lt_of_le hx HBW.out.size
      have y1 : (k : Int) < (n : Int) := by omega
      have y0 : (0 : Int) ≤ (k : Int) := by omega
      have CK := Lib.hid (cc.below HBW.out hx)
      have PK := Lib.hid (pp.later HBW.out)
      obtain ⟨⟨a1, n1, c1, rfl⟩, a2, n2, c2, rfl⟩ := pp.form
      have HCX := Lib.hid hcx
      clear cc pp hcx
      obtain ⟨q, hq⟩ : ∃ q, nth l k = q := ⟨_, rfl⟩
      have HQ := Lib.hid hq
      rw [hq] at CK PK
      clear hq
      have Z := Lib.hid (Bx.new wr 48 #[.int .i64 q.rep, .int .i64 q.slot, .int .i64 q.bal, .int .i64 q.vbal, .int .i64 q.st, .int .i64 q.cmd.kind, .int .i64 q.cmd.client, .int .i64 q.cmd.no, .string q.cmd.set, .string q.cmd.name, .string q.cmd.tag, .int .i64 q.cmd.n, .slice a1 n1 c1, .int .i64 q.seq, .slice a2 n2 c2, .bool q.same] _ rfl)
      have PZ := Lib.hid (PK.out.alloc (.cells #[.int .i64 q.rep, .int .i64 q.slot, .int .i64 q.bal, .int .i64 q.vbal, .int .i64 q.st, .int .i64 q.cmd.kind, .int .i64 q.cmd.client, .int .i64 q.cmd.no, .string q.cmd.set, .string q.cmd.name, .string q.cmd.tag, .int .i64 q.cmd.n, .slice a1 n1 c1, .int .i64 q.seq, .slice a2 n2 c2, .bool q.same] 48))
      have SZ := Lib.hid ((HS.out.later HBW.out).alloc (.cells #[.int .i64 q.rep, .int .i64 q.slot, .int .i64 q.bal, .int .i64 q.vbal, .int .i64 q.st, .int .i64 q.cmd.kind, .int .i64 q.cmd.client, .int .i64 q.cmd.no, .string q.cmd.set, .string q.cmd.name, .string q.cmd.tag, .int .i64 q.cmd.n, .slice a1 n1 c1, .int .i64 q.seq, .slice a2 n2 c2, .bool q.same] 48))
      obtain ⟨m0, m1, m2, m3, m4, m5, m6, m7, m8, m9, m10, m11, m12, m13, m14, m15⟩ := CK.out
      cases hid : instB q
      · have HK := Lib.hid (show okIn l k = false by rw [okIn_eq, HQ.out, hid]; rfl)
        have HC1 := Lib.hid (fun W (h : LatI (wr.alloc (.cells #[.int .i64 q.rep, .int .i64 q.slot, .int .i64 q.bal, .int .i64 q.vbal, .int .i64 q.st, .int .i64 q.cmd.kind, .int .i64 q.cmd.client, .int .i64 q.cmd.no, .string q.cmd.set, .string q.cmd.name, .string q.cmd.tag, .int .i64 q.cmd.n, .slice a1 n1 c1, .int .i64 q.seq, .slice a2 n2 c2, .bool q.same] 48)) W) => l_impl_inst q _ _ a0 _ hid (wr.alloc (.cells #[.int .i64 q.rep, .int .i64 q.slot, .int .i64 q.bal, .int .i64 q.vbal, .int .i64 q.st, .int .i64 q.cmd.kind, .int .i64 q.cmd.client, .int .i64 q.cmd.no, .string q.cmd.set, .string q.cmd.name, .string q.cmd.tag, .int .i64 q.cmd.n, .slice a1 n1 c1, .int .i64 q.seq, .slice a2 n2 c2, .bool q.same] 48)) W PZ.out SZ.out h)
        clear hid
        go_wp2_with fail
        clear m0 m1 m2 m3 m4 m5 m6 m7 m8 m9 m10 m11 m12 m13 m14 m15
        have HL := Lib.hid (fun W (h : LatI (wr.alloc (.cells #[.int .i64 q.rep, .int .i64 q.slot, .int .i64 q.bal, .int .i64 q.vbal, .int .i64 q.st, .int .i64 q.cmd.kind, .int .i64 q.cmd.client, .int .i64 q.cmd.no, .string q.cmd.set, .string q.cmd.name, .string q.cmd.tag, .int .i64 q.cmd.n, .slice a1 n1 c1, .int .i64 q.seq, .slice a2 n2 c2, .bool q.same] 48)) W) => (show W.cell? ⟨wr.heap.size, 0, none⟩ = some (.int .i64 q.rep) ∧ W.cell? ⟨wr.heap.size, 1, none⟩ = some (.int .i64 q.slot) ∧ W.cell? ⟨wr.heap.size, 2, none⟩ = some (.int .i64 q.bal) ∧ W.cell? ⟨wr.heap.size, 3, none⟩ = some (.int .i64 q.vbal) ∧ W.cell? ⟨wr.heap.size, 4, none⟩ = some (.int .i64 q.st) ∧ W.cell? ⟨wr.heap.size, 5, none⟩ = some (.int .i64 q.cmd.kind) ∧ W.cell? ⟨wr.heap.size, 6, none⟩ = some (.int .i64 q.cmd.client) ∧ W.cell? ⟨wr.heap.size, 7, none⟩ = some (.int .i64 q.cmd.no) ∧ W.cell? ⟨wr.heap.size, 8, none⟩ = some (.string q.cmd.set) ∧ W.cell? ⟨wr.heap.size, 9, none⟩ = some (.string q.cmd.name) ∧ W.cell? ⟨wr.heap.size, 10, none⟩ = some (.string q.cmd.tag) ∧ W.cell? ⟨wr.heap.size, 11, none⟩ = some (.int .i64 q.cmd.n) ∧ W.cell? ⟨wr.heap.size, 12, none⟩ = some (.slice a1 n1 c1) ∧ W.cell? ⟨wr.heap.size, 13, none⟩ = some (.int .i64 q.seq) ∧ W.cell? ⟨wr.heap.size, 14, none⟩ = some (.slice a2 n2 c2) ∧ W.cell? ⟨wr.heap.size, 15, none⟩ = some (.bool q.same) from (Z.out.after h).c16))
        refine wp_region_quiet (C := LatI (wr.alloc (.cells #[.int .i64 q.rep, .int .i64 q.slot, .int .i64 q.bal, .int .i64 q.vbal, .int .i64 q.st, .int .i64 q.cmd.kind, .int .i64 q.cmd.client, .int .i64 q.cmd.no, .string q.cmd.set, .string q.cmd.name, .string q.cmd.tag, .int .i64 q.cmd.n, .slice a1 n1 c1, .int .i64 q.seq, .slice a2 n2 c2, .bool q.same] 48))) (by kernel_rfl) (by kernel_rfl) (show LatI (wr.alloc (.cells #[.int .i64 q.rep, .int .i64 q.slot, .int .i64 q.bal, .int .i64 q.vbal, .int .i64 q.st, .int .i64 q.cmd.kind, .int .i64 q.cmd.client, .int .i64 q.cmd.no, .string q.cmd.set, .string q.cmd.name, .string q.cmd.tag, .int .i64 q.cmd.n, .slice a1 n1 c1, .int .i64 q.seq, .slice a2 n2 c2, .bool q.same] 48)) (wr.alloc (.cells #[.int .i64 q.rep, .int .i64 q.slot, .int .i64 q.bal, .int .i64 q.vbal, .int .i64 q.st, .int .i64 q.cmd.kind, .int .i64 q.cmd.client, .int .i64 q.cmd.no, .string q.cmd.set, .string q.cmd.name, .string q.cmd.tag, .int .i64 q.cmd.n, .slice a1 n1 c1, .int .i64 q.seq, .slice a2 n2 c2, .bool q.same] 48)).drew from Below.drew (Below.refl _ _)) ?_
        dsimp only
        repeat (first | go_big_quiet_skip | (go_big_quiet_want; go_big_quiet_op; (first | go_big_quiet_on | (refine ⟨_, fun _ _ => rfl, ?_⟩; go_big_quiet_on) | (refine ⟨.agg #[.int .i64 q.rep, .int .i64 q.slot, .int .i64 q.bal, .int .i64 q.vbal, .int .i64 q.st, .int .i64 q.cmd.kind, .int .i64 q.cmd.client, .int .i64 q.cmd.no, .string q.cmd.set, .string q.cmd.name, .string q.cmd.tag, .int .i64 q.cmd.n, .slice a1 n1 c1, .int .i64 q.seq, .slice a2 n2 c2, .bool q.same], ?_, ?_⟩; intro w' hw'; obtain ⟨e0, e1, e2, e3, e4, e5, e6, e7, e8, e9, e10, e11, e12, e13, e14, e15⟩ := HL.out w' hw'; simp [e0, e1, e2, e3, e4, e5, e6, e7, e8, e9, e10, e11, e12, e13, e14, e15, Result.andThen]; go_big_quiet_on) | (refine ⟨_, fun w' hw' => HC1.out w' hw', ?_⟩; go_big_quiet_on))))
        refine wpQuiet_nil ?_
        intro w2 L2
        have HB2 := Lib.hid ((Af.alloc (show Af w wr from HBW.out) _).after L2)
        clear L2 HL
        go_wp2
        go_ret
        exact ⟨by rw [instsB_no l k (by rw [HN.out]; exact hlt) HK.out]; rfl, HB2.out⟩
      · by_cases hk0 : k = 0
        · have HK := Lib.hid (show okIn l k = true by rw [okIn_eq, HQ.out, hid, decide_eq_true hk0]; rfl)
          have hz : decide (0 < k) = false := dec_f (by omega)
          clear hk0
          have HC1 := Lib.hid (fun W (h : LatI (wr.alloc (.cells #[.int .i64 q.rep, .int .i64 q.slot, .int .i64 q.bal, .int .i64 q.vbal, .int .i64 q.st, .int .i64 q.cmd.kind, .int .i64 q.cmd.client, .int .i64 q.cmd.no, .string q.cmd.set, .string q.cmd.name, .string q.cmd.tag, .int .i64 q.cmd.n, .slice a1 n1 c1, .int .i64 q.seq, .slice a2 n2 c2, .bool q.same] 48)) W) => l_impl_inst q _ _ a0 _ hid (wr.alloc (.cells #[.int .i64 q.rep, .int .i64 q.slot, .int .i64 q.bal, .int .i64 q.vbal, .int .i64 q.st, .int .i64 q.cmd.kind, .int .i64 q.cmd.client, .int .i64 q.cmd.no, .string q.cmd.set, .string q.cmd.name, .string q.cmd.tag, .int .i64 q.cmd.n, .slice a1 n1 c1, .int .i64 q.seq, .slice a2 n2 c2, .bool q.same] 48)) W PZ.out SZ.out h)
          clear hid
          go_wp2_with fail
          clear m0 m1 m2 m3 m4 m5 m6 m7 m8 m9 m10 m11 m12 m13 m14 m15
          have HL := Lib.hid (fun W (h : LatI (wr.alloc (.cells #[.int .i64 q.rep, .int .i64 q.slot, .int .i64 q.bal, .int .i64 q.vbal, .int .i64 q.st, .int .i64 q.cmd.kind, .int .i64 q.cmd.client, .int .i64 q.cmd.no, .string q.cmd.set, .string q.cmd.name, .string q.cmd.tag, .int .i64 q.cmd.n, .slice a1 n1 c1, .int .i64 q.seq, .slice a2 n2 c2, .bool q.same] 48)) W) => (show W.cell? ⟨wr.heap.size, 0, none⟩ = some (.int .i64 q.rep) ∧ W.cell? ⟨wr.heap.size, 1, none⟩ = some (.int .i64 q.slot) ∧ W.cell? ⟨wr.heap.size, 2, none⟩ = some (.int .i64 q.bal) ∧ W.cell? ⟨wr.heap.size, 3, none⟩ = some (.int .i64 q.vbal) ∧ W.cell? ⟨wr.heap.size, 4, none⟩ = some (.int .i64 q.st) ∧ W.cell? ⟨wr.heap.size, 5, none⟩ = some (.int .i64 q.cmd.kind) ∧ W.cell? ⟨wr.heap.size, 6, none⟩ = some (.int .i64 q.cmd.client) ∧ W.cell? ⟨wr.heap.size, 7, none⟩ = some (.int .i64 q.cmd.no) ∧ W.cell? ⟨wr.heap.size, 8, none⟩ = some (.string q.cmd.set) ∧ W.cell? ⟨wr.heap.size, 9, none⟩ = some (.string q.cmd.name) ∧ W.cell? ⟨wr.heap.size, 10, none⟩ = some (.string q.cmd.tag) ∧ W.cell? ⟨wr.heap.size, 11, none⟩ = some (.int .i64 q.cmd.n) ∧ W.cell? ⟨wr.heap.size, 12, none⟩ = some (.slice a1 n1 c1) ∧ W.cell? ⟨wr.heap.size, 13, none⟩ = some (.int .i64 q.seq) ∧ W.cell? ⟨wr.heap.size, 14, none⟩ = some (.slice a2 n2 c2) ∧ W.cell? ⟨wr.heap.size, 15, none⟩ = some (.bool q.same) from (Z.out.after h).c16))
          refine wp_region_quiet (C := LatI (wr.alloc (.cells #[.int .i64 q.rep, .int .i64 q.slot, .int .i64 q.bal, .int .i64 q.vbal, .int .i64 q.st, .int .i64 q.cmd.kind, .int .i64 q.cmd.client, .int .i64 q.cmd.no, .string q.cmd.set, .string q.cmd.name, .string q.cmd.tag, .int .i64 q.cmd.n, .slice a1 n1 c1, .int .i64 q.seq, .slice a2 n2 c2, .bool q.same] 48))) (by kernel_rfl) (by kernel_rfl) (show LatI (wr.alloc (.cells #[.int .i64 q.rep, .int .i64 q.slot, .int .i64 q.bal, .int .i64 q.vbal, .int .i64 q.st, .int .i64 q.cmd.kind, .int .i64 q.cmd.client, .int .i64 q.cmd.no, .string q.cmd.set, .string q.cmd.name, .string q.cmd.tag, .int .i64 q.cmd.n, .slice a1 n1 c1, .int .i64 q.seq, .slice a2 n2 c2, .bool q.same] 48)) (wr.alloc (.cells #[.int .i64 q.rep, .int .i64 q.slot, .int .i64 q.bal, .int .i64 q.vbal, .int .i64 q.st, .int .i64 q.cmd.kind, .int .i64 q.cmd.client, .int .i64 q.cmd.no, .string q.cmd.set, .string q.cmd.name, .string q.cmd.tag, .int .i64 q.cmd.n, .slice a1 n1 c1, .int .i64 q.seq, .slice a2 n2 c2, .bool q.same] 48)).drew from Below.drew (Below.refl _ _)) ?_
          dsimp only
          repeat (first | go_big_quiet_skip | (go_big_quiet_want; go_big_quiet_op; (first | go_big_quiet_on | (refine ⟨_, fun _ _ => rfl, ?_⟩; go_big_quiet_on) | (refine ⟨.agg #[.int .i64 q.rep, .int .i64 q.slot, .int .i64 q.bal, .int .i64 q.vbal, .int .i64 q.st, .int .i64 q.cmd.kind, .int .i64 q.cmd.client, .int .i64 q.cmd.no, .string q.cmd.set, .string q.cmd.name, .string q.cmd.tag, .int .i64 q.cmd.n, .slice a1 n1 c1, .int .i64 q.seq, .slice a2 n2 c2, .bool q.same], ?_, ?_⟩; intro w' hw'; obtain ⟨e0, e1, e2, e3, e4, e5, e6, e7, e8, e9, e10, e11, e12, e13, e14, e15⟩ := HL.out w' hw'; simp [e0, e1, e2, e3, e4, e5, e6, e7, e8, e9, e10, e11, e12, e13, e14, e15, Result.andThen]; go_big_quiet_on) | (refine ⟨_, fun w' hw' => HC1.out w' hw', ?_⟩; go_big_quiet_on))))
          refine wpQuiet_nil ?_
          intro w2 L2
          have HB2 := Lib.hid ((Af.alloc (show Af w wr from HBW.out) _).after L2)
          clear L2 HL
          go_wp2
          go_roundw
          case rel =>
            refine ⟨k + 1, by omega, by go_num, fun j hj => ?_, HB2.out⟩
            by_cases e : j = k
            · subst e; exact HK.out
            · exact HE.out j (by omega)
          case measure => simp only [intOf]; omega
        · obtain ⟨u', d', cc, pp⟩ := HCX.out (k - 1) (by omega)
          have hz : decide (0 < k) = true := dec_t (by omega)
          have y2 : (0 : Int) ≤ (k : Int) - 1 := by omega
          have y3 : (k : Int) - 1 < (n : Int) := by omega
          have y4 : ((k : Int) - 1).toNat = k - 1 := by omega
          have CP := Lib.hid (cc.below HBW.out hx)
          have PP := Lib.hid (pp.later HBW.out)
          obtain ⟨⟨a3, n3, c3, rfl⟩, a4, n4, c4, rfl⟩ := pp.form
          obtain ⟨p, hp⟩ : ∃ p, nth l (k - 1) = p := ⟨_, rfl⟩
          have HPE := Lib.hid hp
          rw [hp] at CP PP
          clear cc pp hp
          cases hlt2 : ltB p.rep p.slot q.rep q.slot
          · have HK := Lib.hid (show okIn l k = false by rw [okIn_succ _ _ (by omega), HQ.out, HPE.out, hid, hlt2]; rfl)
            clear hk0
            have HC1 := Lib.hid (fun W (h : LatI (wr.alloc (.cells #[.int .i64 q.rep, .int .i64 q.slot, .int .i64 q.bal, .int .i64 q.vbal, .int .i64 q.st, .int .i64 q.cmd.kind, .int .i64 q.cmd.client, .int .i64 q.cmd.no, .string q.cmd.set, .string q.cmd.name, .string q.cmd.tag, .int .i64 q.cmd.n, .slice a1 n1 c1, .int .i64 q.seq, .slice a2 n2 c2, .bool q.same] 48)) W) => l_impl_inst q _ _ a0 _ hid (wr.alloc (.cells #[.int .i64 q.rep, .int .i64 q.slot, .int .i64 q.bal, .int .i64 q.vbal, .int .i64 q.st, .int .i64 q.cmd.kind, .int .i64 q.cmd.client, .int .i64 q.cmd.no, .string q.cmd.set, .string q.cmd.name, .string q.cmd.tag, .int .i64 q.cmd.n, .slice a1 n1 c1, .int .i64 q.seq, .slice a2 n2 c2, .bool q.same] 48)) W PZ.out SZ.out h)
            have HC2 := Lib.hid (fun W (h : LatI (wr.alloc (.cells #[.int .i64 q.rep, .int .i64 q.slot, .int .i64 q.bal, .int .i64 q.vbal, .int .i64 q.st, .int .i64 q.cmd.kind, .int .i64 q.cmd.client, .int .i64 q.cmd.no, .string q.cmd.set, .string q.cmd.name, .string q.cmd.tag, .int .i64 q.cmd.n, .slice a1 n1 c1, .int .i64 q.seq, .slice a2 n2 c2, .bool q.same] 48)) W) => l_impl_ilt p q _ _ _ _ _ hlt2 (wr.alloc (.cells #[.int .i64 q.rep, .int .i64 q.slot, .int .i64 q.bal, .int .i64 q.vbal, .int .i64 q.st, .int .i64 q.cmd.kind, .int .i64 q.cmd.client, .int .i64 q.cmd.no, .string q.cmd.set, .string q.cmd.name, .string q.cmd.tag, .int .i64 q.cmd.n, .slice a1 n1 c1, .int .i64 q.seq, .slice a2 n2 c2, .bool q.same] 48)) W (PP.out.alloc _) PZ.out h)
            clear hid hlt2
            go_wp2_with fail
            clear m0 m1 m2 m3 m4 m5 m6 m7 m8 m9 m10 m11 m12 m13 m14 m15
            have HL := Lib.hid (fun W (h : LatI (wr.alloc (.cells #[.int .i64 q.rep, .int .i64 q.slot, .int .i64 q.bal, .int .i64 q.vbal, .int .i64 q.st, .int .i64 q.cmd.kind, .int .i64 q.cmd.client, .int .i64 q.cmd.no, .string q.cmd.set, .string q.cmd.name, .string q.cmd.tag, .int .i64 q.cmd.n, .slice a1 n1 c1, .int .i64 q.seq, .slice a2 n2 c2, .bool q.same] 48)) W) => (show W.cell? ⟨wr.heap.size, 0, none⟩ = some (.int .i64 q.rep) ∧ W.cell? ⟨wr.heap.size, 1, none⟩ = some (.int .i64 q.slot) ∧ W.cell? ⟨wr.heap.size, 2, none⟩ = some (.int .i64 q.bal) ∧ W.cell? ⟨wr.heap.size, 3, none⟩ = some (.int .i64 q.vbal) ∧ W.cell? ⟨wr.heap.size, 4, none⟩ = some (.int .i64 q.st) ∧ W.cell? ⟨wr.heap.size, 5, none⟩ = some (.int .i64 q.cmd.kind) ∧ W.cell? ⟨wr.heap.size, 6, none⟩ = some (.int .i64 q.cmd.client) ∧ W.cell? ⟨wr.heap.size, 7, none⟩ = some (.int .i64 q.cmd.no) ∧ W.cell? ⟨wr.heap.size, 8, none⟩ = some (.string q.cmd.set) ∧ W.cell? ⟨wr.heap.size, 9, none⟩ = some (.string q.cmd.name) ∧ W.cell? ⟨wr.heap.size, 10, none⟩ = some (.string q.cmd.tag) ∧ W.cell? ⟨wr.heap.size, 11, none⟩ = some (.int .i64 q.cmd.n) ∧ W.cell? ⟨wr.heap.size, 12, none⟩ = some (.slice a1 n1 c1) ∧ W.cell? ⟨wr.heap.size, 13, none⟩ = some (.int .i64 q.seq) ∧ W.cell? ⟨wr.heap.size, 14, none⟩ = some (.slice a2 n2 c2) ∧ W.cell? ⟨wr.heap.size, 15, none⟩ = some (.bool q.same) from (Z.out.after h).c16))
            have HP := Lib.hid (fun W (h : LatI (wr.alloc (.cells #[.int .i64 q.rep, .int .i64 q.slot, .int .i64 q.bal, .int .i64 q.vbal, .int .i64 q.st, .int .i64 q.cmd.kind, .int .i64 q.cmd.client, .int .i64 q.cmd.no, .string q.cmd.set, .string q.cmd.name, .string q.cmd.tag, .int .i64 q.cmd.n, .slice a1 n1 c1, .int .i64 q.seq, .slice a2 n2 c2, .bool q.same] 48)) W) => ((CP.out.below ((Below.refl _ _).alloc (Nat.le_refl _) (.cells #[.int .i64 q.rep, .int .i64 q.slot, .int .i64 q.bal, .int .i64 q.vbal, .int .i64 q.st, .int .i64 q.cmd.kind, .int .i64 q.cmd.client, .int .i64 q.cmd.no, .string q.cmd.set, .string q.cmd.name, .string q.cmd.tag, .int .i64 q.cmd.n, .slice a1 n1 c1, .int .i64 q.seq, .slice a2 n2 c2, .bool q.same] 48)) hxr).below h (by simp; omega)))
            refine wp_region_quiet (C := LatI (wr.alloc (.cells #[.int .i64 q.rep, .int .i64 q.slot, .int .i64 q.bal, .int .i64 q.vbal, .int .i64 q.st, .int .i64 q.cmd.kind, .int .i64 q.cmd.client, .int .i64 q.cmd.no, .string q.cmd.set, .string q.cmd.name, .string q.cmd.tag, .int .i64 q.cmd.n, .slice a1 n1 c1, .int .i64 q.seq, .slice a2 n2 c2, .bool q.same] 48))) (by kernel_rfl) (by kernel_rfl) (show LatI (wr.alloc (.cells #[.int .i64 q.rep, .int .i64 q.slot, .int .i64 q.bal, .int .i64 q.vbal, .int .i64 q.st, .int .i64 q.cmd.kind, .int .i64 q.cmd.client, .int .i64 q.cmd.no, .string q.cmd.set, .string q.cmd.name, .string q.cmd.tag, .int .i64 q.cmd.n, .slice a1 n1 c1, .int .i64 q.seq, .slice a2 n2 c2, .bool q.same] 48)) (wr.alloc (.cells #[.int .i64 q.rep, .int .i64 q.slot, .int .i64 q.bal, .int .i64 q.vbal, .int .i64 q.st, .int .i64 q.cmd.kind, .int .i64 q.cmd.client, .int .i64 q.cmd.no, .string q.cmd.set, .string q.cmd.name, .string q.cmd.tag, .int .i64 q.cmd.n, .slice a1 n1 c1, .int .i64 q.seq, .slice a2 n2 c2, .bool q.same] 48)).drew from Below.drew (Below.refl _ _)) ?_
            dsimp only
            repeat (first | go_big_quiet_skip | (go_big_quiet_want; go_big_quiet_op; (first | go_big_quiet_on | (refine ⟨_, fun _ _ => rfl, ?_⟩; go_big_quiet_on) | (refine ⟨.agg #[.int .i64 q.rep, .int .i64 q.slot, .int .i64 q.bal, .int .i64 q.vbal, .int .i64 q.st, .int .i64 q.cmd.kind, .int .i64 q.cmd.client, .int .i64 q.cmd.no, .string q.cmd.set, .string q.cmd.name, .string q.cmd.tag, .int .i64 q.cmd.n, .slice a1 n1 c1, .int .i64 q.seq, .slice a2 n2 c2, .bool q.same], ?_, ?_⟩; intro w' hw'; obtain ⟨e0, e1, e2, e3, e4, e5, e6, e7, e8, e9, e10, e11, e12, e13, e14, e15⟩ := HL.out w' hw'; simp [e0, e1, e2, e3, e4, e5, e6, e7, e8, e9, e10, e11, e12, e13, e14, e15, Result.andThen]; go_big_quiet_on) | (refine ⟨.agg #[.int .i64 p.rep, .int .i64 p.slot, .int .i64 p.bal, .int .i64 p.vbal, .int .i64 p.st, .int .i64 p.cmd.kind, .int .i64 p.cmd.client, .int .i64 p.cmd.no, .string p.cmd.set, .string p.cmd.name, .string p.cmd.tag, .int .i64 p.cmd.n, .slice a3 n3 c3, .int .i64 p.seq, .slice a4 n4 c4, .bool p.same], ?_, ?_⟩; intro w' hw'; obtain ⟨p0, p1, p2, p3, p4, p5, p6, p7, p8, p9, p10, p11, p12, p13, p14, p15⟩ := HP.out w' hw'; simp [p0, p1, p2, p3, p4, p5, p6, p7, p8, p9, p10, p11, p12, p13, p14, p15, Result.andThen]; go_big_quiet_on) | (refine ⟨_, fun w' hw' => HC1.out w' hw', ?_⟩; go_big_quiet_on) | (refine ⟨_, fun w' hw' => HC2.out w' hw', ?_⟩; go_big_quiet_on))))
            refine wpQuiet_nil ?_
            intro w2 L2
            have HB2 := Lib.hid ((Af.alloc (show Af w wr from HBW.out) _).after L2)
            clear L2 HL
            go_wp2
            go_ret
            exact ⟨by rw [instsB_no l k (by rw [HN.out]; exact hlt) HK.out]; rfl, HB2.out⟩
          · have HK := Lib.hid (show okIn l k = true by rw [okIn_succ _ _ (by omega), HQ.out, HPE.out, hid, hlt2]; rfl)
            clear hk0
            have HC1 := Lib.hid (fun W (h : LatI (wr.alloc (.cells #[.int .i64 q.rep, .int .i64 q.slot, .int .i64 q.bal, .int .i64 q.vbal, .int .i64 q.st, .int .i64 q.cmd.kind, .int .i64 q.cmd.client, .int .i64 q.cmd.no, .string q.cmd.set, .string q.cmd.name, .string q.cmd.tag, .int .i64 q.cmd.n, .slice a1 n1 c1, .int .i64 q.seq, .slice a2 n2 c2, .bool q.same] 48)) W) => l_impl_inst q _ _ a0 _ hid (wr.alloc (.cells #[.int .i64 q.rep, .int .i64 q.slot, .int .i64 q.bal, .int .i64 q.vbal, .int .i64 q.st, .int .i64 q.cmd.kind, .int .i64 q.cmd.client, .int .i64 q.cmd.no, .string q.cmd.set, .string q.cmd.name, .string q.cmd.tag, .int .i64 q.cmd.n, .slice a1 n1 c1, .int .i64 q.seq, .slice a2 n2 c2, .bool q.same] 48)) W PZ.out SZ.out h)
            have HC2 := Lib.hid (fun W (h : LatI (wr.alloc (.cells #[.int .i64 q.rep, .int .i64 q.slot, .int .i64 q.bal, .int .i64 q.vbal, .int .i64 q.st, .int .i64 q.cmd.kind, .int .i64 q.cmd.client, .int .i64 q.cmd.no, .string q.cmd.set, .string q.cmd.name, .string q.cmd.tag, .int .i64 q.cmd.n, .slice a1 n1 c1, .int .i64 q.seq, .slice a2 n2 c2, .bool q.same] 48)) W) => l_impl_ilt p q _ _ _ _ _ hlt2 (wr.alloc (.cells #[.int .i64 q.rep, .int .i64 q.slot, .int .i64 q.bal, .int .i64 q.vbal, .int .i64 q.st, .int .i64 q.cmd.kind, .int .i64 q.cmd.client, .int .i64 q.cmd.no, .string q.cmd.set, .string q.cmd.name, .string q.cmd.tag, .int .i64 q.cmd.n, .slice a1 n1 c1, .int .i64 q.seq, .slice a2 n2 c2, .bool q.same] 48)) W (PP.out.alloc _) PZ.out h)
            clear hid hlt2
            go_wp2_with fail
            clear m0 m1 m2 m3 m4 m5 m6 m7 m8 m9 m10 m11 m12 m13 m14 m15
            have HL := Lib.hid (fun W (h : LatI (wr.alloc (.cells #[.int .i64 q.rep, .int .i64 q.slot, .int .i64 q.bal, .int .i64 q.vbal, .int .i64 q.st, .int .i64 q.cmd.kind, .int .i64 q.cmd.client, .int .i64 q.cmd.no, .string q.cmd.set, .string q.cmd.name, .string q.cmd.tag, .int .i64 q.cmd.n, .slice a1 n1 c1, .int .i64 q.seq, .slice a2 n2 c2, .bool q.same] 48)) W) => (show W.cell? ⟨wr.heap.size, 0, none⟩ = some (.int .i64 q.rep) ∧ W.cell? ⟨wr.heap.size, 1, none⟩ = some (.int .i64 q.slot) ∧ W.cell? ⟨wr.heap.size, 2, none⟩ = some (.int .i64 q.bal) ∧ W.cell? ⟨wr.heap.size, 3, none⟩ = some (.int .i64 q.vbal) ∧ W.cell? ⟨wr.heap.size, 4, none⟩ = some (.int .i64 q.st) ∧ W.cell? ⟨wr.heap.size, 5, none⟩ = some (.int .i64 q.cmd.kind) ∧ W.cell? ⟨wr.heap.size, 6, none⟩ = some (.int .i64 q.cmd.client) ∧ W.cell? ⟨wr.heap.size, 7, none⟩ = some (.int .i64 q.cmd.no) ∧ W.cell? ⟨wr.heap.size, 8, none⟩ = some (.string q.cmd.set) ∧ W.cell? ⟨wr.heap.size, 9, none⟩ = some (.string q.cmd.name) ∧ W.cell? ⟨wr.heap.size, 10, none⟩ = some (.string q.cmd.tag) ∧ W.cell? ⟨wr.heap.size, 11, none⟩ = some (.int .i64 q.cmd.n) ∧ W.cell? ⟨wr.heap.size, 12, none⟩ = some (.slice a1 n1 c1) ∧ W.cell? ⟨wr.heap.size, 13, none⟩ = some (.int .i64 q.seq) ∧ W.cell? ⟨wr.heap.size, 14, none⟩ = some (.slice a2 n2 c2) ∧ W.cell? ⟨wr.heap.size, 15, none⟩ = some (.bool q.same) from (Z.out.after h).c16))
            have HP := Lib.hid (fun W (h : LatI (wr.alloc (.cells #[.int .i64 q.rep, .int .i64 q.slot, .int .i64 q.bal, .int .i64 q.vbal, .int .i64 q.st, .int .i64 q.cmd.kind, .int .i64 q.cmd.client, .int .i64 q.cmd.no, .string q.cmd.set, .string q.cmd.name, .string q.cmd.tag, .int .i64 q.cmd.n, .slice a1 n1 c1, .int .i64 q.seq, .slice a2 n2 c2, .bool q.same] 48)) W) => ((CP.out.below ((Below.refl _ _).alloc (Nat.le_refl _) (.cells #[.int .i64 q.rep, .int .i64 q.slot, .int .i64 q.bal, .int .i64 q.vbal, .int .i64 q.st, .int .i64 q.cmd.kind, .int .i64 q.cmd.client, .int .i64 q.cmd.no, .string q.cmd.set, .string q.cmd.name, .string q.cmd.tag, .int .i64 q.cmd.n, .slice a1 n1 c1, .int .i64 q.seq, .slice a2 n2 c2, .bool q.same] 48)) hxr).below h (by simp; omega)))
            refine wp_region_quiet (C := LatI (wr.alloc (.cells #[.int .i64 q.rep, .int .i64 q.slot, .int .i64 q.bal, .int .i64 q.vbal, .int .i64 q.st, .int .i64 q.cmd.kind, .int .i64 q.cmd.client, .int .i64 q.cmd.no, .string q.cmd.set, .string q.cmd.name, .string q.cmd.tag, .int .i64 q.cmd.n, .slice a1 n1 c1, .int .i64 q.seq, .slice a2 n2 c2, .bool q.same] 48))) (by kernel_rfl) (by kernel_rfl) (show LatI (wr.alloc (.cells #[.int .i64 q.rep, .int .i64 q.slot, .int .i64 q.bal, .int .i64 q.vbal, .int .i64 q.st, .int .i64 q.cmd.kind, .int .i64 q.cmd.client, .int .i64 q.cmd.no, .string q.cmd.set, .string q.cmd.name, .string q.cmd.tag, .int .i64 q.cmd.n, .slice a1 n1 c1, .int .i64 q.seq, .slice a2 n2 c2, .bool q.same] 48)) (wr.alloc (.cells #[.int .i64 q.rep, .int .i64 q.slot, .int .i64 q.bal, .int .i64 q.vbal, .int .i64 q.st, .int .i64 q.cmd.kind, .int .i64 q.cmd.client, .int .i64 q.cmd.no, .string q.cmd.set, .string q.cmd.name, .string q.cmd.tag, .int .i64 q.cmd.n, .slice a1 n1 c1, .int .i64 q.seq, .slice a2 n2 c2, .bool q.same] 48)).drew from Below.drew (Below.refl _ _)) ?_
            dsimp only
            repeat (first | go_big_quiet_skip | (go_big_quiet_want; go_big_quiet_op; (first | go_big_quiet_on | (refine ⟨_, fun _ _ => rfl, ?_⟩; go_big_quiet_on) | (refine ⟨.agg #[.int .i64 q.rep, .int .i64 q.slot, .int .i64 q.bal, .int .i64 q.vbal, .int .i64 q.st, .int .i64 q.cmd.kind, .int .i64 q.cmd.client, .int .i64 q.cmd.no, .string q.cmd.set, .string q.cmd.name, .string q.cmd.tag, .int .i64 q.cmd.n, .slice a1 n1 c1, .int .i64 q.seq, .slice a2 n2 c2, .bool q.same], ?_, ?_⟩; intro w' hw'; obtain ⟨e0, e1, e2, e3, e4, e5, e6, e7, e8, e9, e10, e11, e12, e13, e14, e15⟩ := HL.out w' hw'; simp [e0, e1, e2, e3, e4, e5, e6, e7, e8, e9, e10, e11, e12, e13, e14, e15, Result.andThen]; go_big_quiet_on) | (refine ⟨.agg #[.int .i64 p.rep, .int .i64 p.slot, .int .i64 p.bal, .int .i64 p.vbal, .int .i64 p.st, .int .i64 p.cmd.kind, .int .i64 p.cmd.client, .int .i64 p.cmd.no, .string p.cmd.set, .string p.cmd.name, .string p.cmd.tag, .int .i64 p.cmd.n, .slice a3 n3 c3, .int .i64 p.seq, .slice a4 n4 c4, .bool p.same], ?_, ?_⟩; intro w' hw'; obtain ⟨p0, p1, p2, p3, p4, p5, p6, p7, p8, p9, p10, p11, p12, p13, p14, p15⟩ := HP.out w' hw'; simp [p0, p1, p2, p3, p4, p5, p6, p7, p8, p9, p10, p11, p12, p13, p14, p15, Result.andThen]; go_big_quiet_on) | (refine ⟨_, fun w' hw' => HC1.out w' hw', ?_⟩; go_big_quiet_on) | (refine ⟨_, fun w' hw' => HC2.out w' hw', ?_⟩; go_big_quiet_on))))
            refine wpQuiet_nil ?_
            intro w2 L2
            have HB2 := Lib.hid ((Af.alloc (show Af w wr from HBW.out) _).after L2)
            clear L2 HL
            go_wp2
            go_roundw
            case rel =>
              refine ⟨k + 1, by omega, by go_num, fun j hj => ?_, HB2.out⟩
              by_cases e : j = k
              · subst e; exact HK.out
              · exact HE.out j (by omega)
            case measure => simp only [intOf]; omega
    · obtain rfl : k = n := by omega
      go_wp2
      go_ret
      exact ⟨by rw [instsB_yes l (fun j hj => HE.out j (by rw [← HN.out]; exact hj))]; rfl, HBW.out⟩
set_option maxHeartbeats 400000 in
theorem impl_insts (v : Value) (l : List In) (a0 : Addr) (w : World) (hv : Insts w v l) (hS : Sent w a0) :
    Calls Tryd.prog 38 #[v] w fun e w' => e = .returned (.bool (instsB l)) ∧ Below w.heap.size w w' := by
  have HV := Lib.hid (fun W (h : w = W) => impl_orderedI v l a0 W (h ▸ hv) (h ▸ hS))
  obtain ⟨a, n, c, rfl⟩ := hv.form
  clear hv
  go_enter Tryd.func38, Tryd.ntmps38
  go_wp2_with fail
  refine (HV.out _ rfl).mono ?_
  rintro e w2 ⟨rfl, hb⟩
  have HB := Lib.hid hb
  clear hb
  go_wp2
  go_ret
  exact ⟨rfl, HB.out⟩
end Go.Proofs.YtlbebeedkcdgpaaDoor
