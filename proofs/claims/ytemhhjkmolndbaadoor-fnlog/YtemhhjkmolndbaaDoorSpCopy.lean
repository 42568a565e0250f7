/- The model's l6Copy and l6Trim, by contracts. -/
import Derived.Test.YtemhhjkmolndbaaDoorUncI
namespace Go.Proofs.YtemhhjkmolndbaaDoor
open Go.RowKit Go.PlainAid
set_option linter.unusedVariables false

theorem ob_le {g q o n c : Nat} (h : q ≤ g) : ∀ k, Value.ownBlock (.slice (some ⟨g, o, none⟩) n c) = some k → q ≤ k := fun k hk => by cases hk; exact h
theorem ob_ne {g q o n c : Nat} (h : q ≠ g) : some q ≠ Value.ownBlock (.slice (some ⟨g, o, none⟩) n c) := fun e => h (Option.some.inj e)
set_option maxRecDepth 100000 in
set_option maxHeartbeats 400000 in
theorem spec_copy (v : Value) (l : List Sg) (n m : Int) (w : World) (hv : Segs w v l) (h1 : 1 ≤ l.length) (h6 : l.length ≤ 1048576) :
    Calls Tryd.prog 53 #[.agg #[v, .int .i64 n, .int .i64 m]] w fun e w' => ∃ u, e = .returned (.agg #[u, .int .i64 n, .int .i64 m]) ∧ SegRow w' w.heap.size u l ∧ Below w.heap.size w w' := by
  obtain ⟨b, o, cap, rfl, hc, hb, hx⟩ := hv.at1 h1
  have X0 := Lib.hid (((Bx.new w 26 #[.slice (some ⟨b, o, none⟩) l.length cap, .int .i64 n, .int .i64 m] _ rfl).alloc (.cells #[.slice none 0 0, .int .i64 0, .int .i64 0] 26)).alloc (.cells #[] 63))
  have Z0 := Lib.hid ((Bx.new (w.alloc (.cells #[.slice (some ⟨b, o, none⟩) l.length cap, .int .i64 n, .int .i64 m] 26)) 26 #[.slice none 0 0, .int .i64 0, .int .i64 0] (w.heap.size + 1) (by simp)).alloc (.cells #[] 63))
  have A0 := Lib.hid ((((Af.refl w).alloc (.cells #[.slice (some ⟨b, o, none⟩) l.length cap, .int .i64 n, .int .i64 m] 26)).alloc (.cells #[.slice none 0 0, .int .i64 0, .int .i64 0] 26)).alloc (.cells #[] 63))
  have hX := ((((hv.alloc (.cells #[.slice (some ⟨b, o, none⟩) l.length cap, .int .i64 n, .int .i64 m] 26)).alloc (.cells #[.slice none 0 0, .int .i64 0, .int .i64 0] 26)).alloc (.cells #[] 63)).at1 h1)
  obtain ⟨b', o', cap', ev, _, _, hX⟩ := hX
  simp only [Value.slice.injEq, Option.some.injEq, Addr.mk.injEq] at ev
  obtain ⟨⟨rfl, rfl, _⟩, _, rfl⟩ := ev
  have HX := Lib.hid hX
  have hR : SegRow (((w.alloc (.cells #[.slice (some ⟨b, o, none⟩) l.length cap, .int .i64 n, .int .i64 m] 26)).alloc (.cells #[.slice none 0 0, .int .i64 0, .int .i64 0] 26)).alloc (.cells #[] 63)) (w.heap.size + 1 + 1) (.slice (some ⟨w.heap.size + 1 + 1, 0, none⟩) 0 0) [] := by
    simpa using segRow_new ((w.alloc (.cells #[.slice (some ⟨b, o, none⟩) l.length cap, .int .i64 n, .int .i64 m] 26)).alloc (.cells #[.slice none 0 0, .int .i64 0, .int .i64 0] 26)) (w.heap.size + 1 + 1) (by simp)
  have HR := Lib.hid hR
  have HL := Lib.hid h6
  have H1 := Lib.hid h1
  clear hv hx hX h1 hc h6 hR
  go_enter Tryd.func53, Tryd.ntmps53
  go_wp2_with (at_builtin; go_loud (refine wp_append_segs rfl (.tmp 3) (.tmp 5) rfl (w.heap.size + 1 + 1) _ [] l rfl HR.out b o cap rfl HX.out (by have := HL.out; simp; omega) (by simp) ?_; intro v' w' hv' hg'; rw [List.nil_append] at hv'; have X1 := Lib.hid (X0.out.keep hg' (ob_ne (by omega))); have Z1 := Lib.hid (Z0.out.keep hg' (ob_ne (by omega))); have A1 := Lib.hid (A0.out.grow hg' (ob_le (by omega))); have R1 := Lib.hid hv'; obtain ⟨g, cap2, rfl, hbg, hgw, _⟩ := hv'.form H1.out; have W1 := Lib.hid (X1.out.set 0 (.slice (some ⟨g, 0, none⟩) l.length cap2)); obtain ⟨x0, x1, x2⟩ := X1.out.cells3; obtain ⟨f0, f1, f2⟩ := X1.out.frozen3; obtain ⟨u0, u1, u2⟩ := W1.out.cells3; have Z2 := Lib.hid (Z1.out.set_other ⟨w.heap.size, 0, none⟩ (.slice (some ⟨g, 0, none⟩) l.length cap2) (by simp)); obtain ⟨z0, z1, z2⟩ := Z2.out.cells3; obtain ⟨h0, h1, h2⟩ := Z2.out.frozen3; clear hv' hg'))
  exact bodyPost_ret (results_log Tryd.results53 _ _ (w.heap.size + 1) _ _ _ rfl (Z2.out.st3 _ _ _).cells3) rfl ⟨_, rfl, ((R1.out.setO (by omega) _).st3 (by omega) _ _ _).mono (by omega), (A1.out.set (p := ⟨w.heap.size, 0, none⟩) (Nat.le_refl _) _).st3 (by omega) _ _ _⟩

def lenAt (w : World) (B : Nat) : Nat := match w.cell? ⟨B, 0, none⟩ with
  | some (.slice _ n _) => n
  | _ => 0
theorem lenAt_eq {w : World} {B : Nat} {a : Option Addr} {n c : Nat} (h : w.cell? ⟨B, 0, none⟩ = some (.slice a n c)) : lenAt w B = n := by unfold lenAt; rw [h]
theorem SegOwn.len {w : World} {base : Nat} {a : Option Addr} {n c : Nat} {l : List Sg} (h : SegOwn w base (.slice a n c) l) : n = l.length ∧ l.length ≤ c := by
  obtain ⟨a', c', e, h1, _⟩ := h
  simp only [Value.slice.injEq] at e
  omega

set_option maxRecDepth 100000 in
set_option maxHeartbeats 1000000 in
theorem spec_trim (v : Value) (base : Nat) (l : List Sg) (n m : Int) (w : World) (hv : SegOwn w base v l) (hbase : base ≤ w.heap.size) (h1 : 1 ≤ l.length) (h6 : l.length ≤ 1048576) (hF : ∀ j, j < l.length → 1 ≤ sF l j ∧ sF l j ≤ 2000) :
    Calls Tryd.prog 54 #[.agg #[v, .int .i64 n, .int .i64 m]] w fun e w' => ∃ a c cap, e = .returned (.agg #[.slice a c cap, .int .i64 n, .int .i64 m]) ∧ SegOwn w' base (.slice a c cap) (l.drop (dN l m)) ∧ Below w.heap.size w w' := by
  obtain ⟨a0, n0, c0, hve⟩ := hv.form
  subst hve
  have X0 := Lib.hid ((Bx.new w 26 #[.slice a0 n0 c0, .int .i64 n, .int .i64 m] _ rfl).alloc (.cells #[.slice none 0 0, .int .i64 0, .int .i64 0] 26))
  have Z0 := Lib.hid (Bx.new (w.alloc (.cells #[.slice a0 n0 c0, .int .i64 n, .int .i64 m] 26)) 26 #[.slice none 0 0, .int .i64 0, .int .i64 0] (w.heap.size + 1) (by simp))
  have A0 := Lib.hid (((Af.refl w).alloc (.cells #[.slice a0 n0 c0, .int .i64 n, .int .i64 m] 26)).alloc (.cells #[.slice none 0 0, .int .i64 0, .int .i64 0] 26))
  have S0 := Lib.hid ((hv.alloc (.cells #[.slice a0 n0 c0, .int .i64 n, .int .i64 m] 26)).alloc (.cells #[.slice none 0 0, .int .i64 0, .int .i64 0] 26))
  have HF := Lib.hid hF
  have HL := Lib.hid h6
  have K0 := Lib.hid (show ∀ b, Value.ownBlock (.slice a0 n0 c0) = some b → b < w.heap.size from fun b hb => (hv.block h1 b hb).2)
  clear hv hF h6
  go_enter Tryd.func54, Tryd.ntmps54
  go_wp2
  go_loopw [] (fun wr => ∃ (k : Nat) (g o cap q : Nat), k < l.length ∧ q = l.length - k ∧ (∀ j, j < k → Cov l m j) ∧ SegOwn wr base (.slice (some ⟨g, o, none⟩) q cap) (l.drop k) ∧ g ≠ w.heap.size ∧ g ≠ w.heap.size + 1 ∧ Bx wr w.heap.size 26 #[.slice (some ⟨g, o, none⟩) q cap, .int .i64 n, .int .i64 m] ∧ Bx wr (w.heap.size + 1) 26 #[.slice none 0 0, .int .i64 0, .int .i64 0] ∧ Af w wr) (fun wr => lenAt wr w.heap.size)
  case atStart =>
    have h := S0.out
    obtain ⟨g, o, rfl, e2, _, hgw, _⟩ := h.cells h1
    have hgk := K0.out g rfl
    exact ⟨0, g, o, c0, n0, h1, by omega, fun j hj => by omega, by rw [List.drop_zero]; exact h, by omega, by omega, X0.out, Z0.out, A0.out⟩
  case round =>
    clear X0 Z0 A0 S0
    obtain ⟨k, g, o, cap, q, hk, hq, hcv, hs, hg1, hg2, hx, hz, ha⟩ := hrel
    have HCV := Lib.hid hcv
    have HS := Lib.hid hs
    have HX := Lib.hid hx
    have HZ := Lib.hid hz
    have HA := Lib.hid ha
    obtain ⟨x0, x1, x2⟩ := hx.cells3
    have hcapq := hs.len
    obtain ⟨g', o', e1, hee, hbg, hgw, hc⟩ := hs.cells (by rw [List.length_drop]; omega)
    clear hee
    simp only [Option.some.injEq, Addr.mk.injEq] at e1
    obtain ⟨rfl, rfl, _⟩ := e1
    have qi : (q : Int) ≤ 1048576 := by have := HL.out; omega
    have HQ := Lib.hid hq
    have HK := Lib.hid hk
    have hql : (l.drop k).length = q := by rw [List.length_drop]; omega
    rw [hql] at hcapq
    have hcap := hcapq.2
    have HQL := Lib.hid hql
    clear hcv hs hx hz ha hcapq hql
    by_cases hlt : 1 < q
    · have y1 : (1 : Int) < (q : Int) := by omega
      obtain ⟨c1, _⟩ := hc 1 (by rw [HQL.out]; exact hlt)
      rw [Nat.one_mul, sF_drop] at c1
      obtain ⟨f1, f2⟩ := HF.out (k + 1) (by omega)
      by_cases hm : sF l (k + 1) - 1 ≤ m
      · have hcov : Cov l m k := ⟨by omega, hm⟩
        have HV := Lib.hid hcov
        have dm : decide (sF l (k + 1) - 1 ≤ m) = true := decide_eq_true hm
        have hd1 : (l.drop (k + 1)).length = q - 1 := by rw [List.length_drop]; omega
        have HD1 := Lib.hid hd1
        have HC := Lib.hid hc
        clear hcov hm hc hq hk hd1
        go_wp2
        go_quiet (fail)
        have hX : ∀ j, j < (l.drop (k + 1)).length → ((wr.drewN nq).alloc (.cells #[] 63)).cell? ⟨g, o + 2 + j * 2, none⟩ = some (.int .i64 (sF (l.drop (k + 1)) j)) ∧ ((wr.drewN nq).alloc (.cells #[] 63)).cell? ⟨g, o + 2 + j * 2 + 1, none⟩ = some (.string (sT (l.drop (k + 1)) j)) := fun j hj => by
          rw [HD1.out] at hj
          obtain ⟨p1, p2, _⟩ := HC.out (1 + j) (by rw [HQL.out]; omega)
          rw [World.cell?_alloc_lt _ _ ⟨g, o + 2 + j * 2, none⟩ (by exact hgw), World.cell?_alloc_lt _ _ ⟨g, o + 2 + j * 2 + 1, none⟩ (by exact hgw), show o + 2 + j * 2 = o + (1 + j) * 2 by omega]
          rw [sF_drop, ← Nat.add_assoc] at p1
          rw [sT_drop, ← Nat.add_assoc] at p2
          rw [sF_drop, sT_drop]
          exact ⟨p1, p2⟩
        have HX2 := Lib.hid hX
        have hR : SegRow ((wr.drewN nq).alloc (.cells #[] 63)) wr.heap.size (.slice (some ⟨wr.heap.size, 0, none⟩) 0 0) [] := segRow_new (wr.drewN nq) wr.heap.size (Nat.le_refl _)
        have HR := Lib.hid hR
        have XA := Lib.hid ((HX.out.drewN nq).alloc (.cells #[] 63))
        have ZA := Lib.hid ((HZ.out.drewN nq).alloc (.cells #[] 63))
        have AA := Lib.hid ((HA.out.drewN nq).alloc (.cells #[] 63))
        obtain ⟨xa0, xa1, xa2⟩ := XA.out.cells3
        have hxl := HX.out.lt
        have hzl := HZ.out.lt
        have LQ := Lib.hid (lenAt_eq x0)
        clear hX hR x0 x1 x2
        go_wp2_with (at_builtin; go_loud (refine wp_append_segs rfl (.tmp 18) (.tmp 21) rfl wr.heap.size _ [] (l.drop (k + 1)) rfl HR.out g (o + 2) (cap - 1) (by rw [HD1.out]; rfl) HX2.out (by have := HL.out; have := HD1.out; simp; omega) (by simp) ?_; intro v' w' hv' hg'; rw [List.nil_append] at hv'; obtain ⟨g2, cap2, e2, hb2, hgw2, hc2⟩ := hv'.form (by rw [HD1.out]; omega); rw [HD1.out] at e2; subst e2; have X1 := Lib.hid (XA.out.keep hg' (ob_ne (by omega))); have Z1 := Lib.hid (ZA.out.keep hg' (ob_ne (by omega))); have A1 := Lib.hid (AA.out.grow hg' (ob_le (by omega))); have R1 := Lib.hid hv'; obtain ⟨x0, x1, x2⟩ := X1.out.cells3; obtain ⟨f0, f1, f2⟩ := X1.out.frozen3; clear hv' hg'))
        go_roundw
        case rel =>
          refine ⟨k + 1, g2, 0, cap2, q - 1, by have := HQ.out; omega, by have := HQ.out; omega, fun j hj => ?_, ((R1.out.setO (by omega) _).mono (by omega)).own, by omega, by omega, X1.out.set 0 _, Z1.out.set_other ⟨w.heap.size, 0, none⟩ _ (by simp), A1.out.set (p := ⟨w.heap.size, 0, none⟩) (Nat.le_refl _) _⟩
          by_cases e : j = k
          · subst e; exact HV.out
          · exact HCV.out j (by omega)
        case measure => rw [LQ.out, lenAt_eq ((X1.out.set 0 (.slice (some ⟨g2, 0, none⟩) (q - 1) cap2)).cell 0 _ rfl)]; omega
      · have HN := Lib.hid (dN_eq l m k HCV.out (fun h => hm h.2))
        have dm : decide (sF l (k + 1) - 1 ≤ m) = false := decide_eq_false hm
        obtain ⟨z0, z1, z2⟩ := HZ.out.cells3
        obtain ⟨f0, f1, f2⟩ := HZ.out.frozen3
        clear hm hc hq hk
        go_wp2
        go_quiet (fail)
        go_wp2
        exact bodyPost_ret (results_log Tryd.results54 _ _ (w.heap.size + 1) _ _ _ rfl ((HZ.out.drewN _).st3 _ _ _).cells3) rfl ⟨_, _, _, rfl, by rw [← HN.out]; exact (HS.out.later (dn (Below.refl _ _) _)).keepB (grow_st3 _ _ _ _ _) (fun b hb => by cases hb; exact (ob_ne (by omega)).symm), (HA.out.drewN _).st3 (by omega) _ _ _⟩
    · have d1 : decide ((1 : Int) < (q : Int)) = false := decide_eq_false (by omega)
      have HN := Lib.hid (dN_eq l m k HCV.out (fun h => hlt (by have := h.1; omega)))
      obtain ⟨z0, z1, z2⟩ := HZ.out.cells3
      obtain ⟨f0, f1, f2⟩ := HZ.out.frozen3
      clear hc hq hk
      go_wp2
      go_quiet (fail)
      go_wp2
      exact bodyPost_ret (results_log Tryd.results54 _ _ (w.heap.size + 1) _ _ _ rfl ((HZ.out.drewN _).st3 _ _ _).cells3) rfl ⟨_, _, _, rfl, by rw [← HN.out]; exact (HS.out.later (dn (Below.refl _ _) _)).keepB (grow_st3 _ _ _ _ _) (fun b hb => by cases hb; exact (ob_ne (by omega)).symm), (HA.out.drewN _).st3 (by omega) _ _ _⟩
end Go.Proofs.YtemhhjkmolndbaaDoor
