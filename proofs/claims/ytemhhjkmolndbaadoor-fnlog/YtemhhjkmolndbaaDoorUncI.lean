/- uncovered, by one contract. -/
import Derived.Test.YtemhhjkmolndbaaDoorUncM
import Derived.Test.YtemhhjkmolndbaaDoorCopyI
import Derived.BigQuiet
namespace Go.Proofs.YtemhhjkmolndbaaDoor
open Go.RowKit Go.PlainAid
set_option linter.unusedVariables false

/-- The value behind d dropped segments. -/
theorem SegOwn.drop {w : World} {base g o n cap : Nat} {l : List Sg} (h : SegOwn w base (.slice (some ⟨g, o, none⟩) n cap) l) (d : Nat) (hd : d < l.length) : SegOwn w base (.slice (some ⟨g, o + d * 2, none⟩) (n - d) (cap - d)) (l.drop d) := by
  obtain ⟨a, c, e, h1, h2, h3⟩ := h
  obtain ⟨g', o', cur, rfl, r2, r3, r4⟩ := h3 (by omega)
  simp only [Value.slice.injEq, Option.some.injEq, Addr.mk.injEq] at e
  obtain ⟨⟨rfl, rfl, _⟩, rfl, rfl⟩ := e
  refine ⟨_, cap - d, by rw [List.length_drop], by rw [List.length_drop]; omega, by rw [List.length_drop]; omega, fun _ => ⟨g, o + d * 2, cur, rfl, ⟨r2.1, by omega⟩, r3, fun j hj => ?_⟩⟩
  rw [List.length_drop] at hj
  obtain ⟨a, b⟩ := r4 (d + j) (by omega)
  rw [sF_drop, sT_drop, show o + d * 2 + j * 2 = o + (d + j) * 2 by omega]
  exact ⟨a, b⟩

set_option maxRecDepth 100000 in
set_option maxHeartbeats 1000000 in
theorem impl_unc (g o cap base : Nat) (l : List Sg) (n m : Int) (w : World) (hv : SegOwn w base (.slice (some ⟨g, o, none⟩) l.length cap) l) (h1 : 1 ≤ l.length) (h6 : l.length ≤ 1048576) (hF : ∀ j, j < l.length → 1 ≤ sF l j ∧ sF l j ≤ 2000) :
    Calls Tryd.prog 78 #[.agg #[.slice (some ⟨g, o, none⟩) l.length cap, .int .i64 n, .int .i64 m]] w fun e w' => e = .returned (.slice (some ⟨g, o + dN l m * 2, none⟩) (l.length - dN l m) (cap - dN l m)) ∧ Below w.heap.size w w' := by
  have hcap : l.length ≤ cap := by
    obtain ⟨a, c, e, h1, h2, h3⟩ := hv
    simp only [Value.slice.injEq] at e
    omega
  have hx := (hv.alloc (.cells #[.slice (some ⟨g, o, none⟩) l.length cap, .int .i64 n, .int .i64 m] 26)).cells h1
  obtain ⟨g', o', e1, _, hbg, hgw, hc⟩ := hx
  simp only [Option.some.injEq, Addr.mk.injEq] at e1
  obtain ⟨rfl, rfl, _⟩ := e1
  obtain ⟨k0, hk0⟩ : ∃ k0, l.length = k0 := ⟨_, rfl⟩
  have HK := Lib.hid hk0
  have HC := Lib.hid hc
  have HF := Lib.hid hF
  rw [hk0] at h1 h6 hcap ⊢
  have X := Lib.hid (Bx.new w 26 #[.slice (some ⟨g, o, none⟩) k0 cap, .int .i64 n, .int .i64 m] _ rfl)
  have A0 := Lib.hid ((Af.refl w).alloc (.cells #[.slice (some ⟨g, o, none⟩) k0 cap, .int .i64 n, .int .i64 m] 26))
  rw [hk0] at HC
  have i6 : (k0 : Int) ≤ 1048576 := by omega
  have i1 : (1 : Int) ≤ (k0 : Int) := by omega
  have hgw2 : g < w.heap.size + 1 := by simpa using hgw
  clear hv hF hk0 hc hgw
  go_enter Tryd.func78, Tryd.ntmps78
  go_wp2
  go_loopw [3] (fun d wr => ∃ k : Nat, k < k0 ∧ d = .int .i64 k ∧ (∀ j, j < k → Cov l m j) ∧ Bx wr w.heap.size 26 #[.slice (some ⟨g, o, none⟩) k0 cap, .int .i64 n, .int .i64 m] ∧ Af w wr ∧ (∀ j, j < k0 → wr.cell? ⟨g, o + j * 2, none⟩ = some (.int .i64 (sF l j)))) (fun d _ => k0 - (intOf d).toNat)
  case atStart => exact ⟨0, by omega, rfl, fun j hj => by omega, X.out, A0.out, fun j hj => (HC.out j hj).1⟩
  case round =>
    obtain ⟨k, hk, rfl, hcv, hx, ha, hcl⟩ := hrel
    have HCV := Lib.hid hcv
    have HX := Lib.hid hx
    have HA := Lib.hid ha
    have HCL := Lib.hid hcl
    obtain ⟨x0, x1, x2⟩ := hx.cells3
    clear hcv hx ha
    have y0 : (0 : Int) ≤ (k : Int) := by omega
    by_cases hlt : k + 1 < k0
    · have y1 : (k : Int) < (k0 : Int) - 1 := by omega
      have y2 : (k : Int) + 1 < (k0 : Int) := by omega
      have c1 := hcl (k + 1) hlt
      obtain ⟨f1, f2⟩ := HF.out (k + 1) (by rw [HK.out]; exact hlt)
      clear hcl
      by_cases hm : sF l (k + 1) - 1 ≤ m
      · have hcov : Cov l m k := ⟨by rw [HK.out]; exact hlt, hm⟩
        have HV := Lib.hid hcov
        have dm : decide (sF l (k + 1) - 1 ≤ m) = true := decide_eq_true hm
        clear hcov hm
        go_wp2
        go_quiet (fail)
        go_wp2
        go_roundw
        case rel =>
          refine ⟨k + 1, hlt, by go_num, fun j hj => ?_, HX.out.drewN _, HA.out.drewN _, HCL.out⟩
          by_cases e : j = k
          · subst e; exact HV.out
          · exact HCV.out j (by omega)
        case measure => simp only [intOf]; omega
      · have HN := Lib.hid (dN_eq l m k HCV.out (fun h => hm h.2))
        have dm : decide (sF l (k + 1) - 1 ≤ m) = false := decide_eq_false hm
        clear hm
        go_wp2
        go_quiet (fail)
        go_wp2
        go_ret
        exact ⟨by rw [← HN.out]; rfl, HA.out.drewN _⟩
    · have d1 : decide ((k : Int) < (k0 : Int) - 1) = false := decide_eq_false (by omega)
      have HN := Lib.hid (dN_eq l m k HCV.out (fun h => hlt (by have := h.1; rw [HK.out] at this; exact this)))
      clear hcl
      go_wp2
      go_quiet (fail)
      go_wp2
      go_ret
      exact ⟨by rw [← HN.out]; rfl, HA.out.drewN _⟩
end Go.Proofs.YtemhhjkmolndbaaDoor
