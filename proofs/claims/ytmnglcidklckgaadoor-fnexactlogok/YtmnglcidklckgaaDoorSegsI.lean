/- segsOk, by one contract. -/
import Derived.Test.YtmnglcidklckgaaDoorCountI
import Derived.Test.YtmnglcidklckgaaDoorLogS
namespace Go.Proofs.YtmnglcidklckgaaDoor
open Go.RowKit Go.PlainAid
set_option linter.unusedVariables false

/-- All segments are as they must be, and end at n. -/
@[irreducible] def sgB (l : List Sg) (n m : Int) : Bool := decide (n = atN l l.length ∧ ∀ k, k < l.length → gB l m k = true)
theorem sgB_iff (l : List Sg) (n m : Int) : sgB l n m = true ↔ (n = atN l l.length ∧ ∀ k, k < l.length → gB l m k = true) := by
  unfold sgB
  exact decide_eq_true_iff
theorem sgB_no (l : List Sg) (n m : Int) (h : ¬ (n = atN l l.length ∧ ∀ k, k < l.length → gB l m k = true)) : sgB l n m = false := by
  cases e : sgB l n m with
  | false => rfl
  | true => exact absurd ((sgB_iff l n m).1 e) h
theorem sgB_stop (l : List Sg) (n m : Int) (k : Nat) (hk : k < l.length) (h : gB l m k ≠ true) : sgB l n m = false := sgB_no l n m fun ⟨_, e⟩ => h (e k hk)
theorem gB_cq {l : List Sg} {m p : Int} {k q k0 : Nat} (hp : atN l k = p) (hq : nF (sT l k) = q) (h0 : l.length = k0) : gB l m k = true ↔ sF l k = p ∧ cB (sT l k) = true ∧ (k + 1 = k0 ∨ (q ≠ 0 ∧ m < p + q - 1)) := by
  rw [gB_iff, hp, hq, h0, cB_iff, hq]
  constructor
  · rintro ⟨a, b, c, d⟩; exact ⟨a, ⟨b, c⟩, d⟩
  · rintro ⟨a, ⟨b, c⟩, d⟩; exact ⟨a, b, c, d⟩

set_option maxRecDepth 100000 in
set_option maxHeartbeats 1000000 in
theorem impl_segsOk (v : Value) (l : List Sg) (n m : Int) (w : World) (hv : Segs w v l) (ht : ∀ j, j < l.length → (sT l j).size ≤ 1048576) (h1 : 1 ≤ l.length) (h6 : l.length ≤ 6) (hf1 : 1 ≤ sF l 0) (hf2 : sF l 0 ≤ 1000) (hT : TabC w) :
    Calls Tryd.prog 71 #[.agg #[v, .int .i64 n, .int .i64 m]] w fun e w' => e = .returned (.bool (sgB l n m)) ∧ Below w.heap.size w w' := by
  have hbd := atN_bd l ht
  obtain ⟨b, o, cap, hve, hcap, hbw, c0, c1⟩ := hv.at0 0 (by omega)
  subst hve
  obtain ⟨k0, hk0⟩ : ∃ k0, l.length = k0 := ⟨_, rfl⟩
  rw [Nat.zero_mul, Nat.add_zero] at c0 c1
  rw [hk0] at h1 h6 hcap ⊢
  have HK := Lib.hid hk0
  have HV := Lib.hid hv
  have HT := Lib.hid ht
  have HBD := Lib.hid hbd
  have HTA := Lib.hid hT
  have d0 : (w.alloc (.cells #[.slice (some ⟨b, o, none⟩) k0 cap, .int .i64 n, .int .i64 m] 26)).cell? ⟨b, o, none⟩ = some (.int .i64 (sF l 0)) := by
    rw [World.cell?_alloc_lt _ _ ⟨b, o, none⟩ hbw]; exact c0
  have p0 : 0 < k0 := by omega
  have i6 : (k0 : Int) ≤ 6 := by omega
  clear hv ht hbd hk0 c0 c1 h1 hT
  go_enter Tryd.func71, Tryd.ntmps71
  go_wp2
  go_loopw [3, 17] (fun pv i wr => ∃ k : Nat, k ≤ k0 ∧ i = .int .i64 k ∧ pv = .int .i64 (atN l k) ∧ (∀ j, j < k → gB l m j = true) ∧ Bx wr w.heap.size 26 #[.slice (some ⟨b, o, none⟩) k0 cap, .int .i64 n, .int .i64 m] ∧ Af w wr) (fun _ i _ => k0 - (intOf i).toNat)
  case atStart => exact ⟨0, by omega, rfl, rfl, fun j hj => by omega, Bx.new w _ _ _ rfl, (Af.refl w).alloc _⟩
  case round =>
    clear d0
    obtain ⟨k, hk, rfl, rfl, he, hx, ha⟩ := hrel
    have HE := Lib.hid he
    have HX := Lib.hid hx
    have HA := Lib.hid ha
    obtain ⟨x0, x1, x2⟩ := hx.cells3
    obtain ⟨hp0, hp1⟩ := HBD.out k (by rw [HK.out]; exact hk)
    obtain ⟨p, hp⟩ : ∃ p, atN l k = p := ⟨_, rfl⟩
    rw [hp] at hp0 hp1 ⊢
    have HP := Lib.hid hp
    clear he hx ha hp
    by_cases hlt : k < k0
    · obtain ⟨b', o', cap', ev, _, hbw', c0, c1⟩ := (HV.out.later HA.out).at0 k (by rw [HK.out]; exact hlt)
      simp only [Value.slice.injEq, Option.some.injEq, Addr.mk.injEq] at ev
      obtain ⟨⟨rfl, rfl, _⟩, _, rfl⟩ := ev
      have htk := HT.out k (by rw [HK.out]; exact hlt)
      have hq5 := nF_le5 (sT l k)
      have y1 : (k : Int) < (k0 : Int) := by omega
      have HTB := Lib.hid ((HTA.out.later HA.out (Nat.le_refl _)).later ((Below.refl wr.heap.size wr).alloc (Nat.le_refl _) (.cells #[.int .i64 (sF l k), .string (sT l k)] 51)) (Nat.le_refl _))
      go_wp2_with fail
      refine (impl_count _ _ htk HTB.out).mono ?_
      rintro e w2 ⟨rfl, hb2⟩
      have S2 := (Bx.new wr 51 #[.int .i64 (sF l k), .string (sT l k)] _ rfl).after hb2
      have s0 := S2.cell 0 _ rfl
      have s1 := S2.cell 1 _ rfl
      have X2 := Lib.hid ((HX.out.alloc (.cells #[.int .i64 (sF l k), .string (sT l k)] 51)).after hb2)
      have A2 := Lib.hid ((HA.out.alloc (.cells #[.int .i64 (sF l k), .string (sT l k)] 51)).after hb2)
      obtain ⟨q, hq⟩ : ∃ q, nF (sT l k) = q := ⟨_, rfl⟩
      rw [hq] at hq5 ⊢
      have HQ := Lib.hid hq
      clear hq hb2 S2 x0 x1 x2 c0 c1 HX HA HTB
      obtain ⟨x0, x1, x2⟩ := X2.out.cells3
      have hqi : (q : Int) ≤ 209716 := by omega
      have hq0 : (0 : Int) ≤ (q : Int) := by omega
      cases h2 : cB (sT l k) with
      | false =>
        go_wp2
        go_ret
        exact ⟨by rw [sgB_stop l n m k (by rw [HK.out]; exact hlt) (fun e => by obtain ⟨g1, g2, g3⟩ := (gB_cq HP.out HQ.out HK.out).1 e; rw [h2] at g2; cases g2)]; rfl, A2.out⟩
      | true =>
        by_cases e1 : sF l k = p
        · have HE1 := Lib.hid e1
          rw [e1] at s0
          clear e1
          by_cases h5 : k + 1 < k0
          · have d5 : ((k : Int) == (k0 : Int) - 1) = false := beq_no (by omega)
            by_cases h6 : q = 0
            · subst h6
              go_wp2
              go_ret
              exact ⟨by rw [sgB_stop l n m k (by rw [HK.out]; exact hlt) (fun e => by obtain ⟨g1, g2, g3⟩ := (gB_cq HP.out HQ.out HK.out).1 e; omega)]; rfl, A2.out⟩
            · have d6 : ((q : Int) == 0) = false := beq_no (by omega)
              by_cases h7 : p + q - 1 ≤ m
              · have d7 : decide (p + (q : Int) - 1 ≤ m) = true := decide_eq_true h7
                go_wp2
                go_ret
                exact ⟨by rw [sgB_stop l n m k (by rw [HK.out]; exact hlt) (fun e => by obtain ⟨g1, g2, g3⟩ := (gB_cq HP.out HQ.out HK.out).1 e; omega)]; rfl, A2.out⟩
              · have d7 : decide (p + (q : Int) - 1 ≤ m) = false := decide_eq_false h7
                have HG : Hid (gB l m k = true) := Lib.hid ((gB_cq HP.out HQ.out HK.out).2 ⟨HE1.out, h2, .inr ⟨h6, by omega⟩⟩)
                go_wp2
                go_roundw
                case rel =>
                  refine ⟨k + 1, by omega, by go_num, (by rw [atN_succ, HP.out, HQ.out] <;> rfl), fun j hj => ?_, X2.out, A2.out⟩
                  by_cases e : j = k
                  · subst e; exact HG.out
                  · exact HE.out j (by omega)
                case measure => simp only [intOf]; omega
          · have d5 : ((k : Int) == (k0 : Int) - 1) = true := by have : (k : Int) = (k0 : Int) - 1 := by omega
                                                                 rw [this]; exact beq_self_eq_true _
            have HG : Hid (gB l m k = true) := Lib.hid ((gB_cq HP.out HQ.out HK.out).2 ⟨HE1.out, h2, .inl (by omega)⟩)
            go_wp2
            go_roundw
            case rel =>
              refine ⟨k + 1, by omega, by go_num, (by rw [atN_succ, HP.out, HQ.out] <;> rfl), fun j hj => ?_, X2.out, A2.out⟩
              by_cases e : j = k
              · subst e; exact HG.out
              · exact HE.out j (by omega)
            case measure => simp only [intOf]; omega
        · have d1 := beq_no e1
          go_wp2
          go_ret
          exact ⟨by rw [sgB_stop l n m k (by rw [HK.out]; exact hlt) (fun e => by obtain ⟨g1, g2, g3⟩ := (gB_cq HP.out HQ.out HK.out).1 e; exact e1 g1)]; rfl, A2.out⟩
    · obtain rfl : k = k0 := by omega
      by_cases h8 : n = p
      · subst h8
        have HO := Lib.hid ((sgB_iff l n m).2 ⟨by rw [HK.out]; exact HP.out.symm, fun j hj => HE.out j (by rw [HK.out] at hj; exact hj)⟩)
        go_wp2
        go_ret
        exact ⟨by rw [HO.out]; rfl, HA.out⟩
      · have d8 : (p == n) = false := beq_no (fun e => h8 e.symm)
        have HO := Lib.hid (sgB_no l n m (fun h => h8 (by have := h.1; rw [HK.out, HP.out] at this; exact this)))
        clear h8
        go_wp2
        go_ret
        exact ⟨by rw [HO.out]; rfl, HA.out⟩
end Go.Proofs.YtmnglcidklckgaaDoor
