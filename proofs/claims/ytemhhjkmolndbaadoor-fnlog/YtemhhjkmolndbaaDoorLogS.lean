/- The model's LogOk, by one contract. -/
import Derived.Test.YtemhhjkmolndbaaDoorLogM
import Derived.Test.YtemhhjkmolndbaaDoorSgA
import Derived.Test.YtemhhjkmolndbaaDoorUnfS
import Derived.Test.YtemhhjkmolndbaaDoorIn
namespace Go.Proofs.YtemhhjkmolndbaaDoor
open Go.RowKit Go.PlainAid
set_option linter.unusedVariables false

theorem growsS_len {w : World} {base : Nat} {v : Value} {l : List ByteArray} (h : GrowsS w base v l) : ∃ a cap, v = .slice a l.length cap := by
  rcases h.2 with ⟨rfl, h0⟩ | ⟨g, cap, cur, rfl, _⟩
  · exact ⟨none, 0, by rw [h0]⟩
  · exact ⟨_, cap, rfl⟩
set_option maxHeartbeats 400000 in
theorem spec_count (t : ByteArray) (w : World) (ht : t.size ≤ 1048576) :
    Calls Tryd.prog 46 #[.string t] w fun e w' => e = .returned (.tuple #[.int .i64 (nF t : Nat), .bool (whl t)]) ∧ Below w.heap.size w w' := by
  have hw := whl_eq t
  go_enter Tryd.func46, Tryd.ntmps46
  go_wp2_with fail
  refine (spec_unframe t _ ht).mono ?_
  rintro e w2 ⟨v, rfl, hg, hb⟩
  obtain ⟨a, cap, rfl⟩ := growsS_len hg
  rw [fL_length]
  have HB := Lib.hid hb
  have HW := Lib.hid hw
  clear hb hg hw
  by_cases e : fP t (nF t) = t.size
  · have hd : (((fP t (nF t) : Nat) : Int) == (t.size : Int)) = true := by simp [e]
    have HE := Lib.hid (HW.out.2 e)
    clear e
    go_wp2
    go_ret2
    exact ⟨by rw [HE.out]; rfl, HB.out⟩
  · have hd : (((fP t (nF t) : Nat) : Int) == (t.size : Int)) = false := beq_no (by omega)
    have HE := Lib.hid (show whl t = false by cases h : whl t with | false => rfl | true => exact absurd (HW.out.1 h) e)
    clear e
    go_wp2
    go_ret2
    exact ⟨by rw [HE.out]; rfl, HB.out⟩

theorem Segs.at0 {w : World} {v : Value} {l : List Sg} (h : Segs w v l) (j : Nat) (hj : j < l.length) : ∃ b o cap, v = .slice (some ⟨b, o, none⟩) l.length cap ∧ l.length ≤ cap ∧ b < w.heap.size ∧ w.cell? ⟨b, o + j * 2, none⟩ = some (.int .i64 (sF l j)) ∧ w.cell? ⟨b, o + j * 2 + 1, none⟩ = some (.string (sT l j)) := by
  obtain ⟨_, _, a, cap, rfl, hc, h3⟩ := h
  obtain ⟨b, o, rfl, hb, hx⟩ := h3 (by omega)
  exact ⟨b, o, cap, rfl, hc, hb, (hx j hj).1, (hx j hj).2⟩

set_option maxRecDepth 100000 in
set_option maxHeartbeats 1000000 in
theorem spec_logOk (v : Value) (l : List Sg) (n m : Int) (w : World) (hv : Segs w v l) (ht : ∀ j, j < l.length → (sT l j).size ≤ 1048576) :
    Calls Tryd.prog 17 #[.agg #[v, .int .i64 n, .int .i64 m]] w fun e w' => e = .returned (.bool (okB l n m)) ∧ Below w.heap.size w w' := by
  have hbd := atN_bd l ht
  by_cases hlen : 1 ≤ l.length ∧ l.length ≤ 6
  · obtain ⟨b, o, cap, hve, hcap, hbw, c0, c1⟩ := hv.at0 0 (by omega)
    subst hve
    obtain ⟨k0, hk0⟩ : ∃ k0, l.length = k0 := ⟨_, rfl⟩
    rw [Nat.zero_mul, Nat.add_zero] at c0 c1
    by_cases hf1 : sF l 0 < 1
    · have HO := Lib.hid (okB_no l n m (fun h => by have := h.2.2.1; omega))
      rw [hk0] at hlen hcap ⊢
      have d0 : (w.alloc (.cells #[.slice (some ⟨b, o, none⟩) k0 cap, .int .i64 n, .int .i64 m] 26)).cell? ⟨b, o, none⟩ = some (.int .i64 (sF l 0)) := by
        rw [World.cell?_alloc_lt _ _ ⟨b, o, none⟩ hbw]; exact c0
      obtain ⟨l1, l6⟩ := hlen
      have p0 : 0 < k0 := by omega
      clear hv ht hbd hk0 c0 c1
      go_enter Tryd.func17, Tryd.ntmps17
      go_wp2_with (go_at_call 45; refine (in_yes _ _ _ _ (by omega) (by omega)).mono ?_; rintro e w' ⟨rfl, rfl⟩)
      go_ret
      exact ⟨by rw [HO.out]; rfl, (Af.refl w).alloc _⟩
    by_cases hf2 : 1000 < sF l 0
    · have HO := Lib.hid (okB_no l n m (fun h => by have h1 := h.2.2.2.1; have h2 := h.2.2.2.2.2.2.1; have h3 := (hbd l.length (Nat.le_refl _)).1; omega))
      rw [hk0] at hlen hcap ⊢
      have d0 : (w.alloc (.cells #[.slice (some ⟨b, o, none⟩) k0 cap, .int .i64 n, .int .i64 m] 26)).cell? ⟨b, o, none⟩ = some (.int .i64 (sF l 0)) := by
        rw [World.cell?_alloc_lt _ _ ⟨b, o, none⟩ hbw]; exact c0
      obtain ⟨l1, l6⟩ := hlen
      have p0 : 0 < k0 := by omega
      clear hv ht hbd hk0 c0 c1
      go_enter Tryd.func17, Tryd.ntmps17
      go_wp2_with (go_at_call 45; refine (in_yes _ _ _ _ (by omega) (by omega)).mono ?_; rintro e w' ⟨rfl, rfl⟩)
      go_ret
      exact ⟨by rw [HO.out]; rfl, (Af.refl w).alloc _⟩
    by_cases hn : 1000 < n
    · have HO := Lib.hid (okB_no l n m (fun h => by have h1 := h.2.2.2.1; omega))
      rw [hk0] at hlen hcap ⊢
      have d0 : (w.alloc (.cells #[.slice (some ⟨b, o, none⟩) k0 cap, .int .i64 n, .int .i64 m] 26)).cell? ⟨b, o, none⟩ = some (.int .i64 (sF l 0)) := by
        rw [World.cell?_alloc_lt _ _ ⟨b, o, none⟩ hbw]; exact c0
      obtain ⟨l1, l6⟩ := hlen
      have p0 : 0 < k0 := by omega
      clear hv ht hbd hk0 c0 c1
      go_enter Tryd.func17, Tryd.ntmps17
      go_wp2_with (go_at_call 45; refine (in_yes _ _ _ _ (by omega) (by omega)).mono ?_; rintro e w' ⟨rfl, rfl⟩)
      go_ret
      exact ⟨by rw [HO.out]; rfl, (Af.refl w).alloc _⟩
    rw [hk0] at hlen hcap ⊢
    have HK := Lib.hid hk0
    have HV := Lib.hid hv
    have HT := Lib.hid ht
    have HBD := Lib.hid hbd
    have d0 : (w.alloc (.cells #[.slice (some ⟨b, o, none⟩) k0 cap, .int .i64 n, .int .i64 m] 26)).cell? ⟨b, o, none⟩ = some (.int .i64 (sF l 0)) := by
      rw [World.cell?_alloc_lt _ _ ⟨b, o, none⟩ hbw]; exact c0
    obtain ⟨l1, l6⟩ := hlen
    have p0 : 0 < k0 := by omega
    have i6 : (k0 : Int) ≤ 6 := by omega
    clear hv ht hbd hk0 c0 c1 l1
    go_enter Tryd.func17, Tryd.ntmps17
    go_wp2_with (go_at_call 45; refine (in_yes _ _ _ _ (by omega) (by omega)).mono ?_; rintro e w' ⟨rfl, rfl⟩)
    go_loopw [3, 4] (fun pv i wr => ∃ k : Nat, k ≤ k0 ∧ i = .int .i64 k ∧ pv = .int .i64 (atN l k) ∧ (∀ j, j < k → gB l m j = true) ∧ Bx wr w.heap.size 26 #[.slice (some ⟨b, o, none⟩) k0 cap, .int .i64 n, .int .i64 m] ∧ Af w wr) (fun _ i _ => k0 - (intOf i).toNat)
    case atStart => exact ⟨0, by omega, rfl, rfl, fun j hj => by omega, Bx.new w _ _ _ rfl, (Af.refl w).alloc _⟩
    case round =>
      clear d0
      obtain ⟨k, hk, rfl, rfl, he, hx, ha⟩ := hrel
      have HE := Lib.hid he
      have HX := Lib.hid hx
      have HA := Lib.hid ha
      obtain ⟨x0, x1, x2⟩ := hx.cells3
      obtain ⟨hp0, hp1⟩ := HBD.out k (by rw [HK.out]; exact hk)
      obtain ⟨p, hp⟩ : ∃ p, atN l k = p := ⟨_, rfl⟩
      rw [hp] at hp0 hp1 ⊢
      have HP := Lib.hid hp
      clear he hx ha hp
      by_cases hlt : k < k0
      · obtain ⟨b', o', cap', ev, _, hbw', c0, c1⟩ := (HV.out.later HA.out).at0 k (by rw [HK.out]; exact hlt)
        simp only [Value.slice.injEq, Option.some.injEq, Addr.mk.injEq] at ev
        obtain ⟨⟨rfl, rfl, _⟩, _, rfl⟩ := ev
        have htk := HT.out k (by rw [HK.out]; exact hlt)
        have hq5 := nF_le5 (sT l k)
        have y1 : (k : Int) < (k0 : Int) := by omega
        go_wp2_with fail
        refine (spec_count _ _ htk).mono ?_
        rintro e w2 ⟨rfl, hb2⟩
        have S2 := (Bx.new wr 63 #[.int .i64 (sF l k), .string (sT l k)] _ rfl).after hb2
        have s0 := S2.cell 0 _ rfl
        have s1 := S2.cell 1 _ rfl
        have X2 := Lib.hid ((HX.out.alloc (.cells #[.int .i64 (sF l k), .string (sT l k)] 63)).after hb2)
        have A2 := Lib.hid ((HA.out.alloc (.cells #[.int .i64 (sF l k), .string (sT l k)] 63)).after hb2)
        obtain ⟨q, hq⟩ : ∃ q, nF (sT l k) = q := ⟨_, rfl⟩
        rw [hq] at hq5 ⊢
        have HQ := Lib.hid hq
        clear hq hb2 S2 x0 x1 x2 c0 c1 HX HA
        obtain ⟨x0, x1, x2⟩ := X2.out.cells3
        have hqi : (q : Int) ≤ 209716 := by omega
        have hq0 : (0 : Int) ≤ (q : Int) := by omega
        by_cases e1 : sF l k = p
        · have HE1 := Lib.hid e1
          rw [e1] at s0
          clear e1
          cases h2 : whl (sT l k) with
          | false =>
            go_wp2
            go_ret
            exact ⟨by rw [okB_stop l n m k (by rw [HK.out]; exact hlt) (fun e => by obtain ⟨g1, g2, g3, g4⟩ := (gB_pq HP.out HQ.out HK.out).1 e; rw [h2] at g2; cases g2)]; rfl, A2.out⟩
          | true =>
            by_cases h3 : 60 < (sT l k).size
            · by_cases h4 : q = 1
              · have h3i : (60 : Int) < ((sT l k).size : Int) := by omega
                subst h4
                by_cases h5 : k + 1 < k0
                · have d5 : decide ((k : Int) < (k0 : Int) - 1) = true := decide_eq_true (by omega)
                  by_cases h7 : p + 1 - 1 ≤ m
                  · have d7 : decide (p + 1 - 1 ≤ m) = true := decide_eq_true h7
                    go_wp2
                    go_ret
                    exact ⟨by rw [okB_stop l n m k (by rw [HK.out]; exact hlt) (fun e => by obtain ⟨g1, g2, g3, g4⟩ := (gB_pq HP.out HQ.out HK.out).1 e; omega)]; rfl, A2.out⟩
                  · have d7 : decide (p + 1 - 1 ≤ m) = false := decide_eq_false h7
                    have HG : Hid (gB l m k = true) := Lib.hid ((gB_pq HP.out HQ.out HK.out).2 ⟨HE1.out, h2, .inr rfl, .inr ⟨by omega, by omega⟩⟩)
                    go_wp2
                    go_roundw
                    case rel =>
                      refine ⟨k + 1, by omega, by go_num, (by rw [atN_succ, HP.out, HQ.out] <;> rfl), fun j hj => ?_, X2.out, A2.out⟩
                      by_cases e : j = k
                      · subst e; exact HG.out
                      · exact HE.out j (by omega)
                    case measure => simp only [intOf]; omega
                · have d5 : decide ((k : Int) < (k0 : Int) - 1) = false := decide_eq_false (by omega)
                  have HG : Hid (gB l m k = true) := Lib.hid ((gB_pq HP.out HQ.out HK.out).2 ⟨HE1.out, h2, .inr rfl, .inl (by omega)⟩)
                  go_wp2
                  go_roundw
                  case rel =>
                    refine ⟨k + 1, by omega, by go_num, (by rw [atN_succ, HP.out, HQ.out] <;> rfl), fun j hj => ?_, X2.out, A2.out⟩
                    by_cases e : j = k
                    · subst e; exact HG.out
                    · exact HE.out j (by omega)
                  case measure => simp only [intOf]; omega
              · have h3i : (60 : Int) < ((sT l k).size : Int) := by omega
                have d4 : ((q : Int) == 1) = false := beq_no (by omega)
                go_wp2
                go_ret
                exact ⟨by rw [okB_stop l n m k (by rw [HK.out]; exact hlt) (fun e => by obtain ⟨g1, g2, g3, g4⟩ := (gB_pq HP.out HQ.out HK.out).1 e; omega)]; rfl, A2.out⟩
            · have h3i : ((sT l k).size : Int) ≤ 60 := by omega
              by_cases h5 : k + 1 < k0
              · have d5 : decide ((k : Int) < (k0 : Int) - 1) = true := decide_eq_true (by omega)
                by_cases h6 : q = 0
                · subst h6
                  go_wp2
                  go_ret
                  exact ⟨by rw [okB_stop l n m k (by rw [HK.out]; exact hlt) (fun e => by obtain ⟨g1, g2, g3, g4⟩ := (gB_pq HP.out HQ.out HK.out).1 e; omega)]; rfl, A2.out⟩
                · have d6 : ((q : Int) == 0) = false := beq_no (by omega)
                  by_cases h7 : p + q - 1 ≤ m
                  · have d7 : decide (p + (q : Int) - 1 ≤ m) = true := decide_eq_true h7
                    go_wp2
                    go_ret
                    exact ⟨by rw [okB_stop l n m k (by rw [HK.out]; exact hlt) (fun e => by obtain ⟨g1, g2, g3, g4⟩ := (gB_pq HP.out HQ.out HK.out).1 e; omega)]; rfl, A2.out⟩
                  · have d7 : decide (p + (q : Int) - 1 ≤ m) = false := decide_eq_false h7
                    have HG : Hid (gB l m k = true) := Lib.hid ((gB_pq HP.out HQ.out HK.out).2 ⟨HE1.out, h2, .inl (by omega), .inr ⟨h6, by omega⟩⟩)
                    go_wp2
                    go_roundw
                    case rel =>
                      refine ⟨k + 1, by omega, by go_num, (by rw [atN_succ, HP.out, HQ.out] <;> rfl), fun j hj => ?_, X2.out, A2.out⟩
                      by_cases e : j = k
                      · subst e; exact HG.out
                      · exact HE.out j (by omega)
                    case measure => simp only [intOf]; omega
              · have d5 : decide ((k : Int) < (k0 : Int) - 1) = false := decide_eq_false (by omega)
                have HG : Hid (gB l m k = true) := Lib.hid ((gB_pq HP.out HQ.out HK.out).2 ⟨HE1.out, h2, .inl (by omega), .inl (by omega)⟩)
                go_wp2
                go_roundw
                case rel =>
                  refine ⟨k + 1, by omega, by go_num, (by rw [atN_succ, HP.out, HQ.out] <;> rfl), fun j hj => ?_, X2.out, A2.out⟩
                  by_cases e : j = k
                  · subst e; exact HG.out
                  · exact HE.out j (by omega)
                case measure => simp only [intOf]; omega
        · have d1 := beq_no e1
          go_wp2
          go_ret
          exact ⟨by rw [okB_stop l n m k (by rw [HK.out]; exact hlt) (fun e => by obtain ⟨g1, g2, g3, g4⟩ := (gB_pq HP.out HQ.out HK.out).1 e; exact e1 g1)]; rfl, A2.out⟩
      · obtain rfl : k = k0 := by omega
        by_cases h8 : n = p
        · subst h8
          by_cases h9 : 0 ≤ m ∧ m ≤ n - 1
          · have HO := Lib.hid ((okB_iff l n m).2 ⟨by rw [HK.out]; omega, by rw [HK.out]; exact l6, by omega, by omega, h9.1, h9.2, by rw [HK.out]; exact HP.out.symm, fun j hj => HE.out j (by rw [HK.out] at hj; exact hj)⟩)
            obtain ⟨h91, h92⟩ := h9
            go_wp2_with (go_at_call 45; refine (in_yes _ _ _ _ h91 h92).mono ?_; rintro e w' ⟨rfl, rfl⟩)
            go_ret
            exact ⟨by rw [HO.out]; rfl, HA.out⟩
          · have HO := Lib.hid (okB_no l n m (fun h => h9 ⟨h.2.2.2.2.1, h.2.2.2.2.2.1⟩))
            have h9' : m < 0 ∨ n - 1 < m := by omega
            clear h9
            go_wp2_with (go_at_call 45; refine (in_no _ _ _ _ h9').mono ?_; rintro e w' ⟨rfl, rfl⟩)
            go_ret
            exact ⟨by rw [HO.out]; rfl, HA.out⟩
        · have d8 := beq_no h8
          have HO := Lib.hid (okB_no l n m (fun h => h8 (by have := h.2.2.2.2.2.2.1; rw [HK.out, HP.out] at this; exact this)))
          clear h8
          go_wp2
          go_ret
          exact ⟨by rw [HO.out]; rfl, HA.out⟩
  · have HO := Lib.hid (okB_no l n m (fun h => hlen ⟨h.1, h.2.1⟩))
    obtain ⟨a, k0, cap, hve⟩ := hv.form
    have hk0 : k0 = l.length := by
      obtain ⟨_, _, a', c', e', _⟩ := hv
      rw [hve] at e'
      simp only [Value.slice.injEq] at e'
      exact e'.2.1
    have hk : (k0 : Int) < 1 ∨ 6 < (k0 : Int) := by omega
    subst hve
    clear hv ht hbd hlen hk0
    go_enter Tryd.func17, Tryd.ntmps17
    go_wp2_with (go_at_call 45; refine (in_no _ _ _ _ hk).mono ?_; rintro e w' ⟨rfl, rfl⟩)
    go_ret
    exact ⟨by rw [HO.out]; rfl, (Af.refl w).alloc _⟩
end Go.Proofs.YtemhhjkmolndbaaDoor
