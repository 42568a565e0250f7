import Derived.Test.YtemhhjkmolndbaaDoorLogM
import Derived.Test.YtemhhjkmolndbaaDoorUnfI
import Derived.Test.YtemhhjkmolndbaaDoorLogS
import Derived.Test.YtemhhjkmolndbaaDoorBx
import Derived.LaidEql
import Derived.Stop.Asserts
import Derived.RowKitTokens
import Derived.Deep.RegionLaw
import Derived.Test.YtemhhjkmolndbaaDoorLogR
import Derived.Test.YtemhhjkmolndbaaDoorUncI
import Derived.Test.YtemhhjkmolndbaaDoorLogF
import Derived.Test.YtemhhjkmolndbaaDoorSpCopy
import Derived.Test.YtemhhjkmolndbaaDoorAddM
import Derived.Deep.Cut
/- countRecords, by one contract. -/
namespace Go.Proofs.YtemhhjkmolndbaaDoor
open Go.RowKit Go.Shelf Go.PlainAid
set_option linter.unusedVariables false
attribute [local go_sem] Oper.semAt_some

/-- The text is frames, nothing else, and not too long for what it holds. -/
@[irreducible] def cB (t : ByteArray) : Bool := whl t && (decide (t.size ≤ 60) || decide (nF t = 1))
theorem cB_iff (t : ByteArray) : cB t = true ↔ whl t = true ∧ (t.size ≤ 60 ∨ nF t = 1) := by
  unfold cB
  simp only [Bool.and_eq_true, Bool.or_eq_true, decide_eq_true_eq]
theorem cB_yes (t : ByteArray) (h : fP t (nF t) = t.size) (h2 : t.size ≤ 60 ∨ nF t = 1) : cB t = true := (cB_iff t).2 ⟨(whl_eq t).2 h, h2⟩
theorem cB_no (t : ByteArray) (h : ¬ (fP t (nF t) = t.size ∧ (t.size ≤ 60 ∨ nF t = 1))) : cB t = false := by
  cases e : cB t with
  | false => rfl
  | true => exact absurd ((cB_iff t).1 e) (fun h' => h ⟨(whl_eq t).1 h'.1, h'.2⟩)
theorem boxed2_step {W : World} {n0 : Nat} {t4 t5 : Value} (z4 z5 : Value) (h4 : Boxed W n0 3 t4) (h5 : Boxed W (n0 + 1) 3 t5) (hge : n0 + 3 ≤ W.heap.size) :
    Boxed (W.setCell ⟨n0, 0, none⟩ z4) (n0 + 1) 3 t5 ∧ Boxed ((W.setCell ⟨n0, 0, none⟩ z4).setCell ⟨n0 + 1, 0, none⟩ z5) n0 3 z4 ∧ Boxed ((W.setCell ⟨n0, 0, none⟩ z4).setCell ⟨n0 + 1, 0, none⟩ z5) (n0 + 1) 3 z5 ∧
    KeepsOthers W ((W.setCell ⟨n0, 0, none⟩ z4).setCell ⟨n0 + 1, 0, none⟩ z5) ∧ Below n0 W ((W.setCell ⟨n0, 0, none⟩ z4).setCell ⟨n0 + 1, 0, none⟩ z5) ∧
    ((W.setCell ⟨n0, 0, none⟩ z4).setCell ⟨n0 + 1, 0, none⟩ z5).heap[n0 + 1 + 1]? = W.heap[n0 + 1 + 1]? ∧ n0 + 3 ≤ ((W.setCell ⟨n0, 0, none⟩ z4).setCell ⟨n0 + 1, 0, none⟩ z5).heap.size := by
  have hg1 := grownBy_setCell' W n0 z4
  have hg2 := grownBy_setCell' (W.setCell ⟨n0, 0, none⟩ z4) (n0 + 1) z5
  have h52 : Boxed (W.setCell ⟨n0, 0, none⟩ z4) (n0 + 1) 3 t5 := h5.kept hg1 (by simp)
  refine ⟨h52, (h4.set z4).kept hg2 (by simp), h52.set z5, (KeepsOthers.setCell _ _ _).trans (KeepsOthers.setCell _ _ _), ?_, ?_, ?_⟩
  · exact ((Below.refl n0 W).setCell (p := ⟨n0, 0, none⟩) (Nat.le_refl _) z4).setCell (p := ⟨n0 + 1, 0, none⟩) (Nat.le_succ _) z5
  · rw [hg2.block (n0 + 1 + 1) (Nat.lt_of_lt_of_le (by omega) (Nat.le_trans hge hg1.size)) (by simp), hg1.block (n0 + 1 + 1) (by omega) (by simp; omega)]
  · exact Nat.le_trans hge (Nat.le_trans hg1.size hg2.size)

set_option maxRecDepth 100000 in
set_option maxHeartbeats 1000000 in
theorem impl_count (s : ByteArray) (w : World) (hs : s.size ≤ 1048576) (ht : TabC w) :
    Calls Tryd.prog 84 #[.string s] w fun e w' => e = .returned (.tuple #[.int .i64 (nF s : Nat), .bool (cB s)]) ∧ Below w.heap.size w w' := by
  refine (callsIn_wide (n := 4)).1 ?_
  refine callsIn_of_wp_marks Tryd.func84 rfl trivial ?_ rfl
  simp only [Tryd.ntmps84, List.size_toArray, List.length_cons, List.length_nil, Nat.reduceAdd, Nat.reduceSub, Array.replicate_succ, Array.replicate_zero, List.push_toArray, List.append_toArray, List.nil_append, List.cons_append]
  gi_wp2_with (refine ⟨trivial, ?_⟩; gi_at_call 48; refine (frames_c _ s _).mono ?_; rintro e w' ⟨rfl, rfl⟩)
  have b4 := ((Boxed.new w 3 (.int .i64 0)).alloc (.cells #[.int .i64 0] 3)).alloc (.cells #[.string s] 9)
  have b5 := (Boxed.new (w.alloc (.cells #[.int .i64 0] 3)) 3 (.int .i64 0)).alloc (.cells #[.string s] 9)
  have bS := Boxed.new ((w.alloc (.cells #[.int .i64 0] 3)).alloc (.cells #[.int .i64 0] 3)) 9 (.string s)
  rw [World.size_alloc] at b5
  rw [World.size_alloc, World.size_alloc] at bS
  have hB0 : Below w.heap.size w (((w.alloc (.cells #[.int .i64 0] 3)).alloc (.cells #[.int .i64 0] 3)).alloc (.cells #[.string s] 9)) := (((Below.refl _ w).alloc (Nat.le_refl _) _).alloc (by simp) _).alloc (by simp; omega) _
  have hsz : (((w.alloc (.cells #[.int .i64 0] 3)).alloc (.cells #[.int .i64 0] 3)).alloc (.cells #[.string s] 9)).heap.size = w.heap.size + 3 := by simp
  generalize hW0 : ((w.alloc (.cells #[.int .i64 0] 3)).alloc (.cells #[.int .i64 0] 3)).alloc (.cells #[.string s] 9) = W0 at *
  clear hW0
  have hnF : 5 * nF s ≤ s.size := by have := fS_size s (nF s) (Nat.le_refl _); omega
  refine wpIn_rangeFunc_ownG rfl (by decide) (gf := 81) (lb := #[.pointer (some ⟨w.heap.size + 1 + 1, 0, none⟩)]) rfl trivial (enters_of Tryd.func81 (by kernel_rfl) rfl)
    (frames_stops _ (by decide) (w.heap.size + 1 + 1) w.heap.size s hs W0 (by omega) bS.cell (ht.later hB0 (Nat.le_refl _)) ht.lt) (fun h k => ⟨h.1.trans k.1, k.2.trans h.2⟩)
    (fun W l o o' hl h hc hw => ⟨belowK_b (w := W0) (by omega) W l o o' hl h hc hw, World.putObj_heap_other (by omega)⟩) (Below.refl _ _) (fun _ => rfl)
    (fun (pre : List (ByteArray × Int)) W => Boxed W w.heap.size 3 (.int .i64 (pre.length : Nat)) ∧ ((Boxed W (w.heap.size + 1) 3 (.int .i64 (lastE pre)) ∧ Below w.heap.size w W) ∧ w.heap.size + 3 ≤ W.heap.size))
    (fun _ _ _ => False)
    (OwnFrom.and (fun s A B row hs hg hr => hs.kept hg (fun e => by have := (hr _ e.symm).1; omega))
      (OwnFrom.and (OwnFrom.and (fun s A B row hs hg hr => hs.kept hg (fun e => by have := (hr _ e.symm).1; omega)) (ownFrom_below (Nat.le_refl _) (by omega))) (fun _ _ _ _ hs hg _ => Nat.le_trans hs hg.size)))
    (fun _ _ _ _ _ hs _ _ => hs)
    ⟨b4, ⟨b5, hB0⟩, by omega⟩
    (fun x => { tmps := #[.string s, undef, .int .i64 0, .bool false, .pointer (some ⟨w.heap.size, 0, none⟩), .pointer (some ⟨w.heap.size + 1, 0, none⟩), undef, .int .i64 x.2, .string s, .func (.func 81) #[] #[.pointer (some ⟨w.heap.size + 1 + 1, 0, none⟩)], .string x.1, .int .i64 x.2, undef, undef, undef, undef, undef, undef, undef, undef, undef, undef, undef, undef, undef, undef, undef, undef], defers := [] }) ?assign ?body ?done ?stop
  case assign =>
    intro l x W K hK
    gi_wp2
    exact hK
  case body =>
    rintro l pre x W ⟨hv, ⟨h5, hB⟩, hge⟩ hlt
    have hc := hv.cell
    have hf := hv.frozen
    have hl1 : ((pre.length : Nat) : Int) ≤ 1048576 := by omega
    obtain ⟨k2, k3, k4, k5, k6, k7, k8⟩ := boxed2_step (.int .i64 ((pre.length : Int) + 1)) (.int .i64 x.2) hv h5 hge
    have q3 := k2.cell
    have q4 := k2.frozen
    gi_wp2
    exact ⟨k5.from _, ⟨k6, k7⟩, by rw [List.length_append]; exact k3, ⟨by rw [lastE_snoc]; exact k4, hB.trans k6⟩, k8⟩
  case done =>
    rintro D ys W hD rfl ⟨hv, ⟨h5, hB⟩, hge⟩ hK
    have hc := hv.cell
    have hc5 := h5.cell
    rw [lastE_fX] at hc5
    rw [fX_length] at hc
    by_cases e : fP s (nF s) = s.size
    · rw [e] at hc5
      by_cases e2 : s.size ≤ 60
      · have hC := cB_yes s e (.inl e2)
        have hd2 : (s.size : Int) ≤ 60 := by omega
        gi_wp2
        refine wpIn_wide.2 ?_
        go_quiet (fail)
        have hK' : (W.drewN nq).heap[D]? = some (.deferred (some [])) := hK
        gi_wp2
        refine ⟨by simp, .inl ⟨_, _, rfl, run_takeDeferred hK', ?_⟩⟩
        refine ⟨_, results_tmp2 rfl _ _ _, ?_, ?_⟩
        · rw [hC]; rfl
        · exact (dn hB nq).trans (belowK_b (w := w) (Nat.le_refl _) (W.drewN nq) D _ _ (by omega) hK' rfl rfl)
      · have hd2 : (60 : Int) < (s.size : Int) := by omega
        by_cases e3 : nF s = 1
        · have hC := cB_yes s e (.inr e3)
          rw [e3] at hc
          gi_wp2
          refine wpIn_wide.2 ?_
          go_quiet (fail)
          have hK' : (W.drewN nq).heap[D]? = some (.deferred (some [])) := hK
          gi_wp2
          refine ⟨by simp, .inl ⟨_, _, rfl, run_takeDeferred hK', ?_⟩⟩
          refine ⟨_, results_tmp2 rfl _ _ _, ?_, ?_⟩
          · rw [hC, e3]; rfl
          · exact (dn hB nq).trans (belowK_b (w := w) (Nat.le_refl _) (W.drewN nq) D _ _ (by omega) hK' rfl rfl)
        · have hC := cB_no s (fun h => by omega)
          have hd3 : (((nF s : Nat) : Int) == 1) = false := beq_no (by omega)
          gi_wp2
          refine wpIn_wide.2 ?_
          go_quiet (fail)
          have hK' : (W.drewN nq).heap[D]? = some (.deferred (some [])) := hK
          gi_wp2
          refine ⟨by simp, .inl ⟨_, _, rfl, run_takeDeferred hK', ?_⟩⟩
          refine ⟨_, results_tmp2 rfl _ _ _, ?_, ?_⟩
          · rw [hC]; simp; exact hd2
          · exact (dn hB nq).trans (belowK_b (w := w) (Nat.le_refl _) (W.drewN nq) D _ _ (by omega) hK' rfl rfl)
    · have hd : (((fP s (nF s) : Nat) : Int) == (s.size : Int)) = false := beq_no (by omega)
      have hC := cB_no s (fun h => e h.1)
      gi_wp2
      refine wpIn_wide.2 ?_
      go_quiet (fail)
      have hK' : (W.drewN nq).heap[D]? = some (.deferred (some [])) := hK
      gi_wp2
      refine ⟨by simp, .inl ⟨_, _, rfl, run_takeDeferred hK', ?_⟩⟩
      refine ⟨_, results_tmp2 rfl _ _ _, ?_, ?_⟩
      · rw [hC]; rfl
      · exact (dn hB nq).trans (belowK_b (w := w) (Nat.le_refl _) (W.drewN nq) D _ _ (by omega) hK' rfl rfl)
  case stop =>
    rintro D c pre W _ _ h _
    exact h.elim
end Go.Proofs.YtemhhjkmolndbaaDoor
/- segsOk, by one contract. -/
namespace Go.Proofs.YtemhhjkmolndbaaDoor
open Go.RowKit Go.PlainAid
set_option linter.unusedVariables false

/-- All segments are as they must be, and end at n. -/
@[irreducible] def sgB (l : List Sg) (n m : Int) : Bool := decide (n = atN l l.length ∧ ∀ k, k < l.length → gB l m k = true)
theorem sgB_iff (l : List Sg) (n m : Int) : sgB l n m = true ↔ (n = atN l l.length ∧ ∀ k, k < l.length → gB l m k = true) := by
  unfold sgB
  exact decide_eq_true_iff
theorem sgB_no (l : List Sg) (n m : Int) (h : ¬ (n = atN l l.length ∧ ∀ k, k < l.length → gB l m k = true)) : sgB l n m = false := by
  cases e : sgB l n m with
  | false => rfl
  | true => exact absurd ((sgB_iff l n m).1 e) h
theorem sgB_stop (l : List Sg) (n m : Int) (k : Nat) (hk : k < l.length) (h : gB l m k ≠ true) : sgB l n m = false := sgB_no l n m fun ⟨_, e⟩ => h (e k hk)
theorem gB_cq {l : List Sg} {m p : Int} {k q k0 : Nat} (hp : atN l k = p) (hq : nF (sT l k) = q) (h0 : l.length = k0) : gB l m k = true ↔ sF l k = p ∧ cB (sT l k) = true ∧ (k + 1 = k0 ∨ (q ≠ 0 ∧ m < p + q - 1)) := by
  rw [gB_iff, hp, hq, h0, cB_iff, hq]
  constructor
  · rintro ⟨a, b, c, d⟩; exact ⟨a, ⟨b, c⟩, d⟩
  · rintro ⟨a, ⟨b, c⟩, d⟩; exact ⟨a, b, c, d⟩

set_option maxRecDepth 100000 in
set_option maxHeartbeats 1000000 in
theorem impl_segsOk (v : Value) (l : List Sg) (n m : Int) (w : World) (hv : Segs w v l) (ht : ∀ j, j < l.length → (sT l j).size ≤ 1048576) (h1 : 1 ≤ l.length) (h6 : l.length ≤ 6) (hf1 : 1 ≤ sF l 0) (hf2 : sF l 0 ≤ 1000) (hT : TabC w) :
    Calls Tryd.prog 107 #[.agg #[v, .int .i64 n, .int .i64 m]] w fun e w' => e = .returned (.bool (sgB l n m)) ∧ Below w.heap.size w w' := by
  have hbd := atN_bd l ht
  obtain ⟨b, o, cap, hve, hcap, hbw, c0, c1⟩ := hv.at0 0 (by omega)
  subst hve
  obtain ⟨k0, hk0⟩ : ∃ k0, l.length = k0 := ⟨_, rfl⟩
  rw [Nat.zero_mul, Nat.add_zero] at c0 c1
  rw [hk0] at h1 h6 hcap ⊢
  have HK := Lib.hid hk0
  have HV := Lib.hid hv
  have HT := Lib.hid ht
  have HBD := Lib.hid hbd
  have HTA := Lib.hid hT
  have d0 : (w.alloc (.cells #[.slice (some ⟨b, o, none⟩) k0 cap, .int .i64 n, .int .i64 m] 26)).cell? ⟨b, o, none⟩ = some (.int .i64 (sF l 0)) := by
    rw [World.cell?_alloc_lt _ _ ⟨b, o, none⟩ hbw]; exact c0
  have p0 : 0 < k0 := by omega
  have i6 : (k0 : Int) ≤ 6 := by omega
  clear hv ht hbd hk0 c0 c1 h1 hT
  go_enter Tryd.func107, Tryd.ntmps107
  go_wp2
  go_loopw [3, 17] (fun pv i wr => ∃ k : Nat, k ≤ k0 ∧ i = .int .i64 k ∧ pv = .int .i64 (atN l k) ∧ (∀ j, j < k → gB l m j = true) ∧ Bx wr w.heap.size 26 #[.slice (some ⟨b, o, none⟩) k0 cap, .int .i64 n, .int .i64 m] ∧ Af w wr) (fun _ i _ => k0 - (intOf i).toNat)
  case atStart => exact ⟨0, by omega, rfl, rfl, fun j hj => by omega, Bx.new w _ _ _ rfl, (Af.refl w).alloc _⟩
  case round =>
    clear d0
    obtain ⟨k, hk, rfl, rfl, he, hx, ha⟩ := hrel
    have HE := Lib.hid he
    have HX := Lib.hid hx
    have HA := Lib.hid ha
    obtain ⟨x0, x1, x2⟩ := hx.cells3
    obtain ⟨hp0, hp1⟩ := HBD.out k (by rw [HK.out]; exact hk)
    obtain ⟨p, hp⟩ : ∃ p, atN l k = p := ⟨_, rfl⟩
    rw [hp] at hp0 hp1 ⊢
    have HP := Lib.hid hp
    clear he hx ha hp
    by_cases hlt : k < k0
    · obtain ⟨b', o', cap', ev, _, hbw', c0, c1⟩ := (HV.out.later HA.out).at0 k (by rw [HK.out]; exact hlt)
      simp only [Value.slice.injEq, Option.some.injEq, Addr.mk.injEq] at ev
      obtain ⟨⟨rfl, rfl, _⟩, _, rfl⟩ := ev
      have htk := HT.out k (by rw [HK.out]; exact hlt)
      have hq5 := nF_le5 (sT l k)
      have y1 : (k : Int) < (k0 : Int) := by omega
      have HTB := Lib.hid ((HTA.out.later HA.out (Nat.le_refl _)).later ((Below.refl wr.heap.size wr).alloc (Nat.le_refl _) (.cells #[.int .i64 (sF l k), .string (sT l k)] 63)) (Nat.le_refl _))
      go_wp2_with fail
      refine (impl_count _ _ htk HTB.out).mono ?_
      rintro e w2 ⟨rfl, hb2⟩
      have S2 := (Bx.new wr 63 #[.int .i64 (sF l k), .string (sT l k)] _ rfl).after hb2
      have s0 := S2.cell 0 _ rfl
      have s1 := S2.cell 1 _ rfl
      have X2 := Lib.hid ((HX.out.alloc (.cells #[.int .i64 (sF l k), .string (sT l k)] 63)).after hb2)
      have A2 := Lib.hid ((HA.out.alloc (.cells #[.int .i64 (sF l k), .string (sT l k)] 63)).after hb2)
      obtain ⟨q, hq⟩ : ∃ q, nF (sT l k) = q := ⟨_, rfl⟩
      rw [hq] at hq5 ⊢
      have HQ := Lib.hid hq
      clear hq hb2 S2 x0 x1 x2 c0 c1 HX HA HTB
      obtain ⟨x0, x1, x2⟩ := X2.out.cells3
      have hqi : (q : Int) ≤ 209716 := by omega
      have hq0 : (0 : Int) ≤ (q : Int) := by omega
      cases h2 : cB (sT l k) with
      | false =>
        go_wp2
        go_ret
        exact ⟨by rw [sgB_stop l n m k (by rw [HK.out]; exact hlt) (fun e => by obtain ⟨g1, g2, g3⟩ := (gB_cq HP.out HQ.out HK.out).1 e; rw [h2] at g2; cases g2)]; rfl, A2.out⟩
      | true =>
        by_cases e1 : sF l k = p
        · have HE1 := Lib.hid e1
          rw [e1] at s0
          clear e1
          by_cases h5 : k + 1 < k0
          · have d5 : ((k : Int) == (k0 : Int) - 1) = false := beq_no (by omega)
            by_cases h6 : q = 0
            · subst h6
              go_wp2
              go_ret
              exact ⟨by rw [sgB_stop l n m k (by rw [HK.out]; exact hlt) (fun e => by obtain ⟨g1, g2, g3⟩ := (gB_cq HP.out HQ.out HK.out).1 e; omega)]; rfl, A2.out⟩
            · have d6 : ((q : Int) == 0) = false := beq_no (by omega)
              by_cases h7 : p + q - 1 ≤ m
              · have d7 : decide (p + (q : Int) - 1 ≤ m) = true := decide_eq_true h7
                go_wp2
                go_ret
                exact ⟨by rw [sgB_stop l n m k (by rw [HK.out]; exact hlt) (fun e => by obtain ⟨g1, g2, g3⟩ := (gB_cq HP.out HQ.out HK.out).1 e; omega)]; rfl, A2.out⟩
              · have d7 : decide (p + (q : Int) - 1 ≤ m) = false := decide_eq_false h7
                have HG : Hid (gB l m k = true) := Lib.hid ((gB_cq HP.out HQ.out HK.out).2 ⟨HE1.out, h2, .inr ⟨h6, by omega⟩⟩)
                go_wp2
                go_roundw
                case rel =>
                  refine ⟨k + 1, by omega, by go_num, (by rw [atN_succ, HP.out, HQ.out] <;> rfl), fun j hj => ?_, X2.out, A2.out⟩
                  by_cases e : j = k
                  · subst e; exact HG.out
                  · exact HE.out j (by omega)
                case measure => simp only [intOf]; omega
          · have d5 : ((k : Int) == (k0 : Int) - 1) = true := by have : (k : Int) = (k0 : Int) - 1 := by omega
                                                                 rw [this]; exact beq_self_eq_true _
            have HG : Hid (gB l m k = true) := Lib.hid ((gB_cq HP.out HQ.out HK.out).2 ⟨HE1.out, h2, .inl (by omega)⟩)
            go_wp2
            go_roundw
            case rel =>
              refine ⟨k + 1, by omega, by go_num, (by rw [atN_succ, HP.out, HQ.out] <;> rfl), fun j hj => ?_, X2.out, A2.out⟩
              by_cases e : j = k
              · subst e; exact HG.out
              · exact HE.out j (by omega)
            case measure => simp only [intOf]; omega
        · have d1 := beq_no e1
          go_wp2
          go_ret
          exact ⟨by rw [sgB_stop l n m k (by rw [HK.out]; exact hlt) (fun e => by obtain ⟨g1, g2, g3⟩ := (gB_cq HP.out HQ.out HK.out).1 e; exact e1 g1)]; rfl, A2.out⟩
    · obtain rfl : k = k0 := by omega
      by_cases h8 : n = p
      · subst h8
        have HO := Lib.hid ((sgB_iff l n m).2 ⟨by rw [HK.out]; exact HP.out.symm, fun j hj => HE.out j (by rw [HK.out] at hj; exact hj)⟩)
        go_wp2
        go_ret
        exact ⟨by rw [HO.out]; rfl, HA.out⟩
      · have d8 : (p == n) = false := beq_no (fun e => h8 e.symm)
        have HO := Lib.hid (sgB_no l n m (fun h => h8 (by have := h.1; rw [HK.out, HP.out] at this; exact this)))
        clear h8
        go_wp2
        go_ret
        exact ⟨by rw [HO.out]; rfl, HA.out⟩
end Go.Proofs.YtemhhjkmolndbaaDoor
/- errors.As at the program's own error type: nil, and an error of that very type. -/
namespace Go.Proofs.YtemhhjkmolndbaaDoor
open Go.RowKit Go.Extern.Stop Go.Stop Go.Extern
set_option linter.unusedVariables false

/-- errors.As(nil, target). -/
theorem as_nil (t : Value) (w : World) :
    Calls Tryd.prog 74 #[.nilIface, t] w fun e w' => e = .returned (.bool false) ∧ w' = w := by
  go_enter Tryd.func74, Tryd.ntmps74
  go_wp2
  go_ret
  exact ⟨rfl, rfl⟩

/-! ### closed facts on the model's entries, at this program's types -/
theorem Tryd.asValueOfP (t : Addr) (w : World) : (ReflectliteValue.unpack (.iface 102 (.pointer (some t)))).run Tryd.prog w
    = .ok (.agg #[.pointer (some ⟨4, 102, none⟩), .pointer (some ⟨w.heap.size, 0, none⟩), .int .u64 150]) (w.alloc (.cells #[.pointer (some t)] 102)) := by kernel_rfl
theorem Tryd.asTypeP (a : Addr) (w : World) : (ReflectliteValue.methodAny (ReflectliteValue.valueError "reflectlite.Value.Type" 0) (fun t _ _ _ => ReflectliteType.toType t) #[.agg #[.pointer (some ⟨4, 102, none⟩), .pointer (some a), .int .u64 150]]).run Tryd.prog w
    = .ok (.iface 163 (.agg #[.pointer (some ⟨4, 102, none⟩)])) w := by kernel_rfl
theorem Tryd.asMethodKind (h : Value) (w : World) : (Go.method 335 163 (.agg #[h]) "Kind").run Tryd.prog w = .ok (175, h) w := by kernel_rfl
theorem Tryd.asKindP (w : World) : ((ReflectliteType.abiMethod fun t => (fun a : Nat => Value.int IntKind.u8 (a : Int)) <$> Rtype.kind t) #[.pointer (some ⟨4, 102, none⟩)]).run Tryd.prog w = .ok (.int .u8 22) w := by kernel_rfl
theorem Tryd.asKindV (w : World) : ((ReflectliteType.abiMethod fun t => (fun a : Nat => Value.int IntKind.u8 (a : Int)) <$> Rtype.kind t) #[.pointer (some ⟨4, 100, none⟩)]).run Tryd.prog w = .ok (.int .u8 25) w := by kernel_rfl
theorem rlm (z : Sem Value) (f : TypeId → Addr → Nat → Nat → Sem Value) (v : Value) :
    ReflectliteValue.method z f #[v] = (do match ← ReflectliteValue.parts v with | none => z | some (t, a, fl) => f t a fl (fl % 32)) := rfl
theorem Tryd.asPartsP (a : Addr) (w : World) : (ReflectliteValue.parts (.agg #[.pointer (some ⟨4, 102, none⟩), .pointer (some a), .int .u64 150])).run Tryd.prog w = .ok (some (102, a, 150)) w := by kernel_rfl
theorem Tryd.asIsNilP (a p : Addr) (W : World) (ha : W.cell? a = some (.pointer (some p))) :
    (ReflectliteValue.method (ReflectliteValue.valueError "reflectlite.Value.IsNil" 0) ReflectliteValue.isNil #[.agg #[.pointer (some ⟨4, 102, none⟩), .pointer (some a), .int .u64 150]]).run Tryd.prog W = .ok (.bool false) W := by
  rw [rlm]
  simp only [Sem.run_bind, Tryd.asPartsP, Result.andThen]
  simp [ReflectliteValue.isNil, loadVar, isAgg, underlying, Tryd.underlying102, ha, Result.andThen]
theorem Tryd.asMethodElem (h : Value) (w : World) : (Go.method 335 163 (.agg #[h]) "Elem").run Tryd.prog w = .ok (185, .agg #[h]) w := by kernel_rfl
theorem Tryd.asMethodImplements (h : Value) (w : World) : (Go.method 335 163 (.agg #[h]) "Implements").run Tryd.prog w = .ok (186, .agg #[h]) w := by kernel_rfl
theorem Tryd.asMethodAssignableTo (h : Value) (w : World) : (Go.method 335 163 (.agg #[h]) "AssignableTo").run Tryd.prog w = .ok (183, .agg #[h]) w := by kernel_rfl
theorem Tryd.asElemT (w : World) : (ReflectliteType.method ReflectliteType.elem #[.agg #[.pointer (some ⟨4, 102, none⟩)]]).run Tryd.prog w = .ok (.iface 163 (.agg #[.pointer (some ⟨4, 100, none⟩)])) w := by kernel_rfl
theorem Tryd.asImplements (w : World) : (ReflectliteType.relation "Implements" ReflectliteType.implements_ #[.agg #[.pointer (some ⟨4, 100, none⟩)], .iface 163 (.agg #[.pointer (some ⟨4, 66, none⟩)])]).run Tryd.prog w = .ok (.bool true) w := by kernel_rfl
theorem Tryd.asTypeOf (v : Value) (w : World) : (ReflectliteType.typeOf #[.iface 100 v]).run Tryd.prog w = .ok (.iface 163 (.agg #[.pointer (some ⟨4, 100, none⟩)])) w := by kernel_rfl
theorem Tryd.asAssignable (w : World) : (ReflectliteType.relation "AssignableTo" ReflectliteType.assignableTo #[.agg #[.pointer (some ⟨4, 100, none⟩)], .iface 163 (.agg #[.pointer (some ⟨4, 100, none⟩)])]).run Tryd.prog w = .ok (.bool true) w := by kernel_rfl
theorem Tryd.asValueOfV (r : ByteArray) (v : Value) (n m : Int) (w : World) : (ReflectliteValue.unpack (.iface 100 (.agg #[.string r, v, .int .i64 n, .int .i64 m]))).run Tryd.prog w
    = .ok (.agg #[.pointer (some ⟨4, 100, none⟩), .pointer (some ⟨w.heap.size, 0, none⟩), .int .u64 153]) (w.alloc (.cells #[.string r, v, .int .i64 n, .int .i64 m] 100)) := by kernel_rfl
theorem Tryd.asElemOf (w : World) : (Rtype.elem? 102).run Tryd.prog w = .ok (some 100) w := by kernel_rfl
theorem Tryd.asMk (p : Addr) (w : World) : (ReflectliteValue.mk 100 p ReflectliteValue.flagAddr).run Tryd.prog w = .ok (.agg #[.pointer (some ⟨4, 100, none⟩), .pointer (some p), .int .u64 409]) w := by kernel_rfl
theorem Tryd.asElemV (a p : Addr) (W : World) (ha : W.cell? a = some (.pointer (some p))) :
    (ReflectliteValue.method (ReflectliteValue.valueError "reflectlite.Value.Elem" 0) ReflectliteValue.elem #[.agg #[.pointer (some ⟨4, 102, none⟩), .pointer (some a), .int .u64 150]]).run Tryd.prog W
      = .ok (.agg #[.pointer (some ⟨4, 100, none⟩), .pointer (some p), .int .u64 409]) W := by
  rw [rlm]
  simp only [Sem.run_bind, Tryd.asPartsP, Result.andThen]
  simp [ReflectliteValue.elem, loadVar, isAgg, underlying, Tryd.underlying102, ha, Result.andThen, Tryd.asElemOf, Tryd.asMk]
theorem rls (v x : Value) : ReflectliteValue.set #[v, x] = (do
    let (some (dst, a, fl), some (src, b, _)) := (← ReflectliteValue.parts v, ← ReflectliteValue.parts x)
      | unsupported (.noEntry "extern/(internal/reflectlite.Value).Set.zeroValue")
    if fl / ReflectliteValue.flagAddr % 2 == 0 then unsupported (.noEntry "extern/(internal/reflectlite.Value).Set.unaddressable")
    let val ← loadVar src b
    if ← Rtype.directlyAssignable dst src then storeVar dst a val
    else if ← Rtype.implements dst src then
      if (← Rtype.kind src) == 20 then
        match val with
        | .nilIface => unsupported (.noEntry "extern/reflectlite: a nil value of one interface type handed on as a value of another")
        | _ => storeVar dst a val
      else storeVar dst a (.iface src val)
    else panicString ("reflectlite.Set: value of type " ++ (← Rtype.spelt src) ++ " is not assignable to type " ++ (← Rtype.spelt dst))
    pure (.tuple #[])) := rfl
theorem Tryd.asPartsA (a : Addr) (w : World) : (ReflectliteValue.parts (.agg #[.pointer (some ⟨4, 100, none⟩), .pointer (some a), .int .u64 409])).run Tryd.prog w = .ok (some (100, a, 409)) w := by kernel_rfl
theorem Tryd.asPartsV (a : Addr) (w : World) : (ReflectliteValue.parts (.agg #[.pointer (some ⟨4, 100, none⟩), .pointer (some a), .int .u64 153])).run Tryd.prog w = .ok (some (100, a, 153)) w := by kernel_rfl
theorem Tryd.asDirect (w : World) : (Rtype.directlyAssignable 100 100).run Tryd.prog w = .ok true w := by kernel_rfl
theorem Tryd.asSize (w : World) : (sizeOf 100).run Tryd.prog w = .ok 4 w := by kernel_rfl
theorem Tryd.asAgg (w : World) : (isAgg 100).run Tryd.prog w = .ok true w := by kernel_rfl
abbrev st4 (w : World) (g : Nat) (y0 y1 y2 y3 : Value) : World := (((w.setCell ⟨g, 0, none⟩ y0).setCell ⟨g, 1, none⟩ y1).setCell ⟨g, 2, none⟩ y2).setCell ⟨g, 3, none⟩ y3
theorem Bx.cells4 {w : World} {g : Nat} {t : TypeId} {x0 x1 x2 x3 : Value} (h : Bx w g t #[x0, x1, x2, x3]) : w.cell? ⟨g, 0, none⟩ = some x0 ∧ w.cell? ⟨g, 1, none⟩ = some x1 ∧ w.cell? ⟨g, 2, none⟩ = some x2 ∧ w.cell? ⟨g, 3, none⟩ = some x3 :=
  ⟨h.cell 0 _ rfl, h.cell 1 _ rfl, h.cell 2 _ rfl, h.cell 3 _ rfl⟩
theorem Tryd.asLoad (b : Nat) (x0 x1 x2 x3 : Value) (W : World) (hb : Bx W b 100 #[x0, x1, x2, x3]) : (loadVar 100 ⟨b, 0, none⟩).run Tryd.prog W = .ok (.agg #[x0, x1, x2, x3]) W := by
  obtain ⟨c0, c1, c2, c3⟩ := hb.cells4
  simp [loadVar, loadCells, loadCellsFrom, Addr.add, c0, c1, c2, c3, Result.andThen]
theorem Tryd.asStore (b : Nat) (x0 x1 x2 x3 y0 y1 y2 y3 : Value) (W : World) (hb : Bx W b 100 #[x0, x1, x2, x3]) (h0 : y0.oneCell' = true) (h1 : y1.oneCell' = true) (h2 : y2.oneCell' = true) (h3 : y3.oneCell' = true) : (storeVar 100 ⟨b, 0, none⟩ (.agg #[y0, y1, y2, y3])).run Tryd.prog W = .ok () (st4 W b y0 y1 y2 y3) := by
  have b1 := hb.set 0 y0
  have b2 := b1.set 1 y1
  have b3 := b2.set 2 y2
  have c0 := hb.cell 0 _ rfl
  have c1 := b1.cell 1 _ rfl
  have c2 := b2.cell 2 _ rfl
  have c3 := b3.cell 3 _ rfl
  have f0 := hb.frozen 0
  have f1 := b1.frozen 1
  have f2 := b2.frozen 2
  have f3 := b3.frozen 3
  simp only [storeVar, Sem.run_bind, Tryd.asSize, Result.andThen, Value.cells]
  simp [storeCells, Addr.add, Result.andThen]
  rw [run_store Tryd.prog W ⟨b, 0, none⟩ _ _ h0]
  simp only [c0, f0]
  simp
  rw [run_store Tryd.prog _ ⟨b, 1, none⟩ _ _ h1]
  simp only [c1, f1]
  simp
  rw [run_store Tryd.prog _ ⟨b, 2, none⟩ _ _ h2]
  simp only [c2, f2]
  simp
  rw [run_store Tryd.prog _ ⟨b, 3, none⟩ _ _ h3]
  simp only [c3, f3]
  simp
theorem Tryd.asSet (t b : Nat) (r : ByteArray) (v : Value) (n m : Int) (o0 o1 o2 o3 : Value) (W : World) (hv : v.oneCell' = true) (hb : Bx W b 100 #[.string r, v, .int .i64 n, .int .i64 m]) (ht : Bx W t 100 #[o0, o1, o2, o3]) :
    (ReflectliteValue.set #[.agg #[.pointer (some ⟨4, 100, none⟩), .pointer (some ⟨t, 0, none⟩), .int .u64 409], .agg #[.pointer (some ⟨4, 100, none⟩), .pointer (some ⟨b, 0, none⟩), .int .u64 153]]).run Tryd.prog W
      = .ok (.tuple #[]) (st4 W t (.string r) v (.int .i64 n) (.int .i64 m)) := by
  have hl := Tryd.asLoad b _ _ _ _ W hb
  have hs := Tryd.asStore t _ _ _ _ (.string r) v (.int .i64 n) (.int .i64 m) W ht rfl hv rfl rfl
  rw [rls]
  simp only [Sem.run_bind, Tryd.asPartsA, Tryd.asPartsV, Result.andThen]
  simp [ReflectliteValue.flagAddr, Result.andThen, Tryd.asDirect, hl, hs]

/-- The variable that errors.As asks holds the type 'error'. -/
def ErrT (w : World) : Prop := w.cell? ⟨0, 0, none⟩ = some (.iface 163 (.agg #[.pointer (some ⟨4, 66, none⟩)]))
theorem ErrT.lt {w : World} (h : ErrT w) : 0 < w.heap.size := by
  rcases Nat.lt_or_ge 0 w.heap.size with h' | h'
  · exact h'
  · unfold ErrT at h
    simp [World.cell?, Array.getElem?_eq_none h'] at h
theorem ErrT.below {w w' : World} {B : Nat} (h : ErrT w) (hb : Below B w w') (hB : 0 < B) : ErrT w' := by
  unfold ErrT at *
  rw [hb.cell (p := ⟨0, 0, none⟩) hB]
  exact h
theorem ErrT.later {w w' : World} (h : ErrT w) (hb : Below w.heap.size w w') : ErrT w' := h.below hb h.lt
theorem ErrT.alloc {w : World} (h : ErrT w) (o : Obj) : ErrT (w.alloc o) := h.later ((Below.refl _ _).alloc (Nat.le_refl _) _)

set_option maxHeartbeats 4000000 in
theorem as_hit (r : ByteArray) (v : Value) (n m : Int) (t : Nat) (o0 o1 o2 o3 : Value) (w : World) (hv : v.oneCell' = true) (hg : ErrT w) (ht : Bx w t 100 #[o0, o1, o2, o3]) :
    Calls Tryd.prog 74 #[.iface 100 (.agg #[.string r, v, .int .i64 n, .int .i64 m]), .iface 102 (.pointer (some ⟨t, 0, none⟩))] w fun ev w' => ev = .returned (.bool true) ∧ ∃ w1, w' = st4 w1 t (.string r) v (.int .i64 n) (.int .i64 m) ∧ Below w.heap.size w w1 := by
  have h6 := @run_callFunc_extern Tryd.prog 103 _ (fun args => ReflectliteValue.unpack (args.getD 0 (.tuple #[]))) Tryd.func103 (by kernel_rfl) (by kernel_rfl) (by kernel_rfl) (by kernel_rfl)
  have h7 := @run_callFunc_extern Tryd.prog 104 _ (ReflectliteValue.methodAny (ReflectliteValue.valueError "reflectlite.Value.Type" 0) (fun t _ _ _ => ReflectliteType.toType t)) Tryd.func104 (by kernel_rfl) (by kernel_rfl) (by kernel_rfl) (by kernel_rfl)
  have h8 := @run_callFunc_extern Tryd.prog 105 _ (ReflectliteValue.method (ReflectliteValue.valueError "reflectlite.Value.IsNil" 0) ReflectliteValue.isNil) Tryd.func105 (by kernel_rfl) (by kernel_rfl) (by kernel_rfl) (by kernel_rfl)
  have h27 := @run_callFunc_extern Tryd.prog 175 _ (ReflectliteType.abiMethod fun t => do pure (.int .u8 (← Rtype.kind t))) Tryd.func175 (by kernel_rfl) (by kernel_rfl) (by kernel_rfl) (by kernel_rfl)
  have h37 := @run_callFunc_extern Tryd.prog 185 _ (ReflectliteType.method ReflectliteType.elem) Tryd.func185 (by kernel_rfl) (by kernel_rfl) (by kernel_rfl) (by kernel_rfl)
  have h38 := @run_callFunc_extern Tryd.prog 186 _ (ReflectliteType.relation "Implements" ReflectliteType.implements_) Tryd.func186 (by kernel_rfl) (by kernel_rfl) (by kernel_rfl) (by kernel_rfl)
  have h10 := @run_callFunc_extern Tryd.prog 124 _ ReflectliteType.typeOf Tryd.func124 (by kernel_rfl) (by kernel_rfl) (by kernel_rfl) (by kernel_rfl)
  have h35 := @run_callFunc_extern Tryd.prog 183 _ (ReflectliteType.relation "AssignableTo" ReflectliteType.assignableTo) Tryd.func183 (by kernel_rfl) (by kernel_rfl) (by kernel_rfl) (by kernel_rfl)
  have h11 := @run_callFunc_extern Tryd.prog 125 _ (ReflectliteValue.method (ReflectliteValue.valueError "reflectlite.Value.Elem" 0) ReflectliteValue.elem) Tryd.func125 (by kernel_rfl) (by kernel_rfl) (by kernel_rfl) (by kernel_rfl)
  have h12 := @run_callFunc_extern Tryd.prog 126 _ ReflectliteValue.set Tryd.func126 (by kernel_rfl) (by kernel_rfl) (by kernel_rfl) (by kernel_rfl)
  have tO := Tryd.asTypeOf
  have mA := Tryd.asMethodAssignableTo
  have a25 := Tryd.asAssignable
  have v25 := Tryd.asValueOfV
  have f6 := Tryd.asValueOfP
  have f7 := Tryd.asTypeP
  have mK := Tryd.asMethodKind
  have mE := Tryd.asMethodElem
  have mI := Tryd.asMethodImplements
  have k27 := Tryd.asKindP
  have k25 := Tryd.asKindV
  have e27 := Tryd.asElemT
  have i25 := Tryd.asImplements
  have n8 := Tryd.asIsNilP ⟨w.heap.size, 0, none⟩ ⟨t, 0, none⟩ ((w.alloc (.cells #[.pointer (some ⟨t, 0, none⟩)] 102)).alloc (.cells #[.pointer (some ⟨4, 102, none⟩), .pointer (some ⟨w.heap.size, 0, none⟩), .int .u64 150] 134)) (by simp)
  have hg2 : ErrT ((w.alloc (.cells #[.pointer (some ⟨t, 0, none⟩)] 102)).alloc (.cells #[.pointer (some ⟨4, 102, none⟩), .pointer (some ⟨w.heap.size, 0, none⟩), .int .u64 150] 134)) := (hg.alloc _).alloc _
  unfold ErrT at hg2
  have el := Tryd.asElemV ⟨w.heap.size, 0, none⟩ ⟨t, 0, none⟩ (((w.alloc (.cells #[.pointer (some ⟨t, 0, none⟩)] 102)).alloc (.cells #[.pointer (some ⟨4, 102, none⟩), .pointer (some ⟨w.heap.size, 0, none⟩), .int .u64 150] 134)).alloc (.cells #[.pointer (some ⟨4, 102, none⟩), .pointer (some ⟨w.heap.size, 0, none⟩), .int .u64 150] 134)) (by rw [World.cell?_alloc_lt _ _ ⟨w.heap.size, 0, none⟩ (by simp; omega)]; simp)
  have st := Tryd.asSet t (w.heap.size + 1 + 1 + 1) r v n m o0 o1 o2 o3 ((((w.alloc (.cells #[.pointer (some ⟨t, 0, none⟩)] 102)).alloc (.cells #[.pointer (some ⟨4, 102, none⟩), .pointer (some ⟨w.heap.size, 0, none⟩), .int .u64 150] 134)).alloc (.cells #[.pointer (some ⟨4, 102, none⟩), .pointer (some ⟨w.heap.size, 0, none⟩), .int .u64 150] 134)).alloc (.cells #[.string r, v, .int .i64 n, .int .i64 m] 100))
    hv (Bx.new _ _ _ _ (by simp)) ((((ht.alloc _).alloc _).alloc _).alloc _)
  have HA := Lib.hid ((((Af.refl w).alloc (.cells #[.pointer (some ⟨t, 0, none⟩)] 102)).alloc (.cells #[.pointer (some ⟨4, 102, none⟩), .pointer (some ⟨w.heap.size, 0, none⟩), .int .u64 150] 134)).alloc (.cells #[.pointer (some ⟨4, 102, none⟩), .pointer (some ⟨w.heap.size, 0, none⟩), .int .u64 150] 134) |>.alloc (.cells #[.string r, v, .int .i64 n, .int .i64 m] 100))
  clear hg ht
  go_enter Tryd.func74, Tryd.ntmps74
  go_wp2
  refine wp_loop_rounds 1 ?_
  rw [rounds_succ]
  go_wp2
  go_ret
  exact ⟨rfl, _, rfl, HA.out⟩
end Go.Proofs.YtemhhjkmolndbaaDoor
/- checkLog and logResult, by contracts. -/
namespace Go.Proofs.YtemhhjkmolndbaaDoor
open Go.RowKit Go.PlainAid
set_option linter.unusedVariables false

theorem rng_yes (a b c : Int) (w : World) (h1 : b ≤ a) (h2 : a ≤ c) : Calls Tryd.prog 69 #[.int .i64 a, .int .i64 b, .int .i64 c] w fun e w' => e = .returned (.bool true) ∧ w = w' := by
  go_enter Tryd.func69, Tryd.ntmps69
  go_wp2
  go_ret
  exact ⟨rfl, rfl⟩
theorem rng_no (a b c : Int) (w : World) (h : a < b ∨ c < a) : Calls Tryd.prog 69 #[.int .i64 a, .int .i64 b, .int .i64 c] w fun e w' => e = .returned (.bool false) ∧ w = w' := by
  by_cases h1 : b ≤ a
  · have h2 : decide (a ≤ c) = false := by simp; omega
    clear h
    go_enter Tryd.func69, Tryd.ntmps69
    go_wp2
    go_ret
    exact ⟨rfl, rfl⟩
  · clear h
    go_enter Tryd.func69, Tryd.ntmps69
    go_wp2
    go_ret
    exact ⟨rfl, rfl⟩

/-- What checkLog answers. -/
def ChkV (l : List Sg) (n m : Int) (e : Ending) : Prop := (okB l n m = true ∧ e = .returned .nilIface) ∨ (okB l n m = false ∧ ∃ r, e = .returned (.iface 100 (.agg #[.string r, .slice none 0 0, .int .i64 0, .int .i64 0])))
theorem ok_sg (l : List Sg) (n m : Int) (h1 : 1 ≤ l.length) (h6 : l.length ≤ 6) (hn : n ≤ 1000) (hm : 0 ≤ m) (hm2 : m ≤ n - 1) (hf : 1 ≤ sF l 0) : okB l n m = sgB l n m := by
  cases e : sgB l n m with
  | true => obtain ⟨a, b⟩ := (sgB_iff l n m).1 e; exact (okB_iff l n m).2 ⟨h1, h6, hf, hn, hm, hm2, a, b⟩
  | false => exact okB_no l n m fun ⟨_, _, _, _, _, _, a, b⟩ => by rw [(sgB_iff l n m).2 ⟨a, b⟩] at e; cases e

set_option maxRecDepth 100000 in
set_option maxHeartbeats 1000000 in
theorem impl_check (v : Value) (l : List Sg) (n m : Int) (w : World) (hv : Segs w v l) (ht : ∀ j, j < l.length → (sT l j).size ≤ 1048576) (hT : TabC w) :
    Calls Tryd.prog 75 #[.agg #[v, .int .i64 n, .int .i64 m]] w fun e w' => ChkV l n m e ∧ Below w.heap.size w w' := by
  have hbd := atN_bd l ht
  obtain ⟨a, k0, cap, hve⟩ := hv.form
  have hk0 : l.length = k0 := by
    obtain ⟨_, _, a', c', e', _⟩ := hv
    rw [hve] at e'
    simp only [Value.slice.injEq] at e'
    exact e'.2.1.symm
  subst hve
  by_cases hlen : 1 ≤ l.length ∧ l.length ≤ 6
  · by_cases hn : 1 ≤ n ∧ n ≤ 1000
    · by_cases hm : 0 ≤ m ∧ m ≤ n - 1
      · obtain ⟨b, o, cap', hve, hcap, hbw, c0, c1⟩ := hv.at0 0 (by omega)
        simp only [Value.slice.injEq] at hve
        obtain ⟨rfl, hdd, rfl⟩ := hve
        clear hdd
        rw [Nat.zero_mul, Nat.add_zero] at c0 c1
        have d0 : (w.alloc (.cells #[.slice (some ⟨b, o, none⟩) k0 cap, .int .i64 n, .int .i64 m] 26)).cell? ⟨b, o, none⟩ = some (.int .i64 (sF l 0)) := by
          rw [World.cell?_alloc_lt _ _ ⟨b, o, none⟩ hbw]; exact c0
        obtain ⟨n1, n2⟩ := hn
        obtain ⟨m1, m2⟩ := hm
        by_cases hf : 1 ≤ sF l 0 ∧ sF l 0 ≤ n
        · have HS := Lib.hid (impl_segsOk _ l n m _ (hv.alloc (.cells #[.slice (some ⟨b, o, none⟩) k0 cap, .int .i64 n, .int .i64 m] 26)).drew ht hlen.1 hlen.2 hf.1 (by omega) (hT.later (((Below.refl w.heap.size w).alloc (Nat.le_refl _) (.cells #[.slice (some ⟨b, o, none⟩) k0 cap, .int .i64 n, .int .i64 m] 26)).drew) (Nat.le_refl _)))
          have HO := Lib.hid (ok_sg l n m hlen.1 hlen.2 n2 m1 m2 hf.1)
          rw [hk0] at hlen hcap
          obtain ⟨l1, l6⟩ := hlen
          obtain ⟨f1, f2⟩ := hf
          have p0 : 0 < k0 := by omega
          have X := Lib.hid (Bx.new w 26 #[.slice (some ⟨b, o, none⟩) k0 cap, .int .i64 n, .int .i64 m] _ rfl)
          obtain ⟨x0, x1, x2⟩ := X.out.cells3
          clear hv ht hbd hk0 c0 c1 hT
          go_enter Tryd.func75, Tryd.ntmps75
          go_wp2_with (go_at_call 69; refine (rng_yes _ _ _ _ (by omega) (by omega)).mono ?_; rintro e w' ⟨rfl, rfl⟩)
          go_region_held3 (fun w' => w'.cell? ⟨w.heap.size, 0, none⟩ = some (.slice (some ⟨b, o, none⟩) k0 cap) ∧ w'.cell? ⟨w.heap.size, 1, none⟩ = some (.int .i64 n) ∧ w'.cell? ⟨w.heap.size, 2, none⟩ = some (.int .i64 m) ∧ w'.cell? ⟨b, o, none⟩ = some (.int .i64 (sF l 0))) (first | (with_reducible exact ⟨x0, x1, x2, d0⟩) | (with_reducible exact CY.out) | go_keep)
            (first | (go_at_call 69; refine (rng_yes _ _ _ _ f1 f2).mono ?_; rintro e w' ⟨rfl, rfl⟩) | (go_at_call 107; refine HS.out.mono ?_; rintro e w2 ⟨rfl, hb⟩; have HB2 := Lib.hid (((Af.refl w).alloc (.cells #[.slice (some ⟨b, o, none⟩) k0 cap, .int .i64 n, .int .i64 m] 26)).drew.after hb); have Y := (X.out.drew.after hb).cells3; have CY := Lib.hid (show w2.cell? ⟨w.heap.size, 0, none⟩ = some (.slice (some ⟨b, o, none⟩) k0 cap) ∧ w2.cell? ⟨w.heap.size, 1, none⟩ = some (.int .i64 n) ∧ w2.cell? ⟨w.heap.size, 2, none⟩ = some (.int .i64 m) ∧ w2.cell? ⟨b, o, none⟩ = some (.int .i64 (sF l 0)) from ⟨Y.1, Y.2.1, Y.2.2, by rw [hb.cell (p := ⟨b, o, none⟩) (by simp <;> omega)]; exact d0⟩); clear Y hb))
          cases hs : sgB l n m with
          | true =>
            go_wp2
            go_ret
            exact ⟨.inl ⟨by rw [HO.out, hs], rfl⟩, HB2.out⟩
          | false =>
            go_wp2
            go_ret
            exact ⟨.inr ⟨by rw [HO.out, hs], _, rfl⟩, HB2.out⟩
        · have HO := Lib.hid (okB_no l n m (fun h => hf ⟨h.2.2.1, by have h1 := h.2.2.2.2.2.2.1; have h3 := (hbd l.length (Nat.le_refl _)).1; omega⟩))
          have hf' : sF l 0 < 1 ∨ n < sF l 0 := by omega
          rw [hk0] at hlen hcap
          obtain ⟨l1, l6⟩ := hlen
          have p0 : 0 < k0 := by omega
          obtain ⟨x0, x1, x2⟩ := (Bx.new w 26 #[.slice (some ⟨b, o, none⟩) k0 cap, .int .i64 n, .int .i64 m] _ rfl).cells3
          clear hv ht hbd hk0 c0 c1 hT hf
          go_enter Tryd.func75, Tryd.ntmps75
          go_wp2_with (go_at_call 69; first | (refine (rng_yes _ _ _ _ (by omega) (by omega)).mono ?_; rintro e w' ⟨rfl, rfl⟩) | (refine (rng_no _ _ _ _ hf').mono ?_; rintro e w' ⟨rfl, rfl⟩))
          go_quiet ((go_at_call 69; refine Calls.quiet_of_same ((rng_no _ _ _ _ hf').mono fun e w' h => ⟨h.1, h.2.symm⟩)))
          go_wp2
          go_ret
          exact ⟨.inr ⟨HO.out, _, rfl⟩, ((Af.refl w).alloc _).drewN _⟩
      · have HO := Lib.hid (okB_no l n m (fun h => hm ⟨h.2.2.2.2.1, h.2.2.2.2.2.1⟩))
        have hm' : m < 0 ∨ n - 1 < m := by omega
        obtain ⟨n1, n2⟩ := hn
        rw [hk0] at hlen
        obtain ⟨l1, l6⟩ := hlen
        clear hv ht hbd hk0 hm hT
        go_enter Tryd.func75, Tryd.ntmps75
        go_wp2_with (go_at_call 69; first | (refine (rng_yes _ _ _ _ (by omega) (by omega)).mono ?_; rintro e w' ⟨rfl, rfl⟩) | (refine (rng_no _ _ _ _ hm').mono ?_; rintro e w' ⟨rfl, rfl⟩))
        go_ret
        exact ⟨.inr ⟨HO.out, _, rfl⟩, (Af.refl w).alloc _⟩
    · have HO := Lib.hid (okB_no l n m (fun h => hn ⟨by have := h.2.2.2.2.1; have := h.2.2.2.2.2.1; omega, h.2.2.2.1⟩))
      have hn' : n < 1 ∨ 1000 < n := by omega
      rw [hk0] at hlen
      obtain ⟨l1, l6⟩ := hlen
      clear hv ht hbd hk0 hn hT
      go_enter Tryd.func75, Tryd.ntmps75
      go_wp2_with (go_at_call 69; first | (refine (rng_yes _ _ _ _ (by omega) (by omega)).mono ?_; rintro e w' ⟨rfl, rfl⟩) | (refine (rng_no _ _ _ _ hn').mono ?_; rintro e w' ⟨rfl, rfl⟩))
      go_ret
      exact ⟨.inr ⟨HO.out, _, rfl⟩, (Af.refl w).alloc _⟩
  · have HO := Lib.hid (okB_no l n m (fun h => hlen ⟨h.1, h.2.1⟩))
    have hk : (k0 : Int) < 1 ∨ 6 < (k0 : Int) := by omega
    clear hv ht hbd hlen hk0 hT
    go_enter Tryd.func75, Tryd.ntmps75
    go_wp2_with (go_at_call 69; refine (rng_no _ _ _ _ hk).mono ?_; rintro e w' ⟨rfl, rfl⟩)
    go_ret
    exact ⟨.inr ⟨HO.out, _, rfl⟩, (Af.refl w).alloc _⟩
end Go.Proofs.YtemhhjkmolndbaaDoor
/- logResult, by contracts. -/
namespace Go.Proofs.YtemhhjkmolndbaaDoor
open Go.RowKit Go.PlainAid
set_option linter.unusedVariables false

theorem Bx.st4o {w : World} {g q : Nat} {t : TypeId} {cs : Array Value} (h : Bx w g t cs) (hne : g ≠ q) (y0 y1 y2 y3 : Value) : Bx (st4 w q y0 y1 y2 y3) g t cs := (((h.set_other ⟨q, 0, none⟩ y0 hne).set_other ⟨q, 1, none⟩ y1 hne).set_other ⟨q, 2, none⟩ y2 hne).set_other ⟨q, 3, none⟩ y3 hne
theorem Bx.st4 {w : World} {g : Nat} {t : TypeId} {x0 x1 x2 x3 : Value} (h : Bx w g t #[x0, x1, x2, x3]) (y0 y1 y2 y3 : Value) : Bx (Go.Proofs.YtemhhjkmolndbaaDoor.st4 w g y0 y1 y2 y3) g t #[y0, y1, y2, y3] := (((h.set 0 y0).set 1 y1).set 2 y2).set 3 y3
theorem Af.st4 {w0 w : World} {q : Nat} (h : Af w0 w) (hq : w0.heap.size ≤ q) (y0 y1 y2 y3 : Value) : Af w0 (Go.Proofs.YtemhhjkmolndbaaDoor.st4 w q y0 y1 y2 y3) := (((h.set (p := ⟨q, 0, none⟩) hq y0).set (p := ⟨q, 1, none⟩) hq y1).set (p := ⟨q, 2, none⟩) hq y2).set (p := ⟨q, 3, none⟩) hq y3

theorem grow_st4 (w : World) (g : Nat) (y0 y1 y2 y3 : Value) : w.grownBy (st4 w g y0 y1 y2 y3) (some g) := (((grownBy_set w g 0 y0).trans (grownBy_set _ g 1 y1)).trans (grownBy_set _ g 2 y2)).trans (grownBy_set _ g 3 y3)
theorem as_nil2 (t : Value) (w : World) :
    Calls Tryd.prog 74 #[.nilIface, t] w fun e w' => e = .returned (.bool false) ∧ Below w.heap.size w w' := (as_nil t w).mono fun e w' h => ⟨h.1, by rw [h.2]; exact Below.refl _ _⟩
theorem as_hit2 (r : ByteArray) (v : Value) (n m : Int) (t : Nat) (o0 o1 o2 o3 : Value) (w : World) (hv : v.oneCell' = true) (hg : ErrT w) (ht : Bx w t 100 #[o0, o1, o2, o3]) :
    Calls Tryd.prog 74 #[.iface 100 (.agg #[.string r, v, .int .i64 n, .int .i64 m]), .iface 102 (.pointer (some ⟨t, 0, none⟩))] w fun ev w' => ev = .returned (.bool true) ∧ Bx w' t 100 #[.string r, v, .int .i64 n, .int .i64 m] ∧ w.grownBy w' (some t) :=
  (as_hit r v n m t o0 o1 o2 o3 w hv hg ht).mono fun e w' ⟨h1, w1, h2, h3⟩ => ⟨h1, by rw [h2]; exact (ht.after h3).st4 _ _ _ _, by rw [h2]; exact (grown_all h3 (some t)).trans (grow_st4 w1 t _ _ _ _)⟩

set_option maxHeartbeats 400000 in
theorem res_nil (a : Option Addr) (k c : Nat) (n m : Int) (w : World) :
    Calls Tryd.prog 42 #[.agg #[.slice a k c, .int .i64 n, .int .i64 m], .nilIface] w fun e w' => e = .returned (.tuple #[.agg #[.slice a k c, .int .i64 n, .int .i64 m], .bool true]) ∧ Below w.heap.size w w' := by
  have X0 := Lib.hid (((Bx.new w 26 #[.slice a k c, .int .i64 n, .int .i64 m] _ rfl).alloc (.cells #[.slice none 0 0, .int .i64 0, .int .i64 0] 26)).alloc (.cells #[.string ⟨#[]⟩, .slice none 0 0, .int .i64 0, .int .i64 0] 100))
  have X1 := Lib.hid ((Bx.new (w.alloc (.cells #[.slice a k c, .int .i64 n, .int .i64 m] 26)) 26 #[.slice none 0 0, .int .i64 0, .int .i64 0] (w.heap.size + 1) (by simp)).alloc (.cells #[.string ⟨#[]⟩, .slice none 0 0, .int .i64 0, .int .i64 0] 100))
  have HA := Lib.hid ((((Af.refl w).alloc (.cells #[.slice a k c, .int .i64 n, .int .i64 m] 26)).alloc (.cells #[.slice none 0 0, .int .i64 0, .int .i64 0] 26)).alloc (.cells #[.string ⟨#[]⟩, .slice none 0 0, .int .i64 0, .int .i64 0] 100))
  go_enter Tryd.func42, Tryd.ntmps42
  go_wp2_with fail
  refine (as_nil2 _ _).mono ?_
  rintro e w2 ⟨rfl, hb⟩
  obtain ⟨x0, x1, x2⟩ := (X0.out.after hb).cells3
  have Y1 := Lib.hid (X1.out.after hb)
  obtain ⟨y0, y1, y2⟩ := Y1.out.cells3
  obtain ⟨f0, f1, f2⟩ := Y1.out.frozen3
  have A2 := Lib.hid (HA.out.after hb)
  clear hb
  go_wp2
  exact bodyPost_ret (results_log2 Tryd.results42 _ _ (w.heap.size + 1) _ _ _ rfl (Y1.out.st3 _ _ _).cells3) rfl ⟨rfl, A2.out.st3 (by omega) _ _ _⟩

set_option maxHeartbeats 400000 in
theorem res_rej (a : Option Addr) (k c : Nat) (n m : Int) (r : ByteArray) (a' : Option Addr) (k' c' : Nat) (n' m' : Int) (w : World) (hg : ErrT w) :
    Calls Tryd.prog 42 #[.agg #[.slice a k c, .int .i64 n, .int .i64 m], .iface 100 (.agg #[.string r, .slice a' k' c', .int .i64 n', .int .i64 m'])] w fun e w' => e = .returned (.tuple #[.agg #[.slice a' k' c', .int .i64 n', .int .i64 m'], .bool false]) ∧ Below w.heap.size w w' := by
  have X1 := Lib.hid ((Bx.new (w.alloc (.cells #[.slice a k c, .int .i64 n, .int .i64 m] 26)) 26 #[.slice none 0 0, .int .i64 0, .int .i64 0] (w.heap.size + 1) (by simp)).alloc (.cells #[.string ⟨#[]⟩, .slice none 0 0, .int .i64 0, .int .i64 0] 100))
  have X2 := Lib.hid (Bx.new ((w.alloc (.cells #[.slice a k c, .int .i64 n, .int .i64 m] 26)).alloc (.cells #[.slice none 0 0, .int .i64 0, .int .i64 0] 26)) 100 #[.string ⟨#[]⟩, .slice none 0 0, .int .i64 0, .int .i64 0] (w.heap.size + 1 + 1) (by simp))
  have HA := Lib.hid ((((Af.refl w).alloc (.cells #[.slice a k c, .int .i64 n, .int .i64 m] 26)).alloc (.cells #[.slice none 0 0, .int .i64 0, .int .i64 0] 26)).alloc (.cells #[.string ⟨#[]⟩, .slice none 0 0, .int .i64 0, .int .i64 0] 100))
  have HG := Lib.hid (((hg.alloc (.cells #[.slice a k c, .int .i64 n, .int .i64 m] 26)).alloc (.cells #[.slice none 0 0, .int .i64 0, .int .i64 0] 26)).alloc (.cells #[.string ⟨#[]⟩, .slice none 0 0, .int .i64 0, .int .i64 0] 100))
  clear hg
  go_enter Tryd.func42, Tryd.ntmps42
  go_wp2_with fail
  refine (as_hit2 r (.slice a' k' c') n' m' (w.heap.size + 1 + 1) _ _ _ _ _ rfl HG.out X2.out).mono ?_
  rintro e w2 ⟨rfl, Z2, hb⟩
  have Y1 := Lib.hid (X1.out.keep hb (by simp))
  have A2 := Lib.hid (HA.out.grow hb (fun k hk => by cases hk; omega))
  obtain ⟨y0, y1, y2⟩ := Y1.out.cells3
  obtain ⟨f0, f1, f2⟩ := Y1.out.frozen3
  obtain ⟨u0, u1, u2, u3⟩ := Z2.cells4
  clear hb Z2
  go_wp2
  exact bodyPost_ret (results_log2 Tryd.results42 _ _ (w.heap.size + 1) _ _ _ rfl (Y1.out.st3 _ _ _).cells3) rfl ⟨rfl, A2.out.st3 (by omega) _ _ _⟩
end Go.Proofs.YtemhhjkmolndbaaDoor
/- LogOk, by one contract. -/
namespace Go.Proofs.YtemhhjkmolndbaaDoor
open Go.RowKit Go.PlainAid
set_option linter.unusedVariables false

theorem check_ok (v : Value) (l : List Sg) (n m : Int) (w : World) (hv : Segs w v l) (ht : ∀ j, j < l.length → (sT l j).size ≤ 1048576) (hT : TabC w) (h : okB l n m = true) :
    Calls Tryd.prog 75 #[.agg #[v, .int .i64 n, .int .i64 m]] w fun e w' => e = .returned .nilIface ∧ Below w.heap.size w w' :=
  (impl_check v l n m w hv ht hT).mono fun e w' ⟨h1, h2⟩ => by
    rcases h1 with ⟨_, h1⟩ | ⟨h3, _⟩
    · exact ⟨h1, h2⟩
    · rw [h] at h3; cases h3
theorem check_no (v : Value) (l : List Sg) (n m : Int) (w : World) (hv : Segs w v l) (ht : ∀ j, j < l.length → (sT l j).size ≤ 1048576) (hT : TabC w) (h : okB l n m = false) :
    Calls Tryd.prog 75 #[.agg #[v, .int .i64 n, .int .i64 m]] w fun e w' => (∃ r, e = .returned (.iface 100 (.agg #[.string r, .slice none 0 0, .int .i64 0, .int .i64 0]))) ∧ Below w.heap.size w w' :=
  (impl_check v l n m w hv ht hT).mono fun e w' ⟨h1, h2⟩ => by
    rcases h1 with ⟨h3, _⟩ | ⟨_, h1⟩
    · rw [h] at h3; cases h3
    · exact ⟨h1, h2⟩

/-- A world behind w in which the log's box stands. -/
structure KC (w : World) (cs : Array Value) (W : World) : Prop where
  af : Af w W
  bx : Bx W w.heap.size 26 cs
/-- .. and a new box of zeros at g. -/
structure KD (w : World) (g : Nat) (W : World) : Prop where
  lt : w.heap.size < g
  bx : Bx W g 26 #[.slice none 0 0, .int .i64 0, .int .i64 0]
theorem KC.after {w W W' : World} {cs : Array Value} (h : KC w cs W) (hb : Below W.heap.size W W') : KC w cs W' := ⟨h.af.after hb, h.bx.after hb⟩
theorem KC.alloc {w W : World} {cs : Array Value} (h : KC w cs W) (o : Obj) : KC w cs (W.alloc o) := ⟨h.af.alloc o, h.bx.alloc o⟩
theorem KC.cells {w W : World} {x0 x1 x2 : Value} (h : KC w #[x0, x1, x2] W) : W.cell? ⟨w.heap.size, 0, none⟩ = some x0 ∧ W.cell? ⟨w.heap.size, 1, none⟩ = some x1 ∧ W.cell? ⟨w.heap.size, 2, none⟩ = some x2 := h.bx.cells3
theorem KC.st3 {w W : World} {g : Nat} {cs : Array Value} (h : KC w cs W) (hd : KD w g W) (y0 y1 y2 : Value) : KC w cs (Go.Proofs.YtemhhjkmolndbaaDoor.st3 W g y0 y1 y2) := ⟨h.af.st3 (Nat.le_of_lt hd.lt) y0 y1 y2, h.bx.st3o (Nat.ne_of_lt hd.lt) y0 y1 y2⟩
theorem KD.new {w W : World} {g : Nat} {cs : Array Value} (h : KC w cs W) (hg : W.heap.size = g) : KD w g (W.alloc (.cells #[.slice none 0 0, .int .i64 0, .int .i64 0] 26)) := ⟨by rw [← hg]; exact h.bx.lt, Bx.new W _ _ _ hg⟩
theorem KD.after {w W W' : World} {g : Nat} (h : KD w g W) (hb : Below W.heap.size W W') : KD w g W' := ⟨h.lt, h.bx.after hb⟩
theorem KD.cells {w W : World} {g : Nat} (h : KD w g W) : W.cell? ⟨g, 0, none⟩ = some (.slice none 0 0) ∧ W.cell? ⟨g, 1, none⟩ = some (.int .i64 0) ∧ W.cell? ⟨g, 2, none⟩ = some (.int .i64 0) := h.bx.cells3
theorem KD.frozen {w W : World} {g : Nat} (h : KD w g W) : W.frozen? ⟨g, 0, none⟩ = false ∧ W.frozen? ⟨g, 1, none⟩ = false ∧ W.frozen? ⟨g, 2, none⟩ = false := h.bx.frozen3

set_option maxHeartbeats 1000000 in
theorem impl_logOk (v : Value) (l : List Sg) (n m : Int) (w : World) (hv : Segs w v l) (ht : ∀ j, j < l.length → (sT l j).size ≤ 1048576) (hT : TabC w) (hg : ErrT w) :
    Calls Tryd.prog 47 #[.agg #[v, .int .i64 n, .int .i64 m]] w fun e w' => e = .returned (.bool (okB l n m)) ∧ Below w.heap.size w w' := by
  obtain ⟨a, k0, cap, hve⟩ := hv.form
  subst hve
  have CX := Lib.hid (show KC w #[.slice a k0 cap, .int .i64 n, .int .i64 m] (w.alloc (.cells #[.slice a k0 cap, .int .i64 n, .int .i64 m] 26)).drew from ⟨((Af.refl w).alloc _).drew, Bx.new w _ _ _ rfl⟩)
  obtain ⟨x0, x1, x2⟩ := (Bx.new w 26 #[.slice a k0 cap, .int .i64 n, .int .i64 m] _ rfl).cells3
  cases hok : okB l n m with
  | true =>
    have HC := Lib.hid (fun W (hW : KC w #[.slice a k0 cap, .int .i64 n, .int .i64 m] W) => check_ok _ l n m W (hv.later hW.af) ht (hT.later hW.af (Nat.le_refl _)) hok)
    have HR := Lib.hid (fun W (hW : KC w #[.slice a k0 cap, .int .i64 n, .int .i64 m] W) => res_nil a k0 cap n m W)
    clear hv ht hT hg hok
    go_enter Tryd.func47, Tryd.ntmps47
    go_wp2_with fail
    go_region_held3 (fun w' => w'.cell? ⟨w.heap.size, 0, none⟩ = some (.slice a k0 cap) ∧ w'.cell? ⟨w.heap.size, 1, none⟩ = some (.int .i64 n) ∧ w'.cell? ⟨w.heap.size, 2, none⟩ = some (.int .i64 m)) (first | (with_reducible exact ⟨x0, x1, x2⟩) | (with_reducible exact CX.out.cells) | (with_reducible exact (CX.out.alloc _).cells) | (with_reducible exact (CX.out.st3 DX.out _ _ _).cells) | go_keep)
      (first
        | (go_at_call 75; (first
          | (refine (HC.out _ CX.out).mono ?_; rintro e w2 ⟨rfl, hb⟩; have CX := Lib.hid (CX.out.after hb); (try have DX := Lib.hid (DX.out.after hb)); clear hb; (try (obtain ⟨u0, u1, u2⟩ := DX.out.cells; obtain ⟨v0, v1, v2⟩ := DX.out.frozen)))
          | (refine (HC.out _ (CX.out.alloc _)).mono ?_; rintro e w2 ⟨rfl, hb⟩; have DX := Lib.hid ((KD.new (g := w.heap.size + 1) CX.out (by simp)).after hb); have CX := Lib.hid ((CX.out.alloc _).after hb); clear hb; obtain ⟨u0, u1, u2⟩ := DX.out.cells; obtain ⟨v0, v1, v2⟩ := DX.out.frozen)))
        | (go_at_call 42; (first
          | (refine (HR.out _ CX.out).mono ?_; rintro e w2 ⟨rfl, hb⟩; have CX := Lib.hid (CX.out.after hb); (try have DX := Lib.hid (DX.out.after hb)); clear hb; (try (obtain ⟨u0, u1, u2⟩ := DX.out.cells; obtain ⟨v0, v1, v2⟩ := DX.out.frozen)))
          | (refine (HR.out _ (CX.out.alloc _)).mono ?_; rintro e w2 ⟨rfl, hb⟩; have DX := Lib.hid ((KD.new CX.out rfl).after hb); have CX := Lib.hid ((CX.out.alloc _).after hb); clear hb; obtain ⟨u0, u1, u2⟩ := DX.out.cells; obtain ⟨v0, v1, v2⟩ := DX.out.frozen))))
    all_goals
      go_wp2
      go_ret
      first | exact ⟨rfl, (CX.out.alloc _).af⟩ | exact ⟨rfl, (CX.out.st3 DX.out _ _ _).af⟩
  | false =>
    have HC := Lib.hid (fun W (hW : KC w #[.slice a k0 cap, .int .i64 n, .int .i64 m] W) => check_no _ l n m W (hv.later hW.af) ht (hT.later hW.af (Nat.le_refl _)) hok)
    have HR := Lib.hid (fun r W (hW : KC w #[.slice a k0 cap, .int .i64 n, .int .i64 m] W) => res_rej a k0 cap n m r none 0 0 0 0 W (hg.later hW.af))
    clear hv ht hT hg hok
    go_enter Tryd.func47, Tryd.ntmps47
    go_wp2_with fail
    go_region_held3 (fun w' => w'.cell? ⟨w.heap.size, 0, none⟩ = some (.slice a k0 cap) ∧ w'.cell? ⟨w.heap.size, 1, none⟩ = some (.int .i64 n) ∧ w'.cell? ⟨w.heap.size, 2, none⟩ = some (.int .i64 m)) (first | (with_reducible exact ⟨x0, x1, x2⟩) | (with_reducible exact CX.out.cells) | (with_reducible exact (CX.out.alloc _).cells) | (with_reducible exact (CX.out.st3 DX.out _ _ _).cells) | go_keep)
      (first
        | (go_at_call 75; (first
          | (refine (HC.out _ CX.out).mono ?_; rintro e w2 ⟨⟨r, rfl⟩, hb⟩; have CX := Lib.hid (CX.out.after hb); (try have DX := Lib.hid (DX.out.after hb)); clear hb; (try (obtain ⟨u0, u1, u2⟩ := DX.out.cells; obtain ⟨v0, v1, v2⟩ := DX.out.frozen)))
          | (refine (HC.out _ (CX.out.alloc _)).mono ?_; rintro e w2 ⟨⟨r, rfl⟩, hb⟩; have DX := Lib.hid ((KD.new (g := w.heap.size + 1) CX.out (by simp)).after hb); have CX := Lib.hid ((CX.out.alloc _).after hb); clear hb; obtain ⟨u0, u1, u2⟩ := DX.out.cells; obtain ⟨v0, v1, v2⟩ := DX.out.frozen)))
        | (go_at_call 42; (first
          | (refine (HR.out _ _ CX.out).mono ?_; rintro e w2 ⟨rfl, hb⟩; have CX := Lib.hid (CX.out.after hb); (try have DX := Lib.hid (DX.out.after hb)); clear hb; (try (obtain ⟨u0, u1, u2⟩ := DX.out.cells; obtain ⟨v0, v1, v2⟩ := DX.out.frozen)))
          | (refine (HR.out _ _ (CX.out.alloc _)).mono ?_; rintro e w2 ⟨rfl, hb⟩; have DX := Lib.hid ((KD.new CX.out rfl).after hb); have CX := Lib.hid ((CX.out.alloc _).after hb); clear hb; obtain ⟨u0, u1, u2⟩ := DX.out.cells; obtain ⟨v0, v1, v2⟩ := DX.out.frozen))))
    all_goals
      go_wp2
      go_ret
      first | exact ⟨rfl, (CX.out.alloc _).af⟩ | exact ⟨rfl, (CX.out.st3 DX.out _ _ _).af⟩
end Go.Proofs.YtemhhjkmolndbaaDoor
/- LogMark, by one contract. -/
namespace Go.Proofs.YtemhhjkmolndbaaDoor
open Go.RowKit Go.PlainAid
set_option linter.unusedVariables false

set_option maxHeartbeats 400000 in
theorem impl_reject (v : Value) (l : List Sg) (n m : Int) (r : ByteArray) (w : World) (hv : Segs w v l) (h1 : 1 ≤ l.length) (h6 : l.length ≤ 1048576) (ht : ∀ j, j < l.length → (sT l j).size ≤ 1048576) :
    Calls Tryd.prog 76 #[.agg #[v, .int .i64 n, .int .i64 m], .string r] w fun e w' => ∃ u, e = .returned (.iface 100 (.agg #[.string r, u, .int .i64 n, .int .i64 m])) ∧ SegRow w' w.heap.size u l ∧ Below w.heap.size w w' := by
  obtain ⟨a, k0, cap0, hve⟩ := hv.form
  subst hve
  have H := Lib.hid (impl_copy _ l n m _ (hv.alloc (.cells #[.slice a k0 cap0, .int .i64 n, .int .i64 m] 26)) h1 h6 ht)
  have A0 := Lib.hid ((Af.refl w).alloc (.cells #[.slice a k0 cap0, .int .i64 n, .int .i64 m] 26))
  have H1 := Lib.hid h1
  clear hv ht h1
  go_enter Tryd.func76, Tryd.ntmps76
  go_wp2_with fail
  refine H.out.mono ?_
  rintro e w2 ⟨u, rfl, hr, hb⟩
  have A2 := Lib.hid (A0.out.after hb)
  have R := Lib.hid (hr.mono (by simp : w.heap.size ≤ _))
  obtain ⟨g, cap, rfl, _⟩ := hr.form H1.out
  clear hb hr
  go_wp2
  go_ret
  exact ⟨_, rfl, R.out, A2.out⟩

theorem impl_unc0 (g cap base : Nat) (l : List Sg) (n m : Int) (w : World) (hv : SegOwn w base (.slice (some ⟨g, 0, none⟩) l.length cap) l) (h1 : 1 ≤ l.length) (h6 : l.length ≤ 1048576) (hF : ∀ j, j < l.length → 1 ≤ sF l j ∧ sF l j ≤ 2000) :
    Calls Tryd.prog 78 #[.agg #[.slice (some ⟨g, 0, none⟩) l.length cap, .int .i64 n, .int .i64 m]] w fun e w' => e = .returned (.slice (some ⟨g, dN l m * 2, none⟩) (l.length - dN l m) (cap - dN l m)) ∧ Below w.heap.size w w' :=
  (impl_unc g 0 cap base l n m w hv h1 h6 hF).mono fun e w' h => by rw [Nat.zero_add] at h; exact h
/-- What moveMark, addRecord and cutLast answer. -/
def MoveV (base : Nat) (r : LR) (e : Ending) (w : World) : Prop :=
  ∃ a c cap, SegOwn w base (.slice a c cap) r.sg ∧ (0 < r.sg.length ∨ a = none) ∧
    ((r.ok = true ∧ e = .returned (.tuple #[.agg #[.slice a c cap, .int .i64 r.nx, .int .i64 r.mt], .nilIface])) ∨
     (r.ok = false ∧ ∃ t, e = .returned (.tuple #[.agg #[.slice none 0 0, .int .i64 0, .int .i64 0], .iface 100 (.agg #[.string t, .slice a c cap, .int .i64 r.nx, .int .i64 r.mt])])))

set_option maxRecDepth 100000 in
set_option maxHeartbeats 1000000 in
theorem impl_moveMark (v : Value) (l : List Sg) (n m k : Int) (w : World) (hv : Segs w v l) (ht : ∀ j, j < l.length → (sT l j).size ≤ 1048576) (hT : TabC w) :
    Calls Tryd.prog 43 #[.agg #[v, .int .i64 n, .int .i64 m], .int .i64 k] w fun e w' => MoveV w.heap.size (markR l n m k) e w' ∧ Below w.heap.size w w' := by
  obtain ⟨a, k0, cap0, hve⟩ := hv.form
  subst hve
  have V0 := Lib.hid ((hv.alloc (.cells #[.slice a k0 cap0, .int .i64 n, .int .i64 m] 26)).alloc (.cells #[.slice none 0 0, .int .i64 0, .int .i64 0] 26))
  have X0 := Lib.hid ((Bx.new w 26 #[.slice a k0 cap0, .int .i64 n, .int .i64 m] _ rfl).alloc (.cells #[.slice none 0 0, .int .i64 0, .int .i64 0] 26))
  have Z0 := Lib.hid (Bx.new (w.alloc (.cells #[.slice a k0 cap0, .int .i64 n, .int .i64 m] 26)) 26 #[.slice none 0 0, .int .i64 0, .int .i64 0] (w.heap.size + 1) (by simp))
  have A0 := Lib.hid (((Af.refl w).alloc (.cells #[.slice a k0 cap0, .int .i64 n, .int .i64 m] 26)).alloc (.cells #[.slice none 0 0, .int .i64 0, .int .i64 0] 26))
  have HT := Lib.hid ht
  have HTA := Lib.hid hT
  clear hv ht hT
  cases hok : okB l n m with
  | false =>
    have HM := Lib.hid (markR_no l n m k hok)
    have HO := Lib.hid hok
    clear hok
    go_enter Tryd.func43, Tryd.ntmps43
    go_wp2_with fail
    refine (check_no _ l n m _ V0.out HT.out (HTA.out.later A0.out (Nat.le_refl _)) HO.out).mono ?_
    rintro e w2 ⟨⟨r, rfl⟩, hb⟩
    have Z2 := Lib.hid (Z0.out.after hb)
    have A2 := Lib.hid (A0.out.after hb)
    obtain ⟨y0, y1, y2⟩ := Z2.out.cells3
    obtain ⟨f0, f1, f2⟩ := Z2.out.frozen3
    clear hb
    go_wp2
    refine bodyPost_ret (results_log2 Tryd.results43 _ _ (w.heap.size + 1) _ _ _ rfl (Z2.out.st3 _ _ _).cells3) rfl ⟨⟨none, 0, 0, by rw [HM.out]; exact segOwn_nil _ _ _ _, .inr rfl, .inr ⟨by rw [HM.out]; rfl, r, by rw [HM.out]; rfl⟩⟩, A2.out.st3 (by omega) _ _ _⟩
  | true =>
    have HO := Lib.hid hok
    obtain ⟨l1, l6⟩ := okB_len hok
    obtain ⟨n1, n2, m1, m2⟩ := okB_n hok
    have HF := Lib.hid (fun j hj => (okB_F hok j hj).2)
    by_cases hr : m ≤ k ∧ k ≤ n - 1
    · have HM := Lib.hid (markR_in l n m k hok hr)
      have hdl := dN_lt l k l1
      obtain ⟨r1, r2⟩ := hr
      have HL := Lib.hid (And.intro l1 l6)
      clear hok l1 l6
      go_enter Tryd.func43, Tryd.ntmps43
      go_wp2_with fail
      refine (check_ok _ l n m _ V0.out HT.out (HTA.out.later A0.out (Nat.le_refl _)) HO.out).mono ?_
      rintro e w2 ⟨rfl, hb⟩
      have V2 := Lib.hid (V0.out.later hb)
      have X2 := Lib.hid (X0.out.after hb)
      have Z2 := Lib.hid (Z0.out.after hb)
      have A2 := Lib.hid (A0.out.after hb)
      obtain ⟨x0, x1, x2⟩ := X2.out.cells3
      clear hb V0 X0 Z0 A0
      go_wp2_with (first | (go_at_call 69; refine (rng_yes _ _ _ _ r1 r2).mono ?_; rintro e w' ⟨rfl, rfl⟩))
      clear x0 x1 x2
      refine (impl_copy _ l n m _ V2.out HL.out.1 (by have := HL.out.2; omega) HT.out).mono ?_
      rintro e w3 ⟨u, rfl, hr, hb⟩
      obtain ⟨g, cap, rfl, hbg, hgw, hcap⟩ := hr.form HL.out.1
      have R3 := Lib.hid (hr.alloc (.cells #[.slice (some ⟨g, 0, none⟩) l.length cap, .int .i64 n, .int .i64 k] 26))
      have Y3 := Lib.hid (Bx.new w3 26 #[.slice (some ⟨g, 0, none⟩) l.length cap, .int .i64 n, .int .i64 k] _ rfl)
      have Z3 := Lib.hid ((Z2.out.after hb).alloc (.cells #[.slice (some ⟨g, 0, none⟩) l.length cap, .int .i64 n, .int .i64 k] 26))
      have A3 := Lib.hid ((A2.out.after hb).alloc (.cells #[.slice (some ⟨g, 0, none⟩) l.length cap, .int .i64 n, .int .i64 k] 26))
      have s2 := A2.out.size
      have s3 := (A2.out.after hb).size
      have z2 := Z2.out.lt
      clear hr hb V2 X2 Z2 A2
      go_wp2_with fail
      refine (impl_unc0 g cap w2.heap.size l n k _ R3.out.own HL.out.1 (by have := HL.out.2; omega) (fun j hj => by have := HF.out j hj; omega)).mono ?_
      rintro e w4 ⟨rfl, hb⟩
      have R4 := Lib.hid (((R3.out.own.later hb).drop (dN l k) hdl))
      have Y4 := Lib.hid (Y3.out.after hb)
      have Z4 := Lib.hid (Z3.out.after hb)
      have A4 := Lib.hid (A3.out.after hb)
      have W4 := Lib.hid (Y4.out.set 0 (.slice (some ⟨g, dN l k * 2, none⟩) (l.length - dN l k) (cap - dN l k)))
      have Z5 := Lib.hid (Z4.out.set_other ⟨w3.heap.size, 0, none⟩ (.slice (some ⟨g, dN l k * 2, none⟩) (l.length - dN l k) (cap - dN l k)) (by simp; omega))
      obtain ⟨x0, x1, x2⟩ := Y4.out.cells3
      obtain ⟨g0, g1, g2⟩ := Y4.out.frozen3
      obtain ⟨u0, u1, u2⟩ := W4.out.cells3
      obtain ⟨y0, y1, y2⟩ := Z5.out.cells3
      obtain ⟨f0, f1, f2⟩ := Z5.out.frozen3
      clear hb R3 Y3 Z3 A3
      go_wp2
      refine bodyPost_ret (results_log2 Tryd.results43 _ _ (w.heap.size + 1) _ _ _ rfl (Z5.out.st3 _ _ _).cells3) rfl ⟨⟨_, _, _, by rw [HM.out]; simpa using (((R4.out.keepB (grownBy_set w4 w3.heap.size 0 (.slice (some ⟨g, dN l k * 2, none⟩) (l.length - dN l k) (cap - dN l k))) (fun k hk => by cases hk; simp [Value.ownBlock]; omega)).st3 (q := w.heap.size + 1) (by omega) (.slice (some ⟨g, dN l k * 2, none⟩) (l.length - dN l k) (cap - dN l k)) (.int .i64 n) (.int .i64 k)).mono (by omega : w.heap.size ≤ w2.heap.size)), .inl (by rw [HM.out]; simp only [List.length_drop]; omega), .inl ⟨by rw [HM.out], by rw [HM.out]; rfl⟩⟩, (A4.out.set (p := ⟨w3.heap.size, 0, none⟩) (by simp; omega) _).st3 (by omega) _ _ _⟩
    · have HM := Lib.hid (markR_out l n m k hok hr)
      have hr' : k < m ∨ n - 1 < k := by omega
      have HL := Lib.hid (And.intro l1 l6)
      clear hok l1 l6 hr
      go_enter Tryd.func43, Tryd.ntmps43
      go_wp2_with fail
      refine (check_ok _ l n m _ V0.out HT.out (HTA.out.later A0.out (Nat.le_refl _)) HO.out).mono ?_
      rintro e w2 ⟨rfl, hb⟩
      have V2 := Lib.hid (V0.out.later hb)
      have X2 := Lib.hid (X0.out.after hb)
      have Z2 := Lib.hid (Z0.out.after hb)
      have A2 := Lib.hid (A0.out.after hb)
      obtain ⟨x0, x1, x2⟩ := X2.out.cells3
      clear hb V0 X0 Z0 A0
      go_wp2_with (first | (go_at_call 69; refine (rng_no _ _ _ _ hr').mono ?_; rintro e w' ⟨rfl, rfl⟩))
      clear x0 x1 x2
      refine (impl_reject _ l n m _ _ V2.out HL.out.1 (by have := HL.out.2; omega) HT.out).mono ?_
      rintro e w3 ⟨u, rfl, hr, hb⟩
      obtain ⟨g, cap, rfl, hbg, hgw, hcap⟩ := hr.form HL.out.1
      have R3 := Lib.hid hr
      have Z3 := Lib.hid (Z2.out.after hb)
      have A3 := Lib.hid (A2.out.after hb)
      have s2 := A2.out.size
      have z2 := Z2.out.lt
      obtain ⟨y0, y1, y2⟩ := Z3.out.cells3
      obtain ⟨f0, f1, f2⟩ := Z3.out.frozen3
      clear hr hb V2 X2 Z2 A2
      go_wp2
      refine bodyPost_ret (results_log2 Tryd.results43 _ _ (w.heap.size + 1) _ _ _ rfl (Z3.out.st3 _ _ _).cells3) rfl ⟨⟨_, _, _, by rw [HM.out]; exact ((R3.out.st3 (by omega) _ _ _).mono (by omega)).own, .inl (by rw [HM.out]; exact HL.out.1), .inr ⟨by rw [HM.out], _, by rw [HM.out]; rfl⟩⟩, A3.out.st3 (by omega) _ _ _⟩
end Go.Proofs.YtemhhjkmolndbaaDoor
/- cutLast, by one contract. -/
namespace Go.Proofs.YtemhhjkmolndbaaDoor
open Go.RowKit Go.PlainAid
set_option linter.unusedVariables false

theorem SegRow.setT {w : World} {base g cap : Nat} {l : List Sg} (h : SegRow w base (.slice (some ⟨g, 0, none⟩) l.length cap) l) (j : Nat) (t : ByteArray) (hj : j < l.length) :
    SegOwn (w.setCell ⟨g, j * 2 + 1, none⟩ (.string t)) base (.slice (some ⟨g, 0, none⟩) l.length cap) (l.set j ⟨sF l j, t⟩) := by
  have h2 := h.own.setT j t hj
  rw [Nat.zero_add] at h2
  exact h2
theorem SegRow.cell {w : World} {base g cap : Nat} {l : List Sg} (h : SegRow w base (.slice (some ⟨g, 0, none⟩) l.length cap) l) (j : Nat) (hj : j < l.length) :
    w.cell? ⟨g, j * 2, none⟩ = some (.int .i64 (sF l j)) ∧ w.cell? ⟨g, j * 2 + 1, none⟩ = some (.string (sT l j)) ∧ w.frozen? ⟨g, j * 2, none⟩ = false ∧ w.frozen? ⟨g, j * 2 + 1, none⟩ = false := by
  obtain ⟨g', o', e1, _, _, _, hc⟩ := h.own.cells (by omega)
  simp only [Option.some.injEq, Addr.mk.injEq] at e1
  obtain ⟨rfl, rfl, _⟩ := e1
  have := hc j hj
  rw [Nat.zero_add] at this
  exact this
theorem SegOwn.cell0 {w : World} {base g n cap : Nat} {l : List Sg} (h : SegOwn w base (.slice (some ⟨g, 0, none⟩) n cap) l) (j : Nat) (hj : j < l.length) :
    w.cell? ⟨g, j * 2, none⟩ = some (.int .i64 (sF l j)) ∧ w.cell? ⟨g, j * 2 + 1, none⟩ = some (.string (sT l j)) ∧ w.frozen? ⟨g, j * 2, none⟩ = false ∧ w.frozen? ⟨g, j * 2 + 1, none⟩ = false := by
  obtain ⟨g', o', e1, _, _, _, hc⟩ := h.cells (by omega)
  simp only [Option.some.injEq, Addr.mk.injEq] at e1
  obtain ⟨rfl, rfl, _⟩ := e1
  have := hc j hj
  rw [Nat.zero_add] at this
  exact this

theorem sg_self (l : List Sg) (e : Nat) (h : e < l.length) : l.set e ⟨sF l e, sT l e⟩ = l := by
  apply sg_ext
  · rw [List.length_set]
  · intro j hj
    rw [List.length_set] at hj
    rw [sF_set _ _ _ _ h, sT_set _ _ _ _ h]
    split
    · next e => subst e; exact ⟨rfl, rfl⟩
    · exact ⟨rfl, rfl⟩
set_option maxRecDepth 100000 in
set_option maxHeartbeats 2000000 in
theorem impl_cutLast (v : Value) (l : List Sg) (n m k : Int) (w : World) (hv : Segs w v l) (ht : ∀ j, j < l.length → (sT l j).size ≤ 1048576) (hT : TabC w) :
    Calls Tryd.prog 49 #[.agg #[v, .int .i64 n, .int .i64 m], .int .i64 k] w fun e w' => MoveV w.heap.size (cutR l n m k) e w' ∧ Below w.heap.size w w' := by
  obtain ⟨a, k0, cap0, hve⟩ := hv.form
  subst hve
  have V0 := Lib.hid ((hv.alloc (.cells #[.slice a k0 cap0, .int .i64 n, .int .i64 m] 26)).alloc (.cells #[.slice none 0 0, .int .i64 0, .int .i64 0] 26))
  have X0 := Lib.hid ((Bx.new w 26 #[.slice a k0 cap0, .int .i64 n, .int .i64 m] _ rfl).alloc (.cells #[.slice none 0 0, .int .i64 0, .int .i64 0] 26))
  have Z0 := Lib.hid (Bx.new (w.alloc (.cells #[.slice a k0 cap0, .int .i64 n, .int .i64 m] 26)) 26 #[.slice none 0 0, .int .i64 0, .int .i64 0] (w.heap.size + 1) (by simp))
  have A0 := Lib.hid (((Af.refl w).alloc (.cells #[.slice a k0 cap0, .int .i64 n, .int .i64 m] 26)).alloc (.cells #[.slice none 0 0, .int .i64 0, .int .i64 0] 26))
  have HT := Lib.hid ht
  have HTA := Lib.hid hT
  clear hv ht hT
  cases hok : okB l n m with
  | false =>
    have HM := Lib.hid (cutR_no l n m k hok)
    have HO := Lib.hid hok
    clear hok
    go_enter Tryd.func49, Tryd.ntmps49
    go_wp2_with fail
    refine (check_no _ l n m _ V0.out HT.out (HTA.out.later A0.out (Nat.le_refl _)) HO.out).mono ?_
    rintro e w2 ⟨⟨r, rfl⟩, hb⟩
    have Z2 := Lib.hid (Z0.out.after hb)
    have A2 := Lib.hid (A0.out.after hb)
    obtain ⟨y0, y1, y2⟩ := Z2.out.cells3
    obtain ⟨f0, f1, f2⟩ := Z2.out.frozen3
    clear hb
    go_wp2
    refine bodyPost_ret (results_log2 Tryd.results49 _ _ (w.heap.size + 1) _ _ _ rfl (Z2.out.st3 _ _ _).cells3) rfl ⟨⟨none, 0, 0, by rw [HM.out]; exact segOwn_nil _ _ _ _, .inr rfl, .inr ⟨by rw [HM.out]; rfl, r, by rw [HM.out]; rfl⟩⟩, A2.out.st3 (by omega) _ _ _⟩
  | true =>
    have HO := Lib.hid hok
    obtain ⟨l1, l6⟩ := okB_len hok
    obtain ⟨n1, n2, m1, m2⟩ := okB_n hok
    obtain ⟨e, he⟩ : ∃ e, l.length = e + 1 := ⟨l.length - 1, by omega⟩
    obtain ⟨q1, q2, q3, q4⟩ := okB_last hok e he
    have hte := HT.out e (by omega)
    obtain ⟨t, hteq⟩ : ∃ t, sT l e = t := ⟨_, rfl⟩
    obtain ⟨f, hfeq⟩ : ∃ f, sF l e = f := ⟨_, rfl⟩
    rw [hteq] at q1 q2 q3 hte
    rw [hfeq] at q1 q4
    obtain ⟨x, hx⟩ : ∃ x, cutX t (kC k t.size) = x := ⟨_, rfl⟩
    have HM := Lib.hid (cutR_ok l n m k e t x f hok he hteq hfeq hx)
    obtain ⟨c1, c2, c3, c4⟩ := cutX_facts t (kC k t.size) (kC_le _ _)
    have hkc := kC_le k t.size
    rw [hx] at c1 c2 c3 c4
    have hnx := nF_le5 x
    have hnt := nF_le5 t
    have HTE := Lib.hid hteq
    have HFE := Lib.hid hfeq
    have HE := Lib.hid he
    have e6 : (e : Int) ≤ 5 := by omega
    have e0 : (0 : Int) ≤ (e : Int) := by omega
    have t6 : (t.size : Int) ≤ 1048576 := by omega
    have HQ2 := Lib.hid q2
    have HX := Lib.hid hx
    have HQ1 := Lib.hid q1
    have F1 : 1 ≤ f := q4
    have F2 : f ≤ 1000 := by omega
    clear hok l1 l6 he hteq hfeq q2 q3 q4 hx c1 c3 q1
    go_enter Tryd.func49, Tryd.ntmps49
    go_wp2_with fail
    refine (check_ok _ l n m _ V0.out HT.out (HTA.out.later A0.out (Nat.le_refl _)) HO.out).mono ?_
    rintro e w2 ⟨rfl, hb⟩
    have V2 := Lib.hid (V0.out.later hb)
    have X2 := Lib.hid (X0.out.after hb)
    have Z2 := Lib.hid (Z0.out.after hb)
    have A2 := Lib.hid (A0.out.after hb)
    obtain ⟨x0, x1, x2⟩ := X2.out.cells3
    clear hb V0 X0 Z0 A0
    go_wp2_with fail
    clear x0 x1 x2
    refine (impl_copy _ l n m _ V2.out (by have := HE.out; omega) (by have := HE.out; omega) HT.out).mono ?_
    rintro e' w3 ⟨u, rfl, hr, hb⟩
    obtain ⟨g, cap, rfl, hbg, hgw, hcap⟩ := hr.form (by have := HE.out; omega)
    have R3 := Lib.hid (hr.alloc (.cells #[.slice (some ⟨g, 0, none⟩) l.length cap, .int .i64 n, .int .i64 m] 26))
    have Y3 := Lib.hid (Bx.new w3 26 #[.slice (some ⟨g, 0, none⟩) l.length cap, .int .i64 n, .int .i64 m] _ rfl)
    have Z3 := Lib.hid ((Z2.out.after hb).alloc (.cells #[.slice (some ⟨g, 0, none⟩) l.length cap, .int .i64 n, .int .i64 m] 26))
    have A3 := Lib.hid ((A2.out.after hb).alloc (.cells #[.slice (some ⟨g, 0, none⟩) l.length cap, .int .i64 n, .int .i64 m] 26))
    have s2 := A2.out.size
    have s3 := (A2.out.after hb).size
    have z2 := Z2.out.lt
    clear hr hb V2 X2 Z2 A2
    have hcl := R3.out.cell e (by have := HE.out; omega)
    rw [HTE.out, HFE.out] at hcl
    obtain ⟨r1, r2, _, _⟩ := hcl
    have HTB := Lib.hid (HTA.out.later A3.out (Nat.le_refl _))
    rw [HE.out] at hcap Y3 r1 r2 ⊢
    rw [show (.cells #[.slice (some ⟨g, 0, none⟩) l.length cap, .int .i64 n, .int .i64 m] 26 : Obj) = .cells #[.slice (some ⟨g, 0, none⟩) (e + 1) cap, .int .i64 n, .int .i64 m] 26 by rw [HE.out]] at R3 Z3 A3 HTB
    by_cases hbig : (t.size : Int) ≤ k
    · have hxt : x = t := by rw [← HX.out, show kC k t.size = t.size by unfold kC; omega]; exact cutX_all t HQ2.out
      subst hxt
      have d1 : decide (k < 0) = false := decide_eq_false (by omega)
      have d2 : decide (k < (x.size : Int)) = false := decide_eq_false (by omega)
      go_wp2_with fail
      refine (impl_count x _ hte HTB.out).mono ?_
      rintro e' w5 ⟨rfl, hb⟩
      have O5 := Lib.hid (R3.out.own.later hb)
      have Y5 := Lib.hid (Y3.out.after hb)
      have Z5 := Lib.hid (Z3.out.after hb)
      have A5 := Lib.hid (A3.out.after hb)
      rw [HE.out] at O5
      clear hb R3 Y3 Z3 A3 HTB r1 r2
      have hself : l.set e ⟨f, x⟩ = l := by rw [← HFE.out, ← HTE.out]; exact sg_self l e (by have := HE.out; omega)
      rw [hself] at HM
      clear hself
      have hcl := O5.out.cell0 e (by have := HE.out; omega)
      rw [HFE.out] at hcl
      obtain ⟨r1, _, _, _⟩ := hcl
      obtain ⟨nn, hnn⟩ : ∃ nn, nF x = nn := ⟨_, rfl⟩
      have HNN := Lib.hid hnn
      rw [hnn] at hnx ⊢
      have n6 : (nn : Int) ≤ 209716 := by omega
      clear hnn c2 c4 hkc
      have Y6 := Lib.hid (Y5.out.set 1 (.int .i64 (f + nn)))
      have Y7 := Lib.hid (Y6.out.set 2 (.int .i64 (min m (f + nn - 1))))
      have Z7 := Lib.hid ((Z5.out.set_other ⟨w3.heap.size, 1, none⟩ (.int .i64 (f + nn)) (by simp; omega)).set_other ⟨w3.heap.size, 2, none⟩ (.int .i64 (min m (f + nn - 1))) (by simp; omega))
      have A7 := Lib.hid ((A5.out.set (p := ⟨w3.heap.size, 1, none⟩) (by simp; omega) (.int .i64 (f + nn))).set (p := ⟨w3.heap.size, 2, none⟩) (by simp; omega) (.int .i64 (min m (f + nn - 1))))
      have O7 := Lib.hid ((O5.out.keepB (grownBy_set _ w3.heap.size 1 (.int .i64 (f + nn))) (fun b hb => by cases hb; exact (ob_ne (by omega)).symm)).keepB (grownBy_set _ w3.heap.size 2 (.int .i64 (min m (f + nn - 1)))) (fun b hb => by cases hb; exact (ob_ne (by omega)).symm))
      obtain ⟨y0, y1, y2⟩ := Y5.out.cells3
      obtain ⟨g0, g1, g2⟩ := Y5.out.frozen3
      obtain ⟨u0, u1, u2⟩ := Y6.out.cells3
      obtain ⟨v0, v1, v2⟩ := Y6.out.frozen3
      obtain ⟨j0, j1, j2⟩ := Y7.out.cells3
      obtain ⟨z0, z1, z3⟩ := Z7.out.cells3
      obtain ⟨f0, f1, f2⟩ := Z7.out.frozen3
      clear O5 Y5 Z5 A5
      go_wp2
      refine bodyPost_ret (results_log2 Tryd.results49 _ _ (w.heap.size + 1) _ _ _ rfl (Z7.out.st3 _ _ _).cells3) rfl ⟨⟨some ⟨g, 0, none⟩, e + 1, cap, by rw [HM.out]; exact (O7.out.st3 (by omega) _ _ _).mono (by omega), .inl (by rw [HM.out]; show 0 < l.length; have := HE.out; omega), .inl ⟨by rw [HM.out], by rw [HM.out, HNN.out]; rfl⟩⟩, A7.out.st3 (by omega) _ _ _⟩
    by_cases hneg : k < 0
    · clear hbig
      have HXE := Lib.hid (show t.extract 0 (fP (ByteArray.empty) (nF (ByteArray.empty))) = x by rw [← HX.out, cutX_eq, show kC k t.size = 0 by unfold kC; omega, ext_zero]; rfl)
      go_wp2_with fail
      refine (impl_unframe (ByteArray.empty) _ (by decide) HTB.out).mono ?_
      rintro e' w4 ⟨vv, rfl, hgs, hb⟩
      obtain ⟨va, vc, rfl⟩ := growsS_len hgs
      have hxe : t.extract 0 (fP (ByteArray.empty) (nF (ByteArray.empty))) = x := HXE.out
      have hpb := fP_le (ByteArray.empty)
      have hz0 : (ByteArray.empty).size = 0 := rfl
      have T4 := Lib.hid (HTB.out.later hb (Nat.le_refl _))
      have O4' := Lib.hid (R3.out.own.later hb)
      have Y4' := Lib.hid (Y3.out.after hb)
      have Z4' := Lib.hid (Z3.out.after hb)
      have A4' := Lib.hid (A3.out.after hb)
      have hcl := O4'.out.cell0 e (by have := HE.out; omega)
      rw [HTE.out, HFE.out] at hcl
      obtain ⟨_, r2', _, r4'⟩ := hcl
      clear hb hgs R3 Y3 Z3 A3 HTB r1 r2
      obtain ⟨P, hP⟩ : ∃ P, fP (ByteArray.empty) (nF (ByteArray.empty)) = P := ⟨_, rfl⟩
      rw [hP] at hxe hpb ⊢
      have p0 : (P : Int) ≤ (t.size : Int) := by omega
      have p1 : (0 : Int) ≤ (P : Int) := by omega
      have O4 := Lib.hid (show SegOwn (w4.setCell ⟨g, e * 2 + 1, none⟩ (.string x)) w2.heap.size (.slice (some ⟨g, 0, none⟩) (e + 1) cap) (l.set e ⟨f, x⟩) by
        have h := O4'.out.setT e x (by have := HE.out; omega)
        rw [Nat.zero_add, HFE.out, HE.out] at h
        exact h)
      have Y4 := Lib.hid (Y4'.out.set_other ⟨g, e * 2 + 1, none⟩ (.string x) (by simp; omega))
      have Z4 := Lib.hid (Z4'.out.set_other ⟨g, e * 2 + 1, none⟩ (.string x) (by simp; omega))
      have A4 := Lib.hid (A4'.out.set (p := ⟨g, e * 2 + 1, none⟩) (by simp; omega) (.string x))
      have T5 := Lib.hid (show TabC (w4.setCell ⟨g, e * 2 + 1, none⟩ (.string x)) from HTA.out.later A4.out (Nat.le_refl _))
      have hcl := O4.out.cell0 e (by rw [List.length_set]; have := HE.out; omega)
      rw [sT_set _ _ _ _ (by have := HE.out; omega), if_pos rfl] at hcl
      obtain ⟨_, r2, _, _⟩ := hcl
      clear O4' Y4' Z4' A4' T4 hP
      go_wp2_with fail
      refine (impl_count x _ (by omega) T5.out).mono ?_
      rintro e' w5 ⟨rfl, hb⟩
      clear T5
      have O5 := Lib.hid (O4.out.later hb)
      have Y5 := Lib.hid (Y4.out.after hb)
      have Z5 := Lib.hid (Z4.out.after hb)
      have A5 := Lib.hid (A4.out.after hb)
      clear hb O4 Y4 Z4 A4
      have hcl := O5.out.cell0 e (by rw [List.length_set]; have := HE.out; omega)
      rw [sF_set _ _ _ _ (by have := HE.out; omega), if_pos rfl] at hcl
      obtain ⟨r1, _, _, _⟩ := hcl
      obtain ⟨nn, hnn⟩ : ∃ nn, nF x = nn := ⟨_, rfl⟩
      have HNN := Lib.hid hnn
      rw [hnn] at hnx ⊢
      have n6 : (nn : Int) ≤ 209716 := by omega
      clear hnn c2 c4 hkc
      have Y6 := Lib.hid (Y5.out.set 1 (.int .i64 (f + nn)))
      have Y7 := Lib.hid (Y6.out.set 2 (.int .i64 (min m (f + nn - 1))))
      have Z7 := Lib.hid ((Z5.out.set_other ⟨w3.heap.size, 1, none⟩ (.int .i64 (f + nn)) (by simp; omega)).set_other ⟨w3.heap.size, 2, none⟩ (.int .i64 (min m (f + nn - 1))) (by simp; omega))
      have A7 := Lib.hid ((A5.out.set (p := ⟨w3.heap.size, 1, none⟩) (by simp; omega) (.int .i64 (f + nn))).set (p := ⟨w3.heap.size, 2, none⟩) (by simp; omega) (.int .i64 (min m (f + nn - 1))))
      have O7 := Lib.hid ((O5.out.keepB (grownBy_set _ w3.heap.size 1 (.int .i64 (f + nn))) (fun b hb => by cases hb; exact (ob_ne (by omega)).symm)).keepB (grownBy_set _ w3.heap.size 2 (.int .i64 (min m (f + nn - 1)))) (fun b hb => by cases hb; exact (ob_ne (by omega)).symm))
      obtain ⟨y0, y1, y2⟩ := Y5.out.cells3
      obtain ⟨g0, g1, g2⟩ := Y5.out.frozen3
      obtain ⟨u0, u1, u2⟩ := Y6.out.cells3
      obtain ⟨v0, v1, v2⟩ := Y6.out.frozen3
      obtain ⟨j0, j1, j2⟩ := Y7.out.cells3
      obtain ⟨z0, z1, z3⟩ := Z7.out.cells3
      obtain ⟨f0, f1, f2⟩ := Z7.out.frozen3
      clear O5 Y5 Z5 A5
      go_wp2
      refine bodyPost_ret (results_log2 Tryd.results49 _ _ (w.heap.size + 1) _ _ _ rfl (Z7.out.st3 _ _ _).cells3) rfl ⟨⟨some ⟨g, 0, none⟩, e + 1, cap, by rw [HM.out]; exact (O7.out.st3 (by omega) _ _ _).mono (by omega), .inl (by rw [HM.out]; simp only [List.length_set]; have := HE.out; omega), .inl ⟨by rw [HM.out], by rw [HM.out, HNN.out]; rfl⟩⟩, A7.out.st3 (by omega) _ _ _⟩
    · obtain ⟨j, rfl⟩ : ∃ j : Nat, k = j := ⟨k.toNat, by omega⟩
      have hjt : (j : Int) < (t.size : Int) := by omega
      have j0 : (0 : Int) ≤ (j : Int) := by omega
      have d1 : decide ((j : Int) < 0) = false := decide_eq_false (by omega)
      have HXE := Lib.hid (show t.extract 0 (fP (t.extract 0 j) (nF (t.extract 0 j))) = x by rw [← HX.out, cutX_eq, show kC (j : Int) t.size = j by unfold kC; omega])
      clear hbig hneg
      go_wp2_with fail
      refine (impl_unframe (t.extract 0 j) _ (by rw [ext0_size _ _ (by omega)]; omega) HTB.out).mono ?_
      rintro e' w4 ⟨vv, rfl, hgs, hb⟩
      obtain ⟨va, vc, rfl⟩ := growsS_len hgs
      have hxe : t.extract 0 (fP (t.extract 0 j) (nF (t.extract 0 j))) = x := HXE.out
      have hpb := fP_le (t.extract 0 j)
      rw [ext0_size _ _ (by omega)] at hpb
      have T4 := Lib.hid (HTB.out.later hb (Nat.le_refl _))
      have O4' := Lib.hid (R3.out.own.later hb)
      have Y4' := Lib.hid (Y3.out.after hb)
      have Z4' := Lib.hid (Z3.out.after hb)
      have A4' := Lib.hid (A3.out.after hb)
      have hcl := O4'.out.cell0 e (by have := HE.out; omega)
      rw [HTE.out, HFE.out] at hcl
      obtain ⟨_, r2', _, r4'⟩ := hcl
      clear hb hgs R3 Y3 Z3 A3 HTB r1 r2
      obtain ⟨P, hP⟩ : ∃ P, fP (t.extract 0 j) (nF (t.extract 0 j)) = P := ⟨_, rfl⟩
      rw [hP] at hxe hpb ⊢
      have p0 : (P : Int) ≤ (t.size : Int) := by omega
      have p1 : (0 : Int) ≤ (P : Int) := by omega
      have O4 := Lib.hid (show SegOwn (w4.setCell ⟨g, e * 2 + 1, none⟩ (.string x)) w2.heap.size (.slice (some ⟨g, 0, none⟩) (e + 1) cap) (l.set e ⟨f, x⟩) by
        have h := O4'.out.setT e x (by have := HE.out; omega)
        rw [Nat.zero_add, HFE.out, HE.out] at h
        exact h)
      have Y4 := Lib.hid (Y4'.out.set_other ⟨g, e * 2 + 1, none⟩ (.string x) (by simp; omega))
      have Z4 := Lib.hid (Z4'.out.set_other ⟨g, e * 2 + 1, none⟩ (.string x) (by simp; omega))
      have A4 := Lib.hid (A4'.out.set (p := ⟨g, e * 2 + 1, none⟩) (by simp; omega) (.string x))
      have T5 := Lib.hid (show TabC (w4.setCell ⟨g, e * 2 + 1, none⟩ (.string x)) from HTA.out.later A4.out (Nat.le_refl _))
      have hcl := O4.out.cell0 e (by rw [List.length_set]; have := HE.out; omega)
      rw [sT_set _ _ _ _ (by have := HE.out; omega), if_pos rfl] at hcl
      obtain ⟨_, r2, _, _⟩ := hcl
      clear O4' Y4' Z4' A4' T4 hP
      go_wp2_with fail
      refine (impl_count x _ (by omega) T5.out).mono ?_
      rintro e' w5 ⟨rfl, hb⟩
      clear T5
      have O5 := Lib.hid (O4.out.later hb)
      have Y5 := Lib.hid (Y4.out.after hb)
      have Z5 := Lib.hid (Z4.out.after hb)
      have A5 := Lib.hid (A4.out.after hb)
      clear hb O4 Y4 Z4 A4
      have hcl := O5.out.cell0 e (by rw [List.length_set]; have := HE.out; omega)
      rw [sF_set _ _ _ _ (by have := HE.out; omega), if_pos rfl] at hcl
      obtain ⟨r1, _, _, _⟩ := hcl
      obtain ⟨nn, hnn⟩ : ∃ nn, nF x = nn := ⟨_, rfl⟩
      have HNN := Lib.hid hnn
      rw [hnn] at hnx ⊢
      have n6 : (nn : Int) ≤ 209716 := by omega
      clear hnn c2 c4 hkc
      have Y6 := Lib.hid (Y5.out.set 1 (.int .i64 (f + nn)))
      have Y7 := Lib.hid (Y6.out.set 2 (.int .i64 (min m (f + nn - 1))))
      have Z7 := Lib.hid ((Z5.out.set_other ⟨w3.heap.size, 1, none⟩ (.int .i64 (f + nn)) (by simp; omega)).set_other ⟨w3.heap.size, 2, none⟩ (.int .i64 (min m (f + nn - 1))) (by simp; omega))
      have A7 := Lib.hid ((A5.out.set (p := ⟨w3.heap.size, 1, none⟩) (by simp; omega) (.int .i64 (f + nn))).set (p := ⟨w3.heap.size, 2, none⟩) (by simp; omega) (.int .i64 (min m (f + nn - 1))))
      have O7 := Lib.hid ((O5.out.keepB (grownBy_set _ w3.heap.size 1 (.int .i64 (f + nn))) (fun b hb => by cases hb; exact (ob_ne (by omega)).symm)).keepB (grownBy_set _ w3.heap.size 2 (.int .i64 (min m (f + nn - 1)))) (fun b hb => by cases hb; exact (ob_ne (by omega)).symm))
      obtain ⟨y0, y1, y2⟩ := Y5.out.cells3
      obtain ⟨g0, g1, g2⟩ := Y5.out.frozen3
      obtain ⟨u0, u1, u2⟩ := Y6.out.cells3
      obtain ⟨v0, v1, v2⟩ := Y6.out.frozen3
      obtain ⟨j0, j1, j2⟩ := Y7.out.cells3
      obtain ⟨z0, z1, z3⟩ := Z7.out.cells3
      obtain ⟨f0, f1, f2⟩ := Z7.out.frozen3
      clear O5 Y5 Z5 A5
      go_wp2
      refine bodyPost_ret (results_log2 Tryd.results49 _ _ (w.heap.size + 1) _ _ _ rfl (Z7.out.st3 _ _ _).cells3) rfl ⟨⟨some ⟨g, 0, none⟩, e + 1, cap, by rw [HM.out]; exact (O7.out.st3 (by omega) _ _ _).mono (by omega), .inl (by rw [HM.out]; simp only [List.length_set]; have := HE.out; omega), .inl ⟨by rw [HM.out], by rw [HM.out, HNN.out]; rfl⟩⟩, A7.out.st3 (by omega) _ _ _⟩
end Go.Proofs.YtemhhjkmolndbaaDoor
/- addRecord, by one contract. -/
namespace Go.Proofs.YtemhhjkmolndbaaDoor
open Go.RowKit Go.PlainAid
set_option linter.unusedVariables false

theorem row_ne {w : World} {base g c n q : Nat} {l : List Sg} {cs : Array Value} (h : SegRow w base (.slice (some ⟨g, 0, none⟩) n c) l) (h0 : 0 < l.length) (hx : Bx w q 26 cs) : g ≠ q := fun e => by
  subst e
  obtain ⟨_, ⟨e, _⟩ | ⟨g', cap, cur, e, _, hg, _⟩⟩ := h
  · simp at e
  · simp only [Value.slice.injEq, Option.some.injEq, Addr.mk.injEq] at e
    obtain ⟨⟨rfl, _⟩, _⟩ := e
    unfold Bx at hx
    rw [hx] at hg
    simp at hg
theorem isEmpty_no {t : ByteArray} (h : t.size ≠ 0) : t.toList.isEmpty = false := by
  rw [ByteArray.toList_eq]
  cases e : t.data.toList with
  | nil => exact absurd (by rw [size_data, e]; rfl) h
  | cons a b => rfl
theorem isEmpty_yes {t : ByteArray} (h : t.size = 0) : t.toList.isEmpty = true := by
  rw [empty_of_size h, ByteArray.toList_eq]
  rfl
set_option maxRecDepth 100000 in
set_option maxHeartbeats 2000000 in
theorem impl_addRecord (v : Value) (l : List Sg) (n m : Int) (s : ByteArray) (w : World) (hv : Segs w v l) (ht : ∀ j, j < l.length → (sT l j).size ≤ 1048576) (hs : s.size ≤ 1048576) (hT : TabC w) :
    Calls Tryd.prog 44 #[.agg #[v, .int .i64 n, .int .i64 m], .string s] w fun e w' => MoveV w.heap.size (addR l n m s) e w' ∧ Below w.heap.size w w' := by
  obtain ⟨a, k0, cap0, hve⟩ := hv.form
  subst hve
  have V0 := Lib.hid ((hv.alloc (.cells #[.slice a k0 cap0, .int .i64 n, .int .i64 m] 26)).alloc (.cells #[.slice none 0 0, .int .i64 0, .int .i64 0] 26))
  have X0 := Lib.hid ((Bx.new w 26 #[.slice a k0 cap0, .int .i64 n, .int .i64 m] _ rfl).alloc (.cells #[.slice none 0 0, .int .i64 0, .int .i64 0] 26))
  have Z0 := Lib.hid (Bx.new (w.alloc (.cells #[.slice a k0 cap0, .int .i64 n, .int .i64 m] 26)) 26 #[.slice none 0 0, .int .i64 0, .int .i64 0] (w.heap.size + 1) (by simp))
  have A0 := Lib.hid (((Af.refl w).alloc (.cells #[.slice a k0 cap0, .int .i64 n, .int .i64 m] 26)).alloc (.cells #[.slice none 0 0, .int .i64 0, .int .i64 0] 26))
  have HT := Lib.hid ht
  have HTA := Lib.hid hT
  have HV := Lib.hid hv
  clear hv ht hT
  cases hok : okB l n m with
  | false =>
    have HM := Lib.hid (addR_no l n m s hok)
    have HO := Lib.hid hok
    clear hok
    go_enter Tryd.func44, Tryd.ntmps44
    go_wp2_with fail
    refine (check_no _ l n m _ V0.out HT.out (HTA.out.later A0.out (Nat.le_refl _)) HO.out).mono ?_
    rintro e w2 ⟨⟨r, rfl⟩, hb⟩
    have Z2 := Lib.hid (Z0.out.after hb)
    have A2 := Lib.hid (A0.out.after hb)
    obtain ⟨y0, y1, y2⟩ := Z2.out.cells3
    obtain ⟨f0, f1, f2⟩ := Z2.out.frozen3
    clear hb
    go_wp2
    refine bodyPost_ret (results_log2 Tryd.results44 _ _ (w.heap.size + 1) _ _ _ rfl (Z2.out.st3 _ _ _).cells3) rfl ⟨⟨none, 0, 0, by rw [HM.out]; exact segOwn_nil _ _ _ _, .inr rfl, .inr ⟨by rw [HM.out]; rfl, r, by rw [HM.out]; rfl⟩⟩, A2.out.st3 (by omega) _ _ _⟩
  | true =>
    have HO := Lib.hid hok
    obtain ⟨l1, l6⟩ := okB_len hok
    obtain ⟨n1, n2, m1, m2⟩ := okB_n hok
    obtain ⟨e, he⟩ : ∃ e, l.length = e + 1 := ⟨l.length - 1, by omega⟩
    have HE := Lib.hid he
    have HS := Lib.hid hs
    clear l1 l6 he hs hok
    go_enter Tryd.func44, Tryd.ntmps44
    go_wp2_with fail
    refine (check_ok _ l n m _ V0.out HT.out (HTA.out.later A0.out (Nat.le_refl _)) HO.out).mono ?_
    rintro e' w1 ⟨rfl, hb⟩
    have V1 := Lib.hid (V0.out.later hb)
    have X1 := Lib.hid (X0.out.after hb)
    have Z1 := Lib.hid (Z0.out.after hb)
    have A1 := Lib.hid (A0.out.after hb)
    clear hb V0 X0 Z0 A0
    go_wp2_with fail
    refine (impl_frame s _ HS.out (HTA.out.later A1.out (Nat.le_refl _))).mono ?_
    rintro e' w2 ⟨rfl, hb⟩
    have V2 := Lib.hid (V1.out.later hb)
    have X2 := Lib.hid (X1.out.after hb)
    have Z2 := Lib.hid (Z1.out.after hb)
    have A2 := Lib.hid (A1.out.after hb)
    have s2 := A2.out.size
    have z2 := Z2.out.lt
    clear hb V1 X1 Z1 A1
    by_cases hrej : 200 < s.size ∨ n = 1000
    · have HM := Lib.hid (addR_rej l n m s HO.out hrej)
      obtain ⟨x0, x1, x2⟩ := X2.out.cells3
      by_cases hbig : 200 < s.size
      · rw [frameS_big s hbig]
        clear hrej
        go_wp2_with fail
        clear x0 x1 x2
        refine (impl_reject _ l n m _ _ V2.out (by have := HE.out; omega) (by have := okB_len HO.out; omega) HT.out).mono ?_
        rintro e' w3 ⟨u, rfl, hr, hb⟩
        obtain ⟨g, cap, rfl, hbg, hgw, hcap⟩ := hr.form (by have := HE.out; omega)
        have R3 := Lib.hid hr
        have Z3 := Lib.hid (Z2.out.after hb)
        have A3 := Lib.hid (A2.out.after hb)
        obtain ⟨y0, y1, y2⟩ := Z3.out.cells3
        obtain ⟨f0, f1, f2⟩ := Z3.out.frozen3
        clear hr hb V2 X2 Z2 A2
        go_wp2
        refine bodyPost_ret (results_log2 Tryd.results44 _ _ (w.heap.size + 1) _ _ _ rfl (Z3.out.st3 _ _ _).cells3) rfl ⟨⟨_, _, _, by rw [HM.out]; exact ((R3.out.st3 (by omega) _ _ _).mono (by omega)).own, .inl (by rw [HM.out]; show 0 < l.length; have := HE.out; omega), .inr ⟨by rw [HM.out], _, by rw [HM.out]; rfl⟩⟩, A3.out.st3 (by omega) _ _ _⟩
      · have hs2 : s.size ≤ 200 := by omega
        have hn2 : n = 1000 := by omega
        have hfp := frameS_pos s hs2
        have b1 := isEmpty_no (t := frameS s) (by omega)
        generalize frameS s = fr at *
        have b2 : (n == 1000) = true := by rw [hn2]; rfl
        clear hrej hn2
        go_wp2_with fail
        clear x0 x1 x2
        refine (impl_reject _ l n m _ _ V2.out (by have := HE.out; omega) (by have := okB_len HO.out; omega) HT.out).mono ?_
        rintro e' w3 ⟨u, rfl, hr, hb⟩
        obtain ⟨g, cap, rfl, hbg, hgw, hcap⟩ := hr.form (by have := HE.out; omega)
        have R3 := Lib.hid hr
        have Z3 := Lib.hid (Z2.out.after hb)
        have A3 := Lib.hid (A2.out.after hb)
        obtain ⟨y0, y1, y2⟩ := Z3.out.cells3
        obtain ⟨f0, f1, f2⟩ := Z3.out.frozen3
        clear hr hb V2 X2 Z2 A2
        go_wp2
        refine bodyPost_ret (results_log2 Tryd.results44 _ _ (w.heap.size + 1) _ _ _ rfl (Z3.out.st3 _ _ _).cells3) rfl ⟨⟨_, _, _, by rw [HM.out]; exact ((R3.out.st3 (by omega) _ _ _).mono (by omega)).own, .inl (by rw [HM.out]; show 0 < l.length; have := HE.out; omega), .inr ⟨by rw [HM.out], _, by rw [HM.out]; rfl⟩⟩, A3.out.st3 (by omega) _ _ _⟩
    · have hs2 : s.size ≤ 200 := by omega
      have hn2 : n < 1000 := by omega
      have HSP := Lib.hid hs2
      have hfp := frameS_pos s hs2
      have hfl := frameS_le s
      have HR := Lib.hid hrej
      obtain ⟨fr, hfr⟩ : ∃ fr, frameS s = fr := ⟨_, rfl⟩
      rw [hfr] at hfp hfl ⊢
      have HFR := Lib.hid hfr
      have b1 := isEmpty_no (t := fr) (by omega)
      have b2 : (n == 1000) = false := beq_no (by omega)
      obtain ⟨x0, x1, x2⟩ := X2.out.cells3
      clear hfr hrej hs2
      go_wp2_with fail
      clear x0 x1 x2
      refine (impl_copy _ l n m _ V2.out (by have := HE.out; omega) (by have := okB_len HO.out; omega) HT.out).mono ?_
      rintro e' w3 ⟨u, rfl, hr, hb⟩
      obtain ⟨g, cap, rfl, hbg, hgw, hcap⟩ := hr.form (by have := HE.out; omega)
      have R3 := Lib.hid (hr.alloc (.cells #[.slice (some ⟨g, 0, none⟩) l.length cap, .int .i64 n, .int .i64 m] 26))
      have Y3 := Lib.hid (Bx.new w3 26 #[.slice (some ⟨g, 0, none⟩) l.length cap, .int .i64 n, .int .i64 m] _ rfl)
      have Z3 := Lib.hid ((Z2.out.after hb).alloc (.cells #[.slice (some ⟨g, 0, none⟩) l.length cap, .int .i64 n, .int .i64 m] 26))
      have A3 := Lib.hid ((A2.out.after hb).alloc (.cells #[.slice (some ⟨g, 0, none⟩) l.length cap, .int .i64 n, .int .i64 m] 26))
      have V3 := Lib.hid ((V2.out.later hb).alloc (.cells #[.slice (some ⟨g, 0, none⟩) l.length cap, .int .i64 n, .int .i64 m] 26))
      have X3 := Lib.hid ((X2.out.after hb).alloc (.cells #[.slice (some ⟨g, 0, none⟩) l.length cap, .int .i64 n, .int .i64 m] 26))
      have s3 := (A2.out.after hb).size
      have hgw3 : g < (w3.alloc (.cells #[.slice (some ⟨g, 0, none⟩) l.length cap, .int .i64 n, .int .i64 m] 26)).heap.size := by simp; omega
      have hG3 : w3.heap.size < (w3.alloc (.cells #[.slice (some ⟨g, 0, none⟩) l.length cap, .int .i64 n, .int .i64 m] 26)).heap.size := by simp
      clear hr hb V2 X2 Z2 A2
      go_upto_region 10 with fail
      generalize w3.alloc (.cells #[.slice (some ⟨g, 0, none⟩) l.length cap, .int .i64 n, .int .i64 m] 26) = W3 at R3 Y3 Z3 A3 V3 X3 hgw3 hG3 ⊢
      obtain ⟨r1, r2, q1, q2⟩ := R3.out.cell e (by have := HE.out; omega)
      have hte := HT.out e (by have := HE.out; omega)
      obtain ⟨t, htt⟩ : ∃ t, sT l e = t := ⟨_, rfl⟩
      rw [htt] at r2 hte
      have HTE := Lib.hid htt
      have l6 := (okB_len HO.out).2
      rw [HE.out] at hcap Y3 l6 ⊢
      have e6 : (e : Int) ≤ 5 := by omega
      have e0 : (0 : Int) ≤ (e : Int) := by omega
      have t6 : (t.size : Int) ≤ 1048576 := by omega
      have f6 : (fr.size : Int) ≤ 211 := by omega
      have ie : (e : Int) < ((e + 1 : Nat) : Int) := by omega
      have ie2 : (e : Int) < (e : Int) + 1 := by omega
      have il : (e : Int) + 1 ≤ 6 := by omega
      clear htt
      by_cases hc : t.size = 0 ∨ t.size + fr.size ≤ 60
      · by_cases ht0 : t.size = 0
        · have HM := Lib.hid (addR_in l n m s e HO.out HE.out HR.out (by rw [HTE.out, HFR.out]; exact hc))
          rw [HTE.out, HFR.out] at HM
          have O4 := Lib.hid (show SegOwn (W3.setCell ⟨g, e * 2 + 1, none⟩ (.string (t ++ fr))) w2.heap.size (.slice (some ⟨g, 0, none⟩) (e + 1) cap) (l.set e ⟨sF l e, t ++ fr⟩) by
            have h := R3.out.setT e (t ++ fr) (by have := HE.out; omega)
            rw [HE.out] at h
            exact h)
          have Y4 := Lib.hid (Y3.out.set_other ⟨g, e * 2 + 1, none⟩ (.string (t ++ fr)) (by simp; omega))
          have Z4 := Lib.hid (Z3.out.set_other ⟨g, e * 2 + 1, none⟩ (.string (t ++ fr)) (by simp; omega))
          have A4 := Lib.hid (A3.out.set (p := ⟨g, e * 2 + 1, none⟩) (by simp; omega) (.string (t ++ fr)))
          have Y5 := Lib.hid (Y4.out.set 1 (.int .i64 (n + 1)))
          have Z5 := Lib.hid (Z4.out.set_other ⟨w3.heap.size, 1, none⟩ (.int .i64 (n + 1)) (by simp; omega))
          have A5 := Lib.hid (A4.out.set (p := ⟨w3.heap.size, 1, none⟩) (by simp; omega) (.int .i64 (n + 1)))
          have O5 := Lib.hid (O4.out.keepB (grownBy_set _ w3.heap.size 1 (.int .i64 (n + 1))) (fun b hb => by cases hb; exact (ob_ne (by omega)).symm))
          obtain ⟨y0, y1, y2⟩ := Y3.out.cells3
          obtain ⟨u0, u1, u2⟩ := Y4.out.cells3
          obtain ⟨v0, v1, v2⟩ := Y4.out.frozen3
          obtain ⟨j0, j1, j2⟩ := Y5.out.cells3
          obtain ⟨z0, z1, z3⟩ := Z5.out.cells3
          obtain ⟨f0, f1, f2⟩ := Z5.out.frozen3
          have b3 := isEmpty_yes ht0
          clear hc
          go_wp2
          refine bodyPost_ret (results_log2 Tryd.results44 _ _ (w.heap.size + 1) _ _ _ rfl (Z5.out.st3 _ _ _).cells3) rfl ⟨⟨_, _, _, by rw [HM.out]; exact (O5.out.st3 (by omega) _ _ _).mono (by omega), .inl (by rw [HM.out]; simp only [List.length_set]; have := HE.out; omega), .inl ⟨by rw [HM.out], by rw [HM.out]; rfl⟩⟩, A5.out.st3 (by omega) _ _ _⟩
        · have HM := Lib.hid (addR_in l n m s e HO.out HE.out HR.out (by rw [HTE.out, HFR.out]; exact hc))
          rw [HTE.out, HFR.out] at HM
          have O4 := Lib.hid (show SegOwn (W3.setCell ⟨g, e * 2 + 1, none⟩ (.string (t ++ fr))) w2.heap.size (.slice (some ⟨g, 0, none⟩) (e + 1) cap) (l.set e ⟨sF l e, t ++ fr⟩) by
            have h := R3.out.setT e (t ++ fr) (by have := HE.out; omega)
            rw [HE.out] at h
            exact h)
          have Y4 := Lib.hid (Y3.out.set_other ⟨g, e * 2 + 1, none⟩ (.string (t ++ fr)) (by simp; omega))
          have Z4 := Lib.hid (Z3.out.set_other ⟨g, e * 2 + 1, none⟩ (.string (t ++ fr)) (by simp; omega))
          have A4 := Lib.hid (A3.out.set (p := ⟨g, e * 2 + 1, none⟩) (by simp; omega) (.string (t ++ fr)))
          have Y5 := Lib.hid (Y4.out.set 1 (.int .i64 (n + 1)))
          have Z5 := Lib.hid (Z4.out.set_other ⟨w3.heap.size, 1, none⟩ (.int .i64 (n + 1)) (by simp; omega))
          have A5 := Lib.hid (A4.out.set (p := ⟨w3.heap.size, 1, none⟩) (by simp; omega) (.int .i64 (n + 1)))
          have O5 := Lib.hid (O4.out.keepB (grownBy_set _ w3.heap.size 1 (.int .i64 (n + 1))) (fun b hb => by cases hb; exact (ob_ne (by omega)).symm))
          obtain ⟨y0, y1, y2⟩ := Y3.out.cells3
          obtain ⟨u0, u1, u2⟩ := Y4.out.cells3
          obtain ⟨v0, v1, v2⟩ := Y4.out.frozen3
          obtain ⟨j0, j1, j2⟩ := Y5.out.cells3
          obtain ⟨z0, z1, z3⟩ := Z5.out.cells3
          obtain ⟨f0, f1, f2⟩ := Z5.out.frozen3
          have b3 := isEmpty_no ht0
          have b4 : (t.size : Int) + (fr.size : Int) ≤ 60 := by omega
          clear hc
          go_wp2
          refine bodyPost_ret (results_log2 Tryd.results44 _ _ (w.heap.size + 1) _ _ _ rfl (Z5.out.st3 _ _ _).cells3) rfl ⟨⟨_, _, _, by rw [HM.out]; exact (O5.out.st3 (by omega) _ _ _).mono (by omega), .inl (by rw [HM.out]; simp only [List.length_set]; have := HE.out; omega), .inl ⟨by rw [HM.out], by rw [HM.out]; rfl⟩⟩, A5.out.st3 (by omega) _ _ _⟩
      · have ht0 : t.size ≠ 0 := fun h => hc (.inl h)
        have b3 := isEmpty_no ht0
        have b4 : decide ((t.size : Int) + (fr.size : Int) ≤ 60) = false := decide_eq_false (by omega)
        have HN := Lib.hid (fun h6 => addR_new l n m s e HO.out HE.out HR.out (by rw [HTE.out, HFR.out]; exact hc) h6)
        have HFU := Lib.hid (fun h6 => addR_full l n m s e HO.out HE.out HR.out (by rw [HTE.out, HFR.out]; exact hc) h6)
        rw [HFR.out] at HN HFU
        have RA := Lib.hid (show SegRow (W3.alloc (.cells #[.int .i64 n, .string fr] 63)) w2.heap.size (.slice (some ⟨g, 0, none⟩) (e + 1) cap) l by
          have h := R3.out.alloc (.cells #[.int .i64 n, .string fr] 63)
          rw [HE.out] at h
          exact h)
        have hX : ∀ j, j < [Sg.mk n fr].length → (W3.alloc (.cells #[.int .i64 n, .string fr] 63)).cell? ⟨W3.heap.size, 0 + j * 2, none⟩ = some (.int .i64 (sF [Sg.mk n fr] j)) ∧ (W3.alloc (.cells #[.int .i64 n, .string fr] 63)).cell? ⟨W3.heap.size, 0 + j * 2 + 1, none⟩ = some (.string (sT [Sg.mk n fr] j)) := fun j hj => by
          obtain rfl : j = 0 := by simpa using hj
          have hb := Bx.new W3 63 #[.int .i64 n, .string fr] _ rfl
          rw [sF_of (x := Sg.mk n fr) rfl, sT_of (x := Sg.mk n fr) rfl]
          exact ⟨hb.cell 0 _ rfl, hb.cell 1 _ rfl⟩
        have HX := Lib.hid hX
        have YA := Lib.hid (Y3.out.alloc (.cells #[.int .i64 n, .string fr] 63))
        have ZA := Lib.hid (Z3.out.alloc (.cells #[.int .i64 n, .string fr] 63))
        have XA := Lib.hid (X3.out.alloc (.cells #[.int .i64 n, .string fr] 63))
        have AA := Lib.hid (A3.out.alloc (.cells #[.int .i64 n, .string fr] 63))
        obtain ⟨y0, y1, y2⟩ := Y3.out.cells3
        obtain ⟨p0, p1, p2⟩ := YA.out.cells3
        have s33 := A3.out.size
        clear hc hX
        go_wp2_with (at_builtin; go_loud (refine wp_append_segs rfl (.tmp 63) (.tmp 68) rfl w2.heap.size _ l [Sg.mk n fr] rfl RA.out W3.heap.size 0 1 rfl HX.out (by have := HE.out; simp; omega) (by simp; omega) ?_; intro v' w4 hv4 hg4; obtain ⟨l2, hl2⟩ : ∃ l2, l ++ [Sg.mk n fr] = l2 := ⟨_, rfl⟩; rw [hl2] at hv4; have HL2 := Lib.hid hl2; have hlen2 : l2.length = e + 2 := (by rw [← hl2, List.length_append, HE.out]; rfl); have HLEN := Lib.hid hlen2; obtain ⟨g4, cap4, rfl, hbg4, hgw4, hcap4⟩ := hv4.form (by omega); have Y4 := Lib.hid (YA.out.keep hg4 (ob_ne (by omega))); have Z4 := Lib.hid (ZA.out.keep hg4 (ob_ne (by omega))); have X4 := Lib.hid (XA.out.keep hg4 (ob_ne (by omega))); have A4 := Lib.hid (AA.out.grow hg4 (ob_le (by omega))); have R4 := Lib.hid hv4; obtain ⟨c0, c1, c2⟩ := Y4.out.cells3; obtain ⟨k0', k1', k2'⟩ := Y4.out.frozen3; have hne4 := row_ne hv4 (by omega) Y4.out; have Y4s := Lib.hid (Y4.out.set 0 (.slice (some ⟨g4, 0, none⟩) l2.length cap4)); obtain ⟨c3, c4, c5⟩ := Y4s.out.cells3; clear hl2 hlen2 hv4 hg4 y0 y1 y2 p0 p1 p2))
        clear c0 c1 c2 c3 c4 c5 k0' k1' k2'
        have O4 := Lib.hid (R4.out.own.keepB (grownBy_set w4 w3.heap.size 0 (.slice (some ⟨g4, 0, none⟩) l2.length cap4)) (fun b hb => by cases hb; exact (ob_ne (Ne.symm hne4)).symm))
        have Z4s := Lib.hid (Z4.out.set_other ⟨w3.heap.size, 0, none⟩ (.slice (some ⟨g4, 0, none⟩) l2.length cap4) (by simp; omega))
        have X4s := Lib.hid (X4.out.set_other ⟨w3.heap.size, 0, none⟩ (.slice (some ⟨g4, 0, none⟩) l2.length cap4) (by simp; omega))
        have A4s := Lib.hid (A4.out.set (p := ⟨w3.heap.size, 0, none⟩) (by simp; omega) (.slice (some ⟨g4, 0, none⟩) l2.length cap4))
        refine (impl_unc0 g4 cap4 w2.heap.size l2 n m _ O4.out (by have := HLEN.out; omega) (by have := HLEN.out; omega) (fun j hj => ?hF)).mono ?_
        case hF =>
          rw [HLEN.out] at hj
          rw [← HL2.out]
          by_cases hje : j < l.length
          · rw [sF_left _ _ _ hje]
            have := okB_F HO.out j hje
            omega
          · have hjl : j = l.length := by have := HE.out; omega
            rw [hjl, sF_snoc]
            exact ⟨n1, by show n ≤ 2000; omega⟩
        rintro e' w5 ⟨rfl, hb⟩
        have hdl := dN_lt l2 m (by have := HLEN.out; omega)
        rw [HL2.out] at HN HFU
        obtain ⟨d, hd⟩ : ∃ d, dN l2 m = d := ⟨_, rfl⟩
        rw [hd] at hdl HN HFU ⊢
        obtain ⟨q, hq⟩ : ∃ q, l2.length - d = q := ⟨_, rfl⟩
        have hdq : (l2.drop d).length = q := by rw [List.length_drop]; exact hq
        rw [hdq] at HN HFU
        have O5 := Lib.hid (show SegOwn w5 w2.heap.size (.slice (some ⟨g4, d * 2, none⟩) q (cap4 - d)) (l2.drop d) by
          have h := (O4.out.later hb).drop d hdl
          rw [Nat.zero_add, hq] at h
          exact h)
        rw [hq]
        have Y5 := Lib.hid (Y4s.out.after hb)
        have Z5 := Lib.hid (Z4s.out.after hb)
        have X5 := Lib.hid (X4s.out.after hb)
        have A5 := Lib.hid (A4s.out.after hb)
        have HDQ := Lib.hid hdq
        have q7 : (q : Int) ≤ 7 := by have := HLEN.out; omega
        have hq1 : 1 ≤ q := by omega
        clear hb hd hq hdl hdq O4 Y4 Y4s Z4 Z4s X4 X4s A4 A4s R4
        have Y6 := Lib.hid (Y5.out.set 0 (.slice (some ⟨g4, d * 2, none⟩) q (cap4 - d)))
        have Z6 := Lib.hid (Z5.out.set_other ⟨w3.heap.size, 0, none⟩ (.slice (some ⟨g4, d * 2, none⟩) q (cap4 - d)) (by simp; omega))
        have X6 := Lib.hid (X5.out.set_other ⟨w3.heap.size, 0, none⟩ (.slice (some ⟨g4, d * 2, none⟩) q (cap4 - d)) (by simp; omega))
        have A6 := Lib.hid (A5.out.set (p := ⟨w3.heap.size, 0, none⟩) (by simp; omega) (.slice (some ⟨g4, d * 2, none⟩) q (cap4 - d)))
        have O6 := Lib.hid (O5.out.keepB (grownBy_set w5 w3.heap.size 0 (.slice (some ⟨g4, d * 2, none⟩) q (cap4 - d))) (fun b hb => by cases hb; exact (ob_ne (Ne.symm hne4)).symm))
        have Y7 := Lib.hid (Y6.out.set 1 (.int .i64 (n + 1)))
        have Z7 := Lib.hid (Z6.out.set_other ⟨w3.heap.size, 1, none⟩ (.int .i64 (n + 1)) (by simp; omega))
        have X7 := Lib.hid (X6.out.set_other ⟨w3.heap.size, 1, none⟩ (.int .i64 (n + 1)) (by simp; omega))
        have A7 := Lib.hid (A6.out.set (p := ⟨w3.heap.size, 1, none⟩) (by simp; omega) (.int .i64 (n + 1)))
        have O7 := Lib.hid (O6.out.keepB (grownBy_set _ w3.heap.size 1 (.int .i64 (n + 1))) (fun b hb => by cases hb; exact (ob_ne (Ne.symm hne4)).symm))
        obtain ⟨y0, y1, y2⟩ := Y5.out.cells3
        obtain ⟨f0, f1, f2⟩ := Y5.out.frozen3
        obtain ⟨u0, u1, u2⟩ := Y6.out.cells3
        obtain ⟨v0, v1, v2⟩ := Y6.out.frozen3
        obtain ⟨j0, j1, j2⟩ := Y7.out.cells3
        obtain ⟨x0, x1, x2⟩ := X7.out.cells3
        obtain ⟨z0, z1, z3⟩ := Z7.out.cells3
        obtain ⟨i0, i1, i2⟩ := Z7.out.frozen3
        by_cases h6 : q ≤ 6
        · have HM := Lib.hid (HN.out h6)
          have h6i : (q : Int) ≤ 6 := by omega
          go_wp2
          refine bodyPost_ret (results_log2 Tryd.results44 _ _ (w.heap.size + 1) _ _ _ rfl (Z7.out.st3 _ _ _).cells3) rfl ⟨⟨_, _, _, by rw [HM.out]; exact (O7.out.st3 (by omega) _ _ _).mono (by omega), .inl (by rw [HM.out]; show 0 < (l2.drop d).length; rw [HDQ.out]; omega), .inl ⟨by rw [HM.out], by rw [HM.out]; rfl⟩⟩, A7.out.st3 (by omega) _ _ _⟩
        · have HM := Lib.hid (HFU.out h6)
          have h6i : (6 : Int) < (q : Int) := by omega
          go_wp2_with fail
          clear x0 x1 x2 y0 y1 y2 u0 u1 u2 j0 j1 j2 z0 z1 z3 i0 i1 i2 f0 f1 f2 v0 v1 v2
          refine (impl_reject _ l n m _ _ (HV.out.later A7.out) (by have := HE.out; omega) (by have := okB_len HO.out; omega) HT.out).mono ?_
          rintro e' w8 ⟨u, rfl, hr, hb⟩
          obtain ⟨g8, cap8, rfl, hbg8, hgw8, hcap8⟩ := hr.form (by have := HE.out; omega)
          have R8 := Lib.hid hr
          have Z8 := Lib.hid (Z7.out.after hb)
          have A8 := Lib.hid (A7.out.after hb)
          have hz7 := Z7.out.lt
          have ha7 := A7.out.size
          obtain ⟨y0, y1, y2⟩ := Z8.out.cells3
          obtain ⟨f0, f1, f2⟩ := Z8.out.frozen3
          clear hr hb
          go_wp2
          refine bodyPost_ret (results_log2 Tryd.results44 _ _ (w.heap.size + 1) _ _ _ rfl (Z8.out.st3 _ _ _).cells3) rfl ⟨⟨_, _, _, by rw [HM.out]; exact ((R8.out.st3 (by omega) _ _ _).mono (by omega)).own, .inl (by rw [HM.out]; show 0 < l.length; have := HE.out; omega), .inr ⟨by rw [HM.out], _, by rw [HM.out]; rfl⟩⟩, A8.out.st3 (by omega) _ _ _⟩
end Go.Proofs.YtemhhjkmolndbaaDoor
