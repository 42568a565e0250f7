import Derived.Test.YtmnglcidklckgaaDoorLogM
import Derived.Test.YtmnglcidklckgaaDoorUnfI
import Derived.Test.YtmnglcidklckgaaDoorLogS
/- countRecords, by one contract. -/
namespace Go.Proofs.YtmnglcidklckgaaDoor
open Go.RowKit Go.Shelf Go.PlainAid
set_option linter.unusedVariables false
attribute [local go_sem] Oper.semAt_some

/-- The text is frames, nothing else, and not too long for what it holds. -/
@[irreducible] def cB (t : ByteArray) : Bool := whl t && (decide (t.size ≤ 60) || decide (nF t = 1))
theorem cB_iff (t : ByteArray) : cB t = true ↔ whl t = true ∧ (t.size ≤ 60 ∨ nF t = 1) := by
  unfold cB
  simp only [Bool.and_eq_true, Bool.or_eq_true, decide_eq_true_eq]
theorem cB_yes (t : ByteArray) (h : fP t (nF t) = t.size) (h2 : t.size ≤ 60 ∨ nF t = 1) : cB t = true := (cB_iff t).2 ⟨(whl_eq t).2 h, h2⟩
theorem cB_no (t : ByteArray) (h : ¬ (fP t (nF t) = t.size ∧ (t.size ≤ 60 ∨ nF t = 1))) : cB t = false := by
  cases e : cB t with
  | false => rfl
  | true => exact absurd ((cB_iff t).1 e) (fun h' => h ⟨(whl_eq t).1 h'.1, h'.2⟩)
theorem boxed2_step {W : World} {n0 : Nat} {t4 t5 : Value} (z4 z5 : Value) (h4 : Boxed W n0 3 t4) (h5 : Boxed W (n0 + 1) 3 t5) (hge : n0 + 3 ≤ W.heap.size) :
    Boxed (W.setCell ⟨n0, 0, none⟩ z4) (n0 + 1) 3 t5 ∧ Boxed ((W.setCell ⟨n0, 0, none⟩ z4).setCell ⟨n0 + 1, 0, none⟩ z5) n0 3 z4 ∧ Boxed ((W.setCell ⟨n0, 0, none⟩ z4).setCell ⟨n0 + 1, 0, none⟩ z5) (n0 + 1) 3 z5 ∧
    KeepsOthers W ((W.setCell ⟨n0, 0, none⟩ z4).setCell ⟨n0 + 1, 0, none⟩ z5) ∧ Below n0 W ((W.setCell ⟨n0, 0, none⟩ z4).setCell ⟨n0 + 1, 0, none⟩ z5) ∧
    ((W.setCell ⟨n0, 0, none⟩ z4).setCell ⟨n0 + 1, 0, none⟩ z5).heap[n0 + 1 + 1]? = W.heap[n0 + 1 + 1]? ∧ n0 + 3 ≤ ((W.setCell ⟨n0, 0, none⟩ z4).setCell ⟨n0 + 1, 0, none⟩ z5).heap.size := by
  have hg1 := grownBy_setCell' W n0 z4
  have hg2 := grownBy_setCell' (W.setCell ⟨n0, 0, none⟩ z4) (n0 + 1) z5
  have h52 : Boxed (W.setCell ⟨n0, 0, none⟩ z4) (n0 + 1) 3 t5 := h5.kept hg1 (by simp)
  refine ⟨h52, (h4.set z4).kept hg2 (by simp), h52.set z5, (KeepsOthers.setCell _ _ _).trans (KeepsOthers.setCell _ _ _), ?_, ?_, ?_⟩
  · exact ((Below.refl n0 W).setCell (p := ⟨n0, 0, none⟩) (Nat.le_refl _) z4).setCell (p := ⟨n0 + 1, 0, none⟩) (Nat.le_succ _) z5
  · rw [hg2.block (n0 + 1 + 1) (Nat.lt_of_lt_of_le (by omega) (Nat.le_trans hge hg1.size)) (by simp), hg1.block (n0 + 1 + 1) (by omega) (by simp; omega)]
  · exact Nat.le_trans hge (Nat.le_trans hg1.size hg2.size)

set_option maxRecDepth 100000 in
set_option maxHeartbeats 1000000 in
theorem impl_count (s : ByteArray) (w : World) (hs : s.size ≤ 1048576) (ht : TabC w) :
    Calls Tryd.prog 63 #[.string s] w fun e w' => e = .returned (.tuple #[.int .i64 (nF s : Nat), .bool (cB s)]) ∧ Below w.heap.size w w' := by
  refine (callsIn_wide (n := 4)).1 ?_
  refine callsIn_of_wp_marks Tryd.func63 rfl trivial ?_ rfl
  simp only [Tryd.ntmps63, List.size_toArray, List.length_cons, List.length_nil, Nat.reduceAdd, Nat.reduceSub, Array.replicate_succ, Array.replicate_zero, List.push_toArray, List.append_toArray, List.nil_append, List.cons_append]
  gi_wp2_with (refine ⟨trivial, ?_⟩; gi_at_call 38; refine (frames_c _ s _).mono ?_; rintro e w' ⟨rfl, rfl⟩)
  have b4 := ((Boxed.new w 3 (.int .i64 0)).alloc (.cells #[.int .i64 0] 3)).alloc (.cells #[.string s] 9)
  have b5 := (Boxed.new (w.alloc (.cells #[.int .i64 0] 3)) 3 (.int .i64 0)).alloc (.cells #[.string s] 9)
  have bS := Boxed.new ((w.alloc (.cells #[.int .i64 0] 3)).alloc (.cells #[.int .i64 0] 3)) 9 (.string s)
  rw [World.size_alloc] at b5
  rw [World.size_alloc, World.size_alloc] at bS
  have hB0 : Below w.heap.size w (((w.alloc (.cells #[.int .i64 0] 3)).alloc (.cells #[.int .i64 0] 3)).alloc (.cells #[.string s] 9)) := (((Below.refl _ w).alloc (Nat.le_refl _) _).alloc (by simp) _).alloc (by simp; omega) _
  have hsz : (((w.alloc (.cells #[.int .i64 0] 3)).alloc (.cells #[.int .i64 0] 3)).alloc (.cells #[.string s] 9)).heap.size = w.heap.size + 3 := by simp
  generalize hW0 : ((w.alloc (.cells #[.int .i64 0] 3)).alloc (.cells #[.int .i64 0] 3)).alloc (.cells #[.string s] 9) = W0 at *
  clear hW0
  have hnF : 5 * nF s ≤ s.size := by have := fS_size s (nF s) (Nat.le_refl _); omega
  refine wpIn_rangeFunc_ownG rfl (by decide) (gf := 60) (lb := #[.pointer (some ⟨w.heap.size + 1 + 1, 0, none⟩)]) rfl trivial (enters_of Tryd.func60 (by kernel_rfl) rfl)
    (frames_stops _ (by decide) (w.heap.size + 1 + 1) w.heap.size s hs W0 (by omega) bS.cell (ht.later hB0 (Nat.le_refl _)) ht.lt) (fun h k => ⟨h.1.trans k.1, k.2.trans h.2⟩)
    (fun W l o o' hl h hc hw => ⟨belowK_b (w := W0) (by omega) W l o o' hl h hc hw, World.putObj_heap_other (by omega)⟩) (Below.refl _ _) (fun _ => rfl)
    (fun (pre : List (ByteArray × Int)) W => Boxed W w.heap.size 3 (.int .i64 (pre.length : Nat)) ∧ ((Boxed W (w.heap.size + 1) 3 (.int .i64 (lastE pre)) ∧ Below w.heap.size w W) ∧ w.heap.size + 3 ≤ W.heap.size))
    (fun _ _ _ => False)
    (OwnFrom.and (fun s A B row hs hg hr => hs.kept hg (fun e => by have := (hr _ e.symm).1; omega))
      (OwnFrom.and (OwnFrom.and (fun s A B row hs hg hr => hs.kept hg (fun e => by have := (hr _ e.symm).1; omega)) (ownFrom_below (Nat.le_refl _) (by omega))) (fun _ _ _ _ hs hg _ => Nat.le_trans hs hg.size)))
    (fun _ _ _ _ _ hs _ _ => hs)
    ⟨b4, ⟨b5, hB0⟩, by omega⟩
    (fun x => { tmps := #[.string s, undef, .int .i64 0, .bool false, .pointer (some ⟨w.heap.size, 0, none⟩), .pointer (some ⟨w.heap.size + 1, 0, none⟩), undef, .int .i64 x.2, .string s, .func (.func 60) #[] #[.pointer (some ⟨w.heap.size + 1 + 1, 0, none⟩)], .string x.1, .int .i64 x.2, undef, undef, undef, undef, undef, undef, undef, undef, undef, undef, undef, undef, undef, undef, undef, undef], defers := [] }) ?assign ?body ?done ?stop
  case assign =>
    intro l x W K hK
    gi_wp2
    exact hK
  case body =>
    rintro l pre x W ⟨hv, ⟨h5, hB⟩, hge⟩ hlt
    have hc := hv.cell
    have hf := hv.frozen
    have hl1 : ((pre.length : Nat) : Int) ≤ 1048576 := by omega
    obtain ⟨k2, k3, k4, k5, k6, k7, k8⟩ := boxed2_step (.int .i64 ((pre.length : Int) + 1)) (.int .i64 x.2) hv h5 hge
    have q3 := k2.cell
    have q4 := k2.frozen
    gi_wp2
    exact ⟨k5.from _, ⟨k6, k7⟩, by rw [List.length_append]; exact k3, ⟨by rw [lastE_snoc]; exact k4, hB.trans k6⟩, k8⟩
  case done =>
    rintro D ys W hD rfl ⟨hv, ⟨h5, hB⟩, hge⟩ hK
    have hc := hv.cell
    have hc5 := h5.cell
    rw [lastE_fX] at hc5
    rw [fX_length] at hc
    by_cases e : fP s (nF s) = s.size
    · rw [e] at hc5
      by_cases e2 : s.size ≤ 60
      · have hC := cB_yes s e (.inl e2)
        have hd2 : (s.size : Int) ≤ 60 := by omega
        gi_wp2
        refine wpIn_wide.2 ?_
        go_quiet (fail)
        have hK' : (W.drewN nq).heap[D]? = some (.deferred (some [])) := hK
        gi_wp2
        refine ⟨by simp, .inl ⟨_, _, rfl, run_takeDeferred hK', ?_⟩⟩
        refine ⟨_, results_tmp2 rfl _ _ _, ?_, ?_⟩
        · rw [hC]; rfl
        · exact (dn hB nq).trans (belowK_b (w := w) (Nat.le_refl _) (W.drewN nq) D _ _ (by omega) hK' rfl rfl)
      · have hd2 : (60 : Int) < (s.size : Int) := by omega
        by_cases e3 : nF s = 1
        · have hC := cB_yes s e (.inr e3)
          rw [e3] at hc
          gi_wp2
          refine wpIn_wide.2 ?_
          go_quiet (fail)
          have hK' : (W.drewN nq).heap[D]? = some (.deferred (some [])) := hK
          gi_wp2
          refine ⟨by simp, .inl ⟨_, _, rfl, run_takeDeferred hK', ?_⟩⟩
          refine ⟨_, results_tmp2 rfl _ _ _, ?_, ?_⟩
          · rw [hC, e3]; rfl
          · exact (dn hB nq).trans (belowK_b (w := w) (Nat.le_refl _) (W.drewN nq) D _ _ (by omega) hK' rfl rfl)
        · have hC := cB_no s (fun h => by omega)
          have hd3 : (((nF s : Nat) : Int) == 1) = false := beq_no (by omega)
          gi_wp2
          refine wpIn_wide.2 ?_
          go_quiet (fail)
          have hK' : (W.drewN nq).heap[D]? = some (.deferred (some [])) := hK
          gi_wp2
          refine ⟨by simp, .inl ⟨_, _, rfl, run_takeDeferred hK', ?_⟩⟩
          refine ⟨_, results_tmp2 rfl _ _ _, ?_, ?_⟩
          · rw [hC]; simp; exact hd2
          · exact (dn hB nq).trans (belowK_b (w := w) (Nat.le_refl _) (W.drewN nq) D _ _ (by omega) hK' rfl rfl)
    · have hd : (((fP s (nF s) : Nat) : Int) == (s.size : Int)) = false := beq_no (by omega)
      have hC := cB_no s (fun h => e h.1)
      gi_wp2
      refine wpIn_wide.2 ?_
      go_quiet (fail)
      have hK' : (W.drewN nq).heap[D]? = some (.deferred (some [])) := hK
      gi_wp2
      refine ⟨by simp, .inl ⟨_, _, rfl, run_takeDeferred hK', ?_⟩⟩
      refine ⟨_, results_tmp2 rfl _ _ _, ?_, ?_⟩
      · rw [hC]; rfl
      · exact (dn hB nq).trans (belowK_b (w := w) (Nat.le_refl _) (W.drewN nq) D _ _ (by omega) hK' rfl rfl)
  case stop =>
    rintro D c pre W _ _ h _
    exact h.elim
end Go.Proofs.YtmnglcidklckgaaDoor
/- segsOk, by one contract. -/
namespace Go.Proofs.YtmnglcidklckgaaDoor
open Go.RowKit Go.PlainAid
set_option linter.unusedVariables false

/-- All segments are as they must be, and end at n. -/
@[irreducible] def sgB (l : List Sg) (n m : Int) : Bool := decide (n = atN l l.length ∧ ∀ k, k < l.length → gB l m k = true)
theorem sgB_iff (l : List Sg) (n m : Int) : sgB l n m = true ↔ (n = atN l l.length ∧ ∀ k, k < l.length → gB l m k = true) := by
  unfold sgB
  exact decide_eq_true_iff
theorem sgB_no (l : List Sg) (n m : Int) (h : ¬ (n = atN l l.length ∧ ∀ k, k < l.length → gB l m k = true)) : sgB l n m = false := by
  cases e : sgB l n m with
  | false => rfl
  | true => exact absurd ((sgB_iff l n m).1 e) h
theorem sgB_stop (l : List Sg) (n m : Int) (k : Nat) (hk : k < l.length) (h : gB l m k ≠ true) : sgB l n m = false := sgB_no l n m fun ⟨_, e⟩ => h (e k hk)
theorem gB_cq {l : List Sg} {m p : Int} {k q k0 : Nat} (hp : atN l k = p) (hq : nF (sT l k) = q) (h0 : l.length = k0) : gB l m k = true ↔ sF l k = p ∧ cB (sT l k) = true ∧ (k + 1 = k0 ∨ (q ≠ 0 ∧ m < p + q - 1)) := by
  rw [gB_iff, hp, hq, h0, cB_iff, hq]
  constructor
  · rintro ⟨a, b, c, d⟩; exact ⟨a, ⟨b, c⟩, d⟩
  · rintro ⟨a, ⟨b, c⟩, d⟩; exact ⟨a, b, c, d⟩

set_option maxRecDepth 100000 in
set_option maxHeartbeats 1000000 in
theorem impl_segsOk (v : Value) (l : List Sg) (n m : Int) (w : World) (hv : Segs w v l) (ht : ∀ j, j < l.length → (sT l j).size ≤ 1048576) (h1 : 1 ≤ l.length) (h6 : l.length ≤ 6) (hf1 : 1 ≤ sF l 0) (hf2 : sF l 0 ≤ 1000) (hT : TabC w) :
    Calls Tryd.prog 71 #[.agg #[v, .int .i64 n, .int .i64 m]] w fun e w' => e = .returned (.bool (sgB l n m)) ∧ Below w.heap.size w w' := by
  have hbd := atN_bd l ht
  obtain ⟨b, o, cap, hve, hcap, hbw, c0, c1⟩ := hv.at0 0 (by omega)
  subst hve
  obtain ⟨k0, hk0⟩ : ∃ k0, l.length = k0 := ⟨_, rfl⟩
  rw [Nat.zero_mul, Nat.add_zero] at c0 c1
  rw [hk0] at h1 h6 hcap ⊢
  have HK := Lib.hid hk0
  have HV := Lib.hid hv
  have HT := Lib.hid ht
  have HBD := Lib.hid hbd
  have HTA := Lib.hid hT
  have d0 : (w.alloc (.cells #[.slice (some ⟨b, o, none⟩) k0 cap, .int .i64 n, .int .i64 m] 26)).cell? ⟨b, o, none⟩ = some (.int .i64 (sF l 0)) := by
    rw [World.cell?_alloc_lt _ _ ⟨b, o, none⟩ hbw]; exact c0
  have p0 : 0 < k0 := by omega
  have i6 : (k0 : Int) ≤ 6 := by omega
  clear hv ht hbd hk0 c0 c1 h1 hT
  go_enter Tryd.func71, Tryd.ntmps71
  go_wp2
  go_loopw [3, 17] (fun pv i wr => ∃ k : Nat, k ≤ k0 ∧ i = .int .i64 k ∧ pv = .int .i64 (atN l k) ∧ (∀ j, j < k → gB l m j = true) ∧ Bx wr w.heap.size 26 #[.slice (some ⟨b, o, none⟩) k0 cap, .int .i64 n, .int .i64 m] ∧ Af w wr) (fun _ i _ => k0 - (intOf i).toNat)
  case atStart => exact ⟨0, by omega, rfl, rfl, fun j hj => by omega, Bx.new w _ _ _ rfl, (Af.refl w).alloc _⟩
  case round =>
    clear d0
    obtain ⟨k, hk, rfl, rfl, he, hx, ha⟩ := hrel
    have HE := Lib.hid he
    have HX := Lib.hid hx
    have HA := Lib.hid ha
    obtain ⟨x0, x1, x2⟩ := hx.cells3
    obtain ⟨hp0, hp1⟩ := HBD.out k (by rw [HK.out]; exact hk)
    obtain ⟨p, hp⟩ : ∃ p, atN l k = p := ⟨_, rfl⟩
    rw [hp] at hp0 hp1 ⊢
    have HP := Lib.hid hp
    clear he hx ha hp
    by_cases hlt : k < k0
    · obtain ⟨b', o', cap', ev, _, hbw', c0, c1⟩ := (HV.out.later HA.out).at0 k (by rw [HK.out]; exact hlt)
      simp only [Value.slice.injEq, Option.some.injEq, Addr.mk.injEq] at ev
      obtain ⟨⟨rfl, rfl, _⟩, _, rfl⟩ := ev
      have htk := HT.out k (by rw [HK.out]; exact hlt)
      have hq5 := nF_le5 (sT l k)
      have y1 : (k : Int) < (k0 : Int) := by omega
      have HTB := Lib.hid ((HTA.out.later HA.out (Nat.le_refl _)).later ((Below.refl wr.heap.size wr).alloc (Nat.le_refl _) (.cells #[.int .i64 (sF l k), .string (sT l k)] 51)) (Nat.le_refl _))
      go_wp2_with fail
      refine (impl_count _ _ htk HTB.out).mono ?_
      rintro e w2 ⟨rfl, hb2⟩
      have S2 := (Bx.new wr 51 #[.int .i64 (sF l k), .string (sT l k)] _ rfl).after hb2
      have s0 := S2.cell 0 _ rfl
      have s1 := S2.cell 1 _ rfl
      have X2 := Lib.hid ((HX.out.alloc (.cells #[.int .i64 (sF l k), .string (sT l k)] 51)).after hb2)
      have A2 := Lib.hid ((HA.out.alloc (.cells #[.int .i64 (sF l k), .string (sT l k)] 51)).after hb2)
      obtain ⟨q, hq⟩ : ∃ q, nF (sT l k) = q := ⟨_, rfl⟩
      rw [hq] at hq5 ⊢
      have HQ := Lib.hid hq
      clear hq hb2 S2 x0 x1 x2 c0 c1 HX HA HTB
      obtain ⟨x0, x1, x2⟩ := X2.out.cells3
      have hqi : (q : Int) ≤ 209716 := by omega
      have hq0 : (0 : Int) ≤ (q : Int) := by omega
      cases h2 : cB (sT l k) with
      | false =>
        go_wp2
        go_ret
        exact ⟨by rw [sgB_stop l n m k (by rw [HK.out]; exact hlt) (fun e => by obtain ⟨g1, g2, g3⟩ := (gB_cq HP.out HQ.out HK.out).1 e; rw [h2] at g2; cases g2)]; rfl, A2.out⟩
      | true =>
        by_cases e1 : sF l k = p
        · have HE1 := Lib.hid e1
          rw [e1] at s0
          clear e1
          by_cases h5 : k + 1 < k0
          · have d5 : ((k : Int) == (k0 : Int) - 1) = false := beq_no (by omega)
            by_cases h6 : q = 0
            · subst h6
              go_wp2
              go_ret
              exact ⟨by rw [sgB_stop l n m k (by rw [HK.out]; exact hlt) (fun e => by obtain ⟨g1, g2, g3⟩ := (gB_cq HP.out HQ.out HK.out).1 e; omega)]; rfl, A2.out⟩
            · have d6 : ((q : Int) == 0) = false := beq_no (by omega)
              by_cases h7 : p + q - 1 ≤ m
              · have d7 : decide (p + (q : Int) - 1 ≤ m) = true := decide_eq_true h7
                go_wp2
                go_ret
                exact ⟨by rw [sgB_stop l n m k (by rw [HK.out]; exact hlt) (fun e => by obtain ⟨g1, g2, g3⟩ := (gB_cq HP.out HQ.out HK.out).1 e; omega)]; rfl, A2.out⟩
              · have d7 : decide (p + (q : Int) - 1 ≤ m) = false := decide_eq_false h7
                have HG : Hid (gB l m k = true) := Lib.hid ((gB_cq HP.out HQ.out HK.out).2 ⟨HE1.out, h2, .inr ⟨h6, by omega⟩⟩)
                go_wp2
                go_roundw
                case rel =>
                  refine ⟨k + 1, by omega, by go_num, (by rw [atN_succ, HP.out, HQ.out] <;> rfl), fun j hj => ?_, X2.out, A2.out⟩
                  by_cases e : j = k
                  · subst e; exact HG.out
                  · exact HE.out j (by omega)
                case measure => simp only [intOf]; omega
          · have d5 : ((k : Int) == (k0 : Int) - 1) = true := by have : (k : Int) = (k0 : Int) - 1 := by omega
                                                                 rw [this]; exact beq_self_eq_true _
            have HG : Hid (gB l m k = true) := Lib.hid ((gB_cq HP.out HQ.out HK.out).2 ⟨HE1.out, h2, .inl (by omega)⟩)
            go_wp2
            go_roundw
            case rel =>
              refine ⟨k + 1, by omega, by go_num, (by rw [atN_succ, HP.out, HQ.out] <;> rfl), fun j hj => ?_, X2.out, A2.out⟩
              by_cases e : j = k
              · subst e; exact HG.out
              · exact HE.out j (by omega)
            case measure => simp only [intOf]; omega
        · have d1 := beq_no e1
          go_wp2
          go_ret
          exact ⟨by rw [sgB_stop l n m k (by rw [HK.out]; exact hlt) (fun e => by obtain ⟨g1, g2, g3⟩ := (gB_cq HP.out HQ.out HK.out).1 e; exact e1 g1)]; rfl, A2.out⟩
    · obtain rfl : k = k0 := by omega
      by_cases h8 : n = p
      · subst h8
        have HO := Lib.hid ((sgB_iff l n m).2 ⟨by rw [HK.out]; exact HP.out.symm, fun j hj => HE.out j (by rw [HK.out] at hj; exact hj)⟩)
        go_wp2
        go_ret
        exact ⟨by rw [HO.out]; rfl, HA.out⟩
      · have d8 : (p == n) = false := beq_no (fun e => h8 e.symm)
        have HO := Lib.hid (sgB_no l n m (fun h => h8 (by have := h.1; rw [HK.out, HP.out] at this; exact this)))
        clear h8
        go_wp2
        go_ret
        exact ⟨by rw [HO.out]; rfl, HA.out⟩
end Go.Proofs.YtmnglcidklckgaaDoor
