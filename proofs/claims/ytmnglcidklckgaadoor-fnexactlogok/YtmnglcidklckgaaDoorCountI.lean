/- countRecords, by one contract. -/
import Derived.Test.YtmnglcidklckgaaDoorLogM
import Derived.Test.YtmnglcidklckgaaDoorUnfI
namespace Go.Proofs.YtmnglcidklckgaaDoor
open Go.RowKit Go.Shelf Go.PlainAid
set_option linter.unusedVariables false
attribute [local go_sem] Oper.semAt_some

/-- The text is frames, nothing else, and not too long for what it holds. -/
@[irreducible] def cB (t : ByteArray) : Bool := whl t && (decide (t.size ≤ 60) || decide (nF t = 1))
theorem cB_iff (t : ByteArray) : cB t = true ↔ whl t = true ∧ (t.size ≤ 60 ∨ nF t = 1) := by
  unfold cB
  simp only [Bool.and_eq_true, Bool.or_eq_true, decide_eq_true_eq]
theorem cB_yes (t : ByteArray) (h : fP t (nF t) = t.size) (h2 : t.size ≤ 60 ∨ nF t = 1) : cB t = true := (cB_iff t).2 ⟨(whl_eq t).2 h, h2⟩
theorem cB_no (t : ByteArray) (h : ¬ (fP t (nF t) = t.size ∧ (t.size ≤ 60 ∨ nF t = 1))) : cB t = false := by
  cases e : cB t with
  | false => rfl
  | true => exact absurd ((cB_iff t).1 e) (fun h' => h ⟨(whl_eq t).1 h'.1, h'.2⟩)
theorem boxed2_step {W : World} {n0 : Nat} {t4 t5 : Value} (z4 z5 : Value) (h4 : Boxed W n0 3 t4) (h5 : Boxed W (n0 + 1) 3 t5) (hge : n0 + 3 ≤ W.heap.size) :
    Boxed (W.setCell ⟨n0, 0, none⟩ z4) (n0 + 1) 3 t5 ∧ Boxed ((W.setCell ⟨n0, 0, none⟩ z4).setCell ⟨n0 + 1, 0, none⟩ z5) n0 3 z4 ∧ Boxed ((W.setCell ⟨n0, 0, none⟩ z4).setCell ⟨n0 + 1, 0, none⟩ z5) (n0 + 1) 3 z5 ∧
    KeepsOthers W ((W.setCell ⟨n0, 0, none⟩ z4).setCell ⟨n0 + 1, 0, none⟩ z5) ∧ Below n0 W ((W.setCell ⟨n0, 0, none⟩ z4).setCell ⟨n0 + 1, 0, none⟩ z5) ∧
    ((W.setCell ⟨n0, 0, none⟩ z4).setCell ⟨n0 + 1, 0, none⟩ z5).heap[n0 + 1 + 1]? = W.heap[n0 + 1 + 1]? ∧ n0 + 3 ≤ ((W.setCell ⟨n0, 0, none⟩ z4).setCell ⟨n0 + 1, 0, none⟩ z5).heap.size := by
  have hg1 := grownBy_setCell' W n0 z4
  have hg2 := grownBy_setCell' (W.setCell ⟨n0, 0, none⟩ z4) (n0 + 1) z5
  have h52 : Boxed (W.setCell ⟨n0, 0, none⟩ z4) (n0 + 1) 3 t5 := h5.kept hg1 (by simp)
  refine ⟨h52, (h4.set z4).kept hg2 (by simp), h52.set z5, (KeepsOthers.setCell _ _ _).trans (KeepsOthers.setCell _ _ _), ?_, ?_, ?_⟩
  · exact ((Below.refl n0 W).setCell (p := ⟨n0, 0, none⟩) (Nat.le_refl _) z4).setCell (p := ⟨n0 + 1, 0, none⟩) (Nat.le_succ _) z5
  · rw [hg2.block (n0 + 1 + 1) (Nat.lt_of_lt_of_le (by omega) (Nat.le_trans hge hg1.size)) (by simp), hg1.block (n0 + 1 + 1) (by omega) (by simp; omega)]
  · exact Nat.le_trans hge (Nat.le_trans hg1.size hg2.size)

set_option maxRecDepth 100000 in
set_option maxHeartbeats 1000000 in
theorem impl_count (s : ByteArray) (w : World) (hs : s.size ≤ 1048576) (ht : TabC w) :
    Calls Tryd.prog 63 #[.string s] w fun e w' => e = .returned (.tuple #[.int .i64 (nF s : Nat), .bool (cB s)]) ∧ Below w.heap.size w w' := by
  refine (callsIn_wide (n := 4)).1 ?_
  refine callsIn_of_wp_marks Tryd.func63 rfl trivial ?_ rfl
  simp only [Tryd.ntmps63, List.size_toArray, List.length_cons, List.length_nil, Nat.reduceAdd, Nat.reduceSub, Array.replicate_succ, Array.replicate_zero, List.push_toArray, List.append_toArray, List.nil_append, List.cons_append]
  gi_wp2_with (refine ⟨trivial, ?_⟩; gi_at_call 38; refine (frames_c _ s _).mono ?_; rintro e w' ⟨rfl, rfl⟩)
  have b4 := ((Boxed.new w 3 (.int .i64 0)).alloc (.cells #[.int .i64 0] 3)).alloc (.cells #[.string s] 9)
  have b5 := (Boxed.new (w.alloc (.cells #[.int .i64 0] 3)) 3 (.int .i64 0)).alloc (.cells #[.string s] 9)
  have bS := Boxed.new ((w.alloc (.cells #[.int .i64 0] 3)).alloc (.cells #[.int .i64 0] 3)) 9 (.string s)
  rw [World.size_alloc] at b5
  rw [World.size_alloc, World.size_alloc] at bS
  have hB0 : Below w.heap.size w (((w.alloc (.cells #[.int .i64 0] 3)).alloc (.cells #[.int .i64 0] 3)).alloc (.cells #[.string s] 9)) := (((Below.refl _ w).alloc (Nat.le_refl _) _).alloc (by simp) _).alloc (by simp; omega) _
  have hsz : (((w.alloc (.cells #[.int .i64 0] 3)).alloc (.cells #[.int .i64 0] 3)).alloc (.cells #[.string s] 9)).heap.size = w.heap.size + 3 := by simp
  generalize hW0 : ((w.alloc (.cells #[.int .i64 0] 3)).alloc (.cells #[.int .i64 0] 3)).alloc (.cells #[.string s] 9) = W0 at *
  clear hW0
  have hnF : 5 * nF s ≤ s.size := by have := fS_size s (nF s) (Nat.le_refl _); omega
  refine wpIn_rangeFunc_ownG rfl (by decide) (gf := 60) (lb := #[.pointer (some ⟨w.heap.size + 1 + 1, 0, none⟩)]) rfl trivial (enters_of Tryd.func60 (by kernel_rfl) rfl)
    (frames_stops _ (by decide) (w.heap.size + 1 + 1) w.heap.size s hs W0 (by omega) bS.cell (ht.later hB0 (Nat.le_refl _)) ht.lt) (fun h k => ⟨h.1.trans k.1, k.2.trans h.2⟩)
    (fun W l o o' hl h hc hw => ⟨belowK_b (w := W0) (by omega) W l o o' hl h hc hw, World.putObj_heap_other (by omega)⟩) (Below.refl _ _) (fun _ => rfl)
    (fun (pre : List (ByteArray × Int)) W => Boxed W w.heap.size 3 (.int .i64 (pre.length : Nat)) ∧ ((Boxed W (w.heap.size + 1) 3 (.int .i64 (lastE pre)) ∧ Below w.heap.size w W) ∧ w.heap.size + 3 ≤ W.heap.size))
    (fun _ _ _ => False)
    (OwnFrom.and (fun s A B row hs hg hr => hs.kept hg (fun e => by have := (hr _ e.symm).1; omega))
      (OwnFrom.and (OwnFrom.and (fun s A B row hs hg hr => hs.kept hg (fun e => by have := (hr _ e.symm).1; omega)) (ownFrom_below (Nat.le_refl _) (by omega))) (fun _ _ _ _ hs hg _ => Nat.le_trans hs hg.size)))
    (fun _ _ _ _ _ hs _ _ => hs)
    ⟨b4, ⟨b5, hB0⟩, by omega⟩
    (fun x => { tmps := #[.string s, undef, .int .i64 0, .bool false, .pointer (some ⟨w.heap.size, 0, none⟩), .pointer (some ⟨w.heap.size + 1, 0, none⟩), undef, .int .i64 x.2, .string s, .func (.func 60) #[] #[.pointer (some ⟨w.heap.size + 1 + 1, 0, none⟩)], .string x.1, .int .i64 x.2, undef, undef, undef, undef, undef, undef, undef, undef, undef, undef, undef, undef, undef, undef, undef, undef], defers := [] }) ?assign ?body ?done ?stop
  case assign =>
    intro l x W K hK
    gi_wp2
    exact hK
  case body =>
    rintro l pre x W ⟨hv, ⟨h5, hB⟩, hge⟩ hlt
    have hc := hv.cell
    have hf := hv.frozen
    have hl1 : ((pre.length : Nat) : Int) ≤ 1048576 := by omega
    obtain ⟨k2, k3, k4, k5, k6, k7, k8⟩ := boxed2_step (.int .i64 ((pre.length : Int) + 1)) (.int .i64 x.2) hv h5 hge
    have q3 := k2.cell
    have q4 := k2.frozen
    gi_wp2
    exact ⟨k5.from _, ⟨k6, k7⟩, by rw [List.length_append]; exact k3, ⟨by rw [lastE_snoc]; exact k4, hB.trans k6⟩, k8⟩
  case done =>
    rintro D ys W hD rfl ⟨hv, ⟨h5, hB⟩, hge⟩ hK
    have hc := hv.cell
    have hc5 := h5.cell
    rw [lastE_fX] at hc5
    rw [fX_length] at hc
    by_cases e : fP s (nF s) = s.size
    · rw [e] at hc5
      by_cases e2 : s.size ≤ 60
      · have hC := cB_yes s e (.inl e2)
        have hd2 : (s.size : Int) ≤ 60 := by omega
        gi_wp2
        refine wpIn_wide.2 ?_
        go_quiet (fail)
        have hK' : (W.drewN nq).heap[D]? = some (.deferred (some [])) := hK
        gi_wp2
        refine ⟨by simp, .inl ⟨_, _, rfl, run_takeDeferred hK', ?_⟩⟩
        refine ⟨_, results_tmp2 rfl _ _ _, ?_, ?_⟩
        · rw [hC]; rfl
        · exact (dn hB nq).trans (belowK_b (w := w) (Nat.le_refl _) (W.drewN nq) D _ _ (by omega) hK' rfl rfl)
      · have hd2 : (60 : Int) < (s.size : Int) := by omega
        by_cases e3 : nF s = 1
        · have hC := cB_yes s e (.inr e3)
          rw [e3] at hc
          gi_wp2
          refine wpIn_wide.2 ?_
          go_quiet (fail)
          have hK' : (W.drewN nq).heap[D]? = some (.deferred (some [])) := hK
          gi_wp2
          refine ⟨by simp, .inl ⟨_, _, rfl, run_takeDeferred hK', ?_⟩⟩
          refine ⟨_, results_tmp2 rfl _ _ _, ?_, ?_⟩
          · rw [hC, e3]; rfl
          · exact (dn hB nq).trans (belowK_b (w := w) (Nat.le_refl _) (W.drewN nq) D _ _ (by omega) hK' rfl rfl)
        · have hC := cB_no s (fun h => by omega)
          have hd3 : (((nF s : Nat) : Int) == 1) = false := beq_no (by omega)
          gi_wp2
          refine wpIn_wide.2 ?_
          go_quiet (fail)
          have hK' : (W.drewN nq).heap[D]? = some (.deferred (some [])) := hK
          gi_wp2
          refine ⟨by simp, .inl ⟨_, _, rfl, run_takeDeferred hK', ?_⟩⟩
          refine ⟨_, results_tmp2 rfl _ _ _, ?_, ?_⟩
          · rw [hC]; simp; exact hd2
          · exact (dn hB nq).trans (belowK_b (w := w) (Nat.le_refl _) (W.drewN nq) D _ _ (by omega) hK' rfl rfl)
    · have hd : (((fP s (nF s) : Nat) : Int) == (s.size : Int)) = false := beq_no (by omega)
      have hC := cB_no s (fun h => e h.1)
      gi_wp2
      refine wpIn_wide.2 ?_
      go_quiet (fail)
      have hK' : (W.drewN nq).heap[D]? = some (.deferred (some [])) := hK
      gi_wp2
      refine ⟨by simp, .inl ⟨_, _, rfl, run_takeDeferred hK', ?_⟩⟩
      refine ⟨_, results_tmp2 rfl _ _ _, ?_, ?_⟩
      · rw [hC]; rfl
      · exact (dn hB nq).trans (belowK_b (w := w) (Nat.le_refl _) (W.drewN nq) D _ _ (by omega) hK' rfl rfl)
  case stop =>
    rintro D c pre W _ _ h _
    exact h.elim
end Go.Proofs.YtmnglcidklckgaaDoor
