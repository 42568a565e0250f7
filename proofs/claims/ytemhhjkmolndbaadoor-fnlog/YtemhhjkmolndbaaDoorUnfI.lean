/- Unframe, by one contract. -/
import Derived.Test.YtemhhjkmolndbaaDoorFrIter
import Derived.Maps.AppendAt
import Derived.BigQuiet
namespace Go.Proofs.YtemhhjkmolndbaaDoor
open Go.RowKit Go.Shelf Go.PlainAid
set_option linter.unusedVariables false
attribute [local go_sem] Oper.semAt_some

set_option maxHeartbeats 400000 in
theorem frames_c (n : Nat) (s : ByteArray) (w : World) :
    CallsIn Fence.wide n Tryd.prog 48 #[.string s] w fun e w' => e = .returned (.func (.func 81) #[] #[.pointer (some ⟨w.heap.size, 0, none⟩)]) ∧ w' = w.alloc (.cells #[.string s] 9) := by
  refine callsIn_of_wp Tryd.func48 rfl trivial ?_ rfl
  simp only [Tryd.ntmps48, List.size_toArray, List.length_cons, List.length_nil, Nat.reduceAdd, Nat.reduceSub, Array.replicate_succ, Array.replicate_zero, List.push_toArray, List.append_toArray, List.nil_append, List.cons_append]
  gi_wp2
  go_ret
  exact ⟨rfl, rfl⟩
/-- The place that came last. -/
def lastE (pre : List (ByteArray × Int)) : Int := match pre.getLast? with
  | none => 0
  | some x => x.2
theorem lastE_snoc (pre : List (ByteArray × Int)) (x : ByteArray × Int) : lastE (pre ++ [x]) = x.2 := by simp [lastE]
theorem lastE_fX (s : ByteArray) (k : Nat) : lastE (fX s k) = (fP s k : Nat) := by
  cases k with
  | zero => rw [fP_zero]; rfl
  | succ k => rw [fX_succ, lastE_snoc]

/-- What a round leaves: 'contents = append(contents, content); end = next'. -/
theorem unf_step {W w1 : World} {n0 m : Nat} {v v' t5 : Value} {l : List ByteArray} {ys : List Value} {tmp : Obj} (z : Value)
    (hv : Boxed W n0 28 v) (h5 : Boxed W (n0 + 1) 3 t5) (hrow : W.ownsRow (n0 + 3) 9 1 v l.length (strV l)) (hge : n0 + 3 ≤ W.heap.size)
    (hown' : w1.ownsRow (n0 + 3) 9 1 v' m ys) (hgrow : (W.alloc tmp).grownBy w1 v.ownBlock) :
    Boxed w1 n0 28 v ∧ Boxed (w1.setCell ⟨n0, 0, none⟩ v') (n0 + 1) 3 t5 ∧
    Boxed ((w1.setCell ⟨n0, 0, none⟩ v').setCell ⟨n0 + 1, 0, none⟩ z) n0 28 v' ∧ Boxed ((w1.setCell ⟨n0, 0, none⟩ v').setCell ⟨n0 + 1, 0, none⟩ z) (n0 + 1) 3 z ∧
    ((w1.setCell ⟨n0, 0, none⟩ v').setCell ⟨n0 + 1, 0, none⟩ z).ownsRow (n0 + 3) 9 1 v' m ys ∧ KeepsOthers W ((w1.setCell ⟨n0, 0, none⟩ v').setCell ⟨n0 + 1, 0, none⟩ z) ∧
    Below n0 W ((w1.setCell ⟨n0, 0, none⟩ v').setCell ⟨n0 + 1, 0, none⟩ z) ∧ ((w1.setCell ⟨n0, 0, none⟩ v').setCell ⟨n0 + 1, 0, none⟩ z).heap[n0 + 1 + 1]? = W.heap[n0 + 1 + 1]? ∧
    n0 + 3 ≤ ((w1.setCell ⟨n0, 0, none⟩ v').setCell ⟨n0 + 1, 0, none⟩ z).heap.size := by
  have hb : Below (n0 + 3) W w1 := ((Below.refl _ W).alloc hge tmp).trans (below_of_grown (GrowsS.alloc (show GrowsS W (n0 + 3) v l from hrow) tmp) (by simp; omega) hgrow)
  have hv1 : Boxed w1 n0 28 v := (hb.block n0 (by omega)).trans hv
  have h51 : Boxed w1 (n0 + 1) 3 t5 := (hb.block (n0 + 1) (by omega)).trans h5
  have h52 : Boxed (w1.setCell ⟨n0, 0, none⟩ v') (n0 + 1) 3 t5 := h51.kept (grownBy_setCell' w1 n0 v') (by simp)
  have hg2 := grownBy_setCell' (w1.setCell ⟨n0, 0, none⟩ v') (n0 + 1) z
  have hg1 := grownBy_setCell' w1 n0 v'
  have hne : ∀ k, k < n0 + 3 → v'.ownBlock ≠ some k := fun k hk e => by
    have := (World.ownsRow.lt hown' k e).1
    omega
  refine ⟨hv1, h52, (hv1.set v').kept hg2 (by simp), h52.set z, (hown'.kept hg1 (.inr (hne _ (by omega)))).kept hg2 (.inr (hne _ (by omega))), ?_, ?_, ?_, ?_⟩
  · refine (((KeepsOthers.alloc W tmp).trans (KeepsOthers.of_grownBy hgrow fun j o ej hj => ?_)).trans (KeepsOthers.setCell _ _ _)).trans (KeepsOthers.setCell _ _ _)
    rcases (World.ownsRow.alloc hrow tmp).2 with ⟨rfl, _⟩ | ⟨g, cap, cur, rfl, _, hgb, _⟩
    · simp [Value.ownBlock] at ej
    · obtain rfl : g = j := by simpa [Value.ownBlock] using ej
      rw [hgb] at hj; cases hj; rfl
  · have hb0 : Below n0 W w1 := hb.mono (by omega)
    exact (hb0.setCell (p := ⟨n0, 0, none⟩) (Nat.le_refl _) v').setCell (p := ⟨n0 + 1, 0, none⟩) (Nat.le_succ _) z
  · rw [hg2.block (n0 + 1 + 1) (Nat.lt_of_lt_of_le (by omega) (Nat.le_trans hge (Nat.le_trans hb.size hg1.size))) (by simp), hg1.block (n0 + 1 + 1) (Nat.lt_of_lt_of_le (by omega) (Nat.le_trans hge hb.size)) (by simp; omega), hb.block (n0 + 1 + 1) (by omega)]
  · exact Nat.le_trans hge (Nat.le_trans hb.size (Nat.le_trans hg1.size hg2.size))

set_option maxRecDepth 100000 in
set_option maxHeartbeats 1000000 in
theorem impl_unframe (s : ByteArray) (w : World) (hs : s.size ≤ 1048576) (ht : TabC w) :
    Calls Tryd.prog 83 #[.string s] w fun e w' => ∃ v, e = .returned (.tuple #[v, .int .i64 (fP s (nF s) : Nat)]) ∧ GrowsS w' w.heap.size v (fL s (nF s)) ∧ Below w.heap.size w w' := by
  refine (callsIn_wide (n := 4)).1 ?_
  refine callsIn_of_wp_marks Tryd.func83 rfl trivial ?_ rfl
  simp only [Tryd.ntmps83, List.size_toArray, List.length_cons, List.length_nil, Nat.reduceAdd, Nat.reduceSub, Array.replicate_succ, Array.replicate_zero, List.push_toArray, List.append_toArray, List.nil_append, List.cons_append]
  gi_wp2_with (refine ⟨trivial, ?_⟩; gi_at_call 48; refine (frames_c _ s _).mono ?_; rintro e w' ⟨rfl, rfl⟩)
  have b4 := ((Boxed.new w 28 (.slice none 0 0)).alloc (.cells #[.int .i64 0] 3)).alloc (.cells #[.string s] 9)
  have b5 := (Boxed.new (w.alloc (.cells #[.slice none 0 0] 28)) 3 (.int .i64 0)).alloc (.cells #[.string s] 9)
  have bS := Boxed.new ((w.alloc (.cells #[.slice none 0 0] 28)).alloc (.cells #[.int .i64 0] 3)) 9 (.string s)
  rw [World.size_alloc] at b5
  rw [World.size_alloc, World.size_alloc] at bS
  have hB0 : Below w.heap.size w (((w.alloc (.cells #[.slice none 0 0] 28)).alloc (.cells #[.int .i64 0] 3)).alloc (.cells #[.string s] 9)) := (((Below.refl _ w).alloc (Nat.le_refl _) _).alloc (by simp) _).alloc (by simp; omega) _
  have hsz : (((w.alloc (.cells #[.slice none 0 0] 28)).alloc (.cells #[.int .i64 0] 3)).alloc (.cells #[.string s] 9)).heap.size = w.heap.size + 3 := by simp
  generalize hW0 : ((w.alloc (.cells #[.slice none 0 0] 28)).alloc (.cells #[.int .i64 0] 3)).alloc (.cells #[.string s] 9) = W0 at *
  clear hW0
  have hnF : 5 * nF s ≤ s.size := by have := fS_size s (nF s) (Nat.le_refl _); omega
  obtain ⟨i0, hi, hz0, hz1, hz2⟩ := info_parts Tryd.info9
  refine wpIn_rangeFunc_ownG rfl (by decide) (gf := 81) (lb := #[.pointer (some ⟨w.heap.size + 1 + 1, 0, none⟩)]) rfl trivial (enters_of Tryd.func81 (by kernel_rfl) rfl)
    (frames_stops _ (by decide) (w.heap.size + 1 + 1) w.heap.size s hs W0 (by omega) bS.cell (ht.later hB0 (Nat.le_refl _)) ht.lt) (fun h k => ⟨h.1.trans k.1, k.2.trans h.2⟩)
    (fun W l o o' hl h hc hw => ⟨belowK_b (w := W0) (by omega) W l o o' hl h hc hw, World.putObj_heap_other (by omega)⟩) (Below.refl _ _) (fun _ => rfl)
    (fun (pre : List (ByteArray × Int)) W => (∃ v, Boxed W w.heap.size 28 v ∧ W.ownsRow (w.heap.size + 3) 9 1 v (pre.map Prod.fst).length (strV (pre.map Prod.fst)) ∧ True) ∧ ((Boxed W (w.heap.size + 1) 3 (.int .i64 (lastE pre)) ∧ Below w.heap.size w W) ∧ w.heap.size + 3 ≤ W.heap.size))
    (fun _ _ _ => False)
    (OwnFrom.and (Own.from (holdsRow_own (w.heap.size + 3) w.heap.size 28 9 1 (fun pre : List (ByteArray × Int) => (pre.map Prod.fst).length) (fun pre => strV (pre.map Prod.fst)) (fun _ _ => True)) _)
      (OwnFrom.and (OwnFrom.and (fun s A B row hs hg hr => hs.kept hg (fun e => by have := (hr _ e.symm).1; omega)) (ownFrom_below (Nat.le_refl _) (by omega))) (fun _ _ _ _ hs hg _ => Nat.le_trans hs hg.size)))
    (fun _ _ _ _ _ hs _ _ => hs)
    ⟨⟨_, b4, World.ownsRow_nil _ _ _ _, trivial⟩, ⟨b5, hB0⟩, by omega⟩
    (fun x => { tmps := #[.string s, undef, .slice none 0 0, .int .i64 0, .pointer (some ⟨w.heap.size, 0, none⟩), .pointer (some ⟨w.heap.size + 1, 0, none⟩), .string x.1, .int .i64 x.2, .string s, .func (.func 81) #[] #[.pointer (some ⟨w.heap.size + 1 + 1, 0, none⟩)], .string x.1, .int .i64 x.2, undef, undef, undef, undef, undef, undef, undef], defers := [] }) ?assign ?body ?done ?stop
  case assign =>
    intro l x W K hK
    gi_wp2
    exact hK
  case body =>
    rintro l pre x W ⟨⟨v, hv, hrow, _⟩, ⟨h5, hB⟩, hge⟩ hlt
    have hc := hv.cell
    have hpl : (pre.map Prod.fst).length = pre.length := List.length_map ..
    have hlen : (pre.map Prod.fst).length + 1 ≤ 1048576 := by omega
    gi_wp2_with (gi_at_builtin; refine wpListIn_append_own _ rfl _ _ 28 rfl (w.heap.size + 3) 9 i0 (.string ByteArray.empty) 1 16 Tryd.underlying28 hi hz0 hz1 hz2 rfl (by decide) _ _ _ rfl (hrow.alloc _) ⟨W.heap.size, 0, none⟩ 1 1 [.string x.1] rfl rfl (cell_one_new _ _ _) (by simp [Value.oneCell']) (by unfold maxLen; omega) (by omega) (by simp; omega) ?_; intro v' w1 hown' hgrow _; obtain ⟨g', cap', rfl⟩ := ownsRow_succ hown'; obtain ⟨k1, k2, k3, k4, k5, k6, k7, k8, k9⟩ := unf_step (.int .i64 x.2) hv h5 hrow hge hown' hgrow; have q1 := k1.cell; have q2 := k1.frozen; have q3 := k2.cell; have q4 := k2.frozen; simp only [hpl] at q1 q2 q3 q4)
    simp only [hpl] at k3 k4 k5 k6 k7 k8 k9
    exact ⟨k6.from _, ⟨k7, k8⟩, ⟨_, k3, by simpa [strV] using k5, trivial⟩, ⟨by rw [lastE_snoc]; exact k4, hB.trans k7⟩, k9⟩
  case done =>
    rintro D ys W hD rfl ⟨⟨v, hv, hrow, _⟩, ⟨h5, hB⟩, hge⟩ hK
    have hc := hv.cell
    have hc5 := h5.cell
    gi_wp2
    refine wpIn_wide.2 ?_
    go_quiet (fail)
    have hK' : (W.drewN nq).heap[D]? = some (.deferred (some [])) := hK
    have hrow' : (W.drewN nq).ownsRow (w.heap.size + 3) 9 1 v ((fX s (nF s)).map Prod.fst).length (strV ((fX s (nF s)).map Prod.fst)) := hrow
    gi_wp2
    refine ⟨by simp, .inl ⟨_, _, rfl, run_takeDeferred hK', ?_⟩⟩
    refine ⟨_, results_tmp2 rfl _ _ _, v, ?_, ?_, ?_⟩
    · rw [← lastE_fX]; rfl
    · have h := ownsRow_putObj hrow' (.deferred none) hK' rfl
      rw [fX_fst] at h
      exact GrowsS.mono h (by omega)
    · exact (dn hB nq).trans (belowK_b (w := w) (Nat.le_refl _) (W.drewN nq) D _ _ (by omega) hK' rfl rfl)
  case stop =>
    rintro D c pre W _ _ h _
    exact h.elim
end Go.Proofs.YtemhhjkmolndbaaDoor
