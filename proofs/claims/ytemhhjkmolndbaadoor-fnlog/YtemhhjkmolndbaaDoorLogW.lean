/- What is read of a log behind a mark, an addition and a cut, in plain words. -/
import Derived.Test.YtemhhjkmolndbaaDoorRdL
import Derived.Test.YtemhhjkmolndbaaDoorAddM
namespace Go.Proofs.YtemhhjkmolndbaaDoor
open Go.RowKit Go.PlainAid
set_option linter.unusedVariables false

/-- All records of the first k segments. -/
def allR (l : List Sg) : Nat → List ByteArray
  | 0 => []
  | k + 1 => allR l k ++ fL (sT l k) (nF (sT l k))
theorem allR_succ (l : List Sg) (k : Nat) : allR l (k + 1) = allR l k ++ fL (sT l k) (nF (sT l k)) := rfl
theorem allR_len (l : List Sg) (k : Nat) : ((allR l k).length : Int) = atN l k - sF l 0 := by
  induction k with
  | zero => show ((0 : Nat) : Int) = sF l 0 - sF l 0; omega
  | succ k ih => rw [allR_succ, List.length_append, fL_length, atN_succ]; omega
theorem allR_congr {l l2 : List Sg} (k : Nat) (h : ∀ j, j < k → sT l2 j = sT l j) : allR l2 k = allR l k := by
  induction k with
  | zero => rfl
  | succ k ih => rw [allR_succ, allR_succ, ih (fun j hj => h j (by omega)), h k (by omega)]
theorem allR_drop (l : List Sg) (d k : Nat) : allR l (d + k) = allR l d ++ allR (l.drop d) k := by
  induction k with
  | zero => show allR l d = allR l d ++ []; rw [List.append_nil]
  | succ k ih => rw [← Nat.add_assoc, allR_succ, ih, allR_succ, sT_drop, List.append_assoc]
theorem atN_drop (l : List Sg) (d k : Nat) (h : sF l d = atN l d) : atN (l.drop d) k = atN l (d + k) := by
  induction k with
  | zero => show sF (l.drop d) 0 = _; rw [sF_drop, Nat.add_zero]; exact h
  | succ k ih => rw [atN_succ, ih, ← Nat.add_assoc, atN_succ, sT_drop]
theorem rdA_all (l : List Sg) (m : Int) (k : Nat) : rdA l m k = (allR l k).drop (rdD m (sF l 0)) := by
  induction k with
  | zero => show [] = List.drop _ []; rw [List.drop_nil]
  | succ k ih =>
    have hl := allR_len l k
    rw [rdA_succ, allR_succ, List.drop_append, ih]
    congr 2
    have := atN_mono l 0 k (by omega)
    have e0 : atN l 0 = sF l 0 := rfl
    unfold rdD
    omega
/-- What is read of it hangs on what it holds from its first number on. -/
theorem rdR_all (l : List Sg) (n m : Int) (h : okB l n m = true) : rdR l n m = (allR l l.length).drop (rdD m (sF l 0)) := by
  rw [rdR_ok l n m h, rdA_all]
/-- A valid log none of whose unmarked records was dropped. -/
structure Inv (l : List Sg) (n m : Int) : Prop where
  ok : okB l n m = true
  fst : sF l 0 ≤ m + 1
theorem Inv.len {l : List Sg} {n m : Int} (h : Inv l n m) : ((rdR l n m).length : Int) = n - 1 - m := by
  have a := allR_len l l.length
  have b : n = atN l l.length := ((okB_iff l n m).1 h.ok).2.2.2.2.2.2.1
  have c := okB_n h.ok
  have d := h.fst
  rw [rdR_all l n m h.ok, List.length_drop]
  unfold rdD
  omega
/-- Segments that are wholly marked do not count. -/
theorem trim_read (L : List Sg) (m : Int) (d : Nat) (hd : d ≤ L.length) (hF : sF L d = atN L d) (h0 : sF L 0 ≤ m + 1) (h1 : sF L d ≤ m + 1) :
    (allR (L.drop d) (L.drop d).length).drop (rdD m (sF (L.drop d) 0)) = (allR L L.length).drop (rdD m (sF L 0)) := by
  have e : L.length = d + (L.drop d).length := by rw [List.length_drop]; omega
  have hl := allR_len L d
  have hle := atN_mono L 0 d (by omega)
  have e0 : atN L 0 = sF L 0 := rfl
  conv => rhs; rw [e, allR_drop, List.drop_append]
  rw [List.drop_of_length_le (show (allR L d).length ≤ rdD m (sF L 0) by unfold rdD; omega), List.nil_append, sF_drop, Nat.add_zero]
  congr 1
  unfold rdD
  omega
theorem rdD_add (m k s : Int) (h1 : m ≤ k) (h0 : s ≤ m + 1) : rdD k s = rdD m s + (k - m).toNat := by unfold rdD; omega

/-! ### a mark -/
theorem mark_inv {l : List Sg} {n m k : Int} (h : Inv l n m) (h1 : m ≤ k) (h2 : k ≤ n - 1) : Inv (l.drop (dN l k)) n k ∧ rdR (l.drop (dN l k)) n k = (rdR l n m).drop (k - m).toNat := by
  obtain ⟨o1, o2, o3, o4, o5, o6, o7, o8⟩ := (okB_iff l n m).1 h.ok
  have hd := dN_lt l k (by omega)
  obtain ⟨c1, c2⟩ := dN_ok l k
  obtain ⟨d, hdd⟩ : ∃ d, dN l k = d := ⟨_, rfl⟩
  rw [hdd] at hd c1 c2 ⊢
  have hFd := (okB_F h.ok d hd).1
  have hFk : sF l d ≤ k + 1 := by
    cases d with
    | zero => have := h.fst; omega
    | succ d => have := (c1 d (by omega)).2; omega
  have hlen : (l.drop d).length = l.length - d := List.length_drop ..
  have hok : okB (l.drop d) n k = true := by
    refine (okB_iff _ _ _).2 ⟨by omega, by omega, by rw [sF_drop, Nat.add_zero]; exact (okB_F h.ok d hd).2.1, o4, by omega, h2, ?_, fun j hj => ?_⟩
    · rw [atN_drop l d _ hFd, hlen, show d + (l.length - d) = l.length by omega]; exact o7
    · rw [hlen] at hj
      obtain ⟨a, b, c, e⟩ := (gB_iff l m (d + j)).1 (o8 (d + j) (by omega))
      refine (gB_iff _ _ _).2 ⟨by rw [sF_drop, atN_drop l d j hFd]; exact a, by rw [sT_drop]; exact b, by rw [sT_drop]; exact c, ?_⟩
      rw [hlen, sT_drop, atN_drop l d j hFd]
      by_cases hl : j + 1 = l.length - d
      · exact .inl hl
      · right
        rcases e with e | e
        · omega
        · refine ⟨e.1, ?_⟩
          have hn : ¬ (d + 1 < l.length ∧ sF l (d + 1) - 1 ≤ k) := c2
          have hF1 := (okB_F h.ok (d + 1) (by omega)).1
          have hm := atN_mono l (d + 1) (d + j + 1) (by omega)
          have hs : atN l (d + j + 1) = atN l (d + j) + nF (sT l (d + j)) := atN_succ l (d + j)
          omega
  refine ⟨⟨hok, by rw [sF_drop, Nat.add_zero]; exact hFk⟩, ?_⟩
  have h0 := h.fst
  rw [rdR_all _ n k hok, rdR_all l n m h.ok, trim_read l k d (by omega) hFd (by omega) hFk, List.drop_drop, rdD_add m k _ h1 h0, Nat.add_comm]

/-! ### one record more -/
theorem add_inv {l : List Sg} {n m : Int} {s : ByteArray} (h : Inv l n m) (hs : s.size ≤ 200) (hk : (addR l n m s).ok = true) : Inv (addR l n m s).sg (addR l n m s).nx (addR l n m s).mt ∧ rdR (addR l n m s).sg (addR l n m s).nx (addR l n m s).mt = rdR l n m ++ [s] ∧ (addR l n m s).nx = n + 1 ∧ (addR l n m s).mt = m := by
  obtain ⟨o1, o2, o3, o4, o5, o6, o7, o8⟩ := (okB_iff l n m).1 h.ok
  obtain ⟨e, he⟩ : ∃ e, l.length = e + 1 := ⟨l.length - 1, by omega⟩
  have hlA := allR_len l l.length
  have h0 := h.fst
  have hdA : rdD m (sF l 0) ≤ (allR l l.length).length := by unfold rdD; omega
  by_cases h2 : 200 < s.size ∨ n = 1000
  · rw [addR_rej l n m s h.ok h2] at hk; cases hk
  · have hn : n < 1000 := by omega
    obtain ⟨q1, q2, q3, q4⟩ := okB_last h.ok e he
    by_cases hc : (sT l e).size = 0 ∨ (sT l e).size + (frameS s).size ≤ 60
    · rw [addR_in l n m s e h.ok he h2 hc]
      obtain ⟨a1, a2⟩ := add_in h.ok he hn hs hc
      have hel : e < l.length := by omega
      have hF0 : sF (l.set e ⟨sF l e, sT l e ++ frameS s⟩) 0 = sF l 0 := by
        rw [sF_set _ _ _ _ hel]; split
        · next ee => rw [← ee]
        · rfl
      obtain ⟨_, w2, w3⟩ := whl_snoc (sT l e) s q2 hs
      have hA : allR (l.set e ⟨sF l e, sT l e ++ frameS s⟩) (l.set e ⟨sF l e, sT l e ++ frameS s⟩).length = allR l l.length ++ [s] := by
        have hcg : allR (l.set e ⟨sF l e, sT l e ++ frameS s⟩) e = allR l e := allR_congr e (fun j hj => by rw [sT_set _ _ _ _ hel, if_neg (by omega)])
        rw [List.length_set, he, allR_succ, allR_succ, hcg, sT_set _ _ _ _ hel, if_pos rfl]
        show _ ++ fL (sT l e ++ frameS s) (nF (sT l e ++ frameS s)) = _
        rw [w2, w3, List.append_assoc]
      refine ⟨⟨a1, by show sF _ 0 ≤ m + 1; rw [hF0]; exact h0⟩, ?_, rfl, rfl⟩
      show rdR (l.set e ⟨sF l e, sT l e ++ frameS s⟩) (n + 1) m = _
      rw [rdR_all _ _ _ a1, rdR_all l n m h.ok, hA, hF0, drop_snoc_in _ _ _ hdA]
    · by_cases h6 : ((l ++ [Sg.mk n (frameS s)]).drop (dN (l ++ [Sg.mk n (frameS s)]) m)).length ≤ 6
      · rw [addR_new l n m s e h.ok he h2 hc h6]
        have an := add_new h.ok he hn hs (fun hz => hc (.inl hz))
        rw [decide_eq_true h6] at an
        have hlen : (l ++ [Sg.mk n (frameS s)]).length = e + 2 := by rw [List.length_append, he]; rfl
        have hT : ∀ j, j ≤ e → sT (l ++ [Sg.mk n (frameS s)]) j = sT l j := fun j hj => sT_left _ _ j (by omega)
        have hFl : ∀ j, j ≤ e → sF (l ++ [Sg.mk n (frameS s)]) j = sF l j := fun j hj => sF_left _ _ j (by omega)
        have hTn : sT (l ++ [Sg.mk n (frameS s)]) (e + 1) = frameS s := by rw [← he]; exact sT_snoc l _
        have hFn : sF (l ++ [Sg.mk n (frameS s)]) (e + 1) = n := by rw [← he]; exact sF_snoc l _
        obtain ⟨_, f2, f3⟩ := frame_whl s hs
        have hA : allR (l ++ [Sg.mk n (frameS s)]) (l ++ [Sg.mk n (frameS s)]).length = allR l l.length ++ [s] := by
          rw [hlen, he, allR_succ, allR_congr (e + 1) (fun j hj => hT j (by omega)), hTn, f2, f3]
        have hAt : ∀ j, j ≤ e + 1 → atN (l ++ [Sg.mk n (frameS s)]) j = atN l j := fun j hj => atN_congr j (hFl 0 (by omega)) (fun i hi => hT i (by omega))
        obtain ⟨c1, c2⟩ := dN_ok (l ++ [Sg.mk n (frameS s)]) m
        have hdl := dN_lt (l ++ [Sg.mk n (frameS s)]) m (by omega)
        obtain ⟨d, hdd⟩ : ∃ d, dN (l ++ [Sg.mk n (frameS s)]) m = d := ⟨_, rfl⟩
        rw [hdd] at an c1 c2 hdl ⊢
        rw [hlen] at hdl
        have hFd : sF (l ++ [Sg.mk n (frameS s)]) d = atN (l ++ [Sg.mk n (frameS s)]) d := by
          by_cases hde : d ≤ e
          · rw [hFl d hde, hAt d (by omega)]; exact (okB_F h.ok d (by omega)).1
          · have : d = e + 1 := by omega
            rw [this, hFn, hAt _ (Nat.le_refl _), ← he]; exact o7
        have hF0 : sF (l ++ [Sg.mk n (frameS s)]) 0 = sF l 0 := hFl 0 (by omega)
        have hFm : sF (l ++ [Sg.mk n (frameS s)]) d ≤ m + 1 := by
          cases d with
          | zero => rw [hF0]; exact h0
          | succ d => have := (c1 d (by omega)).2; omega
        refine ⟨⟨an, by show sF _ 0 ≤ m + 1; rw [sF_drop, Nat.add_zero]; exact hFm⟩, ?_, rfl, rfl⟩
        show rdR ((l ++ [Sg.mk n (frameS s)]).drop d) (n + 1) m = _
        rw [rdR_all _ _ _ an, rdR_all l n m h.ok, trim_read _ m d (by omega) hFd (by rw [hF0]; exact h0) hFm, hA, hF0, drop_snoc_in _ _ _ hdA]
      · rw [addR_full l n m s e h.ok he h2 hc h6] at hk; cases hk
theorem add_same {l : List Sg} {n m : Int} {s : ByteArray} (h : okB l n m = true) (hk : (addR l n m s).ok = false) : addR l n m s = ⟨l, n, m, false⟩ := by
  obtain ⟨e, he⟩ : ∃ e, l.length = e + 1 := ⟨l.length - 1, by have := okB_len h; omega⟩
  by_cases h2 : 200 < s.size ∨ n = 1000
  · exact addR_rej l n m s h h2
  · by_cases hc : (sT l e).size = 0 ∨ (sT l e).size + (frameS s).size ≤ 60
    · rw [addR_in l n m s e h he h2 hc] at hk; cases hk
    · by_cases h6 : ((l ++ [Sg.mk n (frameS s)]).drop (dN (l ++ [Sg.mk n (frameS s)]) m)).length ≤ 6
      · rw [addR_new l n m s e h he h2 hc h6] at hk; cases hk
      · exact addR_full l n m s e h he h2 hc h6

/-! ### a cut -/
theorem fL_pre (t : ByteArray) (j : Nat) (hj : j ≤ t.size) : nF (t.extract 0 j) ≤ nF t ∧ fL (t.extract 0 j) (nF (t.extract 0 j)) <+: fL t (nF t) := by
  have e : t.extract 0 j ++ t.extract j t.size = t := by rw [ext_join t 0 j t.size (by omega) hj, ext_all]
  obtain ⟨_, a, b⟩ := fr_prefix (t.extract 0 j) (t.extract j t.size) _ (Nat.le_refl _)
  rw [e] at a b
  refine ⟨a, ?_⟩
  rw [← b]
  obtain ⟨d, hd⟩ := Nat.exists_eq_add_of_le a
  rw [hd]
  unfold fL
  rw [List.range_add, List.map_append]
  exact List.prefix_append _ _
theorem cut_inv {l : List Sg} {n m k : Int} (h : Inv l n m) : Inv (cutR l n m k).sg (cutR l n m k).nx (cutR l n m k).mt ∧ rdR (cutR l n m k).sg (cutR l n m k).nx (cutR l n m k).mt <+: rdR l n m ∧ (cutR l n m k).ok = true := by
  obtain ⟨o1, o2, o3, o4, o5, o6, o7, o8⟩ := (okB_iff l n m).1 h.ok
  obtain ⟨e, he⟩ : ∃ e, l.length = e + 1 := ⟨l.length - 1, by omega⟩
  obtain ⟨q1, q2, q3, q4⟩ := okB_last h.ok e he
  obtain ⟨x, hx⟩ : ∃ x, cutX (sT l e) (kC k (sT l e).size) = x := ⟨_, rfl⟩
  rw [cutR_ok l n m k e _ x _ h.ok he rfl rfl hx]
  obtain ⟨c1, c2, c3, c4⟩ := cutX_facts (sT l e) (kC k (sT l e).size) (kC_le _ _)
  obtain ⟨p1, p2⟩ := fL_pre (sT l e) (kC k (sT l e).size) (kC_le _ _)
  have hkc := kC_le k (sT l e).size
  rw [hx] at c1 c2 c3 c4
  rw [← c3] at p2
  rw [← c2] at p1
  have hel : e < l.length := by omega
  have hF : ∀ j, sF (l.set e ⟨sF l e, x⟩) j = sF l j := fun j => by
    rw [sF_set _ _ _ _ hel]; split
    · next ee => rw [ee]
    · rfl
  have hT : ∀ j, j < e → sT (l.set e ⟨sF l e, x⟩) j = sT l j := fun j hj => by rw [sT_set _ _ _ _ hel, if_neg (by omega)]
  have hTe : sT (l.set e ⟨sF l e, x⟩) e = x := by rw [sT_set _ _ _ _ hel, if_pos rfl]
  have hA : ∀ j, j ≤ e → atN (l.set e ⟨sF l e, x⟩) j = atN l j := fun j hj => atN_congr j (hF 0) (fun i hi => hT i (by omega))
  have hAe : atN l e = sF l e := (okB_F h.ok e hel).1.symm
  have hlen : (l.set e ⟨sF l e, x⟩).length = e + 1 := by rw [List.length_set]; exact he
  have hmin1 := Int.min_le_left m (sF l e + (nF x : Int) - 1)
  have hmin2 := Int.min_le_right m (sF l e + (nF x : Int) - 1)
  have hmin0 : 0 ≤ min m (sF l e + (nF x : Int) - 1) := by omega
  have hok : okB (l.set e ⟨sF l e, x⟩) (sF l e + nF x) (min m (sF l e + nF x - 1)) = true := by
    refine (okB_iff _ _ _).2 ⟨by omega, by omega, by rw [hF]; exact o3, by omega, hmin0, by omega, ?_, fun j hj => ?_⟩
    · rw [hlen, atN_succ, hA e (Nat.le_refl _), hTe, hAe]
    · rw [hlen] at hj
      by_cases hje : j = e
      · subst hje
        refine (gB_iff _ _ _).2 ⟨by rw [hF, hA j (Nat.le_refl _), hAe], by rw [hTe]; exact c1, ?_, .inl hlen.symm⟩
        rw [hTe]
        rcases q3 with q3 | q3
        · left; omega
        · by_cases hz : nF x = 0
          · left; have := whl_zero c1 hz; omega
          · right; omega
      · obtain ⟨a, b, c, d⟩ := (gB_iff l m j).1 (o8 j (by omega))
        refine (gB_iff _ _ _).2 ⟨by rw [hF, hA j (by omega)]; exact a, by rw [hT j (by omega)]; exact b, by rw [hT j (by omega)]; exact c, ?_⟩
        rw [hT j (by omega), hA j (by omega), hlen]
        rcases d with d | d
        · omega
        · exact .inr ⟨d.1, by omega⟩
  have hmono := atN_mono l 0 e (by omega)
  have e00 : atN l 0 = sF l 0 := rfl
  have hfst := h.fst
  refine ⟨⟨hok, by show sF (l.set e ⟨sF l e, x⟩) 0 ≤ min m (sF l e + (nF x : Int) - 1) + 1; rw [hF]; omega⟩, ?_, rfl⟩
  show rdR (l.set e ⟨sF l e, x⟩) (sF l e + nF x) (min m (sF l e + nF x - 1)) <+: _
  have hlY := allR_len (l.set e ⟨sF l e, x⟩) (e + 1)
  have hpre : allR (l.set e ⟨sF l e, x⟩) (e + 1) <+: allR l (e + 1) := by
    rw [allR_succ, allR_succ, allR_congr e hT, hTe]
    exact (List.prefix_append_right_inj _).2 p2
  rw [rdR_all _ _ _ hok, rdR_all l n m h.ok, hlen, he, hF]
  have hatY : atN (l.set e ⟨sF l e, x⟩) (e + 1) = sF l e + nF x := by rw [atN_succ, hA e (Nat.le_refl _), hTe, hAe]
  rw [hatY, hF] at hlY
  by_cases hm : m ≤ sF l e + nF x - 1
  · rw [Int.min_eq_left hm]
    obtain ⟨t, ht⟩ := hpre
    rw [← ht, List.drop_append]
    exact List.prefix_append _ _
  · rw [Int.min_eq_right (by omega), List.drop_of_length_le (by unfold rdD; omega)]
    exact List.nil_prefix
/-! ### whatever becomes of it -/
theorem mark_keep {l : List Sg} {n m : Int} (k : Int) (h : Inv l n m) : Inv (markR l n m k).sg (markR l n m k).nx (markR l n m k).mt := by
  by_cases h2 : m ≤ k ∧ k ≤ n - 1
  · rw [markR_in l n m k h.ok h2]; exact (mark_inv h h2.1 h2.2).1
  · rw [markR_out l n m k h.ok h2]; exact h
theorem add_keep {l : List Sg} {n m : Int} (s : ByteArray) (h : Inv l n m) (hs : s.size ≤ 200) : Inv (addR l n m s).sg (addR l n m s).nx (addR l n m s).mt := by
  cases hk : (addR l n m s).ok with
  | true => exact (add_inv h hs hk).1
  | false => rw [add_same h.ok hk]; exact h
theorem Inv.small {l : List Sg} {n m : Int} (h : Inv l n m) (j : Nat) (hj : j < l.length) : (sT l j).size ≤ 211 := by
  obtain ⟨_, b, c, _⟩ := (gB_iff l m j).1 (((okB_iff l n m).1 h.ok).2.2.2.2.2.2.2 j hj)
  rcases c with c | c
  · omega
  · have e := (whl_eq _).1 b
    rw [c, fP_succ _ 0 (by omega), fP_zero] at e
    have := frameS_le (frC (fS (sT l j) 0))
    omega
end Go.Proofs.YtemhhjkmolndbaaDoor
