/- What LogAdd answers, in plain words; why its log stays valid. -/
import Derived.Test.YtemhhjkmolndbaaDoorLogF
namespace Go.Proofs.YtemhhjkmolndbaaDoor
open Go.RowKit Go.PlainAid
set_option linter.unusedVariables false

theorem frameS_pos (s : ByteArray) (h : s.size ≤ 200) : 5 ≤ (frameS s).size := by
  rw [frameS_size s h]
  have := showT_pos s
  omega
theorem frame_whl (s : ByteArray) (h : s.size ≤ 200) : whl (frameS s) = true ∧ nF (frameS s) = 1 ∧ fL (frameS s) 1 = [s] := by
  have := whl_snoc ⟨#[]⟩ s whl_empty h
  rw [empty_append, nF_empty] at this
  simpa [fL] using this
/-- In a valid log nothing is covered. -/
theorem ok_first {l : List Sg} {n m : Int} (h : okB l n m = true) (h2 : 1 < l.length) : m < sF l 1 - 1 := by
  obtain ⟨_, _, _, _, _, _, _, h3⟩ := (okB_iff l n m).1 h
  obtain ⟨_, _, _, d⟩ := (gB_iff l m 0).1 (h3 0 (by omega))
  have e := (okB_F h 1 h2).1
  rw [atN_succ] at e
  rcases d with d | d
  · omega
  · omega
theorem atN_congr {l l2 : List Sg} (k : Nat) (h0 : sF l2 0 = sF l 0) (h : ∀ j, j < k → sT l2 j = sT l j) : atN l2 k = atN l k := by
  induction k with
  | zero => exact h0
  | succ k ih => rw [atN_succ, atN_succ, ih (fun j hj => h j (by omega)), h k (by omega)]
/-- The frame goes behind the last text. -/
theorem add_in {l : List Sg} {n m : Int} {s : ByteArray} {e : Nat} (h : okB l n m = true) (he : l.length = e + 1) (hn : n < 1000) (hs : s.size ≤ 200) (hc : (sT l e).size = 0 ∨ (sT l e).size + (frameS s).size ≤ 60) :
    okB (l.set e ⟨sF l e, sT l e ++ frameS s⟩) (n + 1) m = true ∧ dN (l.set e ⟨sF l e, sT l e ++ frameS s⟩) m = 0 := by
  obtain ⟨h1, h2, h3, h4, h5, h6, h7, h8⟩ := (okB_iff l n m).1 h
  obtain ⟨q1, q2, q3, q4⟩ := okB_last h e he
  obtain ⟨w1, w2, _⟩ := whl_snoc (sT l e) s q2 hs
  have hel : e < l.length := by omega
  have hF : ∀ j, sF (l.set e ⟨sF l e, sT l e ++ frameS s⟩) j = sF l j := fun j => by
    rw [sF_set _ _ _ _ hel]
    split
    · next e' => subst e'; rfl
    · rfl
  have hT : ∀ j, j < e → sT (l.set e ⟨sF l e, sT l e ++ frameS s⟩) j = sT l j := fun j hj => by rw [sT_set _ _ _ _ hel, if_neg (by omega)]
  have hTe : sT (l.set e ⟨sF l e, sT l e ++ frameS s⟩) e = sT l e ++ frameS s := by rw [sT_set _ _ _ _ hel, if_pos rfl]
  have hA : ∀ k, k ≤ e → atN (l.set e ⟨sF l e, sT l e ++ frameS s⟩) k = atN l k := fun k hk => atN_congr k (hF 0) (fun j hj => hT j (by omega))
  have hAe : atN l e = sF l e := (okB_F h e hel).1.symm
  have hlen : (l.set e ⟨sF l e, sT l e ++ frameS s⟩).length = e + 1 := by rw [List.length_set]; exact he
  constructor
  · refine (okB_iff _ _ _).2 ⟨by omega, by omega, by rw [hF]; exact h3, by omega, h5, by omega, ?_, fun k hk => ?_⟩
    · rw [hlen, atN_succ, hA e (Nat.le_refl _), hTe, w2, hAe]
      omega
    · rw [hlen] at hk
      by_cases hke : k = e
      · subst hke
        refine (gB_iff _ _ _).2 ⟨by rw [hF, hA k (Nat.le_refl _), hAe], by rw [hTe]; exact w1, ?_, .inl hlen.symm⟩
        rw [hTe, w2, ByteArray.size_append]
        rcases hc with hc | hc
        · right
          have : nF (sT l k) = 0 := by rw [empty_of_size hc]; exact nF_empty
          omega
        · left; omega
      · obtain ⟨a, b, c, d⟩ := (gB_iff l m k).1 (h8 k (by omega))
        refine (gB_iff _ _ _).2 ⟨by rw [hF, hA k (by omega)]; exact a, by rw [hT k (by omega)]; exact b, by rw [hT k (by omega)]; exact c, ?_⟩
        rw [hT k (by omega), hA k (by omega), hlen]
        rcases d with d | d
        · omega
        · exact .inr d
  · refine (dN_eq _ _ 0 (fun j hj => by omega) (fun hcov => ?_)).symm
    obtain ⟨a, b⟩ := hcov
    rw [hlen] at a
    rw [hF, Nat.zero_add] at b
    have := ok_first h (by omega)
    omega
/-- The frame goes into a new segment. -/
theorem add_new {l : List Sg} {n m : Int} {s : ByteArray} {e : Nat} (h : okB l n m = true) (he : l.length = e + 1) (hn : n < 1000) (hs : s.size ≤ 200) (hc : (sT l e).size ≠ 0) :
    okB ((l ++ [Sg.mk n (frameS s)]).drop (dN (l ++ [Sg.mk n (frameS s)]) m)) (n + 1) m = decide (((l ++ [Sg.mk n (frameS s)]).drop (dN (l ++ [Sg.mk n (frameS s)]) m)).length ≤ 6) := by
  obtain ⟨h1, h2, h3, h4, h5, h6, h7, h8⟩ := (okB_iff l n m).1 h
  obtain ⟨q1, q2, q3, q4⟩ := okB_last h e he
  obtain ⟨w1, w2, _⟩ := frame_whl s hs
  have hel : e < l.length := by omega
  have hlen : (l ++ [Sg.mk n (frameS s)]).length = e + 2 := by rw [List.length_append, he]; rfl
  have hF : ∀ j, j ≤ e → sF (l ++ [Sg.mk n (frameS s)]) j = sF l j := fun j hj => sF_left _ _ j (by omega)
  have hT : ∀ j, j ≤ e → sT (l ++ [Sg.mk n (frameS s)]) j = sT l j := fun j hj => sT_left _ _ j (by omega)
  have hFn : sF (l ++ [Sg.mk n (frameS s)]) (e + 1) = n := by rw [← he]; exact sF_snoc l _
  have hTn : sT (l ++ [Sg.mk n (frameS s)]) (e + 1) = frameS s := by rw [← he]; exact sT_snoc l _
  have hA : ∀ k, k ≤ e + 1 → atN (l ++ [Sg.mk n (frameS s)]) k = atN l k := fun k hk => atN_congr k (hF 0 (by omega)) (fun j hj => hT j (by omega))
  have hnA : atN l (e + 1) = n := by rw [← he]; exact h7.symm
  have hpos := whl_pos q2 hc
  by_cases hcase : e = 0 ∧ m = n - 1
  · obtain ⟨rfl, rfl⟩ := hcase
    have hd : dN (l ++ [Sg.mk n (frameS s)]) (n - 1) = 1 := by
      refine (dN_eq _ _ 1 (fun j hj => ?_) (fun hcov => by have := hcov.1; omega)).symm
      obtain rfl : j = 0 := by omega
      exact ⟨by omega, by rw [hFn]; omega⟩
    have hy : (l ++ [Sg.mk n (frameS s)]).drop 1 = [Sg.mk n (frameS s)] := List.drop_left' (by omega)
    rw [hd, hy]
    have hF0 : sF [Sg.mk n (frameS s)] 0 = n := sF_of (x := Sg.mk n (frameS s)) rfl
    have hT0 : sT [Sg.mk n (frameS s)] 0 = frameS s := sT_of (x := Sg.mk n (frameS s)) rfl
    rw [decide_eq_true (by simp)]
    refine (okB_iff _ _ _).2 ⟨by simp, by simp, by rw [hF0]; omega, by omega, h5, by omega, ?_, fun k hk => ?_⟩
    · show n + 1 = sF _ 0 + ((nF (sT _ 0) : Nat) : Int)
      rw [hF0, hT0, w2]
      rfl
    · obtain rfl : k = 0 := by simpa using hk
      exact (gB_iff _ _ _).2 ⟨rfl, by rw [hT0]; exact w1, by rw [hT0]; exact .inr w2, .inl rfl⟩
  · have hm1 : m < n - 1 := by
      by_cases h0 : e = 0
      · omega
      · have a := ok_first h (by omega)
        have b := (okB_F h 1 (by omega)).2.2
        omega
    have hd : dN (l ++ [Sg.mk n (frameS s)]) m = 0 := by
      refine (dN_eq _ _ 0 (fun j hj => by omega) (fun hcov => ?_)).symm
      obtain ⟨a, b⟩ := hcov
      by_cases h0 : e = 0
      · subst h0
        rw [hFn] at b
        omega
      · rw [hF (0 + 1) (by omega)] at b
        have := ok_first h (by omega)
        rw [Nat.zero_add] at b
        omega
    rw [hd, List.drop_zero, hlen]
    by_cases h6' : e + 2 ≤ 6
    · rw [decide_eq_true h6']
      refine (okB_iff _ _ _).2 ⟨by omega, by omega, by rw [hF 0 (by omega)]; exact h3, by omega, h5, by omega, ?_, fun k hk => ?_⟩
      · rw [hlen, atN_succ, hA (e + 1) (Nat.le_refl _), hnA, hTn, w2]
        rfl
      · rw [hlen] at hk
        by_cases hk1 : k = e + 1
        · subst hk1
          exact (gB_iff _ _ _).2 ⟨by rw [hFn, hA _ (Nat.le_refl _), hnA], by rw [hTn]; exact w1, by rw [hTn]; exact .inr w2, .inl hlen.symm⟩
        · obtain ⟨a, b, c, d⟩ := (gB_iff l m k).1 (h8 k (by omega))
          refine (gB_iff _ _ _).2 ⟨by rw [hF k (by omega), hA k (by omega)]; exact a, by rw [hT k (by omega)]; exact b, by rw [hT k (by omega)]; exact c, .inr ?_⟩
          rw [hT k (by omega), hA k (by omega)]
          by_cases hke : k = e
          · subst hke
            refine ⟨hpos, ?_⟩
            have := (okB_F h k (by omega)).1
            omega
          · rcases d with d | d
            · omega
            · exact d
    · rw [decide_eq_false h6']
      exact okB_no _ _ _ fun h' => h6' (by have := h'.2.1; rw [hlen] at this; exact this)

/-! ### what LogAdd answers -/
@[irreducible] def addR (l : List Sg) (n m : Int) (s : ByteArray) : LR :=
  if okB l n m = true then
    if 200 < s.size ∨ n = 1000 then ⟨l, n, m, false⟩
    else if (sT l (l.length - 1)).size = 0 ∨ (sT l (l.length - 1)).size + (frameS s).size ≤ 60 then ⟨l.set (l.length - 1) ⟨sF l (l.length - 1), sT l (l.length - 1) ++ frameS s⟩, n + 1, m, true⟩
    else if ((l ++ [Sg.mk n (frameS s)]).drop (dN (l ++ [Sg.mk n (frameS s)]) m)).length ≤ 6 then ⟨(l ++ [Sg.mk n (frameS s)]).drop (dN (l ++ [Sg.mk n (frameS s)]) m), n + 1, m, true⟩
    else ⟨l, n, m, false⟩
  else noR
theorem addR_no (l : List Sg) (n m : Int) (s : ByteArray) (h : okB l n m = false) : addR l n m s = noR := by unfold addR; rw [h]; rfl
theorem addR_rej (l : List Sg) (n m : Int) (s : ByteArray) (h : okB l n m = true) (h2 : 200 < s.size ∨ n = 1000) : addR l n m s = ⟨l, n, m, false⟩ := by unfold addR; rw [if_pos h, if_pos h2]
theorem addR_in (l : List Sg) (n m : Int) (s : ByteArray) (e : Nat) (h : okB l n m = true) (he : l.length = e + 1) (h2 : ¬ (200 < s.size ∨ n = 1000)) (hc : (sT l e).size = 0 ∨ (sT l e).size + (frameS s).size ≤ 60) : addR l n m s = ⟨l.set e ⟨sF l e, sT l e ++ frameS s⟩, n + 1, m, true⟩ := by
  have e1 : l.length - 1 = e := by omega
  unfold addR
  rw [if_pos h, if_neg h2, e1, if_pos hc]
theorem addR_new (l : List Sg) (n m : Int) (s : ByteArray) (e : Nat) (h : okB l n m = true) (he : l.length = e + 1) (h2 : ¬ (200 < s.size ∨ n = 1000)) (hc : ¬ ((sT l e).size = 0 ∨ (sT l e).size + (frameS s).size ≤ 60)) (h6 : ((l ++ [Sg.mk n (frameS s)]).drop (dN (l ++ [Sg.mk n (frameS s)]) m)).length ≤ 6) :
    addR l n m s = ⟨(l ++ [Sg.mk n (frameS s)]).drop (dN (l ++ [Sg.mk n (frameS s)]) m), n + 1, m, true⟩ := by
  have e1 : l.length - 1 = e := by omega
  unfold addR
  rw [if_pos h, if_neg h2, e1, if_neg hc, if_pos h6]
theorem addR_full (l : List Sg) (n m : Int) (s : ByteArray) (e : Nat) (h : okB l n m = true) (he : l.length = e + 1) (h2 : ¬ (200 < s.size ∨ n = 1000)) (hc : ¬ ((sT l e).size = 0 ∨ (sT l e).size + (frameS s).size ≤ 60)) (h6 : ¬ ((l ++ [Sg.mk n (frameS s)]).drop (dN (l ++ [Sg.mk n (frameS s)]) m)).length ≤ 6) :
    addR l n m s = ⟨l, n, m, false⟩ := by
  have e1 : l.length - 1 = e := by omega
  unfold addR
  rw [if_pos h, if_neg h2, e1, if_neg hc, if_neg h6]
theorem add_sizes (l : List Sg) (n : Int) (s : ByteArray) (ht : ∀ j, j < l.length → (sT l j).size ≤ 1048576) (d j : Nat) (hj : j < ((l ++ [Sg.mk n (frameS s)]).drop d).length) : (sT ((l ++ [Sg.mk n (frameS s)]).drop d) j).size ≤ 1048576 := by
  rw [List.length_drop, List.length_append] at hj
  rw [sT_drop]
  have hj' : d + j < l.length + 1 := by simp only [List.length_singleton] at hj; omega
  by_cases e : d + j < l.length
  · rw [sT_left _ _ _ e]; exact ht _ e
  · have : d + j = l.length := by omega
    rw [this, sT_snoc]
    have := frameS_le s
    show (frameS s).size ≤ _
    omega
theorem addR_fit (l : List Sg) (n m : Int) (s : ByteArray) (ht : ∀ j, j < l.length → (sT l j).size ≤ 1048576) (hs : s.size ≤ 1048576) : (addR l n m s).fit := by
  cases h : okB l n m with
  | false => rw [addR_no l n m s h]; exact noR_fit
  | true =>
    have hl := okB_len h
    have hself : LR.fit ⟨l, n, m, false⟩ := ⟨by simp only; omega, fun j hj => by have := ht j hj; simp only; omega⟩
    obtain ⟨e, he⟩ : ∃ e, l.length = e + 1 := ⟨l.length - 1, by omega⟩
    by_cases h2 : 200 < s.size ∨ n = 1000
    · rw [addR_rej l n m s h h2]; exact hself
    · by_cases hc : (sT l e).size = 0 ∨ (sT l e).size + (frameS s).size ≤ 60
      · rw [addR_in l n m s e h he h2 hc]
        refine ⟨by simp only [List.length_set]; omega, fun j hj => ?_⟩
        simp only [List.length_set] at hj
        simp only [sT_set l e j _ (show e < l.length by omega)]
        have a := ht e (by omega)
        have b := ht j hj
        have c := frameS_le s
        split
        · rw [ByteArray.size_append]; omega
        · omega
      · by_cases h6 : ((l ++ [Sg.mk n (frameS s)]).drop (dN (l ++ [Sg.mk n (frameS s)]) m)).length ≤ 6
        · rw [addR_new l n m s e h he h2 hc h6]
          refine ⟨by simp only; omega, fun j hj => ?_⟩
          have := add_sizes l n s ht _ j hj
          simp only
          omega
        · rw [addR_full l n m s e h he h2 hc h6]; exact hself
end Go.Proofs.YtemhhjkmolndbaaDoor
