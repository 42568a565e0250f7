/- Frames one behind the other, in plain words: one more, and up to a torn one. -/
import Derived.Test.YtemhhjkmolndbaaDoorLogR
namespace Go.Proofs.YtemhhjkmolndbaaDoor
open Go.RowKit Go.PlainAid
set_option linter.unusedVariables false

theorem empty_of_size {s : ByteArray} (h : s.size = 0) : s = ⟨#[]⟩ := by
  apply bytes_ext
  have : s.data.toList.length = 0 := by rw [← size_data]; exact h
  rw [List.eq_nil_of_length_eq_zero this]
theorem empty_append (q : ByteArray) : (⟨#[]⟩ : ByteArray) ++ q = q := by apply bytes_ext; rw [data_append]; rfl
theorem append_empty (q : ByteArray) : q ++ (⟨#[]⟩ : ByteArray) = q := by apply bytes_ext; rw [data_append]; simp
theorem fr_empty : frOk (⟨#[]⟩ : ByteArray) = false := by
  cases h : frOk (⟨#[]⟩ : ByteArray) with
  | false => rfl
  | true =>
    have := ((frOk_iff _).1 h).1
    exact absurd this (by decide)
theorem nF_empty : nF (⟨#[]⟩ : ByteArray) = 0 := (nF_last _ 0 (Nat.zero_le _) fr_empty).symm
theorem whl_empty : whl (⟨#[]⟩ : ByteArray) = true := (whl_eq _).2 (by rw [nF_empty, fP_zero]; rfl)
theorem whl_end {t : ByteArray} (h : whl t = true) : fS t (nF t) = ⟨#[]⟩ := by
  have a := (whl_eq t).1 h
  have b := fP_size t (nF t) (Nat.le_refl _)
  exact empty_of_size (by omega)
theorem whl_zero {t : ByteArray} (h : whl t = true) (h0 : nF t = 0) : t.size = 0 := by
  have a := (whl_eq t).1 h
  rw [h0, fP_zero] at a
  exact a.symm
theorem whl_pos {t : ByteArray} (h : whl t = true) (h0 : t.size ≠ 0) : nF t ≠ 0 := fun e => h0 (whl_zero h e)
/-- One frame more. -/
theorem whl_snoc (t s : ByteArray) (h : whl t = true) (hs : s.size ≤ 200) : whl (t ++ frameS s) = true ∧ nF (t ++ frameS s) = nF t + 1 ∧ fL (t ++ frameS s) (nF t + 1) = fL t (nF t) ++ [s] := by
  obtain ⟨p1, p2, p3⟩ := fr_prefix t (frameS s) (nF t) (Nat.le_refl _)
  rw [whl_end h, empty_append] at p1
  obtain ⟨b1, b2, b3⟩ := fr_back s ⟨#[]⟩ hs
  rw [append_empty] at b1 b2 b3
  have n1 := nF_more _ (nF t) p2 (by rw [p1]; exact b1)
  have e1 : fS (t ++ frameS s) (nF t + 1) = ⟨#[]⟩ := by show frR (fS _ (nF t)) = _; rw [p1, b3]
  have n2 := nF_last _ (nF t + 1) n1 (by rw [e1]; exact fr_empty)
  refine ⟨(whl_eq _).2 ?_, n2.symm, ?_⟩
  · have b := fP_size (t ++ frameS s) (nF t + 1) n1
    rw [e1] at b
    rw [← n2]
    have z : (⟨#[]⟩ : ByteArray).size = 0 := rfl
    omega
  · rw [fL_succ, p3, p1, b2]
theorem cat_step (p : ByteArray) (k : Nat) (hk : k < nF p) : p.extract 0 (fP p (k + 1)) = p.extract 0 (fP p k) ++ frameS (frC (fS p k)) := by
  rw [← fS_cat p (k + 1) hk, catN_succ, fS_cat p k (by omega)]
  have hE : el ((fL p (nF p)).map frameS) k = frameS (frC (fS p k)) := by
    rw [el_eq, List.getD, List.getElem?_map, el_get (fL p (nF p)) k (by rw [fL_length]; omega), fL_el p _ k (by omega)]
    rfl
  rw [hE]
theorem ext_zero (p : ByteArray) : p.extract 0 0 = ⟨#[]⟩ := by apply bytes_ext; rw [ext_data]; simp
/-- Up to the place behind k frames there are those frames and nothing else. -/
theorem cut_frames (p : ByteArray) (k : Nat) (hk : k ≤ nF p) : whl (p.extract 0 (fP p k)) = true ∧ nF (p.extract 0 (fP p k)) = k ∧ fL (p.extract 0 (fP p k)) k = fL p k := by
  induction k with
  | zero => rw [fP_zero, ext_zero]; exact ⟨whl_empty, nF_empty, rfl⟩
  | succ k ih =>
    obtain ⟨a, b, c⟩ := ih (by omega)
    have hs := (frOk_split (fS p k) (nF_ok p k (by omega))).2
    obtain ⟨d, e, f⟩ := whl_snoc _ (frC (fS p k)) a hs
    rw [cat_step p k (by omega)]
    rw [b] at e f
    exact ⟨d, e, by rw [f, c, fL_succ]⟩
theorem fP_le (p : ByteArray) : fP p (nF p) ≤ p.size := by have := fP_size p (nF p) (Nat.le_refl _); omega
/-- The text cut at j, up to the place where it is torn. -/
@[irreducible] def cutX (t : ByteArray) (j : Nat) : ByteArray := t.extract 0 (fP (t.extract 0 j) (nF (t.extract 0 j)))
theorem cutX_eq (t : ByteArray) (j : Nat) : cutX t j = t.extract 0 (fP (t.extract 0 j) (nF (t.extract 0 j))) := by unfold cutX; rfl
theorem ext_sub (t : ByteArray) (i j : Nat) (h : i ≤ j) (hj : j ≤ t.size) : (t.extract 0 j).extract 0 i = t.extract 0 i := by
  apply bytes_ext
  rw [ext_data, ext_data, ext_data]
  simp only [List.drop_zero, Nat.sub_zero]
  rw [List.take_take, Nat.min_eq_left h]
theorem ext0_size (t : ByteArray) (j : Nat) (h : j ≤ t.size) : (t.extract 0 j).size = j := by
  rw [size_data, ext_data]
  simp only [List.drop_zero, Nat.sub_zero, List.length_take, ← size_data]
  omega
theorem cutX_facts (t : ByteArray) (j : Nat) (h : j ≤ t.size) : whl (cutX t j) = true ∧ nF (cutX t j) = nF (t.extract 0 j) ∧ fL (cutX t j) (nF (cutX t j)) = fL (t.extract 0 j) (nF (t.extract 0 j)) ∧ (cutX t j).size ≤ j := by
  have hz := ext0_size t j h
  have hp := fP_le (t.extract 0 j)
  have e := ext_sub t (fP (t.extract 0 j) (nF (t.extract 0 j))) j (by omega) h
  obtain ⟨a, b, c⟩ := cut_frames (t.extract 0 j) (nF (t.extract 0 j)) (Nat.le_refl _)
  rw [cutX_eq]
  rw [e] at a b c
  exact ⟨a, b, by rw [b]; exact c, by rw [ext0_size _ _ (by omega)]; omega⟩
theorem cutX_all (t : ByteArray) (h : whl t = true) : cutX t t.size = t := by
  rw [cutX_eq, ext_all, (whl_eq t).1 h, ext_all]
/-- A count of bytes, held to what there is. -/
def kC (k : Int) (z : Nat) : Nat := min k.toNat z
theorem kC_le (k : Int) (z : Nat) : kC k z ≤ z := Nat.min_le_right _ _

/-! ### what LogCut answers -/
@[irreducible] def cutR (l : List Sg) (n m k : Int) : LR :=
  if okB l n m = true then
    let t := cutX (sT l (l.length - 1)) (kC k (sT l (l.length - 1)).size)
    ⟨l.set (l.length - 1) ⟨sF l (l.length - 1), t⟩, sF l (l.length - 1) + nF t, min m (sF l (l.length - 1) + nF t - 1), true⟩
  else noR
theorem cutR_no (l : List Sg) (n m k : Int) (h : okB l n m = false) : cutR l n m k = noR := by unfold cutR; rw [h]; rfl
theorem cutR_ok (l : List Sg) (n m k : Int) (e : Nat) (t x : ByteArray) (f : Int) (h : okB l n m = true) (he : l.length = e + 1) (ht : sT l e = t) (hf : sF l e = f) (hx : cutX t (kC k t.size) = x) : cutR l n m k = ⟨l.set e ⟨f, x⟩, f + nF x, min m (f + nF x - 1), true⟩ := by
  subst ht; subst hf; subst hx
  have e1 : l.length - 1 = e := by omega
  unfold cutR
  rw [if_pos h, e1]
theorem okB_last {l : List Sg} {n m : Int} (h : okB l n m = true) (e : Nat) (he : l.length = e + 1) : n = sF l e + nF (sT l e) ∧ whl (sT l e) = true ∧ ((sT l e).size ≤ 60 ∨ nF (sT l e) = 1) ∧ 1 ≤ sF l e := by
  obtain ⟨_, _, h1, _, _, _, h2, h3⟩ := (okB_iff l n m).1 h
  obtain ⟨a, b, c, _⟩ := (gB_iff l m e).1 (h3 e (by omega))
  rw [he, atN_succ] at h2
  have := (okB_F h e (by omega)).2.1
  exact ⟨by omega, b, c, this⟩
theorem cutR_fit (l : List Sg) (n m k : Int) (ht : ∀ j, j < l.length → (sT l j).size ≤ 1048576) : (cutR l n m k).fit := by
  cases h : okB l n m with
  | false => rw [cutR_no l n m k h]; exact noR_fit
  | true =>
    have hl := okB_len h
    obtain ⟨e, he⟩ : ∃ e, l.length = e + 1 := ⟨l.length - 1, by omega⟩
    rw [cutR_ok l n m k e _ _ _ h he rfl rfl rfl]
    have hc := (cutX_facts (sT l e) (kC k (sT l e).size) (kC_le _ _)).2.2.2
    have hk := kC_le k (sT l e).size
    have hte := ht e (by omega)
    refine ⟨by simp only [List.length_set]; omega, fun j hj => ?_⟩
    simp only [List.length_set] at hj
    simp only [sT_set l e j _ (show e < l.length by omega)]
    split
    · omega
    · have := ht j hj; omega
end Go.Proofs.YtemhhjkmolndbaaDoor
