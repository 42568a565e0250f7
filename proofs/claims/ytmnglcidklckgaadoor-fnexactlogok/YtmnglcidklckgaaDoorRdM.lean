/- How fields are read off the front of a string, in plain words. Nothing of the program is used here. -/
import Derived.Test.YtmnglcidklckgaaDoorVarT
namespace Go.Proofs.YtmnglcidklckgaaDoor
open Go.RowKit Go.PlainAid
set_option linter.unusedVariables false

/-! ### pieces of a string -/
theorem ext_data (s : ByteArray) (a b : Nat) : (s.extract a b).data.toList = (s.data.toList.drop a).take (b - a) := by
  rw [ByteArray.data_extract, Array.toList_extract, List.extract_eq_take_drop]
theorem size_data (s : ByteArray) : s.size = s.data.toList.length := (Array.length_toList (xs := s.data)).symm
theorem ext_split (s : ByteArray) (k : Nat) : s = s.extract 0 k ++ s.extract k s.size := by
  apply bytes_ext
  rw [data_append, ext_data, ext_data, size_data, List.drop_zero, Nat.sub_zero, List.take_of_length_le (l := s.data.toList.drop k) (by simp)]
  exact (List.take_append_drop k _).symm
theorem ext_all (s : ByteArray) : s.extract 0 s.size = s := by
  apply bytes_ext
  rw [ext_data, List.drop_zero, Nat.sub_zero, size_data, List.take_length]
theorem ext_join (s : ByteArray) (a b c : Nat) (h1 : a ≤ b) (h2 : b ≤ c) : s.extract a b ++ s.extract b c = s.extract a c := by
  apply bytes_ext
  rw [data_append, ext_data, ext_data, ext_data, show c - a = (b - a) + (c - b) by omega, List.take_add, List.drop_drop, show a + (b - a) = b by omega]
theorem ext_size (s : ByteArray) (a b : Nat) (hb : b ≤ s.size) : (s.extract a b).size = b - a := by
  rw [size_data, ext_data, List.length_take, List.length_drop, ← size_data]
  omega
theorem ext_ext (s : ByteArray) (a b k m : Nat) (hb : b ≤ s.size) (hm : a + m ≤ b) : (s.extract a b).extract k m = s.extract (a + k) (a + m) := by
  apply bytes_ext
  rw [ext_data, ext_data, ext_data]
  rw [List.drop_take, List.take_take, List.drop_drop]
  congr 1
  omega

/-! ### a varint at the beginning of a string -/
def lowT (s : ByteArray) : Option Nat := (List.range 7).find? fun t => decide (t < s.size) && decide (bt s t < 128)
@[irreducible] def rvK (s : ByteArray) : Nat := match lowT s with
  | some t => if t = 0 ∨ bt s t ≠ 0 then t + 1 else 0
  | none => 0
@[irreducible] def rvN (s : ByteArray) : Int := if rvK s = 0 then 0 else acc s (rvK s)
theorem rv_hit (s : ByteArray) (t : Nat) (ht : t < s.size) (h6 : t ≤ 6) (hh : ∀ i, i < t → 128 ≤ bt s i) (hb : bt s t < 128) : lowT s = some t := by
  unfold lowT
  rw [List.find?_range_eq_some]
  refine ⟨by simp [ht, hb], by simp; omega, fun j hj => ?_⟩
  have := hh j hj
  simp
  exact Or.inr this
theorem rv_none (s : ByteArray) (hh : ∀ i, i < 7 → i < s.size → 128 ≤ bt s i) : lowT s = none := by
  unfold lowT
  rw [List.find?_eq_none]
  intro i hi
  have hi' : i < 7 := by simpa using hi
  simp
  intro h
  have := hh i hi' h
  omega
/-- What is known where a varint stands. -/
theorem rvK_pos (s : ByteArray) (h : rvK s ≠ 0) : ∃ t, rvK s = t + 1 ∧ t < s.size ∧ t ≤ 6 ∧ (∀ i, i < t → 128 ≤ bt s i) ∧ bt s t < 128 ∧ (t = 0 ∨ bt s t ≠ 0) := by
  rcases first_low s with ⟨t, ht, h6, hh, hb⟩ | hh
  · have e := rv_hit s t ht h6 hh hb
    by_cases hz : t = 0 ∨ bt s t ≠ 0
    · exact ⟨t, by unfold rvK; rw [e]; simp only; rw [if_pos hz], ht, h6, hh, hb, hz⟩
    · exfalso; apply h; unfold rvK; rw [e]; simp only; rw [if_neg hz]
  · exfalso; apply h; unfold rvK; rw [rv_none s hh]
theorem rvK_le (s : ByteArray) : rvK s ≤ s.size := by
  by_cases h : rvK s = 0
  · omega
  · obtain ⟨t, e, ht, _⟩ := rvK_pos s h; omega
theorem rvK_le7 (s : ByteArray) : rvK s ≤ 7 := by
  by_cases h : rvK s = 0
  · omega
  · obtain ⟨t, e, ht, h6, _⟩ := rvK_pos s h; omega
theorem rvN_nonneg (s : ByteArray) : 0 ≤ rvN s := by
  unfold rvN
  split
  · omega
  · exact acc_nonneg s _
theorem rvN_le (s : ByteArray) : rvN s ≤ 562949953421311 := by
  unfold rvN
  split
  · omega
  · rw [acc_eq]; exact rvr_max s _ _ (rvK_le7 s)
theorem rv_read (s : ByteArray) (h : rvK s ≠ 0) : s.extract 0 (rvK s) = varS (rvN s) := by
  obtain ⟨t, e, ht, h6, hh, hb, hz⟩ := rvK_pos s h
  have hi := isVar_of s t ht hh hb hz
  have hn : rvN s = rvr s (t + 1) (t + 1) := by unfold rvN; rw [if_neg h, e, acc_eq]
  have hv := varS_vk (rvr s (t + 1) (t + 1)) (rvr_max s _ _ (by omega))
  have hq := hi _ hv
  rw [beq_iff_eq] at hq
  rw [hn, e]
  unfold varS
  exact (str_eq hq).symm

/-! ### fields off the front of a string; nothing is left where one is not there -/
def oN : Option ByteArray → Int × Option ByteArray
  | none => (0, none)
  | some r => if rvK r = 0 then (0, none) else (rvN r, some (r.extract (rvK r) r.size))
def oB (n : Int) : Option ByteArray → ByteArray × Option ByteArray
  | none => (⟨#[]⟩, none)
  | some r => if (r.size : Int) < n then (⟨#[]⟩, none) else (r.extract 0 n.toNat, some (r.extract n.toNat r.size))
def oT (st : Option ByteArray) : ByteArray × Option ByteArray := oB (oN st).1 (oN st).2
theorem oN_none : oN none = (0, none) := rfl
theorem oB_none (n : Int) : oB n none = (⟨#[]⟩, none) := rfl
theorem oN_bad (r : ByteArray) (h : rvK r = 0) : oN (some r) = (0, none) := by unfold oN; simp [h]
theorem oN_ok (r : ByteArray) (h : rvK r ≠ 0) : oN (some r) = (rvN r, some (r.extract (rvK r) r.size)) := by unfold oN; simp [h]
theorem oB_bad (r : ByteArray) (n : Int) (h : (r.size : Int) < n) : oB n (some r) = (⟨#[]⟩, none) := by unfold oB; simp [h]
theorem oB_ok (r : ByteArray) (n : Int) (h : n ≤ r.size) : oB n (some r) = (r.extract 0 n.toNat, some (r.extract n.toNat r.size)) := by
  show (if (r.size : Int) < n then _ else _) = _
  rw [if_neg (by omega)]
theorem oN_nonneg (st : Option ByteArray) : 0 ≤ (oN st).1 := by
  cases st with
  | none => exact Int.le_refl _
  | some r =>
    by_cases h : rvK r = 0
    · rw [oN_bad r h]; exact Int.le_refl _
    · rw [oN_ok r h]; exact rvN_nonneg r
theorem oN_le (st : Option ByteArray) : (oN st).1 ≤ 562949953421311 := by
  cases st with
  | none => rw [oN_none]; decide
  | some r =>
    by_cases h : rvK r = 0
    · rw [oN_bad r h]; decide
    · rw [oN_ok r h]; exact rvN_le r
theorem oN_some {st : Option ByteArray} {q : ByteArray} (h : (oN st).2 = some q) : ∃ r, st = some r ∧ r = varS (oN st).1 ++ q := by
  cases st with
  | none => rw [oN_none] at h; cases h
  | some r =>
    by_cases hk : rvK r = 0
    · rw [oN_bad r hk] at h; cases h
    · rw [oN_ok r hk] at h ⊢
      refine ⟨r, rfl, ?_⟩
      simp only [Option.some.injEq] at h
      rw [← h, ← rv_read r hk]
      exact ext_split r _
theorem oB_some {st : Option ByteArray} {n : Int} {q : ByteArray} (h0 : 0 ≤ n) (h : (oB n st).2 = some q) : ∃ r, st = some r ∧ r = (oB n st).1 ++ q ∧ ((oB n st).1.size : Int) = n := by
  cases st with
  | none => rw [oB_none] at h; cases h
  | some r =>
    by_cases hk : (r.size : Int) < n
    · rw [oB_bad r n hk] at h; cases h
    · rw [oB_ok r n (by omega)] at h ⊢
      simp only [Option.some.injEq] at h
      refine ⟨r, rfl, by rw [← h]; exact ext_split r _, ?_⟩
      show ((r.extract 0 n.toNat).size : Int) = n
      rw [ext_size r 0 _ (by omega)]
      omega
theorem oT_some {st : Option ByteArray} {q : ByteArray} (h : (oT st).2 = some q) : ∃ r, st = some r ∧ r = showT (oT st).1 ++ q := by
  unfold oT at h ⊢
  obtain ⟨m, hm, e, es⟩ := oB_some (oN_nonneg st) h
  obtain ⟨r, hr, er⟩ := oN_some hm
  refine ⟨r, hr, ?_⟩
  unfold showT
  rw [es, append_assoc, ← e]
  exact er
end Go.Proofs.YtmnglcidklckgaaDoor
