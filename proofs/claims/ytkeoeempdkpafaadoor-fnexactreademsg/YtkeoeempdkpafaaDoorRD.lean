/- A bundle of texts: RdM, ReadM. -/
import Derived.Test.YtkeoeempdkpafaaDoorVarT
import Derived.Test.YtkeoeempdkpafaaDoorShowM
/- How fields are read off the front of a string, in plain words. Nothing of the program is used here. -/
namespace Go.Proofs.YtkeoeempdkpafaaDoor
open Go.RowKit Go.PlainAid
set_option linter.unusedVariables false

/-! ### pieces of a string -/
theorem ext_data (s : ByteArray) (a b : Nat) : (s.extract a b).data.toList = (s.data.toList.drop a).take (b - a) := by
  rw [ByteArray.data_extract, Array.toList_extract, List.extract_eq_take_drop]
theorem size_data (s : ByteArray) : s.size = s.data.toList.length := (Array.length_toList (xs := s.data)).symm
theorem ext_split (s : ByteArray) (k : Nat) : s = s.extract 0 k ++ s.extract k s.size := by
  apply bytes_ext
  rw [data_append, ext_data, ext_data, size_data, List.drop_zero, Nat.sub_zero, List.take_of_length_le (l := s.data.toList.drop k) (by simp)]
  exact (List.take_append_drop k _).symm
theorem ext_all (s : ByteArray) : s.extract 0 s.size = s := by
  apply bytes_ext
  rw [ext_data, List.drop_zero, Nat.sub_zero, size_data, List.take_length]
theorem ext_join (s : ByteArray) (a b c : Nat) (h1 : a ≤ b) (h2 : b ≤ c) : s.extract a b ++ s.extract b c = s.extract a c := by
  apply bytes_ext
  rw [data_append, ext_data, ext_data, ext_data, show c - a = (b - a) + (c - b) by omega, List.take_add, List.drop_drop, show a + (b - a) = b by omega]
theorem ext_size (s : ByteArray) (a b : Nat) (hb : b ≤ s.size) : (s.extract a b).size = b - a := by
  rw [size_data, ext_data, List.length_take, List.length_drop, ← size_data]
  omega
theorem ext_ext (s : ByteArray) (a b k m : Nat) (hb : b ≤ s.size) (hm : a + m ≤ b) : (s.extract a b).extract k m = s.extract (a + k) (a + m) := by
  apply bytes_ext
  rw [ext_data, ext_data, ext_data]
  rw [List.drop_take, List.take_take, List.drop_drop]
  congr 1
  omega

/-! ### a varint at the beginning of a string -/
def lowT (s : ByteArray) : Option Nat := (List.range 7).find? fun t => decide (t < s.size) && decide (bt s t < 128)
@[irreducible] def rvK (s : ByteArray) : Nat := match lowT s with
  | some t => if t = 0 ∨ bt s t ≠ 0 then t + 1 else 0
  | none => 0
@[irreducible] def rvN (s : ByteArray) : Int := if rvK s = 0 then 0 else acc s (rvK s)
theorem rv_hit (s : ByteArray) (t : Nat) (ht : t < s.size) (h6 : t ≤ 6) (hh : ∀ i, i < t → 128 ≤ bt s i) (hb : bt s t < 128) : lowT s = some t := by
  unfold lowT
  rw [List.find?_range_eq_some]
  refine ⟨by simp [ht, hb], by simp; omega, fun j hj => ?_⟩
  have := hh j hj
  simp
  exact Or.inr this
theorem rv_none (s : ByteArray) (hh : ∀ i, i < 7 → i < s.size → 128 ≤ bt s i) : lowT s = none := by
  unfold lowT
  rw [List.find?_eq_none]
  intro i hi
  have hi' : i < 7 := by simpa using hi
  simp
  intro h
  have := hh i hi' h
  omega
/-- What is known where a varint stands. -/
theorem rvK_pos (s : ByteArray) (h : rvK s ≠ 0) : ∃ t, rvK s = t + 1 ∧ t < s.size ∧ t ≤ 6 ∧ (∀ i, i < t → 128 ≤ bt s i) ∧ bt s t < 128 ∧ (t = 0 ∨ bt s t ≠ 0) := by
  rcases first_low s with ⟨t, ht, h6, hh, hb⟩ | hh
  · have e := rv_hit s t ht h6 hh hb
    by_cases hz : t = 0 ∨ bt s t ≠ 0
    · exact ⟨t, by unfold rvK; rw [e]; simp only; rw [if_pos hz], ht, h6, hh, hb, hz⟩
    · exfalso; apply h; unfold rvK; rw [e]; simp only; rw [if_neg hz]
  · exfalso; apply h; unfold rvK; rw [rv_none s hh]
theorem rvK_le (s : ByteArray) : rvK s ≤ s.size := by
  by_cases h : rvK s = 0
  · omega
  · obtain ⟨t, e, ht, _⟩ := rvK_pos s h; omega
theorem rvK_le7 (s : ByteArray) : rvK s ≤ 7 := by
  by_cases h : rvK s = 0
  · omega
  · obtain ⟨t, e, ht, h6, _⟩ := rvK_pos s h; omega
theorem rvN_nonneg (s : ByteArray) : 0 ≤ rvN s := by
  unfold rvN
  split
  · omega
  · exact acc_nonneg s _
theorem rvN_le (s : ByteArray) : rvN s ≤ 562949953421311 := by
  unfold rvN
  split
  · omega
  · rw [acc_eq]; exact rvr_max s _ _ (rvK_le7 s)
theorem rv_read (s : ByteArray) (h : rvK s ≠ 0) : s.extract 0 (rvK s) = varS (rvN s) := by
  obtain ⟨t, e, ht, h6, hh, hb, hz⟩ := rvK_pos s h
  have hi := isVar_of s t ht hh hb hz
  have hn : rvN s = rvr s (t + 1) (t + 1) := by unfold rvN; rw [if_neg h, e, acc_eq]
  have hv := varS_vk (rvr s (t + 1) (t + 1)) (rvr_max s _ _ (by omega))
  have hq := hi _ hv
  rw [beq_iff_eq] at hq
  rw [hn, e]
  unfold varS
  exact (str_eq hq).symm

/-! ### fields off the front of a string; nothing is left where one is not there -/
def oN : Option ByteArray → Int × Option ByteArray
  | none => (0, none)
  | some r => if rvK r = 0 then (0, none) else (rvN r, some (r.extract (rvK r) r.size))
def oB (n : Int) : Option ByteArray → ByteArray × Option ByteArray
  | none => (⟨#[]⟩, none)
  | some r => if (r.size : Int) < n then (⟨#[]⟩, none) else (r.extract 0 n.toNat, some (r.extract n.toNat r.size))
def oT (st : Option ByteArray) : ByteArray × Option ByteArray := oB (oN st).1 (oN st).2
theorem oN_none : oN none = (0, none) := rfl
theorem oB_none (n : Int) : oB n none = (⟨#[]⟩, none) := rfl
theorem oN_bad (r : ByteArray) (h : rvK r = 0) : oN (some r) = (0, none) := by unfold oN; simp [h]
theorem oN_ok (r : ByteArray) (h : rvK r ≠ 0) : oN (some r) = (rvN r, some (r.extract (rvK r) r.size)) := by unfold oN; simp [h]
theorem oB_bad (r : ByteArray) (n : Int) (h : (r.size : Int) < n) : oB n (some r) = (⟨#[]⟩, none) := by unfold oB; simp [h]
theorem oB_ok (r : ByteArray) (n : Int) (h : n ≤ r.size) : oB n (some r) = (r.extract 0 n.toNat, some (r.extract n.toNat r.size)) := by
  show (if (r.size : Int) < n then _ else _) = _
  rw [if_neg (by omega)]
theorem oN_nonneg (st : Option ByteArray) : 0 ≤ (oN st).1 := by
  cases st with
  | none => exact Int.le_refl _
  | some r =>
    by_cases h : rvK r = 0
    · rw [oN_bad r h]; exact Int.le_refl _
    · rw [oN_ok r h]; exact rvN_nonneg r
theorem oN_le (st : Option ByteArray) : (oN st).1 ≤ 562949953421311 := by
  cases st with
  | none => rw [oN_none]; decide
  | some r =>
    by_cases h : rvK r = 0
    · rw [oN_bad r h]; decide
    · rw [oN_ok r h]; exact rvN_le r
theorem oN_some {st : Option ByteArray} {q : ByteArray} (h : (oN st).2 = some q) : ∃ r, st = some r ∧ r = varS (oN st).1 ++ q := by
  cases st with
  | none => rw [oN_none] at h; cases h
  | some r =>
    by_cases hk : rvK r = 0
    · rw [oN_bad r hk] at h; cases h
    · rw [oN_ok r hk] at h ⊢
      refine ⟨r, rfl, ?_⟩
      simp only [Option.some.injEq] at h
      rw [← h, ← rv_read r hk]
      exact ext_split r _
theorem oB_some {st : Option ByteArray} {n : Int} {q : ByteArray} (h0 : 0 ≤ n) (h : (oB n st).2 = some q) : ∃ r, st = some r ∧ r = (oB n st).1 ++ q ∧ ((oB n st).1.size : Int) = n := by
  cases st with
  | none => rw [oB_none] at h; cases h
  | some r =>
    by_cases hk : (r.size : Int) < n
    · rw [oB_bad r n hk] at h; cases h
    · rw [oB_ok r n (by omega)] at h ⊢
      simp only [Option.some.injEq] at h
      refine ⟨r, rfl, by rw [← h]; exact ext_split r _, ?_⟩
      show ((r.extract 0 n.toNat).size : Int) = n
      rw [ext_size r 0 _ (by omega)]
      omega
theorem oT_some {st : Option ByteArray} {q : ByteArray} (h : (oT st).2 = some q) : ∃ r, st = some r ∧ r = showT (oT st).1 ++ q := by
  unfold oT at h ⊢
  obtain ⟨m, hm, e, es⟩ := oB_some (oN_nonneg st) h
  obtain ⟨r, hr, er⟩ := oN_some hm
  refine ⟨r, hr, ?_⟩
  unfold showT
  rw [es, append_assoc, ← e]
  exact er
end Go.Proofs.YtkeoeempdkpafaaDoor
/- How a command is read, in plain words. Nothing of the program is used here. -/
namespace Go.Proofs.YtkeoeempdkpafaaDoor
open Go.RowKit Go.PlainAid
set_option linter.unusedVariables false

def oI (st : Option ByteArray) : Nat → List ByteArray × Option ByteArray
  | 0 => ([], st)
  | k + 1 => ((oI st k).1 ++ [(oB 8 (oI st k).2).1], (oB 8 (oI st k).2).2)
theorem oI_none (k : Nat) : (oI none k).2 = none := by
  induction k with
  | zero => rfl
  | succ k ih => show (oB 8 (oI none k).2).2 = none; rw [ih]; rfl
theorem oI_length (st : Option ByteArray) (k : Nat) : (oI st k).1.length = k := by
  induction k with
  | zero => rfl
  | succ k ih => simp [oI, ih]
theorem oI_rest (r : ByteArray) (k : Nat) (h : 8 * k ≤ r.size) : (oI (some r) k).2 = some (r.extract (8 * k) r.size) := by
  induction k with
  | zero => show some r = some (r.extract 0 r.size); rw [ext_all]
  | succ k ih =>
    show (oB 8 (oI (some r) k).2).2 = _
    have hs : (r.extract (8 * k) r.size).size = r.size - 8 * k := ext_size r _ _ (Nat.le_refl _)
    rw [ih (by omega), oB_ok _ _ (by omega)]
    simp only [Option.some.injEq]
    rw [hs, ext_ext r _ _ _ _ (Nat.le_refl _) (by omega)]
    congr 1
    omega
theorem oI_short (r : ByteArray) (k : Nat) (h : r.size < 8 * k) : (oI (some r) k).2 = none := by
  induction k with
  | zero => omega
  | succ k ih =>
    show (oB 8 (oI (some r) k).2).2 = _
    by_cases h2 : r.size < 8 * k
    · rw [ih h2]; rfl
    · have hs : (r.extract (8 * k) r.size).size = r.size - 8 * k := ext_size r _ _ (Nat.le_refl _)
      rw [oI_rest r k (by omega), oB_bad _ _ (by omega)]
theorem oI_el (r : ByteArray) (k j : Nat) (h : 8 * k ≤ r.size) (hj : j < k) : el (oI (some r) k).1 j = r.extract (8 * j) (8 * j + 8) := by
  induction k with
  | zero => omega
  | succ k ih =>
    have hl := oI_length (some r) k
    have hs : (r.extract (8 * k) r.size).size = r.size - 8 * k := ext_size r _ _ (Nat.le_refl _)
    have e1 : (oI (some r) (k + 1)).1 = (oI (some r) k).1 ++ [r.extract (8 * k) (8 * k + 8)] := by
      show (oI (some r) k).1 ++ [(oB 8 (oI (some r) k).2).1] = _
      rw [oI_rest r k (by omega), oB_ok _ _ (by omega)]
      simp only
      rw [ext_ext r _ _ _ _ (Nat.le_refl _) (by simp; omega)]
      rfl
    rw [e1, el_eq]
    by_cases e : j = k
    · subst e
      rw [List.getD, List.getElem?_append_right (by omega), hl]
      simp
    · rw [List.getD, List.getElem?_append_left (by omega)]
      have := ih (by omega) (by omega)
      rw [el_eq, List.getD] at this
      exact this
theorem oI_list (r : ByteArray) (k : Nat) (l : List ByteArray) (h : 8 * k ≤ r.size) (hl : l.length = k) (he : ∀ j, j < k → el l j = r.extract (8 * j) (8 * j + 8)) : l = (oI (some r) k).1 :=
  el_ext _ _ (by rw [oI_length, hl]) (fun j hj => by rw [he j (by omega), oI_el r k j h (by omega)])
theorem oI_cat (r : ByteArray) (k m : Nat) (h : 8 * k ≤ r.size) (hm : m ≤ k) : catN (oI (some r) k).1 m = r.extract 0 (8 * m) := by
  induction m with
  | zero => rw [catN_zero]; apply bytes_ext; rw [ext_data]; simp
  | succ m ih =>
    rw [catN_succ, ih (by omega), oI_el r k m h (by omega), ext_join r 0 _ _ (by omega) (by omega)]
    rfl

/-! ### a whole command -/
def s1 (s : ByteArray) := oN (some s)
def s2 (s : ByteArray) := oN (s1 s).2
def s3 (s : ByteArray) := oN (s2 s).2
def s4 (s : ByteArray) := oN (s3 s).2
def s5 (s : ByteArray) := oT (s4 s).2
def s6 (s : ByteArray) := oT (s5 s).2
def s7 (s : ByteArray) := oT (s6 s).2
def s8 (s : ByteArray) := oN (s7 s).2
/-- The chunks and what is left behind them: none if there are too many. -/
def s9 (s : ByteArray) : List ByteArray × Option ByteArray := if 4 < (s8 s).1 then ([], none) else oI (s8 s).2 (s8 s).1.toNat
/-- The fields as they are read. -/
def rawC (s : ByteArray) : CmdM := ⟨(s1 s).1, (s2 s).1, (s3 s).1, (s5 s).1, (s6 s).1, (s7 s).1, (s4 s).1, (s9 s).1⟩
/-- All fields stand there, and nothing else. -/
def wholeB (s : ByteArray) : Bool := match (s9 s).2 with
  | some r => decide (r.size = 0)
  | none => false
@[irreducible] def goodB (s : ByteArray) : Bool := wholeB s && okB (rawC s)
@[irreducible] def readC (s : ByteArray) : CmdM := if goodB s then rawC s else zeroC
theorem whole_parts (s : ByteArray) (h : wholeB s = true) : (s8 s).1 ≤ 4 ∧ ∃ r, (s8 s).2 = some r ∧ r.size = 8 * (s8 s).1.toNat := by
  unfold wholeB s9 at h
  have h0 := oN_nonneg (s7 s).2
  by_cases h4 : 4 < (s8 s).1
  · rw [if_pos h4] at h; cases h
  · rw [if_neg h4] at h
    refine ⟨by omega, ?_⟩
    cases e : (s8 s).2 with
    | none => rw [e, oI_none] at h; cases h
    | some r =>
      refine ⟨r, rfl, ?_⟩
      rw [e] at h
      by_cases hk : r.size < 8 * (s8 s).1.toNat
      · rw [oI_short r _ hk] at h; cases h
      · rw [oI_rest r _ (by omega)] at h
        have := of_decide_eq_true h
        rw [ext_size r _ _ (Nat.le_refl _)] at this
        omega
theorem whole_of (s : ByteArray) (r : ByteArray) (h4 : (s8 s).1 ≤ 4) (h8 : (s8 s).2 = some r) (hr : r.size = 8 * (s8 s).1.toNat) : wholeB s = true := by
  unfold wholeB s9
  rw [if_neg (by omega), h8, oI_rest r _ (by omega)]
  simp only
  rw [decide_eq_true]
  rw [ext_size r _ _ (Nat.le_refl _)]
  omega
theorem raw_show (s : ByteArray) (h : wholeB s = true) : showB (rawC s) = s := by
  obtain ⟨h4, r8, e8, hr⟩ := whole_parts s h
  obtain ⟨r7, e7, q7⟩ := oN_some (st := (s7 s).2) e8
  obtain ⟨r6, e6, q6⟩ := oT_some (st := (s6 s).2) e7
  obtain ⟨r5, e5, q5⟩ := oT_some (st := (s5 s).2) e6
  obtain ⟨r4, e4, q4⟩ := oT_some (st := (s4 s).2) e5
  obtain ⟨r3, e3, q3⟩ := oN_some (st := (s3 s).2) e4
  obtain ⟨r2, e2, q2⟩ := oN_some (st := (s2 s).2) e3
  obtain ⟨r1, e1, q1⟩ := oN_some (st := (s1 s).2) e2
  obtain ⟨r0, e0, q0⟩ := oN_some (st := some s) e1
  have h0 := oN_nonneg (s7 s).2
  have e9 : (s9 s).1 = (oI (some r8) (s8 s).1.toNat).1 := by unfold s9; rw [if_neg (by omega), e8]
  have hl : (s9 s).1.length = (s8 s).1.toNat := by rw [e9, oI_length]
  have hc : catN (s9 s).1 (s9 s).1.length = r8 := by
    rw [hl, e9, oI_cat r8 _ _ (by omega) (Nat.le_refl _), ← hr, ext_all]
  have hn : (((s8 s).1.toNat : Nat) : Int) = (s8 s).1 := Int.toNat_of_nonneg h0
  have hs : s = r0 := by simpa using e0
  unfold showB
  show varS (s1 s).1 ++ varS (s2 s).1 ++ varS (s3 s).1 ++ varS (s4 s).1 ++ showT (s5 s).1 ++ showT (s6 s).1 ++ showT (s7 s).1 ++ varS (s9 s).1.length ++ catN (s9 s).1 (s9 s).1.length = s
  rw [hc, hl, hn]
  simp only [append_assoc]
  have q7' : r7 = varS (s8 s).1 ++ r8 := q7
  have q6' : r6 = showT (s7 s).1 ++ r7 := q6
  have q5' : r5 = showT (s6 s).1 ++ r6 := q5
  have q4' : r4 = showT (s5 s).1 ++ r5 := q4
  have q3' : r3 = varS (s4 s).1 ++ r4 := q3
  have q2' : r2 = varS (s3 s).1 ++ r3 := q2
  have q1' : r1 = varS (s2 s).1 ++ r2 := q1
  have q0' : r0 = varS (s1 s).1 ++ r1 := q0
  rw [← q7', ← q6', ← q5', ← q4', ← q3', ← q2', ← q1', ← q0', ← hs]
/-- The model's own test. -/
theorem good_show (s : ByteArray) (h : wholeB s = true) : goodB s = decide (showS (rawC s) = s) := by
  unfold goodB
  rw [h, Bool.true_and]
  cases ho : okB (rawC s)
  · symm
    rw [decide_eq_false_iff_not]
    unfold showS
    rw [ho]
    simp only [Bool.false_eq_true, if_false]
    intro e
    have hs := raw_show s h
    have h1 : 1 ≤ (showB (rawC s)).size := by
      unfold showB
      simp only [ByteArray.size_append]
      have := varS_pos (rawC s).kind
      omega
    rw [hs, ← e] at h1
    exact absurd h1 (by decide)
  · symm
    rw [decide_eq_true_iff]
    unfold showS
    rw [ho, if_pos rfl]
    exact raw_show s h
end Go.Proofs.YtkeoeempdkpafaaDoor
