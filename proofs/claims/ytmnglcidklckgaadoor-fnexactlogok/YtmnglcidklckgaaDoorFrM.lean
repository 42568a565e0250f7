/- Frames, in plain words. Nothing of the program is used here. -/
import Derived.Test.YtmnglcidklckgaaDoorRdBack
import Derived.Test.YtmnglcidklckgaaDoorCrcM
namespace Go.Proofs.YtmnglcidklckgaaDoor
open Go.RowKit Go.PlainAid
set_option linter.unusedVariables false

/-- The checksum of s. -/
@[irreducible] def crcV (s : ByteArray) : Int := 4294967295 - (crcF 4294967295 s s.size : Nat)
theorem crcV_eq (s : ByteArray) : 4294967295 - ((crcF 4294967295 s s.size : Nat) : Int) = crcV s := by unfold crcV; rfl
theorem crcV_nonneg (s : ByteArray) : 0 ≤ crcV s := by
  have := crcF_lt 4294967295 (by decide) s s.size
  unfold crcV
  omega
theorem crcV_le (s : ByteArray) : crcV s ≤ 4294967295 := by
  unfold crcV
  omega
theorem dv4 (n : Int) (h0 : 0 ≤ n) (h1 : n ≤ 4294967295) : dv n 4 = 0 := by simp only [dv]; omega
/-- The four bytes of a number. -/
@[irreducible] def fix4 (n : Int) : ByteArray := strOfNums (fixL n 4)
theorem fix4_eq (n : Int) : strOfNums (fixL n 4) = fix4 n := by unfold fix4; rfl
theorem fix4_size (n : Int) : (fix4 n).size = 4 := by
  unfold fix4
  rw [strOfNums_size, fixL_length]
theorem fix4_back (n : Int) (h0 : 0 ≤ n) (h1 : n ≤ 4294967295) (t : ByteArray) : rf (fix4 n ++ t) 4 = n := by
  have b : ∀ j, j < 4 → bt (fix4 n ++ t) j = dv n (3 - j) % 256 := by
    intro j hj
    unfold fix4
    refine bt_nums _ t j _ ?_ (by omega) (by omega)
    rw [fixL_get n 4 j hj]
  simp only [rf]
  rw [b 0 (by omega), b 1 (by omega), b 2 (by omega), b 3 (by omega)]
  simp only [Nat.reduceSub, dv]
  omega
theorem rf_append (a t : ByteArray) (k : Nat) (h : k ≤ a.size) : rf (a ++ t) k = rf a k := by
  induction k with
  | zero => rfl
  | succ k ih =>
    have e : bt (a ++ t) k = bt a k := by
      have h1 := byte_num a k (by omega)
      have h2 := byte_num (a ++ t) k (by rw [ByteArray.size_append]; omega)
      rw [data_append, List.getElem?_append_left (by rw [← size_data]; omega), h1] at h2
      have r1 := bt_nonneg a k
      have r2 := bt_le a k
      have r3 := bt_nonneg (a ++ t) k
      have r4 := bt_le (a ++ t) k
      have h3 := Option.some.inj h2
      have u1 := u8_back (bt a k) r1 r2
      have u2 := u8_back (bt (a ++ t) k) r3 r4
      rw [← u1, ← u2, h3]
    simp only [rf]
    rw [ih (by omega), e]
theorem fix4_read (r : ByteArray) (h : 4 ≤ r.size) : fix4 (rf r 4) = r.extract 0 4 := by
  apply str_eq
  unfold fix4
  refine piece_eq r 4 _ h (fixL_length _ _) fun j hj => ?_
  rw [fixL_get _ 4 j hj]
  have r0 := bt_nonneg r 0; have r1 := bt_nonneg r 1; have r2 := bt_nonneg r 2; have r3 := bt_nonneg r 3
  have s0 := bt_le r 0; have s1 := bt_le r 1; have s2 := bt_le r 2; have s3 := bt_le r 3
  congr 1
  match j, hj with
  | 0, _ => show dv (rf r 4) 3 % 256 = _; simp only [dv, rf]; omega
  | 1, _ => show dv (rf r 4) 2 % 256 = _; simp only [dv, rf]; omega
  | 2, _ => show dv (rf r 4) 1 % 256 = _; simp only [dv, rf]; omega
  | 3, _ => show dv (rf r 4) 0 % 256 = _; simp only [dv, rf]; omega
theorem rf4_le (r : ByteArray) : rf r 4 ≤ 4294967295 := by
  have s0 := bt_le r 0; have s1 := bt_le r 1; have s2 := bt_le r 2; have s3 := bt_le r 3
  simp only [rf]; omega
/-- The frame of s. -/
@[irreducible] def frameS (s : ByteArray) : ByteArray := if 200 < s.size then ⟨#[]⟩ else fix4 (crcV (showT s)) ++ showT s
theorem frameS_big (s : ByteArray) (h : 200 < s.size) : frameS s = ⟨#[]⟩ := by unfold frameS; rw [if_pos h]
theorem frameS_ok (s : ByteArray) (h : s.size ≤ 200) : frameS s = fix4 (crcV (showT s)) ++ showT s := by unfold frameS; rw [if_neg (by omega)]
theorem showT_pos (s : ByteArray) : 1 ≤ (showT s).size := by
  unfold showT
  rw [ByteArray.size_append]
  have := varS_pos s.size
  omega
theorem frameS_size (s : ByteArray) (h : s.size ≤ 200) : (frameS s).size = 4 + (showT s).size := by
  rw [frameS_ok s h, ByteArray.size_append, fix4_size]
theorem frameS_le (s : ByteArray) : (frameS s).size ≤ 211 := by
  by_cases h : s.size ≤ 200
  · rw [frameS_size s h]
    have := showT_size s
    omega
  · rw [frameS_big s (by omega)]
    decide

/-! ### a frame at the beginning of a string -/
def frT (r : ByteArray) : ByteArray × Option ByteArray := oT (some (r.extract 4 r.size))
@[irreducible] def frOk (r : ByteArray) : Bool := decide (4 ≤ r.size) && (frT r).2.isSome && decide ((frT r).1.size ≤ 200) && decide (crcV (showT (frT r).1) = rf r 4)
/-- What it holds. -/
@[irreducible] def frC (r : ByteArray) : ByteArray := (frT r).1
/-- What stands behind it. -/
@[irreducible] def frR (r : ByteArray) : ByteArray := (frT r).2.getD ⟨#[]⟩
theorem frOk_iff (r : ByteArray) : frOk r = true ↔ 4 ≤ r.size ∧ (∃ q, (frT r).2 = some q) ∧ (frT r).1.size ≤ 200 ∧ crcV (showT (frT r).1) = rf r 4 := by
  unfold frOk
  simp only [Bool.and_eq_true, decide_eq_true_eq, Option.isSome_iff_exists]
  constructor
  · rintro ⟨⟨⟨a, b⟩, c⟩, d⟩; exact ⟨a, b, c, d⟩
  · rintro ⟨a, b, c, d⟩; exact ⟨⟨⟨a, b⟩, c⟩, d⟩
theorem fr_form (r q : ByteArray) (h4 : 4 ≤ r.size) (h : (frT r).2 = some q) : r = r.extract 0 4 ++ (showT (frT r).1 ++ q) := by
  obtain ⟨m, hm, e⟩ := oT_some h
  have hm' : r.extract 4 r.size = m := Option.some.inj hm
  have h1 := ext_split r 4
  have e' : m = showT (frT r).1 ++ q := e
  rw [← e', ← hm']
  exact h1
theorem frOk_split (r : ByteArray) (h : frOk r = true) : r = frameS (frC r) ++ frR r ∧ (frC r).size ≤ 200 := by
  obtain ⟨h4, ⟨q, hq⟩, hs, hc⟩ := (frOk_iff r).1 h
  have e1 : frC r = (frT r).1 := by unfold frC; rfl
  have e2 : frR r = q := by unfold frR; rw [hq]; rfl
  rw [e1, e2]
  refine ⟨?_, hs⟩
  rw [frameS_ok _ hs, hc, fix4_read r h4, append_assoc]
  exact fr_form r q h4 hq
theorem fr_back (t q : ByteArray) (h : t.size ≤ 200) : frOk (frameS t ++ q) = true ∧ frC (frameS t ++ q) = t ∧ frR (frameS t ++ q) = q := by
  have hz := showT_pos t
  have e : frameS t ++ q = fix4 (crcV (showT t)) ++ (showT t ++ q) := by rw [frameS_ok t h, append_assoc]
  have hf : (fix4 (crcV (showT t))).size = 4 := fix4_size _
  have hx : (fix4 (crcV (showT t)) ++ (showT t ++ q)).extract 4 (fix4 (crcV (showT t)) ++ (showT t ++ q)).size = showT t ++ q := by
    apply bytes_ext
    rw [ext_data, ByteArray.size_append, hf, data_append (fix4 _)]
    have hl : (fix4 (crcV (showT t))).data.toList.length = 4 := by rw [← size_data]; exact hf
    rw [List.drop_append, List.drop_of_length_le (by omega), List.nil_append, hl, Nat.sub_self, List.drop_zero, List.take_of_length_le]
    rw [← size_data]
    omega
  have ht : frT (fix4 (crcV (showT t)) ++ (showT t ++ q)) = (t, some q) := by
    unfold frT
    rw [hx]
    exact oT_text t q (by omega)
  rw [e]
  refine ⟨(frOk_iff _).2 ⟨by rw [ByteArray.size_append, hf]; omega, ⟨q, by rw [ht]⟩, by rw [ht]; exact h, ?_⟩, by unfold frC; rw [ht], by unfold frR; rw [ht]; rfl⟩
  rw [ht, fix4_back _ (crcV_nonneg _) (crcV_le _)]
/-- What a beginning says of a frame the whole says. -/
theorem fr_longer (p q : ByteArray) (h : frOk p = true) : frOk (p ++ q) = true ∧ frC (p ++ q) = frC p ∧ frR (p ++ q) = frR p ++ q := by
  obtain ⟨e, hs⟩ := frOk_split p h
  have e2 : p ++ q = frameS (frC p) ++ (frR p ++ q) := by
    rw [← append_assoc, ← e]
  have hb := fr_back (frC p) (frR p ++ q) hs
  rw [← e2] at hb
  exact hb
theorem frR_size (r : ByteArray) (h : frOk r = true) : r.size = (frameS (frC r)).size + (frR r).size ∧ 5 ≤ (frameS (frC r)).size := by
  obtain ⟨e, hs⟩ := frOk_split r h
  refine ⟨?_, ?_⟩
  · have e2 := congrArg ByteArray.size e
    rw [ByteArray.size_append] at e2
    exact e2
  · rw [frameS_size _ hs]
    have := showT_pos (frC r)
    omega

/-! ### the frames, one behind the other -/
/-- What stands behind k frames. -/
def fS (s : ByteArray) : Nat → ByteArray
  | 0 => s
  | k + 1 => frR (fS s k)
def fL (s : ByteArray) (k : Nat) : List ByteArray := (List.range k).map fun i => frC (fS s i)
theorem fL_length (s : ByteArray) (k : Nat) : (fL s k).length = k := by simp [fL]
theorem fL_succ (s : ByteArray) (k : Nat) : fL s (k + 1) = fL s k ++ [frC (fS s k)] := by
  unfold fL
  rw [List.range_succ]
  simp
theorem fL_el (s : ByteArray) (k j : Nat) (h : j < k) : el (fL s k) j = frC (fS s j) := by
  rw [el_eq, List.getD, fL, List.getElem?_map, List.getElem?_range h]
  rfl
def nFu : Nat → ByteArray → Nat
  | 0, _ => 0
  | f + 1, r => if frOk r then nFu f (frR r) + 1 else 0
/-- How many frames stand there. -/
@[irreducible] def nF (s : ByteArray) : Nat := nFu (s.size + 1) s
theorem fS_shift (s : ByteArray) (k : Nat) : fS (frR s) k = fS s (k + 1) := by
  induction k with
  | zero => rfl
  | succ k ih => show frR (fS (frR s) k) = _; rw [ih]; rfl
theorem nFu_ok (f : Nat) (s : ByteArray) (hf : s.size < f) : (∀ i, i < nFu f s → frOk (fS s i) = true) ∧ frOk (fS s (nFu f s)) = false := by
  induction f generalizing s with
  | zero => omega
  | succ f ih =>
    unfold nFu
    cases h : frOk s
    · simp only [Bool.false_eq_true, if_false]
      exact ⟨fun i hi => by omega, h⟩
    · simp only [if_true]
      obtain ⟨hz, h5⟩ := frR_size s h
      obtain ⟨h1, h2⟩ := ih (frR s) (by omega)
      refine ⟨fun i hi => ?_, by rw [← fS_shift]; exact h2⟩
      cases i with
      | zero => exact h
      | succ i => rw [← fS_shift]; exact h1 i (by omega)
theorem nF_ok (s : ByteArray) (i : Nat) (h : i < nF s) : frOk (fS s i) = true := by
  unfold nF at h
  exact (nFu_ok (s.size + 1) s (by omega)).1 i h
theorem nF_end (s : ByteArray) : frOk (fS s (nF s)) = false := by
  unfold nF
  exact (nFu_ok (s.size + 1) s (by omega)).2
theorem nF_more (s : ByteArray) (k : Nat) (hk : k ≤ nF s) (h : frOk (fS s k) = true) : k < nF s := by
  rcases Nat.lt_or_ge k (nF s) with h' | h'
  · exact h'
  · obtain rfl : k = nF s := by omega
    rw [nF_end] at h
    cases h
theorem nF_last (s : ByteArray) (k : Nat) (hk : k ≤ nF s) (h : frOk (fS s k) = false) : k = nF s := by
  rcases Nat.lt_or_ge k (nF s) with h' | h'
  · rw [nF_ok s k h'] at h
    cases h
  · omega
theorem nF_of (s : ByteArray) (k : Nat) (h : ∀ i, i < k → frOk (fS s i) = true) : k ≤ nF s := by
  induction k with
  | zero => omega
  | succ k ih => exact nF_more s k (ih fun i hi => h i (by omega)) (h k (by omega))
/-- The place behind k frames. -/
@[irreducible] def fP (s : ByteArray) (k : Nat) : Nat := s.size - (fS s k).size
theorem fS_size (s : ByteArray) (k : Nat) (hk : k ≤ nF s) : (fS s k).size + 5 * k ≤ s.size := by
  induction k with
  | zero => exact Nat.le_refl _
  | succ k ih =>
    have := ih (by omega)
    obtain ⟨h1, h2⟩ := frR_size (fS s k) (nF_ok s k (by omega))
    show (frR (fS s k)).size + 5 * (k + 1) ≤ s.size
    omega
theorem fP_size (s : ByteArray) (k : Nat) (hk : k ≤ nF s) : fP s k + (fS s k).size = s.size := by
  unfold fP
  have := fS_size s k hk
  omega
theorem fP_zero (s : ByteArray) : fP s 0 = 0 := by unfold fP; exact Nat.sub_self _
theorem fP_succ (s : ByteArray) (k : Nat) (hk : k < nF s) : fP s (k + 1) = fP s k + (frameS (frC (fS s k))).size := by
  have a := fP_size s k (by omega)
  have b := fP_size s (k + 1) (by omega)
  obtain ⟨h1, h2⟩ := frR_size (fS s k) (nF_ok s k hk)
  have e : (fS s (k + 1)).size = (frR (fS s k)).size := rfl
  omega
theorem ext_behind (a b : ByteArray) : (a ++ b).extract a.size (a ++ b).size = b := by
  apply bytes_ext
  rw [ext_data, data_append, ByteArray.size_append, size_data a, List.drop_left, List.take_of_length_le]
  rw [← size_data b]
  omega
theorem ext_front (a b : ByteArray) : (a ++ b).extract 0 a.size = a := by
  apply bytes_ext
  rw [ext_data, data_append, List.drop_zero, Nat.sub_zero, size_data, List.take_left]
theorem fS_ext (s : ByteArray) (k : Nat) (hk : k ≤ nF s) : s.extract (fP s k) s.size = fS s k := by
  induction k with
  | zero => rw [fP_zero]; exact ext_all s
  | succ k ih =>
    have e := ih (by omega)
    have hp := fP_size s k (by omega)
    obtain ⟨h1, h2⟩ := frOk_split (fS s k) (nF_ok s k (by omega))
    have hz := (frR_size (fS s k) (nF_ok s k (by omega))).1
    rw [fP_succ s k (by omega)]
    show _ = frR (fS s k)
    have e2 : frR (fS s k) = (fS s k).extract (frameS (frC (fS s k))).size (fS s k).size := by
      have := ext_behind (frameS (frC (fS s k))) (frR (fS s k))
      rw [← h1] at this
      exact this.symm
    rw [e2, ← e, ext_ext s _ _ _ _ (Nat.le_refl _) (by rw [ext_size s _ _ (Nat.le_refl _)]; omega), e]
    congr 1
    omega
/-- The frames' texts are what stands up to that place. -/
theorem fS_cat (s : ByteArray) (k : Nat) (hk : k ≤ nF s) : catN ((fL s (nF s)).map frameS) k = s.extract 0 (fP s k) := by
  induction k with
  | zero => rw [catN_zero, fP_zero]; apply bytes_ext; rw [ext_data]; simp
  | succ k ih =>
    have hz := (frR_size (fS s k) (nF_ok s k (by omega))).1
    have hp := fP_size s k (by omega)
    have h1 := (frOk_split (fS s k) (nF_ok s k (by omega))).1
    have hE : el ((fL s (nF s)).map frameS) k = frameS (frC (fS s k)) := by
      rw [el_eq, List.getD, List.getElem?_map, el_get (fL s (nF s)) k (by rw [fL_length]; omega), fL_el s _ k (by omega)]
      rfl
    have hX : frameS (frC (fS s k)) = s.extract (fP s k) (fP s (k + 1)) := by
      have := ext_front (frameS (frC (fS s k))) (frR (fS s k))
      rw [← h1] at this
      rw [← this, ← fS_ext s k (by omega), ext_ext s _ _ _ _ (Nat.le_refl _) (by rw [fS_ext s k (by omega)]; omega), fS_ext s k (by omega), fP_succ s k (by omega)]
      rfl
    rw [catN_succ, ih (by omega), hE, hX, ext_join s _ _ _ (by omega) (by rw [fP_succ s k (by omega)]; omega)]
/-- The frames of a beginning are a beginning of the frames. -/
theorem fr_prefix (p q : ByteArray) (k : Nat) (hk : k ≤ nF p) : fS (p ++ q) k = fS p k ++ q ∧ k ≤ nF (p ++ q) ∧ fL (p ++ q) k = fL p k := by
  induction k with
  | zero => exact ⟨rfl, by omega, rfl⟩
  | succ k ih =>
    obtain ⟨h1, h2, h3⟩ := ih (by omega)
    obtain ⟨a, b, c⟩ := fr_longer (fS p k) q (nF_ok p k (by omega))
    rw [← h1] at a b c
    refine ⟨c, nF_more _ k h2 a, ?_⟩
    rw [fL_succ, fL_succ, h3, b]
end Go.Proofs.YtmnglcidklckgaaDoor
