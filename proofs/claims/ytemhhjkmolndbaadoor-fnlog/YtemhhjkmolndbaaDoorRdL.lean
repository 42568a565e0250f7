/- What LogRead answers, in plain words. -/
import Derived.Test.YtemhhjkmolndbaaDoorLogF
namespace Go.Proofs.YtemhhjkmolndbaaDoor
open Go.RowKit Go.PlainAid
set_option linter.unusedVariables false

/-- How many of the records from number c on are at most m. -/
def rdD (m c : Int) : Nat := (m + 1 - c).toNat
theorem rdD_le (m c : Int) (k : Nat) : rdD m c ≤ k ↔ m < c + k := by unfold rdD; omega
/-- The records of the first k segments above m. -/
def rdA (l : List Sg) (m : Int) : Nat → List ByteArray
  | 0 => []
  | k + 1 => rdA l m k ++ (fL (sT l k) (nF (sT l k))).drop (rdD m (atN l k))
theorem rdA_succ (l : List Sg) (m : Int) (k : Nat) : rdA l m (k + 1) = rdA l m k ++ (fL (sT l k) (nF (sT l k))).drop (rdD m (atN l k)) := rfl
@[irreducible] def rdR (l : List Sg) (n m : Int) : List ByteArray := if okB l n m = true then rdA l m l.length else []
theorem rdR_ok (l : List Sg) (n m : Int) (h : okB l n m = true) : rdR l n m = rdA l m l.length := by unfold rdR; rw [if_pos h]
theorem rdR_no (l : List Sg) (n m : Int) (h : okB l n m = false) : rdR l n m = [] := by unfold rdR; rw [h]; rfl
theorem drop_snoc_in {α : Type} (xs : List α) (x : α) (d : Nat) (h : d ≤ xs.length) : (xs ++ [x]).drop d = xs.drop d ++ [x] := by
  rw [List.drop_append_of_le_length h]
theorem drop_snoc_out {α : Type} (xs : List α) (x : α) (d : Nat) (h : xs.length < d) : (xs ++ [x]).drop d = xs.drop d := by
  rw [List.drop_of_length_le (by rw [List.length_append]; simp; omega), List.drop_of_length_le (by omega)]
theorem rdA_len (l : List Sg) (m : Int) (k : Nat) : ((rdA l m k).length : Int) ≤ atN l k - sF l 0 := by
  induction k with
  | zero => show ((0 : Nat) : Int) ≤ sF l 0 - sF l 0; omega
  | succ k ih =>
    rw [rdA_succ, atN_succ, List.length_append, List.length_drop, fL_length]
    omega
theorem fL_small2 (s : ByteArray) (j : Nat) (hj : j < (fL s (nF s)).length) : (el (fL s (nF s)) j).size ≤ 200 := by
  rw [fL_length] at hj
  rw [fL_el s _ j hj]
  exact (frOk_split (fS s j) (nF_ok s j (by omega))).2
theorem rdA_mem (l : List Sg) (m : Int) (k : Nat) (x : ByteArray) (hx : x ∈ rdA l m k) : x.size ≤ 200 := by
  induction k with
  | zero => simp [rdA] at hx
  | succ k ih =>
    rw [rdA_succ, List.mem_append] at hx
    rcases hx with hx | hx
    · exact ih hx
    · have hx2 := List.mem_of_mem_drop hx
      unfold fL at hx2
      rw [List.mem_map] at hx2
      obtain ⟨i, hi, rfl⟩ := hx2
      rw [List.mem_range] at hi
      exact (frOk_split (fS (sT l k) i) (nF_ok _ i hi)).2
theorem rdR_fit (l : List Sg) (n m : Int) : (rdR l n m).length ≤ 1000 ∧ ∀ x ∈ rdR l n m, x.size ≤ 200 := by
  cases h : okB l n m with
  | false => rw [rdR_no l n m h]; exact ⟨by simp, fun x hx => by simp at hx⟩
  | true =>
    rw [rdR_ok l n m h]
    obtain ⟨_, _, h1, h2, _, _, h3, _⟩ := (okB_iff l n m).1 h
    have := rdA_len l m l.length
    exact ⟨by omega, fun x hx => rdA_mem l m _ x hx⟩
end Go.Proofs.YtemhhjkmolndbaaDoor
