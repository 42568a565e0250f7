/- What LogMark, LogAdd and LogCut answer, in plain words. -/
import Derived.Test.YtemhhjkmolndbaaDoorUncM
import Derived.Test.YtemhhjkmolndbaaDoorSgA
namespace Go.Proofs.YtemhhjkmolndbaaDoor
open Go.RowKit Go.PlainAid
set_option linter.unusedVariables false

/-- A log and a bool. -/
structure LR where
  sg : List Sg
  nx : Int
  mt : Int
  ok : Bool
/-- The call returns r; its segments lie in a block behind base. -/
def RetLog (base : Nat) (r : LR) (e : Ending) (w : World) : Prop := ∃ a c cap, e = .returned (.tuple #[.agg #[.slice a c cap, .int .i64 r.nx, .int .i64 r.mt], .bool r.ok]) ∧ SegOwn w base (.slice a c cap) r.sg ∧ (0 < r.sg.length ∨ a = none)
/-- Not so long that a machine could not hold it. -/
structure LR.fit (r : LR) : Prop where
  len : r.sg.length ≤ 1000
  size : ∀ j, j < r.sg.length → (sT r.sg j).size ≤ 9223372036854775807
def noR : LR := ⟨[], 0, 0, false⟩
theorem noR_fit : noR.fit := ⟨by simp [noR], fun j hj => by simp [noR] at hj⟩
@[irreducible] def markR (l : List Sg) (n m k : Int) : LR := if okB l n m = true then (if m ≤ k ∧ k ≤ n - 1 then ⟨l.drop (dN l k), n, k, true⟩ else ⟨l, n, m, false⟩) else noR
theorem markR_no (l : List Sg) (n m k : Int) (h : okB l n m = false) : markR l n m k = noR := by unfold markR; rw [h]; rfl
theorem markR_out (l : List Sg) (n m k : Int) (h : okB l n m = true) (h2 : ¬ (m ≤ k ∧ k ≤ n - 1)) : markR l n m k = ⟨l, n, m, false⟩ := by unfold markR; rw [if_pos h, if_neg h2]
theorem markR_in (l : List Sg) (n m k : Int) (h : okB l n m = true) (h2 : m ≤ k ∧ k ≤ n - 1) : markR l n m k = ⟨l.drop (dN l k), n, k, true⟩ := by unfold markR; rw [if_pos h, if_pos h2]
theorem okB_len {l : List Sg} {n m : Int} (h : okB l n m = true) : 1 ≤ l.length ∧ l.length ≤ 6 := by obtain ⟨a, b, _⟩ := (okB_iff l n m).1 h; exact ⟨a, b⟩
theorem okB_n {l : List Sg} {n m : Int} (h : okB l n m = true) : 1 ≤ n ∧ n ≤ 1000 ∧ 0 ≤ m ∧ m ≤ n - 1 := by
  obtain ⟨_, _, _, a, b, c, _⟩ := (okB_iff l n m).1 h
  omega
theorem okB_F {l : List Sg} {n m : Int} (h : okB l n m = true) (j : Nat) (hj : j < l.length) : sF l j = atN l j ∧ 1 ≤ sF l j ∧ sF l j ≤ n := by
  obtain ⟨_, _, h1, _, _, _, h2, h3⟩ := (okB_iff l n m).1 h
  have e := ((gB_iff l m j).1 (h3 j hj)).1
  have a := atN_mono l 0 j (by omega)
  have b := atN_mono l j l.length (by omega)
  have c : atN l 0 = sF l 0 := rfl
  omega
theorem markR_fit (l : List Sg) (n m k : Int) (ht : ∀ j, j < l.length → (sT l j).size ≤ 1048576) : (markR l n m k).fit := by
  cases h : okB l n m with
  | false => rw [markR_no l n m k h]; exact noR_fit
  | true =>
    have hl := okB_len h
    by_cases h2 : m ≤ k ∧ k ≤ n - 1
    · rw [markR_in l n m k h h2]
      exact ⟨by simp only [List.length_drop]; omega, fun j hj => by
        simp only [List.length_drop] at hj
        simp only [sT_drop]
        have := ht (dN l k + j) (by omega)
        omega⟩
    · rw [markR_out l n m k h h2]
      exact ⟨by simp only; omega, fun j hj => by have := ht j hj; simp only; omega⟩
end Go.Proofs.YtemhhjkmolndbaaDoor
