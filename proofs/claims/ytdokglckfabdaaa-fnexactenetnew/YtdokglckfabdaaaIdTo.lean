/- The law's measure of Ids, and its copy of them. -/
import Derived.Test.YtdokglckfabdaaaIdO
namespace Go.Proofs.Ytdokglckfabdaaa
open Go.RowKit Go.PlainAid
set_option linter.unusedVariables false

/-! ### the measure -/
/-! ### the copy -/
/-- The first j Ids are there, behind them empty ones. -/
def toI (l : List Ii) (j : Nat) : List Ii := (List.range l.length).map fun i => if i < j then ⟨iR l i, iS l i⟩ else ii0
theorem toI_length (l : List Ii) (j : Nat) : (toI l j).length = l.length := by simp [toI]
theorem toI_get (l : List Ii) (j i : Nat) (h : i < l.length) : (toI l j)[i]? = some (if i < j then ⟨iR l i, iS l i⟩ else ii0) := by
  rw [toI, List.getElem?_map, List.getElem?_range h]
  rfl
theorem toI_at (l : List Ii) (j i : Nat) (h : i < l.length) : iR (toI l j) i = (if i < j then iR l i else 0) ∧ iS (toI l j) i = (if i < j then iS l i else 0) := by
  have g := toI_get l j i h
  rw [iR_of g, iS_of g]
  split <;> exact ⟨rfl, rfl⟩
theorem toI_all (l : List Ii) : toI l l.length = l :=
  ii_ext _ _ (toI_length l _) fun j hj => by rw [toI_length] at hj; obtain ⟨a, b⟩ := toI_at l l.length j hj; rw [a, b, if_pos hj, if_pos hj]; exact ⟨rfl, rfl⟩
theorem toI_step (l : List Ii) (j : Nat) (h : j < l.length) (x : Ii) (hx : x = ⟨iR l j, iS l j⟩) : (toI l j).set j x = toI l (j + 1) := by
  subst hx
  apply ii_ext
  · rw [List.length_set, toI_length, toI_length]
  · intro i hi
    rw [List.length_set, toI_length] at hi
    obtain ⟨a1, a2⟩ := ii_set (toI l j) j i ⟨iR l j, iS l j⟩ (by rw [toI_length]; exact h)
    obtain ⟨b1, b2⟩ := toI_at l j i hi
    obtain ⟨c1, c2⟩ := toI_at l (j + 1) i hi
    rw [a1, a2, b1, b2, c1, c2]
    by_cases e : i = j
    · subst e; simp
    · by_cases e2 : i < j
      · simp [e, e2, show i < j + 1 by omega]
      · simp [e, e2, show ¬ i < j + 1 by omega]
/-- An Id is written whole. -/
theorem IdOwn.put {w : World} {base g o n cap : Nat} {l : List Ii} (h : IdOwn w base (.slice (some ⟨g, o, none⟩) n cap) l) (j : Nat) (x : Ii) (hj : j < l.length) :
    IdOwn ((w.setCell ⟨g, o + j * 2, none⟩ (.int .i64 x.rep)).setCell ⟨g, o + j * 2 + 1, none⟩ (.int .i64 x.slot)) base (.slice (some ⟨g, o, none⟩) n cap) (l.set j x) := by
  have h1 := h.setR j x.rep hj
  have h2 := h1.setS j x.slot (by rw [List.length_set]; exact hj)
  rw [List.set_set] at h2
  obtain ⟨p1, p2⟩ := ii_set l j j ⟨x.rep, iS l j⟩ hj
  simp only [if_true] at p1 p2
  rw [p1] at h2
  exact h2
theorem Try.infoId : (Try.prog.info? 44).map (fun i => (i.zero, i.size, i.bytes)) = some (some (.agg #[.int .i64 0, .int .i64 0]), 2, 16) := by kernel_rfl
/-- make([]Id, n). -/
theorem make_ids (w : World) (l : List Ii) (n : Nat) (hn : l.length = n) (hb : n ≤ 1048576) :
    ∃ w1, (Instr.makeSlice 48 (.int .i64 (n : Int)) (.int .i64 (n : Int))).run Try.prog w = .ok (.slice (some ⟨w.heap.size, 0, none⟩) n n) w1 ∧ IdOwn w1 w.heap.size (.slice (some ⟨w.heap.size, 0, none⟩) n n) (toI l 0) ∧ Below w.heap.size w w1 ∧ w.heap.size < w1.heap.size := by
  obtain ⟨i, hi, hz, hs, hby⟩ := info_parts Try.infoId
  have h := run_make (P := Try.prog) w 48 44 i _ Try.underlying48 hi hz .i64 .i64 n n (by omega) (Int.le_refl _) (by rw [hby]; omega) (by omega)
  simp only [Int.toNat_natCast, hs] at h
  refine ⟨_, h, ⟨_, n, by rw [toI_length, hn], by rw [toI_length, hn]; exact Nat.le_refl _, by rw [toI_length, hn]; omega, fun h0 => ⟨w.heap.size, 0, _, rfl, ⟨Nat.le_refl _, by simp [madeCells]⟩, heap_alloc_new w _, fun j hj => ?_⟩⟩, (Below.refl _ _).alloc (Nat.le_refl _) _, by simp⟩
  rw [toI_length] at hj
  obtain ⟨a1, a2⟩ := toI_at l 0 j hj
  rw [a1, a2, if_neg (by omega), if_neg (by omega), Nat.zero_add]
  have hc : (Value.agg #[.int .i64 0, .int .i64 0]).cells = #[.int .i64 0, .int .i64 0] := rfl
  rw [hc]
  refine ⟨?_, ?_⟩
  · simp [madeCells, show j * 2 < n * 2 by omega, show j * 2 % 2 = 0 by omega]
  · simp [madeCells, show j * 2 + 1 < n * 2 by omega, show (j * 2 + 1) % 2 = 1 by omega]

end Go.Proofs.Ytdokglckfabdaaa
