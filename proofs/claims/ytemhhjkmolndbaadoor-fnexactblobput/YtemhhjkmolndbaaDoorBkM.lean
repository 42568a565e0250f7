/- Valid stores of chunks, in plain words. -/
import Derived.Test.YtemhhjkmolndbaaDoorBlTo
import Derived.Test.YtemhhjkmolndbaaDoorShaShort
namespace Go.Proofs.YtemhhjkmolndbaaDoor
open Go.RowKit Go.PlainAid
set_option linter.unusedVariables false

/-- What a chunk is called. -/
@[irreducible] def sh8 (s : ByteArray) : ByteArray := (shaD s).extract 0 8
theorem sh8_eq (s : ByteArray) : sh8 s = (shaD s).extract 0 8 := by unfold sh8; rfl
theorem sh8_size (s : ByteArray) : (sh8 s).size = 8 := by
  rw [sh8_eq, ByteArray.size_extract, shaD_size]
  rfl
/-- The two tables, as the program's text lays them. -/
structure Tabs (w : World) : Prop where
  k : TabK w
  s : TabS w
theorem Tabs.later {w w' : World} (h : Tabs w) (hb : Below w.heap.size w w') : Tabs w' := ⟨h.k.later hb, h.s.later hb⟩
theorem Tabs.alloc {w : World} (h : Tabs w) (o : Obj) : Tabs (w.alloc o) := h.later ((Below.refl _ _).alloc (Nat.le_refl _) _)
theorem Tabs.drew {w : World} (h : Tabs w) : Tabs w.drew := h.later (Below.refl _ _).drew
@[irreducible] def okOne (i d : ByteArray) (b : Bool) : Bool := decide (d.size ≤ 40 ∧ i.size = 8 ∧ (b = false → i = sh8 d))
theorem okOne_iff (i d : ByteArray) (b : Bool) : okOne i d b = true ↔ (d.size ≤ 40 ∧ i.size = 8 ∧ (b = false → i = sh8 d)) := by unfold okOne; exact decide_eq_true_iff
theorem okOne_no {i d : ByteArray} {b : Bool} (h : ¬ (d.size ≤ 40 ∧ i.size = 8 ∧ (b = false → i = sh8 d))) : okOne i d b = false := by
  cases e : okOne i d b with
  | false => rfl
  | true => exact absurd ((okOne_iff i d b).1 e) h
/-- Chunk j and the one before it. -/
abbrev lessJ (l : List Bb) (j : Nat) : Bool := Op.bytesLess (bI l (j - 1)).toList (bI l j).toList
@[irreducible] def okJ (l : List Bb) (j : Nat) : Bool := okOne (bI l j) (bD l j) (bX l j) && (decide (j = 0) || lessJ l j)
theorem okJ_iff (l : List Bb) (j : Nat) : okJ l j = true ↔ (okOne (bI l j) (bD l j) (bX l j) = true ∧ (0 < j → lessJ l j = true)) := by
  unfold okJ
  rw [Bool.and_eq_true, Bool.or_eq_true, decide_eq_true_iff]
  constructor
  · rintro ⟨a, b⟩; exact ⟨a, fun h => b.resolve_left (by omega)⟩
  · rintro ⟨a, b⟩
    refine ⟨a, ?_⟩
    by_cases h : j = 0
    · exact .inl h
    · exact .inr (b (by omega))
/-- The bytes of the first k chunks. -/
def dS (l : List Bb) : Nat → Nat
  | 0 => 0
  | k + 1 => dS l k + (bD l k).size
theorem dS_succ (l : List Bb) (k : Nat) : dS l (k + 1) = dS l k + (bD l k).size := rfl
theorem dS_le {l : List Bb} (h : Sml l) (k : Nat) (hk : k ≤ l.length) : dS l k ≤ k * 1048576 := by
  induction k with
  | zero => simp [dS]
  | succ k ih =>
    have := ih (by omega)
    have := (h k (by omega)).2
    rw [dS_succ]
    omega
@[irreducible] def okS (q : Int) (l : List Bb) : Bool := decide ((0 ≤ q ∧ q ≤ 1000) ∧ l.length ≤ 12 ∧ (dS l l.length : Int) ≤ q ∧ ∀ j, j < l.length → okJ l j = true)
theorem okS_iff (q : Int) (l : List Bb) : okS q l = true ↔ ((0 ≤ q ∧ q ≤ 1000) ∧ l.length ≤ 12 ∧ (dS l l.length : Int) ≤ q ∧ ∀ j, j < l.length → okJ l j = true) := by unfold okS; exact decide_eq_true_iff
theorem okS_no {q : Int} {l : List Bb} (h : ¬ ((0 ≤ q ∧ q ≤ 1000) ∧ l.length ≤ 12 ∧ (dS l l.length : Int) ≤ q ∧ ∀ j, j < l.length → okJ l j = true)) : okS q l = false := by
  cases e : okS q l with
  | false => rfl
  | true => exact absurd ((okS_iff q l).1 e) h
theorem okS_small {q : Int} {l : List Bb} (h : okS q l = true) : Sml l := fun j hj => by
  have := ((okOne_iff _ _ _).1 ((okJ_iff l j).1 (((okS_iff q l).1 h).2.2.2 j hj)).1)
  omega
theorem Blbs.at0 {w : World} {v : Value} {l : List Bb} (h : Blbs w v l) (h0 : 0 < l.length) : ∃ b o cap, v = .slice (some ⟨b, o, none⟩) l.length cap ∧ l.length ≤ cap ∧ b < w.heap.size ∧ ∀ j, j < l.length → BbAt w b o l j := by
  obtain ⟨_, _, a, cap, rfl, hc, h3⟩ := h
  obtain ⟨b, o, rfl, hb, hx⟩ := h3 h0
  exact ⟨b, o, cap, rfl, hc, hb, hx⟩
theorem Blbs.slice {w : World} {v : Value} {l : List Bb} (h : Blbs w v l) : ∃ a cap, v = .slice a l.length cap := by
  obtain ⟨_, _, a, cap, rfl, hc, h3⟩ := h
  exact ⟨a, cap, rfl⟩
end Go.Proofs.YtemhhjkmolndbaaDoor
