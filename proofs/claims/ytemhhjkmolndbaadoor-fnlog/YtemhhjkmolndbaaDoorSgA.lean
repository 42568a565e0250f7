import Derived.Test.YtemhhjkmolndbaaDoorSgM
import Derived.Test.YtemhhjkmolndbaaDoorStrsE
import Derived.Test.YtemhhjkmolndbaaDoorMarkT
import Derived.Test.YtemhhjkmolndbaaDoorBx
/- The law's comparison of segments, of slices of them and of logs. -/
namespace Go.Proofs.YtemhhjkmolndbaaDoor
open Go.RowKit Go.PlainAid
set_option linter.unusedVariables false

theorem bcell {W w1 : World} (hb : Below W.heap.size W w1) : (∀ b o, b < W.heap.size → w1.cell? ⟨b, o, none⟩ = W.cell? ⟨b, o, none⟩) ∧ (∀ b o, b < W.heap.size → w1.frozen? ⟨b, o, none⟩ = W.frozen? ⟨b, o, none⟩) :=
  ⟨fun b o h => hb.cell (p := ⟨b, o, none⟩) h, fun b o h => hb.frozen (p := ⟨b, o, none⟩) h⟩
end Go.Proofs.YtemhhjkmolndbaaDoor
/- Segments that a call owns: the laws' marks on them. -/
namespace Go.Proofs.YtemhhjkmolndbaaDoor
open Go.RowKit Go.PlainAid
set_option linter.unusedVariables false

/-- The slice v holds l, in a block of its own behind base. -/
def SegOwn (w : World) (base : Nat) (v : Value) (l : List Sg) : Prop :=
  ∃ a cap, v = .slice a l.length cap ∧ l.length ≤ cap ∧ l.length ≤ 9223372036854775807 ∧ (0 < l.length → ∃ g o cur, a = some ⟨g, o, none⟩ ∧ (base ≤ g ∧ o + cap * 2 ≤ cur.size) ∧ w.heap[g]? = some (.cells cur 63 (0, 0)) ∧ ∀ j, j < l.length → cur[o + j * 2]? = some (.int .i64 (sF l j)) ∧ cur[o + j * 2 + 1]? = some (.string (sT l j)))
theorem SegOwn.form {w : World} {base : Nat} {v : Value} {l : List Sg} (h : SegOwn w base v l) : ∃ a n cap, v = .slice a n cap := by
  obtain ⟨a, cap, e, _⟩ := h
  exact ⟨a, _, cap, e⟩
theorem SegOwn.mono {w : World} {base base' : Nat} {v : Value} {l : List Sg} (h : SegOwn w base v l) (hb : base' ≤ base) : SegOwn w base' v l := by
  obtain ⟨a, cap, e, h1, h2, h3⟩ := h
  exact ⟨a, cap, e, h1, h2, fun h0 => by obtain ⟨g, o, cur, r1, r2, r3⟩ := h3 h0; exact ⟨g, o, cur, r1, ⟨Nat.le_trans hb r2.1, r2.2⟩, r3⟩⟩
theorem SegOwn.segs {w : World} {base : Nat} {v : Value} {l : List Sg} (h : SegOwn w base v l) (hs : ∀ j, j < l.length → (sT l j).size ≤ 9223372036854775807) : Segs w v l := by
  obtain ⟨a, cap, e, h1, h2, h3⟩ := h
  refine ⟨h2, hs, a, cap, e, h1, fun h0 => ?_⟩
  obtain ⟨g, o, cur, r1, r2, r3, r4⟩ := h3 h0
  refine ⟨g, o, r1, (Array.getElem?_eq_some_iff.1 r3).1, fun j hj => ?_⟩
  rw [cell_of_row w g _ cur _ (0, 0) r3, cell_of_row w g _ cur _ (0, 0) r3]
  exact r4 j hj
theorem SegOwn.later {w w' : World} {base : Nat} {v : Value} {l : List Sg} (h : SegOwn w base v l) (hb : Below w.heap.size w w') : SegOwn w' base v l := by
  obtain ⟨a, cap, e, h1, h2, h3⟩ := h
  refine ⟨a, cap, e, h1, h2, fun h0 => ?_⟩
  obtain ⟨g, o, cur, r1, r2, r3, r4⟩ := h3 h0
  exact ⟨g, o, cur, r1, r2, by rw [hb.block g (Array.getElem?_eq_some_iff.1 r3).1]; exact r3, r4⟩
theorem SegOwn.alloc {w : World} {base : Nat} {v : Value} {l : List Sg} (h : SegOwn w base v l) (o : Obj) : SegOwn (w.alloc o) base v l := h.later ((Below.refl _ _).alloc (Nat.le_refl _) _)
theorem segOwn_nil (w : World) (base : Nat) (a : Option Addr) (cap : Nat) : SegOwn w base (.slice a 0 cap) [] := ⟨a, cap, rfl, by simp, by simp, fun h => by simp at h⟩
/-- A block that is written elsewhere. -/
theorem SegOwn.kept {w w' : World} {base : Nat} {v : Value} {l : List Sg} {row : Option Nat} (h : SegOwn w base v l) (hg : w.grownBy w' row) (hne : ∀ k, row = some k → k < base) : SegOwn w' base v l := by
  obtain ⟨a, cap, e, h1, h2, h3⟩ := h
  refine ⟨a, cap, e, h1, h2, fun h0 => ?_⟩
  obtain ⟨g, o, cur, r1, r2, r3, r4⟩ := h3 h0
  refine ⟨g, o, cur, r1, r2, ?_, r4⟩
  rw [hg.block g (Array.getElem?_eq_some_iff.1 r3).1 (fun e => by have := hne g e.symm; omega)]
  exact r3
/-- One field of one segment is written. -/
theorem SegOwn.setF {w : World} {base g o n cap : Nat} {l : List Sg} (h : SegOwn w base (.slice (some ⟨g, o, none⟩) n cap) l) (j : Nat) (z : Int) (hj : j < l.length) :
    SegOwn (w.setCell ⟨g, o + j * 2, none⟩ (.int .i64 z)) base (.slice (some ⟨g, o, none⟩) n cap) (l.set j ⟨z, sT l j⟩) := by
  obtain ⟨a, c, e, h1, h2, h3⟩ := h
  refine ⟨a, c, by rw [List.length_set]; exact e, by rw [List.length_set]; exact h1, by rw [List.length_set]; exact h2, fun _ => ?_⟩
  obtain ⟨g', o', cur, r1, r2, r3, r4⟩ := h3 (by omega)
  subst r1
  simp only [Value.slice.injEq, Option.some.injEq, Addr.mk.injEq] at e
  obtain ⟨⟨rfl, rfl, _⟩, _, _⟩ := e
  refine ⟨g, o, cur.setIfInBounds (o + j * 2) (.int .i64 z), rfl, by simpa using r2, by rw [setCell_eq_setRow w g _ _ _ _ _ r3, setRow_heap w g _ _ _ _ r3], fun i hi => ?_⟩
  rw [List.length_set] at hi
  obtain ⟨q1, q2⟩ := r4 i hi
  have hz := (Array.getElem?_eq_some_iff.1 (r4 j hj).1).1
  rw [sF_set l j i _ hj, sT_set l j i _ hj, Array.getElem?_setIfInBounds, Array.getElem?_setIfInBounds]
  by_cases e : i = j
  · subst e
    rw [if_pos rfl, if_pos hz, if_pos rfl, if_neg (by omega), if_pos rfl]
    exact ⟨rfl, q2⟩
  · rw [if_neg (by omega), if_neg e, if_neg (by omega), if_neg e]
    exact ⟨q1, q2⟩
theorem SegOwn.setT {w : World} {base g o n cap : Nat} {l : List Sg} (h : SegOwn w base (.slice (some ⟨g, o, none⟩) n cap) l) (j : Nat) (t : ByteArray) (hj : j < l.length) :
    SegOwn (w.setCell ⟨g, o + j * 2 + 1, none⟩ (.string t)) base (.slice (some ⟨g, o, none⟩) n cap) (l.set j ⟨sF l j, t⟩) := by
  obtain ⟨a, c, e, h1, h2, h3⟩ := h
  refine ⟨a, c, by rw [List.length_set]; exact e, by rw [List.length_set]; exact h1, by rw [List.length_set]; exact h2, fun _ => ?_⟩
  obtain ⟨g', o', cur, r1, r2, r3, r4⟩ := h3 (by omega)
  subst r1
  simp only [Value.slice.injEq, Option.some.injEq, Addr.mk.injEq] at e
  obtain ⟨⟨rfl, rfl, _⟩, _, _⟩ := e
  refine ⟨g, o, cur.setIfInBounds (o + j * 2 + 1) (.string t), rfl, by simpa using r2, by rw [setCell_eq_setRow w g _ _ _ _ _ r3, setRow_heap w g _ _ _ _ r3], fun i hi => ?_⟩
  rw [List.length_set] at hi
  obtain ⟨q1, q2⟩ := r4 i hi
  have hz := (Array.getElem?_eq_some_iff.1 (r4 j hj).2).1
  rw [sF_set l j i _ hj, sT_set l j i _ hj, Array.getElem?_setIfInBounds, Array.getElem?_setIfInBounds]
  by_cases e : i = j
  · subst e
    rw [if_neg (by omega), if_pos rfl, if_pos rfl, if_pos hz, if_pos rfl]
    exact ⟨q1, rfl⟩
  · rw [if_neg (by omega), if_neg e, if_neg (by omega), if_neg e]
    exact ⟨q1, q2⟩
/-- What may be read and written of it. -/
theorem SegOwn.cells {w : World} {base : Nat} {a : Option Addr} {n cap : Nat} {l : List Sg} (h : SegOwn w base (.slice a n cap) l) (h0 : 0 < l.length) :
    ∃ g o, a = some ⟨g, o, none⟩ ∧ n = l.length ∧ base ≤ g ∧ g < w.heap.size ∧ ∀ j, j < l.length → w.cell? ⟨g, o + j * 2, none⟩ = some (.int .i64 (sF l j)) ∧ w.cell? ⟨g, o + j * 2 + 1, none⟩ = some (.string (sT l j)) ∧ w.frozen? ⟨g, o + j * 2, none⟩ = false ∧ w.frozen? ⟨g, o + j * 2 + 1, none⟩ = false := by
  obtain ⟨a', c, e, h1, h2, h3⟩ := h
  obtain ⟨g, o, cur, rfl, r2, r3, r4⟩ := h3 h0
  simp only [Value.slice.injEq] at e
  obtain ⟨rfl, rfl, _⟩ := e
  refine ⟨g, o, rfl, rfl, r2.1, (Array.getElem?_eq_some_iff.1 r3).1, fun j hj => ?_⟩
  rw [cell_of_row w g _ cur _ (0, 0) r3, cell_of_row w g _ cur _ (0, 0) r3]
  exact ⟨(r4 j hj).1, (r4 j hj).2, frozen_of_row w g _ _ _ r3, frozen_of_row w g _ _ _ r3⟩
theorem grown_all {w w' : World} (hb : Below w.heap.size w w') (row : Option Nat) : w.grownBy w' row := ⟨hb.os, hb.tape, hb.output, hb.size, fun k hk _ => hb.block k hk⟩
theorem grownBy_set (w : World) (g o : Nat) (v : Value) : w.grownBy (w.setCell ⟨g, o, none⟩ v) (some g) :=
  ⟨rfl, rfl, rfl, by simp, fun k _ hne => heap_setCell_other w ⟨g, o, none⟩ k _ (fun e => hne (by simp [e]))⟩

theorem SegOwn.block {w : World} {base : Nat} {v : Value} {l : List Sg} (h : SegOwn w base v l) (h0 : 0 < l.length) (k : Nat) (hk : v.ownBlock = some k) : base ≤ k ∧ k < w.heap.size := by
  obtain ⟨a', c, rfl, h1, h2, h3⟩ := h
  obtain ⟨g, o, cur, rfl, r2, r3, r4⟩ := h3 h0
  simp only [Value.ownBlock, Option.some.injEq] at hk
  subst hk
  exact ⟨r2.1, (Array.getElem?_eq_some_iff.1 r3).1⟩

/-! ### a log is stored into a block -/
abbrev st3 (w : World) (g : Nat) (y0 y1 y2 : Value) : World := ((w.setCell ⟨g, 0, none⟩ y0).setCell ⟨g, 1, none⟩ y1).setCell ⟨g, 2, none⟩ y2
theorem grow_st3 (w : World) (g : Nat) (y0 y1 y2 : Value) : w.grownBy (st3 w g y0 y1 y2) (some g) := ((grownBy_set w g 0 y0).trans (grownBy_set _ g 1 y1)).trans (grownBy_set _ g 2 y2)
theorem Bx.st3 {w : World} {g : Nat} {t : TypeId} {x0 x1 x2 : Value} (h : Bx w g t #[x0, x1, x2]) (y0 y1 y2 : Value) : Bx (st3 w g y0 y1 y2) g t #[y0, y1, y2] := ((h.set 0 y0).set 1 y1).set 2 y2
theorem Bx.st3o {w : World} {g q : Nat} {t : TypeId} {cs : Array Value} (h : Bx w g t cs) (hne : g ≠ q) (y0 y1 y2 : Value) : Bx (Go.Proofs.YtemhhjkmolndbaaDoor.st3 w q y0 y1 y2) g t cs := h.keep (grow_st3 w q y0 y1 y2) (by simpa using hne)
theorem SegOwn.st3 {w : World} {base q : Nat} {v : Value} {l : List Sg} (h : SegOwn w base v l) (hq : q < base) (y0 y1 y2 : Value) : SegOwn (Go.Proofs.YtemhhjkmolndbaaDoor.st3 w q y0 y1 y2) base v l := h.kept (grow_st3 w q y0 y1 y2) (fun k hk => by cases hk; exact hq)
theorem SegOwn.setO {w : World} {base q o : Nat} {v : Value} {l : List Sg} (h : SegOwn w base v l) (hq : q < base) (y : Value) : SegOwn (w.setCell ⟨q, o, none⟩ y) base v l := h.kept (grownBy_set w q o y) (fun k hk => by cases hk; exact hq)
theorem SegOwn.keepB {w w' : World} {base : Nat} {v : Value} {l : List Sg} {row : Option Nat} (h : SegOwn w base v l) (hg : w.grownBy w' row) (hne : ∀ k, row = some k → v.ownBlock ≠ some k) : SegOwn w' base v l := by
  obtain ⟨a, cap, e, h1, h2, h3⟩ := h
  refine ⟨a, cap, e, h1, h2, fun h0 => ?_⟩
  obtain ⟨g, o, cur, r1, r2, r3, r4⟩ := h3 h0
  refine ⟨g, o, cur, r1, r2, ?_, r4⟩
  subst e; subst r1
  rw [hg.block g (Array.getElem?_eq_some_iff.1 r3).1 (fun e => hne g e.symm rfl)]
  exact r3
theorem Af.st3 {w0 w : World} {q : Nat} (h : Af w0 w) (hq : w0.heap.size ≤ q) (y0 y1 y2 : Value) : Af w0 (Go.Proofs.YtemhhjkmolndbaaDoor.st3 w q y0 y1 y2) := h.grow (grow_st3 w q y0 y1 y2) (fun k hk => by cases hk; exact hq)

/-! ### the marks -/
/-- The first j segments are marks. -/
def mkG (l : List Sg) (j : Nat) : List Sg := (List.range l.length).map fun i => if i < j then ⟨2 * (i : Int) + 1, mkT (2 * i + 2)⟩ else ⟨sF l i, sT l i⟩
theorem mkG_length (l : List Sg) (j : Nat) : (mkG l j).length = l.length := by simp [mkG]
theorem mkG_get (l : List Sg) (j i : Nat) (h : i < l.length) : (mkG l j)[i]? = some (if i < j then ⟨2 * (i : Int) + 1, mkT (2 * i + 2)⟩ else ⟨sF l i, sT l i⟩) := by
  rw [mkG, List.getElem?_map, List.getElem?_range h]
  rfl
theorem mkG_zero (l : List Sg) : mkG l 0 = l := by
  apply List.ext_getElem?
  intro i
  by_cases h : i < l.length
  · rw [mkG_get l 0 i h, if_neg (by omega), sg_get l i h]
  · rw [List.getElem?_eq_none (by rw [mkG_length]; omega), List.getElem?_eq_none (by omega)]
theorem mkG_sF (l : List Sg) (j i : Nat) (h : i < l.length) : sF (mkG l j) i = if i < j then 2 * (i : Int) + 1 else sF l i := by
  rw [sF_of (mkG_get l j i h)]
  split <;> rfl
theorem mkG_sT (l : List Sg) (j i : Nat) (h : i < l.length) : sT (mkG l j) i = if i < j then mkT (2 * i + 2) else sT l i := by
  rw [sT_of (mkG_get l j i h)]
  split <;> rfl
theorem mkG_step (l : List Sg) (j : Nat) (h : j < l.length) (z : Int) (t : ByteArray) (hz : z = 2 * (j : Int) + 1) (ht : t = mkT (2 * j + 2)) : ((mkG l j).set j ⟨z, sT (mkG l j) j⟩).set j ⟨z, t⟩ = mkG l (j + 1) := by
  subst hz; subst ht
  rw [List.set_set]
  apply sg_ext
  · rw [List.length_set, mkG_length, mkG_length]
  · intro i hi
    rw [List.length_set, mkG_length] at hi
    rw [sF_set _ _ _ _ (by rw [mkG_length]; exact h), sT_set _ _ _ _ (by rw [mkG_length]; exact h), mkG_sF l _ i hi, mkG_sT l _ i hi, mkG_sF l _ i hi, mkG_sT l _ i hi]
    by_cases e : i = j
    · subst e; simp
    · by_cases e2 : i < j
      · simp [e, e2, show i < j + 1 by omega]
      · simp [e, e2, show ¬ i < j + 1 by omega]
theorem mkG_small (l : List Sg) (hl : l.length ≤ 1048577) (j : Nat) (hj : j < (mkG l l.length).length) : (sT (mkG l l.length) j).size ≤ 9223372036854775807 := by
  rw [mkG_length] at hj
  rw [mkG_sT l _ j hj, if_pos hj]
  have := mkT_size (2 * j + 2)
  omega

/-! ### the same of a log -/
end Go.Proofs.YtemhhjkmolndbaaDoor
/- The law's measure of a log, and its copy of one. -/
namespace Go.Proofs.YtemhhjkmolndbaaDoor
open Go.RowKit Go.PlainAid
set_option linter.unusedVariables false

theorem asAddr_pt (P : Program) (w : World) (a : Addr) : (asAddr (.pointer (some a))).run P w = .ok a w := rfl
theorem load_log (w : World) (g : Nat) (x0 x1 x2 : Value) (h : w.cell? ⟨g, 0, none⟩ = some x0 ∧ w.cell? ⟨g, 1, none⟩ = some x1 ∧ w.cell? ⟨g, 2, none⟩ = some x2) : (loadVar 26 ⟨g, 0, none⟩).run Tryd.prog w = .ok (.agg #[x0, x1, x2]) w := by
  obtain ⟨h0, h1, h2⟩ := h
  go_simp
theorem results_log {fn : Func} {p : Tmp} (h : fn.results = #[.cell p 26]) (tmps : Array Value) (w : World) (g : Nat) (x0 x1 x2 : Value)
    (hp : tmps.getD p undef = .pointer (some ⟨g, 0, none⟩)) (hc : w.cell? ⟨g, 0, none⟩ = some x0 ∧ w.cell? ⟨g, 1, none⟩ = some x1 ∧ w.cell? ⟨g, 2, none⟩ = some x2) : (results fn tmps).run Tryd.prog w = .ok (.agg #[x0, x1, x2]) w := by
  have e : (results fn tmps).run Tryd.prog w = ((asAddr (tmps.getD p undef)).run Tryd.prog w).andThen fun a w₁ => (loadVar 26 a).run Tryd.prog w₁ := by
    simp only [results, h]
    simp [Sem.run_bind, Result.andThen]
  rw [e, hp, asAddr_pt]
  simp only [Result.andThen]
  exact load_log w g x0 x1 x2 hc
theorem results_log2 {fn : Func} {p q : Tmp} (h : fn.results = #[.cell p 26, .tmp q]) (tmps : Array Value) (w : World) (g : Nat) (x0 x1 x2 : Value)
    (hp : tmps.getD p undef = .pointer (some ⟨g, 0, none⟩)) (hc : w.cell? ⟨g, 0, none⟩ = some x0 ∧ w.cell? ⟨g, 1, none⟩ = some x1 ∧ w.cell? ⟨g, 2, none⟩ = some x2) : (results fn tmps).run Tryd.prog w = .ok (.tuple #[.agg #[x0, x1, x2], tmps.getD q undef]) w := by
  have hl := load_log w g x0 x1 x2 hc
  have e : (results fn tmps).run Tryd.prog w = ((asAddr (tmps.getD p undef)).run Tryd.prog w).andThen fun a w₁ => ((loadVar 26 a).run Tryd.prog w₁).andThen fun x w₂ => .ok (.tuple #[x, tmps.getD q undef]) w₂ := by
    simp only [results, h]
    simp [Sem.run_bind, Result.andThen]
  rw [e, hp, asAddr_pt]
  simp only [Result.andThen, hl]

/-- What is left when segments are measured. -/
def SzSegs (l : List Sg) (e : Ending) : Prop := e = .returned (.int .i64 (-1)) ∨ ∃ r : Int, e = .returned (.int .i64 r) ∧ 0 ≤ r ∧ l.length ≤ 1048576 ∧ ∀ j, j < l.length → (sT l j).size ≤ 1048576
/-! ### the copy -/
/-- The first j segments are there, behind them empty ones. -/
def toG (l : List Sg) (j : Nat) : List Sg := (List.range l.length).map fun i => if i < j then ⟨sF l i, sT l i⟩ else ⟨0, ByteArray.empty⟩
theorem toG_length (l : List Sg) (j : Nat) : (toG l j).length = l.length := by simp [toG]
theorem toG_get (l : List Sg) (j i : Nat) (h : i < l.length) : (toG l j)[i]? = some (if i < j then ⟨sF l i, sT l i⟩ else ⟨0, ByteArray.empty⟩) := by
  rw [toG, List.getElem?_map, List.getElem?_range h]
  rfl
theorem toG_sF (l : List Sg) (j i : Nat) (h : i < l.length) : sF (toG l j) i = if i < j then sF l i else 0 := by
  rw [sF_of (toG_get l j i h)]
  split <;> rfl
theorem toG_sT (l : List Sg) (j i : Nat) (h : i < l.length) : sT (toG l j) i = if i < j then sT l i else ByteArray.empty := by
  rw [sT_of (toG_get l j i h)]
  split <;> rfl
theorem toG_all (l : List Sg) : toG l l.length = l :=
  sg_ext _ _ (toG_length l _) fun j hj => by rw [toG_length] at hj; rw [toG_sF l _ j hj, toG_sT l _ j hj, if_pos hj, if_pos hj]; exact ⟨rfl, rfl⟩
theorem toG_step (l : List Sg) (j : Nat) (h : j < l.length) : ((toG l j).set j ⟨sF l j, sT (toG l j) j⟩).set j ⟨sF l j, sT l j⟩ = toG l (j + 1) := by
  rw [List.set_set]
  apply sg_ext
  · rw [List.length_set, toG_length, toG_length]
  · intro i hi
    rw [List.length_set, toG_length] at hi
    rw [sF_set _ _ _ _ (by rw [toG_length]; exact h), sT_set _ _ _ _ (by rw [toG_length]; exact h), toG_sF l _ i hi, toG_sT l _ i hi, toG_sF l _ i hi, toG_sT l _ i hi]
    by_cases e : i = j
    · subst e; simp
    · by_cases e2 : i < j
      · simp [e, e2, show i < j + 1 by omega]
      · simp [e, e2, show ¬ i < j + 1 by omega]
theorem Tryd.infoSeg : (Tryd.prog.info? 63).map (fun i => (i.zero, i.size, i.bytes)) = some (some (.agg #[.int .i64 0, .string ⟨#[]⟩]), 2, 24) := by kernel_rfl
/-- make([]Seg, n). -/
theorem make_segs (w : World) (l : List Sg) (n : Nat) (hn : l.length = n) (hb : n ≤ 1048576) :
    ∃ w1, (Instr.makeSlice 24 (.int .i64 (n : Int)) (.int .i64 (n : Int))).run Tryd.prog w = .ok (.slice (some ⟨w.heap.size, 0, none⟩) n n) w1 ∧ SegOwn w1 w.heap.size (.slice (some ⟨w.heap.size, 0, none⟩) n n) (toG l 0) ∧ Below w.heap.size w w1 ∧ w.heap.size < w1.heap.size := by
  obtain ⟨i, hi, hz, hs, hby⟩ := info_parts Tryd.infoSeg
  have h := run_make (P := Tryd.prog) w 24 63 i _ Tryd.underlying24 hi hz .i64 .i64 n n (by omega) (Int.le_refl _) (by rw [hby]; omega) (by omega)
  simp only [Int.toNat_natCast, hs] at h
  refine ⟨_, h, ⟨_, n, by rw [toG_length, hn], by rw [toG_length, hn]; exact Nat.le_refl _, by rw [toG_length, hn]; omega, fun h0 => ⟨w.heap.size, 0, _, rfl, ⟨Nat.le_refl _, by simp [madeCells]⟩, heap_alloc_new w _, fun j hj => ?_⟩⟩, (Below.refl _ _).alloc (Nat.le_refl _) _, by simp⟩
  rw [toG_length] at hj
  rw [toG_sF l 0 j hj, toG_sT l 0 j hj, if_neg (by omega), if_neg (by omega), Nat.zero_add]
  have hc : (Value.agg #[.int .i64 0, .string ⟨#[]⟩]).cells = #[.int .i64 0, .string ⟨#[]⟩] := rfl
  rw [hc]
  constructor
  · simp [madeCells, show j * 2 < n * 2 by omega, show j * 2 % 2 = 0 by omega]
  · simp [madeCells, show j * 2 + 1 < n * 2 by omega, show (j * 2 + 1) % 2 = 1 by omega]
    rfl

end Go.Proofs.YtemhhjkmolndbaaDoor
