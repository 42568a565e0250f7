/- Chunks that a call owns: the laws' marks on them. -/
import Derived.Test.YtemhhjkmolndbaaDoorBlE
import Derived.Test.YtemhhjkmolndbaaDoorMarkT
import Derived.Test.YtemhhjkmolndbaaDoorBx
namespace Go.Proofs.YtemhhjkmolndbaaDoor
open Go.RowKit Go.PlainAid
set_option linter.unusedVariables false

/-- The slice v holds l, in a block of its own behind base. -/
def BlOwn (w : World) (base : Nat) (v : Value) (l : List Bb) : Prop :=
  ∃ a cap, v = .slice a l.length cap ∧ l.length ≤ cap ∧ l.length ≤ 9223372036854775807 ∧ (0 < l.length → ∃ g o cur, a = some ⟨g, o, none⟩ ∧ (base ≤ g ∧ o + cap * 3 ≤ cur.size) ∧ w.heap[g]? = some (.cells cur 89 (0, 0)) ∧ ∀ j, j < l.length → cur[o + j * 3]? = some (.string (bI l j)) ∧ cur[o + j * 3 + 1]? = some (.string (bD l j)) ∧ cur[o + j * 3 + 2]? = some (.bool (bX l j)))
theorem BlOwn.form {w : World} {base : Nat} {v : Value} {l : List Bb} (h : BlOwn w base v l) : ∃ a n cap, v = .slice a n cap := by
  obtain ⟨a, cap, e, _⟩ := h
  exact ⟨a, _, cap, e⟩
theorem BlOwn.mono {w : World} {base base' : Nat} {v : Value} {l : List Bb} (h : BlOwn w base v l) (hb : base' ≤ base) : BlOwn w base' v l := by
  obtain ⟨a, cap, e, h1, h2, h3⟩ := h
  exact ⟨a, cap, e, h1, h2, fun h0 => by obtain ⟨g, o, cur, r1, r2, r3⟩ := h3 h0; exact ⟨g, o, cur, r1, ⟨Nat.le_trans hb r2.1, r2.2⟩, r3⟩⟩
theorem BlOwn.blbs {w : World} {base : Nat} {v : Value} {l : List Bb} (h : BlOwn w base v l) (hs : ∀ j, j < l.length → (bI l j).size ≤ 9223372036854775807 ∧ (bD l j).size ≤ 9223372036854775807) : Blbs w v l := by
  obtain ⟨a, cap, e, h1, h2, h3⟩ := h
  refine ⟨h2, hs, a, cap, e, h1, fun h0 => ?_⟩
  obtain ⟨g, o, cur, r1, r2, r3, r4⟩ := h3 h0
  refine ⟨g, o, r1, (Array.getElem?_eq_some_iff.1 r3).1, fun j hj => ?_⟩
  unfold BbAt
  rw [cell_of_row w g _ cur _ (0, 0) r3, cell_of_row w g _ cur _ (0, 0) r3, cell_of_row w g _ cur _ (0, 0) r3]
  exact r4 j hj
theorem BlOwn.keepB {w w' : World} {base : Nat} {v : Value} {l : List Bb} {row : Option Nat} (h : BlOwn w base v l) (hg : w.grownBy w' row) (hne : ∀ k, row = some k → v.ownBlock ≠ some k) : BlOwn w' base v l := by
  obtain ⟨a, cap, e, h1, h2, h3⟩ := h
  refine ⟨a, cap, e, h1, h2, fun h0 => ?_⟩
  obtain ⟨g, o, cur, r1, r2, r3, r4⟩ := h3 h0
  refine ⟨g, o, cur, r1, r2, ?_, r4⟩
  subst e; subst r1
  rw [hg.block g (Array.getElem?_eq_some_iff.1 r3).1 (fun e => hne g e.symm rfl)]
  exact r3
theorem grown_all {w w' : World} (hb : Below w.heap.size w w') (row : Option Nat) : w.grownBy w' row := ⟨hb.os, hb.tape, hb.output, hb.size, fun k hk _ => hb.block k hk⟩
theorem grownBy_set (w : World) (g o : Nat) (v : Value) : w.grownBy (w.setCell ⟨g, o, none⟩ v) (some g) :=
  ⟨rfl, rfl, rfl, by simp, fun k _ hne => heap_setCell_other w ⟨g, o, none⟩ k _ (fun e => hne (by simp [e]))⟩
theorem BlOwn.later {w w' : World} {base : Nat} {v : Value} {l : List Bb} (h : BlOwn w base v l) (hb : Below w.heap.size w w') : BlOwn w' base v l := h.keepB (grown_all hb none) (fun k hk => by cases hk)
theorem BlOwn.alloc {w : World} {base : Nat} {v : Value} {l : List Bb} (h : BlOwn w base v l) (o : Obj) : BlOwn (w.alloc o) base v l := h.later ((Below.refl _ _).alloc (Nat.le_refl _) _)
theorem BlOwn.drew {w : World} {base : Nat} {v : Value} {l : List Bb} (h : BlOwn w base v l) : BlOwn w.drew base v l := h.later (Below.refl _ _).drew
theorem blOwn_nil (w : World) (base : Nat) (a : Option Addr) (cap : Nat) : BlOwn w base (.slice a 0 cap) [] := ⟨a, cap, rfl, by simp, by simp, fun h => by simp at h⟩
/-- A block that is written elsewhere. -/
theorem BlOwn.kept {w w' : World} {base : Nat} {v : Value} {l : List Bb} {row : Option Nat} (h : BlOwn w base v l) (hg : w.grownBy w' row) (hne : ∀ k, row = some k → k < base) : BlOwn w' base v l := by
  obtain ⟨a, cap, e, h1, h2, h3⟩ := h
  refine ⟨a, cap, e, h1, h2, fun h0 => ?_⟩
  obtain ⟨g, o, cur, r1, r2, r3, r4⟩ := h3 h0
  refine ⟨g, o, cur, r1, r2, ?_, r4⟩
  rw [hg.block g (Array.getElem?_eq_some_iff.1 r3).1 (fun e => by have := hne g e.symm; omega)]
  exact r3
theorem BlOwn.setI {w : World} {base g o n cap : Nat} {l : List Bb} (h : BlOwn w base (.slice (some ⟨g, o, none⟩) n cap) l) (j : Nat) (z : ByteArray) (hj : j < l.length) :
    BlOwn (w.setCell ⟨g, o + j * 3, none⟩ (.string z)) base (.slice (some ⟨g, o, none⟩) n cap) (l.set j ⟨z, bD l j, bX l j⟩) := by
  obtain ⟨a, c, e, h1, h2, h3⟩ := h
  refine ⟨a, c, by rw [List.length_set]; exact e, by rw [List.length_set]; exact h1, by rw [List.length_set]; exact h2, fun _ => ?_⟩
  obtain ⟨g', o', cur, r1, r2, r3, r4⟩ := h3 (by omega)
  subst r1
  simp only [Value.slice.injEq, Option.some.injEq, Addr.mk.injEq] at e
  obtain ⟨⟨rfl, rfl, _⟩, _, _⟩ := e
  refine ⟨g, o, cur.setIfInBounds (o + j * 3) (.string z), rfl, by simpa using r2, by rw [setCell_eq_setRow w g _ _ _ _ _ r3, setRow_heap w g _ _ _ _ r3], fun i hi => ?_⟩
  rw [List.length_set] at hi
  obtain ⟨q1, q2, q3⟩ := r4 i hi
  have hz := (Array.getElem?_eq_some_iff.1 (r4 j hj).1).1
  obtain ⟨s1, s2, s3⟩ := bb_set l j i ⟨z, bD l j, bX l j⟩ hj
  rw [s1, s2, s3, Array.getElem?_setIfInBounds, Array.getElem?_setIfInBounds, Array.getElem?_setIfInBounds]
  by_cases e : i = j
  · subst e
    simp only [if_true]
    rw [if_pos hz, if_neg (by omega), if_neg (by omega)]
    exact ⟨rfl, q2, q3⟩
  · rw [if_neg (by omega), if_neg e, if_neg (by omega), if_neg e, if_neg (by omega), if_neg e]
    exact ⟨q1, q2, q3⟩
theorem BlOwn.setD {w : World} {base g o n cap : Nat} {l : List Bb} (h : BlOwn w base (.slice (some ⟨g, o, none⟩) n cap) l) (j : Nat) (z : ByteArray) (hj : j < l.length) :
    BlOwn (w.setCell ⟨g, o + j * 3 + 1, none⟩ (.string z)) base (.slice (some ⟨g, o, none⟩) n cap) (l.set j ⟨bI l j, z, bX l j⟩) := by
  obtain ⟨a, c, e, h1, h2, h3⟩ := h
  refine ⟨a, c, by rw [List.length_set]; exact e, by rw [List.length_set]; exact h1, by rw [List.length_set]; exact h2, fun _ => ?_⟩
  obtain ⟨g', o', cur, r1, r2, r3, r4⟩ := h3 (by omega)
  subst r1
  simp only [Value.slice.injEq, Option.some.injEq, Addr.mk.injEq] at e
  obtain ⟨⟨rfl, rfl, _⟩, _, _⟩ := e
  refine ⟨g, o, cur.setIfInBounds (o + j * 3 + 1) (.string z), rfl, by simpa using r2, by rw [setCell_eq_setRow w g _ _ _ _ _ r3, setRow_heap w g _ _ _ _ r3], fun i hi => ?_⟩
  rw [List.length_set] at hi
  obtain ⟨q1, q2, q3⟩ := r4 i hi
  have hz := (Array.getElem?_eq_some_iff.1 (r4 j hj).2.1).1
  obtain ⟨s1, s2, s3⟩ := bb_set l j i ⟨bI l j, z, bX l j⟩ hj
  rw [s1, s2, s3, Array.getElem?_setIfInBounds, Array.getElem?_setIfInBounds, Array.getElem?_setIfInBounds]
  by_cases e : i = j
  · subst e
    simp only [if_true]
    rw [if_neg (by omega), if_pos hz, if_neg (by omega)]
    exact ⟨q1, rfl, q3⟩
  · rw [if_neg (by omega), if_neg e, if_neg (by omega), if_neg e, if_neg (by omega), if_neg e]
    exact ⟨q1, q2, q3⟩
theorem BlOwn.setX {w : World} {base g o n cap : Nat} {l : List Bb} (h : BlOwn w base (.slice (some ⟨g, o, none⟩) n cap) l) (j : Nat) (z : Bool) (hj : j < l.length) :
    BlOwn (w.setCell ⟨g, o + j * 3 + 2, none⟩ (.bool z)) base (.slice (some ⟨g, o, none⟩) n cap) (l.set j ⟨bI l j, bD l j, z⟩) := by
  obtain ⟨a, c, e, h1, h2, h3⟩ := h
  refine ⟨a, c, by rw [List.length_set]; exact e, by rw [List.length_set]; exact h1, by rw [List.length_set]; exact h2, fun _ => ?_⟩
  obtain ⟨g', o', cur, r1, r2, r3, r4⟩ := h3 (by omega)
  subst r1
  simp only [Value.slice.injEq, Option.some.injEq, Addr.mk.injEq] at e
  obtain ⟨⟨rfl, rfl, _⟩, _, _⟩ := e
  refine ⟨g, o, cur.setIfInBounds (o + j * 3 + 2) (.bool z), rfl, by simpa using r2, by rw [setCell_eq_setRow w g _ _ _ _ _ r3, setRow_heap w g _ _ _ _ r3], fun i hi => ?_⟩
  rw [List.length_set] at hi
  obtain ⟨q1, q2, q3⟩ := r4 i hi
  have hz := (Array.getElem?_eq_some_iff.1 (r4 j hj).2.2).1
  obtain ⟨s1, s2, s3⟩ := bb_set l j i ⟨bI l j, bD l j, z⟩ hj
  rw [s1, s2, s3, Array.getElem?_setIfInBounds, Array.getElem?_setIfInBounds, Array.getElem?_setIfInBounds]
  by_cases e : i = j
  · subst e
    simp only [if_true]
    rw [if_neg (by omega), if_neg (by omega), if_pos hz]
    exact ⟨q1, q2, rfl⟩
  · rw [if_neg (by omega), if_neg e, if_neg (by omega), if_neg e, if_neg (by omega), if_neg e]
    exact ⟨q1, q2, q3⟩
/-- What may be read and written of it. -/
theorem BlOwn.cells {w : World} {base : Nat} {a : Option Addr} {n cap : Nat} {l : List Bb} (h : BlOwn w base (.slice a n cap) l) (h0 : 0 < l.length) :
    ∃ g o, a = some ⟨g, o, none⟩ ∧ n = l.length ∧ base ≤ g ∧ g < w.heap.size ∧ ∀ j, j < l.length → BbAt w g o l j ∧ w.frozen? ⟨g, o + j * 3, none⟩ = false ∧ w.frozen? ⟨g, o + j * 3 + 1, none⟩ = false ∧ w.frozen? ⟨g, o + j * 3 + 2, none⟩ = false := by
  obtain ⟨a', c, e, h1, h2, h3⟩ := h
  obtain ⟨g, o, cur, rfl, r2, r3, r4⟩ := h3 h0
  simp only [Value.slice.injEq] at e
  obtain ⟨rfl, rfl, _⟩ := e
  refine ⟨g, o, rfl, rfl, r2.1, (Array.getElem?_eq_some_iff.1 r3).1, fun j hj => ?_⟩
  unfold BbAt
  rw [cell_of_row w g _ cur _ (0, 0) r3, cell_of_row w g _ cur _ (0, 0) r3, cell_of_row w g _ cur _ (0, 0) r3]
  exact ⟨r4 j hj, frozen_of_row w g _ _ _ r3, frozen_of_row w g _ _ _ r3, frozen_of_row w g _ _ _ r3⟩
theorem BlOwn.block {w : World} {base : Nat} {v : Value} {l : List Bb} (h : BlOwn w base v l) (h0 : 0 < l.length) (k : Nat) (hk : v.ownBlock = some k) : base ≤ k ∧ k < w.heap.size := by
  obtain ⟨a', c, rfl, h1, h2, h3⟩ := h
  obtain ⟨g, o, cur, rfl, r2, r3, r4⟩ := h3 h0
  simp only [Value.ownBlock, Option.some.injEq] at hk
  subst hk
  exact ⟨r2.1, (Array.getElem?_eq_some_iff.1 r3).1⟩

/-! ### a store of chunks is stored into a block -/
abbrev st2 (w : World) (g : Nat) (y0 y1 : Value) : World := (w.setCell ⟨g, 0, none⟩ y0).setCell ⟨g, 1, none⟩ y1
theorem grow_st2 (w : World) (g : Nat) (y0 y1 : Value) : w.grownBy (st2 w g y0 y1) (some g) := (grownBy_set w g 0 y0).trans (grownBy_set _ g 1 y1)
theorem Bx.st2 {w : World} {g : Nat} {t : TypeId} {x0 x1 : Value} (h : Bx w g t #[x0, x1]) (y0 y1 : Value) : Bx (st2 w g y0 y1) g t #[y0, y1] := (h.set 0 y0).set 1 y1
theorem Bx.st2o {w : World} {g q : Nat} {t : TypeId} {cs : Array Value} (h : Bx w g t cs) (hne : g ≠ q) (y0 y1 : Value) : Bx (Go.Proofs.YtemhhjkmolndbaaDoor.st2 w q y0 y1) g t cs := h.keep (grow_st2 w q y0 y1) (by simpa using hne)
theorem Bx.cells2 {w : World} {g : Nat} {t : TypeId} {x0 x1 : Value} (h : Bx w g t #[x0, x1]) : w.cell? ⟨g, 0, none⟩ = some x0 ∧ w.cell? ⟨g, 1, none⟩ = some x1 := ⟨h.cell 0 _ rfl, h.cell 1 _ rfl⟩
theorem BlOwn.st2 {w : World} {base q : Nat} {v : Value} {l : List Bb} (h : BlOwn w base v l) (hq : q < base) (y0 y1 : Value) : BlOwn (Go.Proofs.YtemhhjkmolndbaaDoor.st2 w q y0 y1) base v l := h.kept (grow_st2 w q y0 y1) (fun k hk => by cases hk; exact hq)
theorem BlOwn.setO {w : World} {base q o : Nat} {v : Value} {l : List Bb} (h : BlOwn w base v l) (hq : q < base) (y : Value) : BlOwn (w.setCell ⟨q, o, none⟩ y) base v l := h.kept (grownBy_set w q o y) (fun k hk => by cases hk; exact hq)
theorem Af.st2 {w0 w : World} {q : Nat} (h : Af w0 w) (hq : w0.heap.size ≤ q) (y0 y1 : Value) : Af w0 (Go.Proofs.YtemhhjkmolndbaaDoor.st2 w q y0 y1) := h.grow (grow_st2 w q y0 y1) (fun k hk => by cases hk; exact hq)

/-! ### the marks -/
/-- The first j chunks are marks. -/
def mkG (l : List Bb) (j : Nat) : List Bb := (List.range l.length).map fun i => if i < j then ⟨mkT (3 * i + 1), mkT (3 * i + 2), true⟩ else ⟨bI l i, bD l i, bX l i⟩
theorem mkG_length (l : List Bb) (j : Nat) : (mkG l j).length = l.length := by simp [mkG]
theorem mkG_get (l : List Bb) (j i : Nat) (h : i < l.length) : (mkG l j)[i]? = some (if i < j then ⟨mkT (3 * i + 1), mkT (3 * i + 2), true⟩ else ⟨bI l i, bD l i, bX l i⟩) := by
  rw [mkG, List.getElem?_map, List.getElem?_range h]
  rfl
theorem mkG_zero (l : List Bb) : mkG l 0 = l := by
  apply List.ext_getElem?
  intro i
  by_cases h : i < l.length
  · rw [mkG_get l 0 i h, if_neg (by omega), bb_get l i h]
  · rw [List.getElem?_eq_none (by rw [mkG_length]; omega), List.getElem?_eq_none (by omega)]
theorem mkG_at (l : List Bb) (j i : Nat) (h : i < l.length) : bI (mkG l j) i = (if i < j then mkT (3 * i + 1) else bI l i) ∧ bD (mkG l j) i = (if i < j then mkT (3 * i + 2) else bD l i) ∧ bX (mkG l j) i = (if i < j then true else bX l i) := by
  have g := mkG_get l j i h
  rw [bI_of g, bD_of g, bX_of g]
  split <;> exact ⟨rfl, rfl, rfl⟩
theorem mkG_step (l : List Bb) (j : Nat) (h : j < l.length) (x : Bb) (hx : x = ⟨mkT (3 * j + 1), mkT (3 * j + 2), true⟩) : (mkG l j).set j x = mkG l (j + 1) := by
  subst hx
  apply bb_ext
  · rw [List.length_set, mkG_length, mkG_length]
  · intro i hi
    rw [List.length_set, mkG_length] at hi
    obtain ⟨a1, a2, a3⟩ := bb_set (mkG l j) j i ⟨mkT (3 * j + 1), mkT (3 * j + 2), true⟩ (by rw [mkG_length]; exact h)
    obtain ⟨b1, b2, b3⟩ := mkG_at l j i hi
    obtain ⟨c1, c2, c3⟩ := mkG_at l (j + 1) i hi
    rw [a1, a2, a3, b1, b2, b3, c1, c2, c3]
    by_cases e : i = j
    · subst e; simp
    · by_cases e2 : i < j
      · simp [e, e2, show i < j + 1 by omega]
      · simp [e, e2, show ¬ i < j + 1 by omega]
theorem mkG_small (l : List Bb) (hl : l.length ≤ 1048577) (j : Nat) (hj : j < (mkG l l.length).length) : (bI (mkG l l.length) j).size ≤ 9223372036854775807 ∧ (bD (mkG l l.length) j).size ≤ 9223372036854775807 := by
  rw [mkG_length] at hj
  obtain ⟨b1, b2, b3⟩ := mkG_at l l.length j hj
  rw [b1, b2, if_pos hj, if_pos hj]
  have := mkT_size (3 * j + 1)
  have := mkT_size (3 * j + 2)
  omega
theorem mark_text' (k : Nat) (z : Int) (hz : z = (k : Int)) (W : World) (h1 : 1 ≤ k) (h4 : k ≤ 4194305) : Calls Tryd.prog 102 #[.int .i64 z] W fun e w' => e = .returned (.string (mkT k)) ∧ Below W.heap.size W w' := by
  subst hz
  exact mark_text k W h1 h4

set_option maxRecDepth 100000 in
set_option maxHeartbeats 1000000 in
theorem mark_blobL (v : Value) (l : List Bb) (base : Nat) (w : World) (hv : BlOwn w base v l) (hl : l.length ≤ 1048577) :
    Calls Tryd.prog 72 #[v, .int .i64 1] w fun e w' => e = .returned (.int .i64 (3 * (l.length : Int) + 1)) ∧ BlOwn w' base v (mkG l l.length) ∧ w.grownBy w' v.ownBlock := by
  obtain ⟨a, nv, cap, rfl⟩ := hv.form
  obtain ⟨n, hn⟩ : ∃ n, l.length = n := ⟨_, rfl⟩
  have hvn : nv = n := by
    obtain ⟨a', c', e, _⟩ := hv
    simp only [Value.slice.injEq] at e
    omega
  subst hvn
  have HN := Lib.hid hn
  rw [hn] at hl ⊢
  have HV0 := Lib.hid hv
  clear hn hv
  go_enter Tryd.func72, Tryd.ntmps72
  go_wp2
  go_loopw [1, 5] (fun kv i wr => ∃ j : Nat, j ≤ nv ∧ i = .int .i64 j ∧ kv = .int .i64 (3 * (j : Int) + 1) ∧ BlOwn wr base (.slice a nv cap) (mkG l j) ∧ w.grownBy wr (Value.ownBlock (.slice a nv cap))) (fun _ i _ => nv - (intOf i).toNat)
  case atStart => exact ⟨0, by omega, rfl, rfl, by rw [mkG_zero]; exact HV0.out, World.grownBy.refl _ _⟩
  case round =>
    obtain ⟨j, hj, rfl, rfl, hv, hb⟩ := hrel
    have HV := Lib.hid hv
    have HB := Lib.hid hb
    clear hb
    by_cases hlt : j < nv
    · obtain ⟨g, o, rfl, e2, hbg, hgw, hc⟩ := hv.cells (by rw [mkG_length, HN.out]; omega)
      clear hc e2
      have hd : ((3 * (j : Int) + 1 + 1 + 1) % 3 == 0) = true := beq_iff_eq.2 (by omega)
      have HM1 := Lib.hid (fun W => mark_text' (3 * j + 1) (3 * (j : Int) + 1) (by omega) W (by omega) (by omega))
      have HM2 := Lib.hid (fun W => mark_text' (3 * j + 2) (3 * (j : Int) + 1 + 1) (by omega) W (by omega) (by omega))
      clear hv HV0
      go_wp2_with fail
      refine (HM1.out _).mono ?_
      rintro e w2 ⟨rfl, hb2⟩
      have hv2 := HV.out.later hb2
      obtain ⟨g', o', e1, e3, _, hg2, hc2⟩ := hv2.cells (by rw [mkG_length, HN.out]; omega)
      simp only [Option.some.injEq, Addr.mk.injEq] at e1
      obtain ⟨rfl, rfl, _⟩ := e1
      obtain ⟨⟨d1, d2, d3⟩, g1, g2, g3⟩ := hc2 j (by rw [mkG_length, HN.out]; omega)
      have V2 := Lib.hid (hv2.setI j (mkT (3 * j + 1)) (by rw [mkG_length, HN.out]; omega))
      have B2 := Lib.hid (HB.out.trans ((grown_all hb2 (some g)).trans (grownBy_set w2 g (o + j * 3) (.string (mkT (3 * j + 1))))))
      clear hv2 hb2 hc2 e3 HV HB
      go_wp2_with fail
      clear d1 d2 d3 g1 g2 g3
      refine (HM2.out _).mono ?_
      rintro e w3 ⟨rfl, hb3⟩
      have hv3 := V2.out.later hb3
      obtain ⟨g', o', e1, e3, _, hg3, hc3⟩ := hv3.cells (by rw [List.length_set, mkG_length, HN.out]; omega)
      simp only [Option.some.injEq, Addr.mk.injEq] at e1
      obtain ⟨rfl, rfl, _⟩ := e1
      obtain ⟨⟨d1, d2, d3⟩, g1, g2, g3⟩ := hc3 j (by rw [List.length_set, mkG_length, HN.out]; omega)
      have V3 := Lib.hid ((hv3.setD j (mkT (3 * j + 2)) (by rw [List.length_set, mkG_length, HN.out]; omega)).setX j true (by rw [List.length_set, List.length_set, mkG_length, HN.out]; omega))
      have B3 := Lib.hid (B2.out.trans ((grown_all hb3 (some g)).trans ((grownBy_set w3 g (o + j * 3 + 1) (.string (mkT (3 * j + 2)))).trans (grownBy_set _ g (o + j * 3 + 2) (.bool true)))))
      clear hv3 hb3 hc3 e3 V2 B2
      go_wp2
      go_roundw
      case rel =>
        refine ⟨j + 1, by omega, by go_num, by go_num, ?_, B3.out⟩
        have h := V3.out
        rw [List.set_set, List.set_set, mkG_step l j (by rw [HN.out]; omega) _ ?_] at h
        · exact h
        · obtain ⟨p1, p2, p3⟩ := bb_set (mkG l j) j j ⟨mkT (3 * j + 1), bD (mkG l j) j, bX (mkG l j) j⟩ (by rw [mkG_length, HN.out]; omega)
          obtain ⟨q1, q2, q3⟩ := bb_set ((mkG l j).set j ⟨mkT (3 * j + 1), bD (mkG l j) j, bX (mkG l j) j⟩) j j ⟨bI ((mkG l j).set j ⟨mkT (3 * j + 1), bD (mkG l j) j, bX (mkG l j) j⟩) j, mkT (3 * j + 2), bX ((mkG l j).set j ⟨mkT (3 * j + 1), bD (mkG l j) j, bX (mkG l j) j⟩) j⟩ (by rw [List.length_set, mkG_length, HN.out]; omega)
          simp only [if_true] at p1 p2 p3 q1 q2 q3
          rw [q1, q2, p1]
      case measure => simp only [intOf]; omega
    · obtain rfl : j = nv := by omega
      go_wp2
      go_ret
      exact ⟨rfl, HV.out, HB.out⟩

set_option maxRecDepth 100000 in
set_option maxHeartbeats 1000000 in
theorem held_blobL (v : Value) (l : List Bb) (w : World) (hv : Blbs w v (mkG l l.length)) (hl : l.length ≤ 1048577) :
    Calls Tryd.prog 73 #[v, .int .i64 1] w fun e w' => e = .returned (.int .i64 (3 * (l.length : Int) + 1)) ∧ Below w.heap.size w w' := by
  obtain ⟨k1, k2, a, ca, rfl, hca, ha⟩ := hv
  rw [mkG_length] at k1 hca ha ⊢
  obtain ⟨n, hn⟩ : ∃ n, l.length = n := ⟨_, rfl⟩
  rw [hn] at k1 hl hca ha ⊢
  have HN := Lib.hid hn
  have HA := Lib.hid ha
  clear hn ha k2 hca
  go_enter Tryd.func73, Tryd.ntmps73
  go_wp2
  go_loopw [1, 5] (fun kv i wr => ∃ j : Nat, j ≤ n ∧ i = .int .i64 j ∧ kv = .int .i64 (3 * (j : Int) + 1) ∧ Below w.heap.size w wr) (fun _ i _ => n - (intOf i).toNat)
  case atStart => exact ⟨0, by omega, rfl, rfl, Below.refl _ _⟩
  case round =>
    obtain ⟨j, hj, rfl, rfl, hb⟩ := hrel
    have HB := Lib.hid hb
    clear hb
    by_cases hlt : j < n
    · obtain ⟨x, o, rfl, hx, hcx⟩ := HA.out (by omega)
      have cc := (hcx j hlt).below HB.out hx
      obtain ⟨p1, p2, p3⟩ := mkG_at l n j (by rw [HN.out]; exact hlt)
      rw [if_pos hlt] at p1 p2 p3
      obtain ⟨c0, c1, c2⟩ := id cc
      rw [p1] at c0
      rw [p2] at c1
      rw [p3] at c2
      have C0 := Lib.hid c0
      have C1 := Lib.hid c1
      have C2 := Lib.hid c2
      clear hcx p1 p2 p3 cc
      have hxr : x < wr.heap.size := Nat.lt_of_lt_of_le hx HB.out.size
      have hd : ((3 * (j : Int) + 1 + 1 + 1) % 3 == 0) = true := beq_iff_eq.2 (by omega)
      have HM1 := Lib.hid (fun W => mark_text' (3 * j + 1) (3 * (j : Int) + 1) (by omega) W (by omega) (by omega))
      have HM2 := Lib.hid (fun W => mark_text' (3 * j + 2) (3 * (j : Int) + 1 + 1) (by omega) W (by omega) (by omega))
      have y1 : (j : Int) < (n : Int) := by omega
      have y0 : (0 : Int) ≤ (j : Int) := by omega
      go_wp2_with fail
      go_region_held3 (fun w' => w'.cell? ⟨x, o + j * 3, none⟩ = some (.string (mkT (3 * j + 1)))) (first | (with_reducible exact c0) | (with_reducible exact CY.out) | go_keep)
        (first | (go_at_call 102; refine (HM1.out _).mono ?_; rintro e w2 ⟨rfl, hb⟩; have hb' := (show Below wr.heap.size wr w2 from (Below.refl _ _).drew.trans hb); have CY := Lib.hid (show w2.cell? ⟨x, o + j * 3, none⟩ = some (.string (mkT (3 * j + 1))) by rw [hb'.cell (p := ⟨x, o + j * 3, none⟩) hxr]; exact C0.out); have D1 := Lib.hid (show w2.cell? ⟨x, o + j * 3 + 1, none⟩ = some (.string (mkT (3 * j + 2))) by rw [hb'.cell (p := ⟨x, o + j * 3 + 1, none⟩) hxr]; exact C1.out); have D2 := Lib.hid (show w2.cell? ⟨x, o + j * 3 + 2, none⟩ = some (.bool true) by rw [hb'.cell (p := ⟨x, o + j * 3 + 2, none⟩) hxr]; exact C2.out); have hx2 : x < w2.heap.size := Nat.lt_of_lt_of_le hxr hb'.size; have HB2 := Lib.hid (HB.out.trans (Below.mono hb' HB.out.size)); clear hb hb'))
      clear c0 c1 c2 C0 C1 C2 CY
      have c1 := D1.out
      go_wp2_with fail
      go_region_held3 (fun w' => w'.cell? ⟨x, o + j * 3 + 1, none⟩ = some (.string (mkT (3 * j + 2)))) (first | (with_reducible exact c1) | (with_reducible exact CY.out) | go_keep)
        (first | (go_at_call 102; refine (HM2.out _).mono ?_; rintro e w3 ⟨rfl, hb⟩; have hb' := (show Below w2.heap.size w2 w3 from (Below.refl _ _).drew.trans hb); have CY := Lib.hid (show w3.cell? ⟨x, o + j * 3 + 1, none⟩ = some (.string (mkT (3 * j + 2))) by rw [hb'.cell (p := ⟨x, o + j * 3 + 1, none⟩) hx2]; exact D1.out); have E2 := Lib.hid (show w3.cell? ⟨x, o + j * 3 + 2, none⟩ = some (.bool true) by rw [hb'.cell (p := ⟨x, o + j * 3 + 2, none⟩) hx2]; exact D2.out); have HB3 := Lib.hid (HB2.out.trans (Below.mono hb' HB2.out.size)); clear hb hb'))
      clear c1 D1 D2 CY
      have c2 := E2.out
      go_wp2
      go_roundw
      case rel => exact ⟨j + 1, by omega, by go_num, by go_num, HB3.out⟩
      case measure => simp only [intOf]; omega
    · obtain rfl : j = n := by omega
      go_wp2
      go_ret
      exact ⟨rfl, HB.out⟩

/-! ### the same of a store -/
set_option maxHeartbeats 400000 in
theorem mark_blobs (v : Value) (l : List Bb) (q : Int) (base : Nat) (w : World) (hv : BlOwn w base v l) (hl : l.length ≤ 1048577) :
    Calls Tryd.prog 36 #[.agg #[.int .i64 q, v], .int .i64 1] w fun e w' => e = .returned (.int .i64 (3 * (l.length : Int) + 1)) ∧ BlOwn w' base v (mkG l l.length) ∧ w.grownBy w' v.ownBlock := by
  have H := Lib.hid (mark_blobL v l base _ (hv.alloc (.cells #[.int .i64 q, v] 41)) hl)
  obtain ⟨a, k, c, rfl⟩ := hv.form
  clear hv
  go_enter Tryd.func36, Tryd.ntmps36
  go_wp2_with fail
  refine H.out.mono ?_
  rintro e w2 ⟨rfl, h2, hb⟩
  have H2 := Lib.hid h2
  have HB := Lib.hid hb
  clear hb h2
  go_wp2
  go_ret
  exact ⟨rfl, H2.out, (World.grownBy_alloc _ _ _).trans HB.out⟩
set_option maxHeartbeats 400000 in
theorem held_blobs (v : Value) (l : List Bb) (q : Int) (w : World) (hv : Blbs w v (mkG l l.length)) (hl : l.length ≤ 1048577) :
    Calls Tryd.prog 37 #[.agg #[.int .i64 q, v], .int .i64 1] w fun e w' => e = .returned (.int .i64 (3 * (l.length : Int) + 1)) ∧ Below w.heap.size w w' := by
  have H := Lib.hid (held_blobL v l _ (hv.alloc (.cells #[.int .i64 q, v] 41)) hl)
  obtain ⟨a, k, c, rfl⟩ := hv.form
  clear hv
  go_enter Tryd.func37, Tryd.ntmps37
  go_wp2_with fail
  refine H.out.mono ?_
  rintro e w2 ⟨rfl, hb⟩
  have HB := Lib.hid hb
  clear hb
  have hlt : decide (3 * (l.length : Int) + 1 < 0) = false := by simp; omega
  go_wp2
  go_ret
  exact ⟨rfl, ((Below.refl _ _).alloc (Nat.le_refl _) _).trans (HB.out.mono (by simp))⟩
end Go.Proofs.YtemhhjkmolndbaaDoor
