/- Segments that a call owns: the laws' marks on them. -/
import Derived.Test.YtmnglcidklckgaaDoorSgE
import Derived.Test.YtmnglcidklckgaaDoorMarkT
import Derived.Test.YtmnglcidklckgaaDoorBx
namespace Go.Proofs.YtmnglcidklckgaaDoor
open Go.RowKit Go.PlainAid
set_option linter.unusedVariables false

/-- The slice v holds l, in a block of its own behind base. -/
def SegOwn (w : World) (base : Nat) (v : Value) (l : List Sg) : Prop :=
  ∃ a cap, v = .slice a l.length cap ∧ l.length ≤ cap ∧ l.length ≤ 9223372036854775807 ∧ (0 < l.length → ∃ g o cur, a = some ⟨g, o, none⟩ ∧ base ≤ g ∧ w.heap[g]? = some (.cells cur 51 (0, 0)) ∧ ∀ j, j < l.length → cur[o + j * 2]? = some (.int .i64 (sF l j)) ∧ cur[o + j * 2 + 1]? = some (.string (sT l j)))
theorem SegOwn.form {w : World} {base : Nat} {v : Value} {l : List Sg} (h : SegOwn w base v l) : ∃ a n cap, v = .slice a n cap := by
  obtain ⟨a, cap, e, _⟩ := h
  exact ⟨a, _, cap, e⟩
theorem SegOwn.mono {w : World} {base base' : Nat} {v : Value} {l : List Sg} (h : SegOwn w base v l) (hb : base' ≤ base) : SegOwn w base' v l := by
  obtain ⟨a, cap, e, h1, h2, h3⟩ := h
  exact ⟨a, cap, e, h1, h2, fun h0 => by obtain ⟨g, o, cur, r1, r2, r3⟩ := h3 h0; exact ⟨g, o, cur, r1, Nat.le_trans hb r2, r3⟩⟩
theorem SegOwn.segs {w : World} {base : Nat} {v : Value} {l : List Sg} (h : SegOwn w base v l) (hs : ∀ j, j < l.length → (sT l j).size ≤ 9223372036854775807) : Segs w v l := by
  obtain ⟨a, cap, e, h1, h2, h3⟩ := h
  refine ⟨h2, hs, a, cap, e, h1, fun h0 => ?_⟩
  obtain ⟨g, o, cur, r1, r2, r3, r4⟩ := h3 h0
  refine ⟨g, o, r1, (Array.getElem?_eq_some_iff.1 r3).1, fun j hj => ?_⟩
  rw [cell_of_row w g _ cur _ (0, 0) r3, cell_of_row w g _ cur _ (0, 0) r3]
  exact r4 j hj
theorem SegOwn.later {w w' : World} {base : Nat} {v : Value} {l : List Sg} (h : SegOwn w base v l) (hb : Below w.heap.size w w') : SegOwn w' base v l := by
  obtain ⟨a, cap, e, h1, h2, h3⟩ := h
  refine ⟨a, cap, e, h1, h2, fun h0 => ?_⟩
  obtain ⟨g, o, cur, r1, r2, r3, r4⟩ := h3 h0
  exact ⟨g, o, cur, r1, r2, by rw [hb.block g (Array.getElem?_eq_some_iff.1 r3).1]; exact r3, r4⟩
theorem SegOwn.alloc {w : World} {base : Nat} {v : Value} {l : List Sg} (h : SegOwn w base v l) (o : Obj) : SegOwn (w.alloc o) base v l := h.later ((Below.refl _ _).alloc (Nat.le_refl _) _)
theorem segOwn_nil (w : World) (base : Nat) (a : Option Addr) (cap : Nat) : SegOwn w base (.slice a 0 cap) [] := ⟨a, cap, rfl, by simp, by simp, fun h => by simp at h⟩
/-- A block that is written elsewhere. -/
theorem SegOwn.kept {w w' : World} {base : Nat} {v : Value} {l : List Sg} {row : Option Nat} (h : SegOwn w base v l) (hg : w.grownBy w' row) (hne : ∀ k, row = some k → k < base) : SegOwn w' base v l := by
  obtain ⟨a, cap, e, h1, h2, h3⟩ := h
  refine ⟨a, cap, e, h1, h2, fun h0 => ?_⟩
  obtain ⟨g, o, cur, r1, r2, r3, r4⟩ := h3 h0
  refine ⟨g, o, cur, r1, r2, ?_, r4⟩
  rw [hg.block g (Array.getElem?_eq_some_iff.1 r3).1 (fun e => by have := hne g e.symm; omega)]
  exact r3
/-- One field of one segment is written. -/
theorem SegOwn.setF {w : World} {base g o n cap : Nat} {l : List Sg} (h : SegOwn w base (.slice (some ⟨g, o, none⟩) n cap) l) (j : Nat) (z : Int) (hj : j < l.length) :
    SegOwn (w.setCell ⟨g, o + j * 2, none⟩ (.int .i64 z)) base (.slice (some ⟨g, o, none⟩) n cap) (l.set j ⟨z, sT l j⟩) := by
  obtain ⟨a, c, e, h1, h2, h3⟩ := h
  refine ⟨a, c, by rw [List.length_set]; exact e, by rw [List.length_set]; exact h1, by rw [List.length_set]; exact h2, fun _ => ?_⟩
  obtain ⟨g', o', cur, r1, r2, r3, r4⟩ := h3 (by omega)
  subst r1
  simp only [Value.slice.injEq, Option.some.injEq, Addr.mk.injEq] at e
  obtain ⟨⟨rfl, rfl, _⟩, _, _⟩ := e
  refine ⟨g, o, cur.setIfInBounds (o + j * 2) (.int .i64 z), rfl, r2, by rw [setCell_eq_setRow w g _ _ _ _ _ r3, setRow_heap w g _ _ _ _ r3], fun i hi => ?_⟩
  rw [List.length_set] at hi
  obtain ⟨q1, q2⟩ := r4 i hi
  have hz := (Array.getElem?_eq_some_iff.1 (r4 j hj).1).1
  rw [sF_set l j i _ hj, sT_set l j i _ hj, Array.getElem?_setIfInBounds, Array.getElem?_setIfInBounds]
  by_cases e : i = j
  · subst e
    rw [if_pos rfl, if_pos hz, if_pos rfl, if_neg (by omega), if_pos rfl]
    exact ⟨rfl, q2⟩
  · rw [if_neg (by omega), if_neg e, if_neg (by omega), if_neg e]
    exact ⟨q1, q2⟩
theorem SegOwn.setT {w : World} {base g o n cap : Nat} {l : List Sg} (h : SegOwn w base (.slice (some ⟨g, o, none⟩) n cap) l) (j : Nat) (t : ByteArray) (hj : j < l.length) :
    SegOwn (w.setCell ⟨g, o + j * 2 + 1, none⟩ (.string t)) base (.slice (some ⟨g, o, none⟩) n cap) (l.set j ⟨sF l j, t⟩) := by
  obtain ⟨a, c, e, h1, h2, h3⟩ := h
  refine ⟨a, c, by rw [List.length_set]; exact e, by rw [List.length_set]; exact h1, by rw [List.length_set]; exact h2, fun _ => ?_⟩
  obtain ⟨g', o', cur, r1, r2, r3, r4⟩ := h3 (by omega)
  subst r1
  simp only [Value.slice.injEq, Option.some.injEq, Addr.mk.injEq] at e
  obtain ⟨⟨rfl, rfl, _⟩, _, _⟩ := e
  refine ⟨g, o, cur.setIfInBounds (o + j * 2 + 1) (.string t), rfl, r2, by rw [setCell_eq_setRow w g _ _ _ _ _ r3, setRow_heap w g _ _ _ _ r3], fun i hi => ?_⟩
  rw [List.length_set] at hi
  obtain ⟨q1, q2⟩ := r4 i hi
  have hz := (Array.getElem?_eq_some_iff.1 (r4 j hj).2).1
  rw [sF_set l j i _ hj, sT_set l j i _ hj, Array.getElem?_setIfInBounds, Array.getElem?_setIfInBounds]
  by_cases e : i = j
  · subst e
    rw [if_neg (by omega), if_pos rfl, if_pos rfl, if_pos hz, if_pos rfl]
    exact ⟨q1, rfl⟩
  · rw [if_neg (by omega), if_neg e, if_neg (by omega), if_neg e]
    exact ⟨q1, q2⟩
/-- What may be read and written of it. -/
theorem SegOwn.cells {w : World} {base : Nat} {a : Option Addr} {n cap : Nat} {l : List Sg} (h : SegOwn w base (.slice a n cap) l) (h0 : 0 < l.length) :
    ∃ g o, a = some ⟨g, o, none⟩ ∧ n = l.length ∧ base ≤ g ∧ g < w.heap.size ∧ ∀ j, j < l.length → w.cell? ⟨g, o + j * 2, none⟩ = some (.int .i64 (sF l j)) ∧ w.cell? ⟨g, o + j * 2 + 1, none⟩ = some (.string (sT l j)) ∧ w.frozen? ⟨g, o + j * 2, none⟩ = false ∧ w.frozen? ⟨g, o + j * 2 + 1, none⟩ = false := by
  obtain ⟨a', c, e, h1, h2, h3⟩ := h
  obtain ⟨g, o, cur, rfl, r2, r3, r4⟩ := h3 h0
  simp only [Value.slice.injEq] at e
  obtain ⟨rfl, rfl, _⟩ := e
  refine ⟨g, o, rfl, rfl, r2, (Array.getElem?_eq_some_iff.1 r3).1, fun j hj => ?_⟩
  rw [cell_of_row w g _ cur _ (0, 0) r3, cell_of_row w g _ cur _ (0, 0) r3]
  exact ⟨(r4 j hj).1, (r4 j hj).2, frozen_of_row w g _ _ _ r3, frozen_of_row w g _ _ _ r3⟩
theorem grown_all {w w' : World} (hb : Below w.heap.size w w') (row : Option Nat) : w.grownBy w' row := ⟨hb.os, hb.tape, hb.output, hb.size, fun k hk _ => hb.block k hk⟩
theorem grownBy_set (w : World) (g o : Nat) (v : Value) : w.grownBy (w.setCell ⟨g, o, none⟩ v) (some g) :=
  ⟨rfl, rfl, rfl, by simp, fun k _ hne => heap_setCell_other w ⟨g, o, none⟩ k _ (fun e => hne (by simp [e]))⟩

theorem SegOwn.block {w : World} {base : Nat} {v : Value} {l : List Sg} (h : SegOwn w base v l) (h0 : 0 < l.length) (k : Nat) (hk : v.ownBlock = some k) : base ≤ k ∧ k < w.heap.size := by
  obtain ⟨a', c, rfl, h1, h2, h3⟩ := h
  obtain ⟨g, o, cur, rfl, r2, r3, r4⟩ := h3 h0
  simp only [Value.ownBlock, Option.some.injEq] at hk
  subst hk
  exact ⟨r2, (Array.getElem?_eq_some_iff.1 r3).1⟩

/-! ### a log is stored into a block -/
abbrev st3 (w : World) (g : Nat) (y0 y1 y2 : Value) : World := ((w.setCell ⟨g, 0, none⟩ y0).setCell ⟨g, 1, none⟩ y1).setCell ⟨g, 2, none⟩ y2
theorem grow_st3 (w : World) (g : Nat) (y0 y1 y2 : Value) : w.grownBy (st3 w g y0 y1 y2) (some g) := ((grownBy_set w g 0 y0).trans (grownBy_set _ g 1 y1)).trans (grownBy_set _ g 2 y2)
theorem Bx.st3 {w : World} {g : Nat} {t : TypeId} {x0 x1 x2 : Value} (h : Bx w g t #[x0, x1, x2]) (y0 y1 y2 : Value) : Bx (st3 w g y0 y1 y2) g t #[y0, y1, y2] := ((h.set 0 y0).set 1 y1).set 2 y2
theorem Bx.st3o {w : World} {g q : Nat} {t : TypeId} {cs : Array Value} (h : Bx w g t cs) (hne : g ≠ q) (y0 y1 y2 : Value) : Bx (Go.Proofs.YtmnglcidklckgaaDoor.st3 w q y0 y1 y2) g t cs := h.keep (grow_st3 w q y0 y1 y2) (by simpa using hne)
theorem SegOwn.st3 {w : World} {base q : Nat} {v : Value} {l : List Sg} (h : SegOwn w base v l) (hq : q < base) (y0 y1 y2 : Value) : SegOwn (Go.Proofs.YtmnglcidklckgaaDoor.st3 w q y0 y1 y2) base v l := h.kept (grow_st3 w q y0 y1 y2) (fun k hk => by cases hk; exact hq)
theorem SegOwn.setO {w : World} {base q o : Nat} {v : Value} {l : List Sg} (h : SegOwn w base v l) (hq : q < base) (y : Value) : SegOwn (w.setCell ⟨q, o, none⟩ y) base v l := h.kept (grownBy_set w q o y) (fun k hk => by cases hk; exact hq)
theorem SegOwn.keepB {w w' : World} {base : Nat} {v : Value} {l : List Sg} {row : Option Nat} (h : SegOwn w base v l) (hg : w.grownBy w' row) (hne : ∀ k, row = some k → v.ownBlock ≠ some k) : SegOwn w' base v l := by
  obtain ⟨a, cap, e, h1, h2, h3⟩ := h
  refine ⟨a, cap, e, h1, h2, fun h0 => ?_⟩
  obtain ⟨g, o, cur, r1, r2, r3, r4⟩ := h3 h0
  refine ⟨g, o, cur, r1, r2, ?_, r4⟩
  subst e; subst r1
  rw [hg.block g (Array.getElem?_eq_some_iff.1 r3).1 (fun e => hne g e.symm rfl)]
  exact r3
theorem Af.st3 {w0 w : World} {q : Nat} (h : Af w0 w) (hq : w0.heap.size ≤ q) (y0 y1 y2 : Value) : Af w0 (Go.Proofs.YtmnglcidklckgaaDoor.st3 w q y0 y1 y2) := h.grow (grow_st3 w q y0 y1 y2) (fun k hk => by cases hk; exact hq)

/-! ### the marks -/
/-- The first j segments are marks. -/
def mkG (l : List Sg) (j : Nat) : List Sg := (List.range l.length).map fun i => if i < j then ⟨2 * (i : Int) + 1, mkT (2 * i + 2)⟩ else ⟨sF l i, sT l i⟩
theorem mkG_length (l : List Sg) (j : Nat) : (mkG l j).length = l.length := by simp [mkG]
theorem mkG_get (l : List Sg) (j i : Nat) (h : i < l.length) : (mkG l j)[i]? = some (if i < j then ⟨2 * (i : Int) + 1, mkT (2 * i + 2)⟩ else ⟨sF l i, sT l i⟩) := by
  rw [mkG, List.getElem?_map, List.getElem?_range h]
  rfl
theorem mkG_zero (l : List Sg) : mkG l 0 = l := by
  apply List.ext_getElem?
  intro i
  by_cases h : i < l.length
  · rw [mkG_get l 0 i h, if_neg (by omega), sg_get l i h]
  · rw [List.getElem?_eq_none (by rw [mkG_length]; omega), List.getElem?_eq_none (by omega)]
theorem mkG_sF (l : List Sg) (j i : Nat) (h : i < l.length) : sF (mkG l j) i = if i < j then 2 * (i : Int) + 1 else sF l i := by
  rw [sF_of (mkG_get l j i h)]
  split <;> rfl
theorem mkG_sT (l : List Sg) (j i : Nat) (h : i < l.length) : sT (mkG l j) i = if i < j then mkT (2 * i + 2) else sT l i := by
  rw [sT_of (mkG_get l j i h)]
  split <;> rfl
theorem mkG_step (l : List Sg) (j : Nat) (h : j < l.length) (z : Int) (t : ByteArray) (hz : z = 2 * (j : Int) + 1) (ht : t = mkT (2 * j + 2)) : ((mkG l j).set j ⟨z, sT (mkG l j) j⟩).set j ⟨z, t⟩ = mkG l (j + 1) := by
  subst hz; subst ht
  rw [List.set_set]
  apply sg_ext
  · rw [List.length_set, mkG_length, mkG_length]
  · intro i hi
    rw [List.length_set, mkG_length] at hi
    rw [sF_set _ _ _ _ (by rw [mkG_length]; exact h), sT_set _ _ _ _ (by rw [mkG_length]; exact h), mkG_sF l _ i hi, mkG_sT l _ i hi, mkG_sF l _ i hi, mkG_sT l _ i hi]
    by_cases e : i = j
    · subst e; simp
    · by_cases e2 : i < j
      · simp [e, e2, show i < j + 1 by omega]
      · simp [e, e2, show ¬ i < j + 1 by omega]
theorem mkG_small (l : List Sg) (hl : l.length ≤ 1048576) (j : Nat) (hj : j < (mkG l l.length).length) : (sT (mkG l l.length) j).size ≤ 9223372036854775807 := by
  rw [mkG_length] at hj
  rw [mkG_sT l _ j hj, if_pos hj]
  have := mkT_size (2 * j + 2)
  omega

set_option maxRecDepth 100000 in
set_option maxHeartbeats 1000000 in
theorem mark_segs (v : Value) (l : List Sg) (base : Nat) (w : World) (hv : SegOwn w base v l) (hl : l.length ≤ 500000) :
    Calls Tryd.prog 50 #[v, .int .i64 1] w fun e w' => e = .returned (.int .i64 (2 * (l.length : Int) + 1)) ∧ SegOwn w' base v (mkG l l.length) ∧ w.grownBy w' v.ownBlock := by
  obtain ⟨a, nv, cap, rfl⟩ := hv.form
  obtain ⟨n, hn⟩ : ∃ n, l.length = n := ⟨_, rfl⟩
  have hvn : nv = n := by
    obtain ⟨a', c', e, _⟩ := hv
    simp only [Value.slice.injEq] at e
    omega
  subst hvn
  have HN := Lib.hid hn
  rw [hn] at hl ⊢
  have HV0 := Lib.hid hv
  clear hn hv
  go_enter Tryd.func50, Tryd.ntmps50
  go_wp2
  go_loopw [1, 5] (fun kv i wr => ∃ j : Nat, j ≤ nv ∧ i = .int .i64 j ∧ kv = .int .i64 (2 * (j : Int) + 1) ∧ SegOwn wr base (.slice a nv cap) (mkG l j) ∧ w.grownBy wr (Value.ownBlock (.slice a nv cap))) (fun _ i _ => nv - (intOf i).toNat)
  case atStart => exact ⟨0, by omega, rfl, rfl, by rw [mkG_zero]; exact HV0.out, World.grownBy.refl _ _⟩
  case round =>
    obtain ⟨j, hj, rfl, rfl, hv, hb⟩ := hrel
    have HV := Lib.hid hv
    have HB := Lib.hid hb
    clear hb
    by_cases hlt : j < nv
    · obtain ⟨g, o, rfl, e2, hbg, hgw, hc⟩ := hv.cells (by rw [mkG_length, HN.out]; omega)
      obtain ⟨c1, c2, f1, f2⟩ := hc j (by rw [mkG_length, HN.out]; omega)
      have hm : ∀ W, Calls Tryd.prog 53 #[.int .i64 (2 * (j : Int) + 1 + 1)] W fun e w' => e = .returned (.string (mkT (2 * j + 2))) ∧ Below W.heap.size W w' := fun W => by
        have h := mark_text (2 * j + 2) W (by omega) (by omega)
        rwa [show ((2 * j + 2 : Nat) : Int) = 2 * (j : Int) + 1 + 1 by omega] at h
      have HM := Lib.hid hm
      have V1 := Lib.hid (hv.setF j (2 * (j : Int) + 1) (by rw [mkG_length, HN.out]; omega))
      clear hm hc e2 hv HV HV0
      go_wp2_with fail
      refine (HM.out _).mono ?_
      rintro e w2 ⟨rfl, hb2⟩
      have hv2 := V1.out.later hb2
      obtain ⟨g', o', e1, e3, _, hg2, hc2⟩ := hv2.cells (by rw [List.length_set, mkG_length, HN.out]; omega)
      simp only [Option.some.injEq, Addr.mk.injEq] at e1
      obtain ⟨rfl, rfl, _⟩ := e1
      obtain ⟨d1, d2, g1, g2⟩ := hc2 j (by rw [List.length_set, mkG_length, HN.out]; omega)
      have V2 := Lib.hid (hv2.setT j (mkT (2 * j + 2)) (by rw [List.length_set, mkG_length, HN.out]; omega))
      have B2 := Lib.hid ((HB.out.trans (grownBy_set wr g (o + j * 2) (.int .i64 (2 * (j : Int) + 1)))).trans ((grown_all hb2 (some g)).trans (grownBy_set w2 g (o + j * 2 + 1) (.string (mkT (2 * j + 2))))))
      clear hv2 hb2 hc2 V1 e3
      go_wp2
      go_roundw
      case rel =>
        refine ⟨j + 1, by omega, by go_num, by go_num, ?_, B2.out⟩
        have h := V2.out
        rw [sF_set _ _ _ _ (by rw [mkG_length, HN.out]; omega), if_pos rfl, mkG_step l j (by rw [HN.out]; omega) _ _ rfl rfl] at h
        exact h
      case measure => simp only [intOf]; omega
    · obtain rfl : j = nv := by omega
      go_wp2
      go_ret
      exact ⟨rfl, HV.out, HB.out⟩

set_option maxRecDepth 100000 in
set_option maxHeartbeats 1000000 in
theorem held_segs (v : Value) (l : List Sg) (w : World) (hv : Segs w v (mkG l l.length)) (hl : l.length ≤ 500000) :
    Calls Tryd.prog 51 #[v, .int .i64 1] w fun e w' => e = .returned (.int .i64 (2 * (l.length : Int) + 1)) ∧ Below w.heap.size w w' := by
  obtain ⟨k1, k2, a, ca, rfl, hca, ha⟩ := hv
  rw [mkG_length] at k1 hca ha ⊢
  obtain ⟨n, hn⟩ : ∃ n, l.length = n := ⟨_, rfl⟩
  rw [hn] at k1 hl hca ha ⊢
  have HN := Lib.hid hn
  have HA := Lib.hid ha
  clear hn ha k2 hca
  go_enter Tryd.func51, Tryd.ntmps51
  go_wp2
  go_loopw [1, 5] (fun kv i wr => ∃ j : Nat, j ≤ n ∧ i = .int .i64 j ∧ kv = .int .i64 (2 * (j : Int) + 1) ∧ Below w.heap.size w wr) (fun _ i _ => n - (intOf i).toNat)
  case atStart => exact ⟨0, by omega, rfl, rfl, Below.refl _ _⟩
  case round =>
    obtain ⟨j, hj, rfl, rfl, hb⟩ := hrel
    have HB := Lib.hid hb
    clear hb
    by_cases hlt : j < n
    · obtain ⟨x, o, rfl, hx, hcx⟩ := HA.out (by omega)
      obtain ⟨cx0, cx1⟩ := hcx j hlt
      rw [mkG_sF l n j (by rw [HN.out]; exact hlt), if_pos hlt] at cx0
      rw [mkG_sT l n j (by rw [HN.out]; exact hlt), if_pos hlt] at cx1
      have c0 : wr.cell? ⟨x, o + j * 2, none⟩ = some (.int .i64 (2 * (j : Int) + 1)) := by rw [HB.out.cell (p := ⟨x, o + j * 2, none⟩) hx]; exact cx0
      have cx : wr.cell? ⟨x, o + j * 2 + 1, none⟩ = some (.string (mkT (2 * j + 2))) := by rw [HB.out.cell (p := ⟨x, o + j * 2 + 1, none⟩) hx]; exact cx1
      have CX := Lib.hid cx
      clear hcx cx0 cx1
      have hxr : x < wr.heap.size := Nat.lt_of_lt_of_le hx HB.out.size
      have hm : ∀ W, Calls Tryd.prog 53 #[.int .i64 (2 * (j : Int) + 1 + 1)] W fun e w' => e = .returned (.string (mkT (2 * j + 2))) ∧ Below W.heap.size W w' := fun W => by
        have h := mark_text (2 * j + 2) W (by omega) (by omega)
        rwa [show ((2 * j + 2 : Nat) : Int) = 2 * (j : Int) + 1 + 1 by omega] at h
      have HM := Lib.hid hm
      clear hm
      have y1 : (j : Int) < (n : Int) := by omega
      have y0 : (0 : Int) ≤ (j : Int) := by omega
      go_wp2_with fail
      go_region_held3 (fun w' => w'.cell? ⟨x, o + j * 2 + 1, none⟩ = some (.string (mkT (2 * j + 2)))) (first | (with_reducible exact cx) | (with_reducible exact CY.out) | go_keep)
        (first | (go_at_call 53; refine (HM.out _).mono ?_; rintro e w2 ⟨rfl, hb⟩; have CY := Lib.hid (show w2.cell? ⟨x, o + j * 2 + 1, none⟩ = some (.string (mkT (2 * j + 2))) by rw [hb.cell (p := ⟨x, o + j * 2 + 1, none⟩) hxr]; exact CX.out); have HB2 := Lib.hid (HB.out.trans (Below.mono (show Below wr.heap.size wr w2 from (Below.refl _ _).drew.trans hb) HB.out.size)); clear hb))
      clear cx
      go_wp2
      go_roundw
      case rel => exact ⟨j + 1, by omega, by go_num, by go_num, HB2.out⟩
      case measure => simp only [intOf]; omega
    · obtain rfl : j = n := by omega
      go_wp2
      go_ret
      exact ⟨rfl, HB.out⟩

/-! ### the same of a log -/
set_option maxHeartbeats 400000 in
theorem mark_log (v : Value) (l : List Sg) (n m : Int) (base : Nat) (w : World) (hv : SegOwn w base v l) (hl : l.length ≤ 500000) :
    Calls Tryd.prog 26 #[.agg #[v, .int .i64 n, .int .i64 m], .int .i64 1] w fun e w' => e = .returned (.int .i64 (2 * (l.length : Int) + 1)) ∧ SegOwn w' base v (mkG l l.length) ∧ w.grownBy w' v.ownBlock := by
  have H := Lib.hid (mark_segs v l base _ (hv.alloc (.cells #[v, .int .i64 n, .int .i64 m] 26)) hl)
  obtain ⟨a, k, c, rfl⟩ := hv.form
  clear hv
  go_enter Tryd.func26, Tryd.ntmps26
  go_wp2_with fail
  refine H.out.mono ?_
  rintro e w2 ⟨rfl, h2, hb⟩
  have H2 := Lib.hid h2
  have HB := Lib.hid hb
  clear hb h2
  go_wp2
  go_ret
  exact ⟨rfl, H2.out, (World.grownBy_alloc _ _ _).trans HB.out⟩
set_option maxHeartbeats 400000 in
theorem held_log (v : Value) (l : List Sg) (n m : Int) (w : World) (hv : Segs w v (mkG l l.length)) (hl : l.length ≤ 500000) :
    Calls Tryd.prog 27 #[.agg #[v, .int .i64 n, .int .i64 m], .int .i64 1] w fun e w' => e = .returned (.int .i64 (2 * (l.length : Int) + 1)) ∧ Below w.heap.size w w' := by
  have H := Lib.hid (held_segs v l _ (hv.alloc (.cells #[v, .int .i64 n, .int .i64 m] 26)) hl)
  obtain ⟨a, k, c, rfl⟩ := hv.form
  clear hv
  go_enter Tryd.func27, Tryd.ntmps27
  go_wp2_with fail
  refine H.out.mono ?_
  rintro e w2 ⟨rfl, hb⟩
  have HB := Lib.hid hb
  clear hb
  have hlt : decide (2 * (l.length : Int) + 1 < 0) = false := by simp; omega
  go_wp2
  go_ret
  exact ⟨rfl, ((Below.refl _ _).alloc (Nat.le_refl _) _).trans (HB.out.mono (by simp))⟩
end Go.Proofs.YtmnglcidklckgaaDoor
