/- Ids that a call owns: the laws' marks on them. -/
import Derived.Test.YtlbebeedkcdgpaaDoorIdE
import Derived.Test.YtlbebeedkcdgpaaDoorBx
namespace Go.Proofs.YtlbebeedkcdgpaaDoor
open Go.RowKit Go.PlainAid
set_option linter.unusedVariables false

theorem grown_of {w w' : World} (hb : Below w.heap.size w w') (row : Option Nat) : w.grownBy w' row := ⟨hb.os, hb.tape, hb.output, hb.size, fun k hk _ => hb.block k hk⟩
theorem grownBy_put (w : World) (g o : Nat) (v : Value) : w.grownBy (w.setCell ⟨g, o, none⟩ v) (some g) :=
  ⟨rfl, rfl, rfl, by simp, fun k _ hne => heap_setCell_other w ⟨g, o, none⟩ k _ (fun e => hne (by simp [e]))⟩
/-- The slice v holds l, in a block of its own behind base. -/
def IdOwn (w : World) (base : Nat) (v : Value) (l : List Ii) : Prop :=
  ∃ a cap, v = .slice a l.length cap ∧ l.length ≤ cap ∧ l.length ≤ 9223372036854775807 ∧ (0 < l.length → ∃ g o cur, a = some ⟨g, o, none⟩ ∧ (base ≤ g ∧ o + cap * 2 ≤ cur.size) ∧ w.heap[g]? = some (.cells cur 30 (0, 0)) ∧ ∀ j, j < l.length → cur[o + j * 2]? = some (.int .i64 (iR l j)) ∧ cur[o + j * 2 + 1]? = some (.int .i64 (iS l j)))
theorem IdOwn.form {w : World} {base : Nat} {v : Value} {l : List Ii} (h : IdOwn w base v l) : ∃ a n cap, v = .slice a n cap := by
  obtain ⟨a, cap, e, _⟩ := h
  exact ⟨a, _, cap, e⟩
theorem IdOwn.mono {w : World} {base base' : Nat} {v : Value} {l : List Ii} (h : IdOwn w base v l) (hb : base' ≤ base) : IdOwn w base' v l := by
  obtain ⟨a, cap, e, h1, h2, h3⟩ := h
  exact ⟨a, cap, e, h1, h2, fun h0 => by obtain ⟨g, o, cur, r1, r2, r3⟩ := h3 h0; exact ⟨g, o, cur, r1, ⟨Nat.le_trans hb r2.1, r2.2⟩, r3⟩⟩
theorem IdOwn.ids {w : World} {base : Nat} {v : Value} {l : List Ii} (h : IdOwn w base v l) : Ids w v l := by
  obtain ⟨a, cap, e, h1, h2, h3⟩ := h
  refine ⟨h2, a, cap, e, h1, fun h0 => ?_⟩
  obtain ⟨g, o, cur, r1, r2, r3, r4⟩ := h3 h0
  refine ⟨g, o, r1, (Array.getElem?_eq_some_iff.1 r3).1, fun j hj => ?_⟩
  unfold IiAt
  rw [cell_of_row w g _ cur _ (0, 0) r3, cell_of_row w g _ cur _ (0, 0) r3]
  exact r4 j hj
theorem IdOwn.keepB {w w' : World} {base : Nat} {v : Value} {l : List Ii} {row : Option Nat} (h : IdOwn w base v l) (hg : w.grownBy w' row) (hne : 0 < l.length → ∀ k, row = some k → v.ownBlock ≠ some k) : IdOwn w' base v l := by
  obtain ⟨a, cap, e, h1, h2, h3⟩ := h
  refine ⟨a, cap, e, h1, h2, fun h0 => ?_⟩
  obtain ⟨g, o, cur, r1, r2, r3, r4⟩ := h3 h0
  refine ⟨g, o, cur, r1, r2, ?_, r4⟩
  subst e; subst r1
  rw [hg.block g (Array.getElem?_eq_some_iff.1 r3).1 (fun e => hne h0 g e.symm rfl)]
  exact r3
theorem IdOwn.later {w w' : World} {base : Nat} {v : Value} {l : List Ii} (h : IdOwn w base v l) (hb : Below w.heap.size w w') : IdOwn w' base v l := h.keepB (grown_of hb none) (fun _ k hk => by cases hk)
theorem IdOwn.alloc {w : World} {base : Nat} {v : Value} {l : List Ii} (h : IdOwn w base v l) (o : Obj) : IdOwn (w.alloc o) base v l := h.later ((Below.refl _ _).alloc (Nat.le_refl _) _)
theorem IdOwn.drew {w : World} {base : Nat} {v : Value} {l : List Ii} (h : IdOwn w base v l) : IdOwn w.drew base v l := h.later (Below.refl _ _).drew
theorem idOwn_nil (w : World) (base : Nat) (a : Option Addr) (cap : Nat) : IdOwn w base (.slice a 0 cap) [] := ⟨a, cap, rfl, by simp, by simp, fun h => by simp at h⟩
/-- A block that is written elsewhere. -/
theorem IdOwn.kept {w w' : World} {base : Nat} {v : Value} {l : List Ii} {row : Option Nat} (h : IdOwn w base v l) (hg : w.grownBy w' row) (hne : ∀ k, row = some k → k < base) : IdOwn w' base v l := by
  obtain ⟨a, cap, e, h1, h2, h3⟩ := h
  refine ⟨a, cap, e, h1, h2, fun h0 => ?_⟩
  obtain ⟨g, o, cur, r1, r2, r3, r4⟩ := h3 h0
  refine ⟨g, o, cur, r1, r2, ?_, r4⟩
  rw [hg.block g (Array.getElem?_eq_some_iff.1 r3).1 (fun e => by have := hne g e.symm; omega)]
  exact r3
theorem IdOwn.setR {w : World} {base g o n cap : Nat} {l : List Ii} (h : IdOwn w base (.slice (some ⟨g, o, none⟩) n cap) l) (j : Nat) (z : Int) (hj : j < l.length) :
    IdOwn (w.setCell ⟨g, o + j * 2, none⟩ (.int .i64 z)) base (.slice (some ⟨g, o, none⟩) n cap) (l.set j ⟨z, iS l j⟩) := by
  obtain ⟨a, c, e, h1, h2, h3⟩ := h
  refine ⟨a, c, by rw [List.length_set]; exact e, by rw [List.length_set]; exact h1, by rw [List.length_set]; exact h2, fun _ => ?_⟩
  obtain ⟨g', o', cur, r1, r2, r3, r4⟩ := h3 (by omega)
  subst r1
  simp only [Value.slice.injEq, Option.some.injEq, Addr.mk.injEq] at e
  obtain ⟨⟨rfl, rfl, _⟩, _, _⟩ := e
  refine ⟨g, o, cur.setIfInBounds (o + j * 2) (.int .i64 z), rfl, by simpa using r2, by rw [setCell_eq_setRow w g _ _ _ _ _ r3, setRow_heap w g _ _ _ _ r3], fun i hi => ?_⟩
  rw [List.length_set] at hi
  obtain ⟨q1, q2⟩ := r4 i hi
  have hz := (Array.getElem?_eq_some_iff.1 (r4 j hj).1).1
  obtain ⟨s1, s2⟩ := ii_set l j i ⟨z, iS l j⟩ hj
  rw [s1, s2, Array.getElem?_setIfInBounds, Array.getElem?_setIfInBounds]
  by_cases e : i = j
  · subst e
    simp only [if_true]
    rw [if_pos hz, if_neg (by omega)]
    exact ⟨rfl, q2⟩
  · rw [if_neg (by omega), if_neg e, if_neg (by omega), if_neg e]
    exact ⟨q1, q2⟩
theorem IdOwn.setS {w : World} {base g o n cap : Nat} {l : List Ii} (h : IdOwn w base (.slice (some ⟨g, o, none⟩) n cap) l) (j : Nat) (z : Int) (hj : j < l.length) :
    IdOwn (w.setCell ⟨g, o + j * 2 + 1, none⟩ (.int .i64 z)) base (.slice (some ⟨g, o, none⟩) n cap) (l.set j ⟨iR l j, z⟩) := by
  obtain ⟨a, c, e, h1, h2, h3⟩ := h
  refine ⟨a, c, by rw [List.length_set]; exact e, by rw [List.length_set]; exact h1, by rw [List.length_set]; exact h2, fun _ => ?_⟩
  obtain ⟨g', o', cur, r1, r2, r3, r4⟩ := h3 (by omega)
  subst r1
  simp only [Value.slice.injEq, Option.some.injEq, Addr.mk.injEq] at e
  obtain ⟨⟨rfl, rfl, _⟩, _, _⟩ := e
  refine ⟨g, o, cur.setIfInBounds (o + j * 2 + 1) (.int .i64 z), rfl, by simpa using r2, by rw [setCell_eq_setRow w g _ _ _ _ _ r3, setRow_heap w g _ _ _ _ r3], fun i hi => ?_⟩
  rw [List.length_set] at hi
  obtain ⟨q1, q2⟩ := r4 i hi
  have hz := (Array.getElem?_eq_some_iff.1 (r4 j hj).2).1
  obtain ⟨s1, s2⟩ := ii_set l j i ⟨iR l j, z⟩ hj
  rw [s1, s2, Array.getElem?_setIfInBounds, Array.getElem?_setIfInBounds]
  by_cases e : i = j
  · subst e
    simp only [if_true]
    rw [if_neg (by omega), if_pos hz]
    exact ⟨q1, rfl⟩
  · rw [if_neg (by omega), if_neg e, if_neg (by omega), if_neg e]
    exact ⟨q1, q2⟩
/-- What may be read and written of it. -/
theorem IdOwn.cells {w : World} {base : Nat} {a : Option Addr} {n cap : Nat} {l : List Ii} (h : IdOwn w base (.slice a n cap) l) (h0 : 0 < l.length) :
    ∃ g o, a = some ⟨g, o, none⟩ ∧ n = l.length ∧ base ≤ g ∧ g < w.heap.size ∧ ∀ j, j < l.length → IiAt w g o l j ∧ w.frozen? ⟨g, o + j * 2, none⟩ = false ∧ w.frozen? ⟨g, o + j * 2 + 1, none⟩ = false := by
  obtain ⟨a', c, e, h1, h2, h3⟩ := h
  obtain ⟨g, o, cur, rfl, r2, r3, r4⟩ := h3 h0
  simp only [Value.slice.injEq] at e
  obtain ⟨rfl, rfl, _⟩ := e
  refine ⟨g, o, rfl, rfl, r2.1, (Array.getElem?_eq_some_iff.1 r3).1, fun j hj => ?_⟩
  unfold IiAt
  rw [cell_of_row w g _ cur _ (0, 0) r3, cell_of_row w g _ cur _ (0, 0) r3]
  exact ⟨r4 j hj, frozen_of_row w g _ _ _ r3, frozen_of_row w g _ _ _ r3⟩
theorem IdOwn.block {w : World} {base : Nat} {v : Value} {l : List Ii} (h : IdOwn w base v l) (h0 : 0 < l.length) (k : Nat) (hk : v.ownBlock = some k) : base ≤ k ∧ k < w.heap.size := by
  obtain ⟨a', c, rfl, h1, h2, h3⟩ := h
  obtain ⟨g, o, cur, rfl, r2, r3, r4⟩ := h3 h0
  simp only [Value.ownBlock, Option.some.injEq] at hk
  subst hk
  exact ⟨r2.1, (Array.getElem?_eq_some_iff.1 r3).1⟩

/-! ### the marks -/
/-- The first j Ids are marks from s on. -/
def mkI (s : Int) (l : List Ii) (j : Nat) : List Ii := (List.range l.length).map fun i => if i < j then ⟨s + 2 * i, s + 2 * i + 1⟩ else ⟨iR l i, iS l i⟩
theorem mkI_length (s : Int) (l : List Ii) (j : Nat) : (mkI s l j).length = l.length := by simp [mkI]
theorem mkI_get (s : Int) (l : List Ii) (j i : Nat) (h : i < l.length) : (mkI s l j)[i]? = some (if i < j then ⟨s + 2 * i, s + 2 * i + 1⟩ else ⟨iR l i, iS l i⟩) := by
  rw [mkI, List.getElem?_map, List.getElem?_range h]
  rfl
theorem mkI_zero (s : Int) (l : List Ii) : mkI s l 0 = l := by
  apply List.ext_getElem?
  intro i
  by_cases h : i < l.length
  · rw [mkI_get s l 0 i h, if_neg (by omega), ii_get l i h]
  · rw [List.getElem?_eq_none (by rw [mkI_length]; omega), List.getElem?_eq_none (by omega)]
theorem mkI_at (s : Int) (l : List Ii) (j i : Nat) (h : i < l.length) : iR (mkI s l j) i = (if i < j then s + 2 * i else iR l i) ∧ iS (mkI s l j) i = (if i < j then s + 2 * i + 1 else iS l i) := by
  have g := mkI_get s l j i h
  rw [iR_of g, iS_of g]
  split <;> exact ⟨rfl, rfl⟩
theorem mkI_step (s : Int) (l : List Ii) (j : Nat) (h : j < l.length) (x : Ii) (hx : x = ⟨s + 2 * j, s + 2 * j + 1⟩) : (mkI s l j).set j x = mkI s l (j + 1) := by
  subst hx
  apply ii_ext
  · rw [List.length_set, mkI_length, mkI_length]
  · intro i hi
    rw [List.length_set, mkI_length] at hi
    obtain ⟨a1, a2⟩ := ii_set (mkI s l j) j i ⟨s + 2 * j, s + 2 * j + 1⟩ (by rw [mkI_length]; exact h)
    obtain ⟨b1, b2⟩ := mkI_at s l j i hi
    obtain ⟨c1, c2⟩ := mkI_at s l (j + 1) i hi
    rw [a1, a2, b1, b2, c1, c2]
    by_cases e : i = j
    · subst e; simp
    · by_cases e2 : i < j
      · simp [e, e2, show i < j + 1 by omega]
      · simp [e, e2, show ¬ i < j + 1 by omega]

set_option maxRecDepth 100000 in
set_option maxHeartbeats 1000000 in
theorem mark_idL (v : Value) (l : List Ii) (base : Nat) (s : Int) (w : World) (hv : IdOwn w base v l) (hl : l.length ≤ 1048577) (hs0 : 0 ≤ s) (hs : s ≤ 1099511627776) :
    Calls Tryd.prog 13 #[v, .int .i64 s] w fun e w' => e = .returned (.int .i64 (s + 2 * (l.length : Int))) ∧ IdOwn w' base v (mkI s l l.length) ∧ w.grownBy w' v.ownBlock := by
  obtain ⟨a, nv, cap, rfl⟩ := hv.form
  obtain ⟨n, hn⟩ : ∃ n, l.length = n := ⟨_, rfl⟩
  have hvn : nv = n := by
    obtain ⟨a', c', e, _⟩ := hv
    simp only [Value.slice.injEq] at e
    omega
  subst hvn
  have HN := Lib.hid hn
  rw [hn] at hl ⊢
  have HV0 := Lib.hid hv
  clear hn hv
  go_enter Tryd.func13, Tryd.ntmps13
  go_wp2
  go_loopw [1, 5] (fun kv i wr => ∃ j : Nat, j ≤ nv ∧ i = .int .i64 j ∧ kv = .int .i64 (s + 2 * (j : Int)) ∧ IdOwn wr base (.slice a nv cap) (mkI s l j) ∧ w.grownBy wr (Value.ownBlock (.slice a nv cap))) (fun _ i _ => nv - (intOf i).toNat)
  case atStart => exact ⟨0, by omega, rfl, by simp, by rw [mkI_zero]; exact HV0.out, World.grownBy.refl _ _⟩
  case round =>
    obtain ⟨j, hj, rfl, rfl, hv, hb⟩ := hrel
    have HV := Lib.hid hv
    have HB := Lib.hid hb
    clear hb
    by_cases hlt : j < nv
    · obtain ⟨g, o, rfl, e2, hbg, hgw, hc⟩ := hv.cells (by rw [mkI_length, HN.out]; omega)
      obtain ⟨⟨d1, d2⟩, g1, g2⟩ := hc j (by rw [mkI_length, HN.out]; omega)
      have V2 := Lib.hid ((hv.setR j (s + 2 * (j : Int)) (by rw [mkI_length, HN.out]; omega)).setS j (s + 2 * (j : Int) + 1) (by rw [List.length_set, mkI_length, HN.out]; omega))
      have B2 := Lib.hid (HB.out.trans ((grownBy_put wr g (o + j * 2) (.int .i64 (s + 2 * (j : Int)))).trans (grownBy_put _ g (o + j * 2 + 1) (.int .i64 (s + 2 * (j : Int) + 1)))))
      clear hv hc e2 HV0 HV HB
      go_wp2
      go_roundw
      case rel =>
        refine ⟨j + 1, by omega, by go_num, by go_num, ?_, B2.out⟩
        have h := V2.out
        rw [List.set_set, mkI_step s l j (by rw [HN.out]; omega) _ ?_] at h
        · exact h
        · obtain ⟨p1, p2⟩ := ii_set (mkI s l j) j j ⟨s + 2 * (j : Int), iS (mkI s l j) j⟩ (by rw [mkI_length, HN.out]; omega)
          simp only [if_true] at p1 p2
          rw [p1]
      case measure => simp only [intOf]; omega
    · obtain rfl : j = nv := by omega
      go_wp2
      go_ret
      exact ⟨rfl, HV.out, HB.out⟩

set_option maxRecDepth 100000 in
set_option maxHeartbeats 1000000 in
theorem held_idL (v : Value) (l : List Ii) (s : Int) (w : World) (hv : Ids w v (mkI s l l.length)) (hl : l.length ≤ 1048577) (hs0 : 0 ≤ s) (hs : s ≤ 1099511627776) :
    Calls Tryd.prog 14 #[v, .int .i64 s] w fun e w' => e = .returned (.int .i64 (s + 2 * (l.length : Int))) ∧ Below w.heap.size w w' := by
  obtain ⟨k1, a, ca, rfl, hca, ha⟩ := hv
  rw [mkI_length] at k1 hca ha ⊢
  obtain ⟨n, hn⟩ : ∃ n, l.length = n := ⟨_, rfl⟩
  rw [hn] at k1 hl hca ha ⊢
  have HN := Lib.hid hn
  have HA := Lib.hid ha
  clear hn ha hca
  go_enter Tryd.func14, Tryd.ntmps14
  go_wp2
  go_loopw [1, 5] (fun kv i wr => ∃ j : Nat, j ≤ n ∧ i = .int .i64 j ∧ kv = .int .i64 (s + 2 * (j : Int)) ∧ Below w.heap.size w wr) (fun _ i _ => n - (intOf i).toNat)
  case atStart => exact ⟨0, by omega, rfl, by simp, Below.refl _ _⟩
  case round =>
    obtain ⟨j, hj, rfl, rfl, hb⟩ := hrel
    have HB := Lib.hid hb
    clear hb
    by_cases hlt : j < n
    · obtain ⟨x, o, rfl, hx, hcx⟩ := HA.out (by omega)
      have cc := (hcx j hlt).below HB.out hx
      obtain ⟨p1, p2⟩ := mkI_at s l n j (by rw [HN.out]; exact hlt)
      rw [if_pos hlt] at p1 p2
      obtain ⟨c0, c1⟩ := id cc
      rw [p1] at c0
      rw [p2] at c1
      clear hcx p1 p2 cc
      go_wp2
      go_roundw
      case rel => exact ⟨j + 1, by omega, by go_num, by go_num, HB.out⟩
      case measure => simp only [intOf]; omega
    · obtain rfl : j = n := by omega
      go_wp2
      go_ret
      exact ⟨rfl, HB.out⟩
end Go.Proofs.YtlbebeedkcdgpaaDoor
