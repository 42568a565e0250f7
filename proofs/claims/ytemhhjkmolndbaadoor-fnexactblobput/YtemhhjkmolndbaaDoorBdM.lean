/- BlobDrop and BlobBend, in plain words. -/
import Derived.Test.YtemhhjkmolndbaaDoorBgM
namespace Go.Proofs.YtemhhjkmolndbaaDoor
open Go.RowKit Go.PlainAid
set_option linter.unusedVariables false

theorem beq_ext {a b : Bool} (h : a = true ↔ b = true) : a = b := by cases a <;> cases b <;> simp_all
/-! ### a drop -/
def dropP (i : ByteArray) (x : Bb) : Bool := decide (x.id ≠ i)
@[irreducible] def okQ (q : Int) (l : List Bb) : Int := if okS q l = true then q else 0
theorem okQ_yes {q : Int} {l : List Bb} (h : okS q l = true) : okQ q l = q := by unfold okQ; rw [if_pos h]
theorem okQ_no {q : Int} {l : List Bb} (h : okS q l = false) : okQ q l = 0 := by unfold okQ; rw [h]; rfl
@[irreducible] def dropL (q : Int) (l : List Bb) (i : ByteArray) : List Bb := if okS q l = true then l.filter (dropP i) else []
theorem dropL_yes {q : Int} {l : List Bb} (i : ByteArray) (h : okS q l = true) : dropL q l i = l.filter (dropP i) := by unfold dropL; rw [if_pos h]
theorem dropL_no {q : Int} {l : List Bb} (i : ByteArray) (h : okS q l = false) : dropL q l i = [] := by unfold dropL; rw [h]; rfl
@[irreducible] def dropO (q : Int) (l : List Bb) (i : ByteArray) : Bool := okS q l && (getB l i).isSome
theorem dropO_yes {q : Int} {l : List Bb} (i : ByteArray) (h : okS q l = true) : dropO q l i = (getB l i).isSome := by unfold dropO; rw [h]; rfl
theorem dropO_no {q : Int} {l : List Bb} (i : ByteArray) (h : okS q l = false) : dropO q l i = false := by unfold dropO; rw [h]; rfl
theorem asc_filter {l : List Bb} (h : Asc l) (p : Bb → Bool) : Asc (l.filter p) := List.Pairwise.filter p h
theorem getB_drop {l : List Bb} (h : Asc l) (i k : ByteArray) : getB (l.filter (dropP i)) k = if k = i then none else getB l k := by
  by_cases e : k = i
  · rw [if_pos e]
    refine getB_none.2 fun x hx ex => ?_
    have := (List.mem_filter.1 hx).2
    simp only [dropP, decide_eq_true_eq] at this
    exact this (ex.trans e)
  · rw [if_neg e]
    refine getB_ext (asc_filter h _) h fun x hx => ?_
    rw [List.mem_filter]
    constructor
    · exact fun hh => hh.1
    · exact fun hh => ⟨hh, by simp only [dropP, decide_eq_true_eq]; rw [hx]; exact e⟩
theorem sml_filter {l : List Bb} (h : Sml l) (p : Bb → Bool) : Sml (l.filter p) := fun j hj => by
  have hx : (l.filter p)[j] ∈ l := (List.mem_filter.1 (List.getElem_mem hj)).1
  obtain ⟨i, hi, e⟩ := List.getElem_of_mem hx
  have := h i hi
  rw [bb_at l i hi, bb_at (l.filter p) j hj] at e
  simp only [Bb.mk.injEq] at e
  rw [← e.1, ← e.2.1]
  exact this
theorem sml_sub {l m : List Bb} (h : Sml l) (hm : ∀ x ∈ m, x.id.size ≤ 1048576 ∧ x.dat.size ≤ 1048576) : Sml m := fun j hj => by
  have := hm _ (List.getElem_mem hj)
  rw [bb_at m j hj] at this
  exact this
theorem sml_mem {l : List Bb} (h : Sml l) {x : Bb} (hx : x ∈ l) : x.id.size ≤ 1048576 ∧ x.dat.size ≤ 1048576 := by
  obtain ⟨i, hi, e⟩ := List.getElem_of_mem hx
  rw [← e, bb_at l i hi]
  exact h i hi
/-- Something was dropped just where it was there. -/
theorem drop_less (l : List Bb) (i : ByteArray) : decide ((l.filter (dropP i)).length < l.length) = (getB l i).isSome := by
  apply beq_ext
  rw [decide_eq_true_iff, Option.isSome_iff_exists]
  have h1 := List.length_filter_le (dropP i) l
  constructor
  · intro h
    cases e : getB l i with
    | some x => exact ⟨x, rfl⟩
    | none =>
      have : l.filter (dropP i) = l := List.filter_eq_self.2 fun x hx => by simpa [dropP] using getB_none.1 e x hx
      rw [this] at h
      omega
  · rintro ⟨x, hx⟩
    obtain ⟨a, b⟩ := getB_some hx
    have h2 : (l.filter (dropP i)).length ≠ l.length := fun e => by
      have := List.filter_eq_self.1 (List.filter_sublist.eq_of_length e) x a
      simp [dropP, b] at this
    omega
theorem take_filter (l : List Bb) (p : Bb → Bool) (k : Nat) (h : k < l.length) : (l.take (k + 1)).filter p = (l.take k).filter p ++ (if p ⟨bI l k, bD l k, bX l k⟩ = true then [⟨bI l k, bD l k, bX l k⟩] else []) := by
  rw [take_snoc l k h, List.filter_append]
  congr 1
  by_cases e : p ⟨bI l k, bD l k, bX l k⟩ = true
  · rw [if_pos e, List.filter_cons_of_pos e, List.filter_nil]
  · rw [if_neg e, List.filter_cons_of_neg e, List.filter_nil]

/-! ### a bend -/
def bendF (i : ByteArray) (x : Bb) : Bb := if x.id = i then ⟨x.id, x.dat, true⟩ else x
theorem bendF_id (i : ByteArray) (x : Bb) : (bendF i x).id = x.id := by unfold bendF; split <;> rfl
theorem bendF_dat (i : ByteArray) (x : Bb) : (bendF i x).dat = x.dat := by unfold bendF; split <;> rfl
@[irreducible] def bendL (q : Int) (l : List Bb) (i : ByteArray) : List Bb := if okS q l = true then l.map (bendF i) else []
theorem bendL_yes {q : Int} {l : List Bb} (i : ByteArray) (h : okS q l = true) : bendL q l i = l.map (bendF i) := by unfold bendL; rw [if_pos h]
theorem bendL_no {q : Int} {l : List Bb} (i : ByteArray) (h : okS q l = false) : bendL q l i = [] := by unfold bendL; rw [h]; rfl
@[irreducible] def bendO (q : Int) (l : List Bb) (i : ByteArray) : Bool := okS q l && (match getB l i with | none => false | some x => !x.bad)
theorem bendO_no {q : Int} {l : List Bb} (i : ByteArray) (h : okS q l = false) : bendO q l i = false := by unfold bendO; rw [h]; rfl
theorem bendO_none {q : Int} {l : List Bb} {i : ByteArray} (h : getB l i = none) : bendO q l i = false := by unfold bendO; rw [h]; simp
theorem bendO_some {q : Int} {l : List Bb} {i : ByteArray} {x : Bb} (h : okS q l = true) (hx : getB l i = some x) : bendO q l i = !x.bad := by unfold bendO; rw [h, hx]; simp
theorem asc_map {l : List Bb} (h : Asc l) {f : Bb → Bb} (hf : ∀ x, (f x).id = x.id) : Asc (l.map f) :=
  List.pairwise_map.2 (List.Pairwise.imp (R := fun x y : Bb => kOf x.id < kOf y.id) (fun hxy => by rw [hf, hf]; exact hxy) h)
theorem bend_same {l : List Bb} {i : ByteArray} (h : ∀ x ∈ l, x.id = i → x.bad = true) : l.map (bendF i) = l := by
  conv => rhs; rw [← List.map_id l]
  refine List.map_congr_left fun x hx => ?_
  unfold bendF
  split
  · next e => have := h x hx e; cases x; simp only at this; subst this; rfl
  · rfl
theorem getB_bend {l : List Bb} (h : Asc l) {i : ByteArray} {x : Bb} (hx : getB l i = some x) (k : ByteArray) : getB (l.map (bendF i)) k = if k = i then some ⟨x.id, x.dat, true⟩ else getB l k := by
  obtain ⟨hm, hi⟩ := getB_some hx
  by_cases e : k = i
  · rw [if_pos e]
    refine (getB_iff (asc_map h (bendF_id i))).2 ⟨?_, by rw [e, ← hi]⟩
    refine List.mem_map.2 ⟨x, hm, ?_⟩
    unfold bendF
    rw [if_pos hi]
  · rw [if_neg e]
    refine getB_ext (asc_map h (bendF_id i)) h fun y hy => ?_
    rw [List.mem_map]
    constructor
    · rintro ⟨z, hz, ez⟩
      have : z.id = y.id := by rw [← ez, bendF_id]
      unfold bendF at ez
      rw [if_neg (by rw [this, hy]; exact e)] at ez
      rw [← ez]; exact hz
    · intro hh
      refine ⟨y, hh, ?_⟩
      unfold bendF
      rw [if_neg (by rw [hy]; exact e)]
theorem sml_map {l : List Bb} (h : Sml l) (i : ByteArray) : Sml (l.map (bendF i)) := sml_sub h fun y hy => by
  obtain ⟨x, hx, rfl⟩ := List.mem_map.1 hy
  rw [bendF_id, bendF_dat]
  exact sml_mem h hx
/-- One chunk turned, the list as the model turns it. -/
theorem bend_set {l : List Bb} (h : Asc l) {i : ByteArray} {j : Nat} (hj : j < l.length) (hi : bI l j = i) : l.set j ⟨bI l j, bD l j, true⟩ = l.map (bendF i) := by
  apply List.ext_getElem (by simp)
  intro n h1 h2
  rw [List.getElem_map, List.getElem_set]
  have hn : n < l.length := by simpa using h2
  by_cases e : j = n
  · subst e
    rw [if_pos rfl, bb_at l j hj]
    unfold bendF
    rw [if_pos hi]
  · rw [if_neg e]
    unfold bendF
    rw [if_neg]
    intro e2
    have := asc_mem h (List.getElem_mem hn) (List.getElem_mem hj) (by rw [e2, bb_at l j hj]; exact hi.symm)
    have hlt := List.pairwise_iff_getElem.1 h
    rcases Nat.lt_or_gt_of_ne e with g | g
    · have := hlt j n hj hn g; rw [e2, bb_at l j hj] at this; simp only [hi] at this; exact List.lt_irrefl _ this
    · have := hlt n j hn hj g; rw [e2, bb_at l j hj] at this; simp only [hi] at this; exact List.lt_irrefl _ this
/-- A call hands back a store and a bool; what it hands back owns its memory. -/
def RetB (base : Nat) (q : Int) (l : List Bb) (b : Bool) (e : Ending) (w : World) : Prop := ∃ a k c, e = .returned (.tuple #[.agg #[.int .i64 q, .slice a k c], .bool b]) ∧ BlOwn w base (.slice a k c) l ∧ ∀ g, Value.ownBlock (.slice a k c) = some g → base ≤ g ∧ g < w.heap.size
end Go.Proofs.YtemhhjkmolndbaaDoor
