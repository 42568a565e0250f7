/- Maps of chunks, and stores as lists in the order of their Ids. -/
import Derived.Test.YtemhhjkmolndbaaDoorBkJ
import Derived.Test.YtemhhjkmolndbaaDoorIter
import Derived.Maps.OwnSet
import Derived.Sort.KeysCollected
namespace Go.Proofs.YtemhhjkmolndbaaDoor
open Go.RowKit Go.PlainAid Go.Maps
set_option linter.unusedVariables false

/-! ### the order -/
abbrev kOf (s : ByteArray) : List UInt8 := s.data.toList
theorem kOf_inj {a b : ByteArray} (h : kOf a = kOf b) : a = b := by
  cases a; cases b
  simp only [kOf] at h
  congr 1
  exact Array.toList_inj.1 h
theorem less_iff (a b : ByteArray) : Op.bytesLess a.toList b.toList = true ↔ kOf a < kOf b := by
  rw [bytesLess_eq, Lib.toList_data, Lib.toList_data]
  exact decide_eq_true_iff
/-- The Ids ascend. -/
def Asc (l : List Bb) : Prop := l.Pairwise fun x y => kOf x.id < kOf y.id
theorem bb_at (l : List Bb) (j : Nat) (h : j < l.length) : l[j] = ⟨bI l j, bD l j, bX l j⟩ := by
  have := bb_get l j h
  rw [List.getElem?_eq_getElem h] at this
  exact Option.some.inj this
theorem asc_of_ok {q : Int} {l : List Bb} (h : okS q l = true) : Asc l := by
  have hj := ((okS_iff q l).1 h).2.2.2
  have step : ∀ j, j + 1 < l.length → kOf (bI l j) < kOf (bI l (j + 1)) := fun j hl => (less_iff _ _).1 (((okJ_iff l (j + 1)).1 (hj (j + 1) hl)).2 (by omega))
  have all : ∀ d i, i + d + 1 < l.length → kOf (bI l i) < kOf (bI l (i + d + 1)) := fun d => by
    induction d with
    | zero => exact fun i hi => step i hi
    | succ d ih => exact fun i hi => List.lt_trans (ih i (by omega)) (step (i + d + 1) hi)
  refine List.pairwise_iff_getElem.2 fun i j hi hjl hij => ?_
  have e := all (j - i - 1) i (by omega)
  rw [show i + (j - i - 1) + 1 = j by omega] at e
  rw [bb_at l i hi, bb_at l j hjl]
  exact e
theorem less_of_asc {l : List Bb} (h : Asc l) (j : Nat) (h0 : 0 < j) (hj : j < l.length) : lessJ l j = true := by
  have e := List.pairwise_iff_getElem.1 h (j - 1) j (by omega) hj (by omega)
  rw [bb_at l (j - 1) (by omega), bb_at l j hj] at e
  exact (less_iff _ _).2 e
/-- The chunk with an Id. -/
def getB (l : List Bb) (k : ByteArray) : Option Bb := l.find? fun x => decide (x.id = k)
theorem getB_nil (k : ByteArray) : getB [] k = none := rfl
theorem getB_some {l : List Bb} {k : ByteArray} {x : Bb} (h : getB l k = some x) : x ∈ l ∧ x.id = k := ⟨List.mem_of_find?_eq_some h, by simpa using List.find?_some h⟩
theorem getB_none {l : List Bb} {k : ByteArray} : getB l k = none ↔ ∀ x ∈ l, x.id ≠ k := by
  unfold getB
  rw [List.find?_eq_none]
  simp
theorem asc_mem {l : List Bb} (h : Asc l) {x y : Bb} (hx : x ∈ l) (hy : y ∈ l) (e : x.id = y.id) : x = y := by
  induction l with
  | nil => cases hx
  | cons z l ih =>
    obtain ⟨hz, hl⟩ := List.pairwise_cons.1 h
    rcases List.mem_cons.1 hx with rfl | hx' <;> rcases List.mem_cons.1 hy with rfl | hy'
    · rfl
    · exact absurd (e ▸ hz y hy') (List.lt_irrefl _)
    · exact absurd (e ▸ hz x hx') (List.lt_irrefl _)
    · exact ih hl hx' hy'
theorem getB_mem {l : List Bb} (h : Asc l) {x : Bb} (hx : x ∈ l) : getB l x.id = some x := by
  cases e : getB l x.id with
  | none => exact absurd rfl ((getB_none.1 e) x hx)
  | some y =>
    obtain ⟨hy, e2⟩ := getB_some e
    rw [asc_mem h hy hx e2]
theorem getB_iff {l : List Bb} (h : Asc l) {k : ByteArray} {x : Bb} : getB l k = some x ↔ x ∈ l ∧ x.id = k := ⟨getB_some, fun ⟨a, b⟩ => b ▸ getB_mem h a⟩
theorem getB_ext {l m : List Bb} {k : ByteArray} (hl : Asc l) (hm : Asc m) (h : ∀ x, x.id = k → (x ∈ l ↔ x ∈ m)) : getB l k = getB m k := by
  cases e : getB m k with
  | none =>
    refine getB_none.2 fun x hx e2 => ?_
    exact getB_none.1 e x ((h x e2).1 hx) e2
  | some y =>
    obtain ⟨a, b⟩ := getB_some e
    exact (getB_iff hl).2 ⟨(h y b).2 a, b⟩

/-! ### how a chunk reads in a map -/
abbrev bbV (x : Bb) : Value := .agg #[.string x.id, .string x.dat, .bool x.bad]
def bbD (x : Bb) : DataW Unit := .agg [.lit (.string (kOf x.id)), .lit (.string (kOf x.dat)), .lit (.bool x.bad)]
theorem bbD_inj {x y : Bb} (h : bbD x = bbD y) : x = y := by
  cases x; cases y
  simp only [bbD, DataW.agg.injEq, List.cons.injEq, DataW.lit.injEq, Lit.string.injEq, Lit.bool.injEq, and_true] at h
  obtain ⟨a, b, c⟩ := h
  rw [kOf_inj a, kOf_inj b, c]
def bbE (v : Value) : Option (DataW Unit × List MemPlace) :=
  match v with
  | .agg cs => match cs.toList with
    | [.string i, .string d, .bool b] => some (bbD ⟨i, d, b⟩, [])
    | _ => none
  | _ => none
theorem bbE_mk (x : Bb) : bbE (bbV x) = some (bbD x, []) := rfl
theorem bbE_inv {v : Value} {z : DataW Unit × List MemPlace} (h : bbE v = some z) : ∃ x, v = bbV x ∧ z = (bbD x, []) := by
  unfold bbE at h
  split at h
  · rename_i cs
    split at h
    · rename_i i d b e
      simp only [Option.some.injEq] at h
      refine ⟨⟨i, d, b⟩, ?_, h.symm⟩
      cases cs
      simp only at e
      subst e
      rfl
    · cases h
  · cases h

/-! ### a map of chunks -/
/-- What a map's datum says of a list's chunks. -/
def Rel (D : DataW Unit) (l : List Bb) : Prop := ∀ k : ByteArray, has D (.string (kOf k)) = (getB l k).isSome ∧ ∀ x, getB l k = some x → D.atKey (.string (kOf k)) (bbD bb0) = bbD x
/-- Block b is a map that holds the chunks of l, by their Ids. -/
def BMap (w : World) (b n : Nat) (l : List Bb) : Prop := ∃ D : DataW Unit, w.ownsMap Tryd.prog 9 bbE b n D ∧ Rel D l
theorem BMap.lt {w : World} {b n : Nat} {l : List Bb} (h : BMap w b n l) : b < w.heap.size := by
  obtain ⟨D, h1, _⟩ := h
  exact h1.lt
theorem BMap.keep {w w' : World} {b n : Nat} {l : List Bb} {row : Option Nat} (h : BMap w b n l) (hg : w.grownBy w' row) (hne : some b ≠ row) : BMap w' b n l := by
  obtain ⟨D, h1, h2⟩ := h
  exact ⟨D, h1.kept hg hne, h2⟩
theorem BMap.later {w w' : World} {b n : Nat} {l : List Bb} (h : BMap w b n l) (hb : Below w.heap.size w w') : BMap w' b n l := h.keep (grown_all hb none) (by simp)
theorem BMap.alloc {w : World} {b n : Nat} {l : List Bb} (h : BMap w b n l) (o : Obj) : BMap (w.alloc o) b n l := h.later ((Below.refl _ _).alloc (Nat.le_refl _) _)
theorem Tryd.keyed9 : Keyed Tryd.prog 9 := string_keyed Tryd.underlying9
theorem keyOf_s (k : ByteArray) (h : k.size ≤ 1048577) : keyOf Tryd.prog 9 (.string k) = some (.string (kOf k)) := by
  simp [keyOf, Tryd.underlying9, mapKey, show k.size ≤ maxLen by unfold maxLen; omega]
theorem zero_blob (w : World) : (zeroValue 89).run Tryd.prog w = .ok (bbV bb0) w := Tryd.zeroValue89 w
theorem kl_ne {a b : ByteArray} (h : a ≠ b) : Lit.string (kOf a) ≠ Lit.string (kOf b) := fun e => h (kOf_inj (Lit.string.inj e))
theorem BMap.look {w : World} {b n : Nat} {l : List Bb} (h : BMap w b n l) (k : ByteArray) (hk : k.size ≤ 1048577) :
    (∀ x, getB l k = some x → (Instr.lookup 85 (.map (some b)) (.string k) true).run Tryd.prog w = .ok (.tuple #[bbV x, .bool true]) w ∧ (Instr.lookup 85 (.map (some b)) (.string k) false).run Tryd.prog w = .ok (bbV x) w) ∧
    (getB l k = none → (Instr.lookup 85 (.map (some b)) (.string k) true).run Tryd.prog w = .ok (.tuple #[bbV bb0, .bool false]) w) := by
  obtain ⟨D, h1, h2⟩ := h
  obtain ⟨v, ps, hrun, hv⟩ := h1.look_ok Tryd.keyed9 Tryd.underlying85 (zero_blob w) (bbE_mk bb0) (keyOf_s k hk)
  obtain ⟨v', ps', hrun', hv'⟩ := h1.lookup Tryd.keyed9 Tryd.underlying85 (zero_blob w) (bbE_mk bb0) (keyOf_s k hk)
  obtain ⟨r1, r2⟩ := h2 k
  constructor
  · intro x hx
    rw [hx] at r1
    obtain ⟨y, rfl, hy⟩ := bbE_inv hv
    obtain ⟨y', rfl, hy'⟩ := bbE_inv hv'
    simp only [Prod.mk.injEq] at hy hy'
    rw [r2 x hx] at hy hy'
    rw [← bbD_inj hy.1, r1] at hrun
    rw [← bbD_inj hy'.1] at hrun'
    exact ⟨hrun, hrun'⟩
  · intro hx
    rw [hx] at r1
    obtain ⟨y, rfl, hy⟩ := bbE_inv hv
    simp only [Prod.mk.injEq] at hy
    have hz : D.atKey (.string (kOf k)) (bbD bb0) = bbD bb0 := atKey_of_not_has r1 _
    rw [hz] at hy
    rw [← bbD_inj hy.1, r1] at hrun
    exact hrun
theorem IsKey (k : List UInt8) : WideAt.IsKeyLit (.string k) := by
  simp [WideAt.IsKeyLit]
theorem BMap.put {w : World} {b n : Nat} {l m : List Bb} (h : BMap w b n l) (x : Bb) (hk : x.id.size ≤ 1048577) (hn : n ≤ 1048577) (hm : ∀ k, getB m k = if k = x.id then some x else getB l k) :
    ∃ w', (Instr.mapUpdate 85 (.map (some b)) (.string x.id) (bbV x)).run Tryd.prog w = .ok () w' ∧ BMap w' b (n + 1) m ∧ w.grownBy w' (some b) := by
  obtain ⟨D, h1, h2⟩ := h
  obtain ⟨w', hrun, h3, h4⟩ := h1.update Tryd.keyed9 Tryd.underlying85 (by unfold maxLen; omega) (keyOf_s x.id hk) (bbE_mk x)
  refine ⟨w', hrun, ⟨_, h3, fun k => ?_⟩, h4⟩
  rw [hm k]
  by_cases e : k = x.id
  · subst e
    rw [if_pos rfl]
    exact ⟨has_put_same h1.isMap (IsKey _) _, fun y hy => by cases hy; exact atKey_put_same h1.isMap (IsKey _) _ _⟩
  · rw [if_neg e]
    obtain ⟨r1, r2⟩ := h2 k
    exact ⟨by rw [has_put_other (kl_ne e)]; exact r1, fun y hy => by rw [atKey_put_other (kl_ne e)]; exact r2 y hy⟩
theorem BMap.del {w : World} {b n : Nat} {l m : List Bb} (h : BMap w b n l) (i : ByteArray) (hk : i.size ≤ 1048577) (hm : ∀ k, getB m k = if k = i then none else getB l k) (ty : TypeId) :
    ∃ w', (Builtin.delete_ #[85, 9] ty #[.map (some b), .string i]).run Tryd.prog w = .ok (.tuple #[]) w' ∧ BMap w' b n m ∧ w.grownBy w' (some b) := by
  obtain ⟨D, h1, h2⟩ := h
  obtain ⟨w', hrun, h3, h4⟩ := h1.drop Tryd.keyed9 Tryd.underlying85 (keyOf_s i hk) ty
  refine ⟨w', hrun, ⟨_, h3, fun k => ?_⟩, h4.grown⟩
  rw [hm k]
  by_cases e : k = i
  · subst e
    rw [if_pos rfl]
    exact ⟨by rw [has_del_same]; rfl, fun y hy => by cases hy⟩
  · rw [if_neg e]
    obtain ⟨r1, r2⟩ := h2 k
    exact ⟨by rw [has_del_other (kl_ne e)]; exact r1, fun y hy => by rw [atKey_del_other (kl_ne e)]; exact r2 y hy⟩
theorem bmap_made (w : World) : BMap (w.alloc (.map #[] 0)) w.heap.size 0 [] := ⟨_, World.ownsMap_made w _ _ _, fun k => ⟨rfl, fun x hx => by cases hx⟩⟩

/-! ### the keys, sorted -/
theorem leB_tr (a b c : List UInt8) (h1 : leB a b = true) (h2 : leB b c = true) : leB a c = true := by
  simp only [leB, decide_eq_true_eq] at *
  exact List.le_trans h1 h2
theorem leB_to (a b : List UInt8) : (leB a b || leB b a) = true := by
  simp only [leB, Bool.or_eq_true, decide_eq_true_eq]
  exact List.le_total a b
theorem keys_sorted {w : World} {b n : Nat} {D : DataW Unit} {l : List Bb} (h : w.ownsMap Tryd.prog 9 bbE b n D) (hr : Rel D l) (ha : Asc l) {ss : List (List UInt8)} (hp : ss.Perm (strKeys D)) :
    ss.mergeSort (fun x y => decide (x ≤ y)) = l.map fun x => kOf x.id := by
  have hnd : (l.map fun x => kOf x.id).Nodup := List.pairwise_map.2 (List.Pairwise.imp (R := fun x y : Bb => kOf x.id < kOf y.id) (fun hxy e => by rw [e] at hxy; exact List.lt_irrefl _ hxy) ha)
  obtain ⟨es, rfl, hes⟩ := h.keysOf
  obtain ⟨es', e', hti⟩ := h.tidy Tryd.keyed9
  cases e'
  have hperm : (l.map fun x => kOf x.id).Perm (strKeys (.map es)) := by
    refine perm_strKeys hti (fun p hp' => ?_) hnd (fun x => ?_)
    · obtain ⟨key, hkey⟩ := hes p hp'
      obtain ⟨x, _, e, _⟩ := Maps.keyOf_str Tryd.underlying9 hkey
      exact ⟨x, e⟩
    · have e : kOf (⟨x.toArray⟩ : ByteArray) = x := by simp [kOf]
      obtain ⟨r1, _⟩ := hr ⟨x.toArray⟩
      rw [e] at r1
      rw [r1, Option.isSome_iff_exists, List.mem_map]
      constructor
      · rintro ⟨y, hy, ey⟩
        exact ⟨y, (getB_iff ha).2 ⟨hy, kOf_inj (ey.trans e.symm)⟩⟩
      · rintro ⟨y, hy⟩
        obtain ⟨h1, h2⟩ := getB_some hy
        exact ⟨y, h1, by rw [h2]⟩
  refine List.Perm.eq_of_pairwise (le := fun a b => leB a b = true) (fun a b _ _ h1 h2 => ?_) (List.pairwise_mergeSort leB_tr leB_to ss) (List.pairwise_map.2 (ha.imp fun {x y} hxy => ?_)) (((List.mergeSort_perm ss leB).trans hp).trans hperm.symm)
  · simp only [leB, decide_eq_true_eq] at h1 h2
    exact List.le_antisymm h1 h2
  · simp only [leB, decide_eq_true_eq]
    exact List.le_of_lt hxy
end Go.Proofs.YtemhhjkmolndbaaDoor
