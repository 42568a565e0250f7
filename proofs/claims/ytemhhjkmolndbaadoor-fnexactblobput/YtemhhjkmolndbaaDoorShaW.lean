/- Rows of words in memory, and a region that reads till its end and then writes. -/
import Derived.Test.YtemhhjkmolndbaaDoorBytes
import Derived.Test.YtemhhjkmolndbaaDoorShaM
import Derived.StillTail
import Derived.BigQuiet
import Derived.Deep.WholeRow
namespace Go.Proofs.YtemhhjkmolndbaaDoor
open Go.RowKit Go.PlainAid
set_option linter.unusedVariables false

/-! ### a region whose operations read, up to a forced tail -/
section
variable {P : Program} {ops : Array Oper} {w : World}
theorem still_of_quiet {o : Oper} {a : Act} {K : Act → Prop} (h : o.quiet P a (fun w' => w' = w) K) : o.still P a w K := by
  obtain ⟨v, h1, h2⟩ := h
  have h3 := h1 w rfl
  unfold Oper.quietAt at h3
  unfold Oper.still
  generalize (execOp a.eval o).run P w = r at *
  cases r with
  | ok n w' =>
    cases n <;> simp only [Oper.quietUpon] at h3 <;> simp only [Oper.stillUpon]
    case value u => exact ⟨h3.1, by rw [h3.2]; exact h2⟩
    case skip => exact ⟨h3.1, by rw [← h3.2]; exact h2⟩
    case enter f args => exact ⟨h3.1, v, h3.2, h2⟩
  | halt x w' => simp only [Oper.quietUpon] at h3
theorem wpStill_of_quiet {Q : Act → Prop} : ∀ (l : List Oper) (a : Act), wpQuiet P ops (fun w' => w' = w) Q l a → wpStill P ops w Q l a
  | [], a, h => h
  | o :: rest, a, h => by
    unfold wpQuiet at h
    unfold wpStill
    split
    · rename_i hw
      rw [if_pos hw] at h
      exact still_of_quiet (Oper.quiet_mono (fun a' h' => wpStill_of_quiet rest a' h') h)
    · rename_i hw
      rw [if_neg hw] at h
      exact wpStill_of_quiet rest _ h
theorem wp_region_quiet_tail {id : Nat} {Q : Exit → Act → World → Prop} {a : Act} {w : World} {l : List Oper} (n : Nat) (hm : P.follows .mixedOrders = true) (hB : Region.lexTailB .any l.toArray n = true)
    (h : wpQuiet P l.toArray (fun w' => w' = w.drew) (fun a' => wpList P l.toArray Q (l.drop n) a' w.drew) (l.take n) a) : (Code.region id l.toArray true).wp P Q a w :=
  wp_region_still_tail n hm hB (wpStill_of_quiet _ _ h)
end

/-! ### rows of integers -/
def rowC (k : IntKind) (n : Nat) (f : Nat → Nat) : Array Value := ((List.range n).map fun j => Value.int k (f j)).toArray
/-- Block g is a row of n integers: f. -/
def Row (w : World) (g : Nat) (k : IntKind) (t : TypeId) (n : Nat) (f : Nat → Nat) : Prop := w.heap[g]? = some (.cells (rowC k n f) t (0, 0))
def upd (f : Nat → Nat) (j v : Nat) : Nat → Nat := fun i => if i = j then v else f i
theorem upd_same (f : Nat → Nat) (j v : Nat) : upd f j v j = v := by simp [upd]
theorem upd_other (f : Nat → Nat) (j v i : Nat) (h : i ≠ j) : upd f j v i = f i := by simp [upd, h]
theorem rowC_size (k : IntKind) (n : Nat) (f : Nat → Nat) : (rowC k n f).size = n := by simp [rowC]
theorem rowC_get (k : IntKind) (n : Nat) (f : Nat → Nat) (j : Nat) (h : j < n) : (rowC k n f)[j]? = some (.int k (f j)) := by simp [rowC, h]
theorem rowC_one (k : IntKind) (n : Nat) (f : Nat → Nat) : (rowC k n f).all (·.oneCell') = true := by
  rw [Array.all_eq_true_iff_forall_mem]
  intro v hv
  simp only [rowC, List.mem_toArray, List.mem_map] at hv
  obtain ⟨j, _, rfl⟩ := hv
  rfl
theorem rowC_congr (k : IntKind) (n : Nat) (f g : Nat → Nat) (h : ∀ j, j < n → f j = g j) : rowC k n f = rowC k n g := by
  unfold rowC
  congr 1
  apply List.map_congr_left
  intro j hj
  rw [h j (List.mem_range.1 hj)]
theorem rowC_set (k : IntKind) (n : Nat) (f : Nat → Nat) (j v : Nat) : (rowC k n f).setIfInBounds j (.int k v) = rowC k n (upd f j v) := by
  apply Array.ext_getElem?
  intro i
  rw [Array.getElem?_setIfInBounds]
  by_cases hi : i < n
  · rw [rowC_get _ _ _ _ hi]
    by_cases e : j = i
    · subst e; rw [if_pos rfl, if_pos (by rw [rowC_size]; exact hi), rowC_get _ _ _ _ hi, upd_same]
    · rw [if_neg e, rowC_get _ _ _ _ hi, upd_other _ _ _ _ (fun h => e h.symm)]
  · rw [Array.getElem?_eq_none (by rw [rowC_size]; omega)]
    by_cases e : j = i
    · subst e; simp [rowC_size, hi]
    · rw [if_neg e, Array.getElem?_eq_none (by rw [rowC_size]; omega)]
theorem Row.congr {w : World} {g n : Nat} {k : IntKind} {t : TypeId} {f f' : Nat → Nat} (h : Row w g k t n f) (e : ∀ j, j < n → f j = f' j) : Row w g k t n f' := by
  unfold Row at *
  rw [h, rowC_congr k n f f' e]
theorem Row.lt {w : World} {g n : Nat} {k : IntKind} {t : TypeId} {f : Nat → Nat} (h : Row w g k t n f) : g < w.heap.size := (Array.getElem?_eq_some_iff.1 h).1
theorem Row.cell {w : World} {g n : Nat} {k : IntKind} {t : TypeId} {f : Nat → Nat} (h : Row w g k t n f) (j : Nat) (hj : j < n) : w.cell? ⟨g, j, none⟩ = some (.int k (f j)) := by
  rw [cell_of_row w g j _ t (0, 0) h, rowC_get _ _ _ _ hj]
theorem Row.frozen {w : World} {g n : Nat} {k : IntKind} {t : TypeId} {f : Nat → Nat} (h : Row w g k t n f) (j : Nat) : w.frozen? ⟨g, j, none⟩ = false := frozen_of_row w g j _ t h
theorem Row.set {w : World} {g n : Nat} {k : IntKind} {t : TypeId} {f : Nat → Nat} (h : Row w g k t n f) (j v : Nat) : Row (w.setCell ⟨g, j, none⟩ (.int k v)) g k t n (upd f j v) := by
  unfold Row
  rw [setCell_eq_setRow w g j _ t _ _ h, setRow_heap w g _ _ t _ h, rowC_set]
theorem Row.set_eq {w : World} {g n : Nat} {k : IntKind} {t : TypeId} {f : Nat → Nat} (h : Row w g k t n f) (j v : Nat) (z : Int) (hz : z = (v : Int)) : Row (w.setCell ⟨g, j, none⟩ (.int k z)) g k t n (upd f j v) := by
  rw [hz]
  exact h.set j v
theorem Row.set_other {w : World} {g n : Nat} {k : IntKind} {t : TypeId} {f : Nat → Nat} (h : Row w g k t n f) (a : Addr) (v : Value) (hg : g ≠ a.block) : Row (w.setCell a v) g k t n f := by
  unfold Row
  rw [heap_setCell_other w a g v hg]
  exact h
theorem Row.alloc {w : World} {g n : Nat} {k : IntKind} {t : TypeId} {f : Nat → Nat} (h : Row w g k t n f) (o : Obj) : Row (w.alloc o) g k t n f := by
  unfold Row
  rw [Go.heap_alloc_old w o h.lt]
  exact h
theorem Row.new (w : World) (k : IntKind) (t : TypeId) (n : Nat) (f : Nat → Nat) : Row (w.alloc (.cells (rowC k n f) t)) w.heap.size k t n f := heap_alloc_new w _
theorem Row.made (w : World) (k : IntKind) (t : TypeId) (n : Nat) (f : Nat → Nat) (c : Array Value) (h : c = rowC k n f) (g : Nat) (hg : w.heap.size = g) : Row (w.alloc (.cells c t)) g k t n f := by
  subst hg
  rw [h]
  exact Row.new w k t n f
theorem Row.drew {w : World} {g n : Nat} {k : IntKind} {t : TypeId} {f : Nat → Nat} (h : Row w g k t n f) : Row w.drew g k t n f := h
theorem Row.drewN {w : World} {g n : Nat} {k : IntKind} {t : TypeId} {f : Nat → Nat} (h : Row w g k t n f) (m : Nat) : Row (w.drewN m) g k t n f := h
theorem Row.later {w w' : World} {g n B : Nat} {k : IntKind} {t : TypeId} {f : Nat → Nat} (h : Row w g k t n f) (hb : Below B w w') (hg : g < B) : Row w' g k t n f := by
  unfold Row
  rw [hb.block g hg]
  exact h
theorem Row.setRow {w : World} {g n : Nat} {k : IntKind} {t : TypeId} {f : Nat → Nat} (h : Row w g k t n f) (f' : Nat → Nat) : Row (w.setRow g (rowC k n f')) g k t n f' := setRow_heap w g _ _ t _ h
theorem Row.setRow_other {w : World} {g n : Nat} {k : IntKind} {t : TypeId} {f : Nat → Nat} (h : Row w g k t n f) (g' : Nat) (c : Array Value) (hg : g ≠ g') : Row (w.setRow g' c) g k t n f := by
  unfold Row
  rw [Go.setRow_other w g' g c hg]
  exact h
/-! ### a whole row out of memory and into it -/
theorem Row.load {w : World} {g n : Nat} {k : IntKind} {t : TypeId} {f : Nat → Nat} (h : Row w g k t n f) (ty e : TypeId) (hu : Tryd.prog.underlying ty = some (.array n e)) (hi : (Tryd.prog.info? ty).map (·.size) = some n) :
    (loadVar ty ⟨g, 0, none⟩).run Tryd.prog w = .ok (.agg (rowC k n f)) w :=
  run_loadVar_row w g t ty _ (0, 0) _ h hu rfl (by rw [rowC_size]; exact hi)
theorem Row.store {w : World} {g n : Nat} {k : IntKind} {t : TypeId} {f : Nat → Nat} (h : Row w g k t n f) (ty : TypeId) (hi : (Tryd.prog.info? ty).map (·.size) = some n) (f' : Nat → Nat) :
    (storeVar ty ⟨g, 0, none⟩ (.agg (rowC k n f'))).run Tryd.prog w = .ok () (w.setRow g (rowC k n f')) :=
  run_storeVar_row w g t ty _ _ h (by rw [rowC_size]; exact hi) (by rw [rowC_size, rowC_size]) (rowC_one k n f')
theorem Tryd.size184 : (Tryd.prog.info? 184).map (·.size) = some 64 := by kernel_rfl
theorem Tryd.size155 : (Tryd.prog.info? 155).map (·.size) = some 8 := by kernel_rfl
theorem below_drewN {B : Nat} {a w : World} (h : Below B a w) (m : Nat) : Below B a (w.drewN m) := ⟨h.os, h.tape, h.output, h.size, h.block⟩
theorem wp_load_all {w : World} {ops : Array Oper} {rest : List Oper} {o : Oper} {a : Act} {Q : Exit → Act → World → Prop} {g n : Nat} {f : Nat → Nat} {t : TypeId} (ty e : TypeId) (hr : Row w g .u32 t n f) (hu : Tryd.prog.underlying ty = some (.array n e)) (hi : (Tryd.prog.info? ty).map (·.size) = some n)
    (hgd : o.guard = none) (x : Operand) (ho : o.op = .load ty x) (hx : a.eval x = .pointer (some ⟨g, 0, none⟩)) (h : wpList Tryd.prog ops Q rest (a.put o.dst (.agg (rowC .u32 n f))) w) : wpList Tryd.prog ops Q (o :: rest) a w :=
  wpList_load_row hgd ty x ho g hx t _ (0, 0) _ hr hu rfl (by rw [rowC_size]; exact hi) h
theorem wp_store_all {w : World} {ops : Array Oper} {rest : List Oper} {o : Oper} {a : Act} {Q : Exit → Act → World → Prop} {g n : Nat} {f f' : Nat → Nat} {t : TypeId} (ty : TypeId) (hr : Row w g .u32 t n f) (hi : (Tryd.prog.info? ty).map (·.size) = some n)
    (hgd : o.guard = none) (x y : Operand) (ho : o.op = .store ty x y) (hx : a.eval x = .pointer (some ⟨g, 0, none⟩)) (hy : a.eval y = .agg (rowC .u32 n f')) (h : wpList Tryd.prog ops Q rest (a.put o.dst undef) (w.setRow g (rowC .u32 n f'))) : wpList Tryd.prog ops Q (o :: rest) a w :=
  wpList_store_row hgd ty x y ho g _ hx hy t _ hr (by rw [rowC_size]; exact hi) (by rw [rowC_size, rowC_size]) (rowC_one .u32 n f') h
theorem results_all {fn : Func} {p : Tmp} {ty e : TypeId} (h : fn.results = #[.cell p ty]) (tmps : Array Value) (w : World) (g n : Nat) (f : Nat → Nat) (t : TypeId) (hr : Row w g .u32 t n f)
    (hp : tmps.getD p undef = .pointer (some ⟨g, 0, none⟩)) (hu : Tryd.prog.underlying ty = some (.array n e)) (hi : (Tryd.prog.info? ty).map (·.size) = some n) :
    (results fn tmps).run Tryd.prog w = .ok (.agg (rowC .u32 n f)) w :=
  results_cell_row h tmps w g t _ (0, 0) _ hp hr hu rfl (by rw [rowC_size]; exact hi)
end Go.Proofs.YtemhhjkmolndbaaDoor
