/- Rows of segments that a call owns and appends to. -/
import Derived.Test.YtemhhjkmolndbaaDoorSgA
import Derived.Laws.AppendOwn
import Derived.Lib.LazyBuf
namespace Go.Proofs.YtemhhjkmolndbaaDoor
open Go.RowKit Go.PlainAid
set_option linter.unusedVariables false

def segV (l : List Sg) : List Value := l.flatMap fun s => [.int .i64 s.fst, .string s.txt]
theorem segV_nil : segV [] = [] := rfl
theorem segV_append (l m : List Sg) : segV (l ++ m) = segV l ++ segV m := by simp [segV]
theorem segV_cons (x : Sg) (l : List Sg) : segV (x :: l) = .int .i64 x.fst :: .string x.txt :: segV l := by simp [segV]
theorem segV_length (l : List Sg) : (segV l).length = l.length * 2 := by
  induction l with
  | nil => rfl
  | cons x l ih => rw [segV_cons]; simp only [List.length_cons, ih]; omega
theorem segV_get (l : List Sg) (j : Nat) (h : j < l.length) : (segV l)[j * 2]? = some (.int .i64 (sF l j)) ∧ (segV l)[j * 2 + 1]? = some (.string (sT l j)) := by
  induction l generalizing j with
  | nil => simp at h
  | cons x l ih =>
    rw [segV_cons]
    cases j with
    | zero => exact ⟨by rw [sF_of (x := x) rfl]; rfl, by rw [sT_of (x := x) rfl]; rfl⟩
    | succ j =>
      have h' : j < l.length := by simpa using h
      obtain ⟨a, b⟩ := ih j h'
      have e1 : sF (x :: l) (j + 1) = sF l j := sF_of (x := ⟨sF l j, sT l j⟩) (by rw [List.getElem?_cons_succ]; exact sg_get l j h')
      have e2 : sT (x :: l) (j + 1) = sT l j := sT_of (x := ⟨sF l j, sT l j⟩) (by rw [List.getElem?_cons_succ]; exact sg_get l j h')
      rw [e1, e2, show (j + 1) * 2 = j * 2 + 1 + 1 by omega, show j * 2 + 1 + 1 + 1 = (j * 2 + 1) + 1 + 1 by omega]
      simp only [List.getElem?_cons_succ]
      exact ⟨a, b⟩
theorem segV_one (l : List Sg) : ∀ u ∈ segV l, u.oneCell' = true := by
  induction l with
  | nil => intro u hu; simp [segV] at hu
  | cons x l ih =>
    intro u hu
    rw [segV_cons] at hu
    simp only [List.mem_cons] at hu
    rcases hu with rfl | rfl | hu
    · rfl
    · rfl
    · exact ih u hu
/-- v is a row of l's own, from its block's head on. -/
def SegRow (w : World) (base : Nat) (v : Value) (l : List Sg) : Prop := w.ownsRow base 63 2 v l.length (segV l)
theorem SegRow.own {w : World} {base : Nat} {v : Value} {l : List Sg} (h : SegRow w base v l) : SegOwn w base v l := by
  obtain ⟨h1, ⟨rfl, h2⟩ | ⟨g, cap, cur, rfl, hb, hg, hc, hm, hs, ht⟩⟩ := h
  · exact ⟨none, 0, by rw [h2], by omega, by omega, fun h0 => by omega⟩
  · unfold maxLen at hm
    refine ⟨_, cap, rfl, hc, by omega, fun h0 => ⟨g, 0, cur, rfl, ⟨hb, by omega⟩, hg, fun j hj => ?_⟩⟩
    obtain ⟨a, b⟩ := segV_get l j hj
    rw [← ht] at a b
    rw [List.getElem?_take, if_pos (by omega)] at a b
    rw [Nat.zero_add]
    exact ⟨by simpa using a, by simpa using b⟩
theorem SegRow.later {w w' : World} {base : Nat} {v : Value} {l : List Sg} (h : SegRow w base v l) (hb : Below w.heap.size w w') : SegRow w' base v l := by
  obtain ⟨h1, h2⟩ := h
  refine ⟨h1, h2.imp (fun h => h) fun ⟨g, cap, cur, e, hb', hg, r⟩ => ⟨g, cap, cur, e, hb', ?_, r⟩⟩
  rw [hb.block g (Array.getElem?_eq_some_iff.1 hg).1]
  exact hg
theorem SegRow.alloc {w : World} {base : Nat} {v : Value} {l : List Sg} (h : SegRow w base v l) (o : Obj) : SegRow (w.alloc o) base v l := h.later ((Below.refl _ _).alloc (Nat.le_refl _) _)
theorem SegRow.mono {w : World} {base base' : Nat} {v : Value} {l : List Sg} (h : SegRow w base v l) (hb : base' ≤ base) : SegRow w base' v l := by
  obtain ⟨h1, h2⟩ := h
  exact ⟨h1, h2.imp (fun h => h) fun ⟨g, cap, cur, e, hb', r⟩ => ⟨g, cap, cur, e, Nat.le_trans hb hb', r⟩⟩
theorem SegRow.kept {w w' : World} {base : Nat} {v : Value} {l : List Sg} {row : Option Nat} (h : SegRow w base v l) (hg : w.grownBy w' row) (hne : ∀ k, row = some k → k < base) : SegRow w' base v l := by
  obtain ⟨h1, h2⟩ := h
  refine ⟨h1, h2.imp (fun h => h) fun ⟨g, cap, cur, e, hb', hg', r⟩ => ⟨g, cap, cur, e, hb', ?_, r⟩⟩
  rw [hg.block g (Array.getElem?_eq_some_iff.1 hg').1 (fun e => by have := hne g e.symm; omega)]
  exact hg'
theorem SegRow.st3 {w : World} {base q : Nat} {v : Value} {l : List Sg} (h : SegRow w base v l) (hq : q < base) (y0 y1 y2 : Value) : SegRow (Go.Proofs.YtemhhjkmolndbaaDoor.st3 w q y0 y1 y2) base v l := h.kept (grow_st3 w q y0 y1 y2) (fun k hk => by cases hk; exact hq)
theorem SegRow.setO {w : World} {base q o : Nat} {v : Value} {l : List Sg} (h : SegRow w base v l) (hq : q < base) (y : Value) : SegRow (w.setCell ⟨q, o, none⟩ y) base v l := h.kept (grownBy_set w q o y) (fun k hk => by cases hk; exact hq)
theorem SegRow.form {w : World} {base : Nat} {v : Value} {l : List Sg} (h : SegRow w base v l) (h0 : 0 < l.length) : ∃ g cap, v = .slice (some ⟨g, 0, none⟩) l.length cap ∧ base ≤ g ∧ g < w.heap.size ∧ l.length ≤ cap := by
  obtain ⟨h1, ⟨rfl, h2⟩ | ⟨g, cap, cur, rfl, hb, hg, hc, _⟩⟩ := h
  · omega
  · exact ⟨g, cap, rfl, hb, (Array.getElem?_eq_some_iff.1 hg).1, hc⟩
theorem below_of_segs {w w' : World} {base : Nat} {v : Value} {l : List Sg} (h : SegRow w base v l) (hb : base ≤ w.heap.size) (hg : w.grownBy w' v.ownBlock) : Below base w w' :=
  (Below.refl _ _).grown hg hb (fun k hk => (World.ownsRow.lt h k hk).1)
theorem segRow_new (w : World) (base : Nat) (hb : base ≤ w.heap.size) : SegRow (w.alloc (.cells #[] 63)) base (.slice (some ⟨w.heap.size, 0, none⟩) 0 0) [] := World.ownsRow_made w #[] 0 hb (Nat.zero_le _) rfl
/-- segs = append(segs, others...). -/
theorem wp_append_segs {w : World} {ops : Array Oper} {rest : List Oper} {o : Oper} {a : Act} {Q : Exit → Act → World → Prop} (hgd : o.guard = none) (s x : Operand)
    (ho : o.op = .call { callee := .builtin .append, args := #[s, x], argTypes := #[24, 24] }) (base : Nat) (v : Value) (l l2 : List Sg) (hs : a.eval s = v) (hown : SegRow w base v l)
    (b oo c : Nat) (hx : a.eval x = .slice (some ⟨b, oo, none⟩) l2.length c) (hX : ∀ j, j < l2.length → w.cell? ⟨b, oo + j * 2, none⟩ = some (.int .i64 (sF l2 j)) ∧ w.cell? ⟨b, oo + j * 2 + 1, none⟩ = some (.string (sT l2 j))) (hlen : l.length + l2.length ≤ 1048577) (hbase : base ≤ w.heap.size)
    (hK : ∀ v' w', SegRow w' base v' (l ++ l2) → w.grownBy w' v.ownBlock → wpList Tryd.prog ops Q rest (a.put o.dst v') w') : wpList Tryd.prog ops Q (o :: rest) a w := by
  obtain ⟨i0, hi, hz0, hz1, hz2⟩ := info_parts Tryd.infoSeg
  refine wpList_append_own w hgd s x 24 ho base 63 i0 (.agg #[.int .i64 0, .string ⟨#[]⟩]) 2 24 Tryd.underlying24 hi hz0 hz1 hz2 rfl (by decide) v l.length (segV l) hs hown ⟨b, oo, none⟩ l2.length c (segV l2) hx (segV_length l2) ?_ (segV_one l2) (by unfold maxLen; omega) (by omega) hbase ?_
  · intro j u hj
    have hjl : j < l2.length * 2 := by rw [← segV_length]; exact (List.getElem?_eq_some_iff.1 hj).1
    rw [Go.WideShapes.add_plain]
    obtain ⟨p, q⟩ := segV_get l2 (j / 2) (by omega)
    obtain ⟨p', q'⟩ := hX (j / 2) (by omega)
    rcases Nat.mod_two_eq_zero_or_one j with h | h
    · have e : j = j / 2 * 2 := by omega
      rw [e] at hj
      rw [p] at hj
      rw [e, p']
      exact hj
    · have e : j = j / 2 * 2 + 1 := by omega
      rw [e] at hj
      rw [q] at hj
      rw [e, ← Nat.add_assoc, q']
      exact hj
  · intro v' w' h1 h2 _
    refine hK v' w' ?_ h2
    unfold SegRow
    rw [List.length_append, segV_append]
    exact h1
theorem setCell_same {w : World} {g o : Nat} {x : Value} (h : w.cell? ⟨g, o, none⟩ = some x) {cur : Array Value} {t : TypeId} (hg : w.heap[g]? = some (.cells cur t (0, 0))) (k : Nat) : (w.setCell ⟨g, o, none⟩ x).heap[k]? = w.heap[k]? := by
  by_cases e : k = g
  · subst e
    rw [setCell_eq_setRow w k _ _ _ _ _ hg, setRow_heap w k _ _ _ _ hg, hg]
    rw [cell_of_row w k o cur t (0, 0) hg] at h
    congr 2
    apply Array.ext_getElem?
    intro i
    rw [Array.getElem?_setIfInBounds]
    by_cases e2 : o = i
    · subst e2
      rw [if_pos rfl, h]
      have := (Array.getElem?_eq_some_iff.1 h).1
      rw [if_pos this]
    · rw [if_neg e2]
  · exact heap_setCell_other w ⟨g, o, none⟩ k x e
theorem SegRow.same {w : World} {base : Nat} {v : Value} {l : List Sg} {g cap : Nat} (h : SegRow w base v l) (hv : v = .slice (some ⟨g, 0, none⟩) l.length cap) {o : Nat} {x : Value} (hc : w.cell? ⟨g, o, none⟩ = some x) : SegRow (w.setCell ⟨g, o, none⟩ x) base v l := by
  subst hv
  obtain ⟨h1, ⟨e, h2⟩ | ⟨g', cap', cur, e, hb, hg, r⟩⟩ := h
  · simp at e
  · simp only [Value.slice.injEq, Option.some.injEq, Addr.mk.injEq] at e
    obtain ⟨⟨rfl, _⟩, _, rfl⟩ := e
    exact ⟨h1, .inr ⟨g, cap, cur, rfl, hb, by rw [setCell_same hc hg]; exact hg, r⟩⟩
end Go.Proofs.YtemhhjkmolndbaaDoor
