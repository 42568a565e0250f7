/- Rows of nodes without instances and Leads: what a new network holds. -/
import Derived.Test.YtdokglckfabdaaaIdG
import Derived.Test.YtdokglckfabdaaaNn
namespace Go.Proofs.Ytdokglckfabdaaa
open Go.RowKit Go.PlainAid
set_option linter.unusedVariables false

/-- A node's two numbers. -/
structure Nz where
  me : Int
  next : Int
def nzA (x : Nz) : List Value := [.int .i64 x.me, .int .i64 x.next, .slice none 0 0, .slice none 0 0]
def nzV (l : List Nz) : List Value := l.flatMap nzA
theorem nzV_append (l m : List Nz) : nzV (l ++ m) = nzV l ++ nzV m := by simp [nzV]
theorem nzV_cons (x : Nz) (l : List Nz) : nzV (x :: l) = nzA x ++ nzV l := by simp [nzV]
theorem nzA_length (x : Nz) : (nzA x).length = 4 := rfl
theorem nzV_length (l : List Nz) : (nzV l).length = l.length * 4 := by
  induction l with
  | nil => rfl
  | cons x l ih => rw [nzV_cons, List.length_append, nzA_length, ih, List.length_cons]; omega
theorem nzV_get : ∀ (l : List Nz) (j i : Nat) (t : Nz), l[j]? = some t → i < 4 → (nzV l)[j * 4 + i]? = (nzA t)[i]?
  | [], j, i, t, h, _ => by simp at h
  | s :: l, 0, i, t, h, hi => by
    have e : s = t := by simpa using h
    subst e
    rw [nzV_cons, Nat.zero_mul, Nat.zero_add, List.getElem?_append_left (by rw [nzA_length]; exact hi)]
  | s :: l, j + 1, i, t, h, hi => by
    rw [nzV_cons, List.getElem?_append_right (by rw [nzA_length]; omega), nzA_length, show (j + 1) * 4 + i - 4 = j * 4 + i by omega]
    exact nzV_get l j i t (by simpa using h) hi
theorem nzV_one (l : List Nz) : ∀ u ∈ nzV l, u.oneCell' = true := by
  intro u hu
  simp only [nzV, List.mem_flatMap] at hu
  obtain ⟨t, ht, hu⟩ := hu
  simp only [nzA, List.mem_cons, List.not_mem_nil, or_false] at hu
  rcases hu with rfl | rfl | rfl | rfl <;> rfl
/-- v is a row of l's own, from its block's head on. -/
def NzRow (w : World) (base : Nat) (v : Value) (l : List Nz) : Prop := w.ownsRow base 33 4 v l.length (nzV l)
theorem NzRow.kept {w w' : World} {base : Nat} {v : Value} {l : List Nz} {row : Option Nat} (h : NzRow w base v l) (hg : w.grownBy w' row) (hne : ∀ k, row = some k → v.ownBlock ≠ some k) : NzRow w' base v l := by
  obtain ⟨h1, h2⟩ := h
  refine ⟨h1, h2.imp (fun h => h) fun ⟨g, cap, cur, e, hb', hg', r⟩ => ⟨g, cap, cur, e, hb', ?_, r⟩⟩
  subst e
  rw [hg.block g (Array.getElem?_eq_some_iff.1 hg').1 (fun e => hne g e.symm rfl)]
  exact hg'
theorem NzRow.later {w w' : World} {base : Nat} {v : Value} {l : List Nz} (h : NzRow w base v l) (hb : Below w.heap.size w w') : NzRow w' base v l := h.kept (grown_of hb none) (fun k hk => by cases hk)
theorem NzRow.alloc {w : World} {base : Nat} {v : Value} {l : List Nz} (h : NzRow w base v l) (o : Obj) : NzRow (w.alloc o) base v l := h.later ((Below.refl _ _).alloc (Nat.le_refl _) _)
theorem NzRow.drew {w : World} {base : Nat} {v : Value} {l : List Nz} (h : NzRow w base v l) : NzRow w.drew base v l := h.later (Below.refl _ _).drew
theorem NzRow.lt {w : World} {base : Nat} {v : Value} {l : List Nz} (h : NzRow w base v l) (k : Nat) (hk : v.ownBlock = some k) : base ≤ k ∧ k < w.heap.size := by
  obtain ⟨h1, ⟨rfl, h2⟩ | ⟨g, cap, cur, rfl, hb, hg, hc, _⟩⟩ := h
  · cases hk
  · cases hk
    exact ⟨hb, (Array.getElem?_eq_some_iff.1 hg).1⟩
theorem NzRow.form {w : World} {base : Nat} {v : Value} {l : List Nz} (h : NzRow w base v l) : ∃ a cap, v = .slice a l.length cap := by
  obtain ⟨h1, ⟨rfl, h2⟩ | ⟨g, cap, cur, rfl, _⟩⟩ := h
  · exact ⟨none, 0, by rw [h2]⟩
  · exact ⟨_, cap, rfl⟩
theorem nzRow_nil (w : World) (base : Nat) : NzRow w base (.slice none 0 0) [] := ⟨by simp [nzV], .inl ⟨rfl, rfl⟩⟩
/-- The block g holds three nodes at its head. -/
def N3 (w : World) (g : Nat) (m n : Nat → Int) : Prop :=
  ∃ cur, w.heap[g]? = some (.cells cur 33 (0, 0)) ∧ ∀ j, j < 3 → cur[j * 4]? = some (.int .i64 (m j)) ∧ cur[j * 4 + 1]? = some (.int .i64 (n j)) ∧ cur[j * 4 + 2]? = some (.slice none 0 0) ∧ cur[j * 4 + 3]? = some (.slice none 0 0)
theorem N3.keep {w w' : World} {g : Nat} {m n : Nat → Int} {row : Option Nat} (h : N3 w g m n) (hg : w.grownBy w' row) (hne : row ≠ some g) : N3 w' g m n := by
  obtain ⟨cur, h1, h2⟩ := h
  exact ⟨cur, by rw [hg.block g (Array.getElem?_eq_some_iff.1 h1).1 (fun e => hne e.symm)]; exact h1, h2⟩
theorem N3.lt {w : World} {g : Nat} {m n : Nat → Int} (h : N3 w g m n) : g < w.heap.size := by
  obtain ⟨cur, h1, h2⟩ := h
  exact (Array.getElem?_eq_some_iff.1 h1).1
theorem N3.after {w w' : World} {g : Nat} {m n : Nat → Int} (h : N3 w g m n) (hb : Below w.heap.size w w') : N3 w' g m n := h.keep (grown_of hb none) (fun e => by cases e)
theorem N3.alloc {w : World} {g : Nat} {m n : Nat → Int} (h : N3 w g m n) (o : Obj) : N3 (w.alloc o) g m n := h.after ((Below.refl _ _).alloc (Nat.le_refl _) _)
theorem N3.drew {w : World} {g : Nat} {m n : Nat → Int} (h : N3 w g m n) : N3 w.drew g m n := h.after (Below.refl _ _).drew
theorem N3.cells {w : World} {g : Nat} {m n : Nat → Int} (h : N3 w g m n) (j : Nat) (hj : j < 3) : (w.cell? ⟨g, j * 4, none⟩ = some (.int .i64 (m j)) ∧ w.cell? ⟨g, j * 4 + 1, none⟩ = some (.int .i64 (n j)) ∧ w.cell? ⟨g, j * 4 + 2, none⟩ = some (.slice none 0 0) ∧ w.cell? ⟨g, j * 4 + 3, none⟩ = some (.slice none 0 0)) ∧ w.frozen? ⟨g, j * 4, none⟩ = false ∧ w.frozen? ⟨g, j * 4 + 1, none⟩ = false := by
  obtain ⟨cur, h1, h2⟩ := h
  rw [cell_of_row w g _ cur _ (0, 0) h1, cell_of_row w g _ cur _ (0, 0) h1, cell_of_row w g _ cur _ (0, 0) h1, cell_of_row w g _ cur _ (0, 0) h1]
  exact ⟨h2 j hj, frozen_of_row w g _ _ _ h1, frozen_of_row w g _ _ _ h1⟩
theorem N3.setM {w : World} {g : Nat} {m n : Nat → Int} (h : N3 w g m n) (j : Nat) (hj : j < 3) (z : Int) : N3 (w.setCell ⟨g, j * 4, none⟩ (.int .i64 z)) g (fun i => if i = j then z else m i) n := by
  obtain ⟨cur, h1, h2⟩ := h
  refine ⟨cur.setIfInBounds (j * 4) (.int .i64 z), by rw [setCell_eq_setRow w g _ _ _ _ _ h1, setRow_heap w g _ _ _ _ h1], fun i hi => ?_⟩
  obtain ⟨q1, q2, q3, q4⟩ := h2 i hi
  have hz := (Array.getElem?_eq_some_iff.1 (h2 j hj).1).1
  rw [Array.getElem?_setIfInBounds, Array.getElem?_setIfInBounds, Array.getElem?_setIfInBounds, Array.getElem?_setIfInBounds, if_neg (show ¬ j * 4 = i * 4 + 1 by omega), if_neg (show ¬ j * 4 = i * 4 + 2 by omega), if_neg (show ¬ j * 4 = i * 4 + 3 by omega)]
  by_cases e : i = j
  · subst e
    rw [if_pos rfl, if_pos hz]
    exact ⟨by simp, q2, q3, q4⟩
  · rw [if_neg (by omega)]
    exact ⟨by simp [e, q1], q2, q3, q4⟩
theorem N3.setN {w : World} {g : Nat} {m n : Nat → Int} (h : N3 w g m n) (j : Nat) (hj : j < 3) (z : Int) : N3 (w.setCell ⟨g, j * 4 + 1, none⟩ (.int .i64 z)) g m (fun i => if i = j then z else n i) := by
  obtain ⟨cur, h1, h2⟩ := h
  refine ⟨cur.setIfInBounds (j * 4 + 1) (.int .i64 z), by rw [setCell_eq_setRow w g _ _ _ _ _ h1, setRow_heap w g _ _ _ _ h1], fun i hi => ?_⟩
  obtain ⟨q1, q2, q3, q4⟩ := h2 i hi
  have hz := (Array.getElem?_eq_some_iff.1 (h2 j hj).2.1).1
  rw [Array.getElem?_setIfInBounds, Array.getElem?_setIfInBounds, Array.getElem?_setIfInBounds, Array.getElem?_setIfInBounds, if_neg (show ¬ j * 4 + 1 = i * 4 by omega), if_neg (show ¬ j * 4 + 1 = i * 4 + 2 by omega), if_neg (show ¬ j * 4 + 1 = i * 4 + 3 by omega)]
  by_cases e : i = j
  · subst e
    rw [if_pos rfl, if_pos hz]
    exact ⟨q1, by simp, q3, q4⟩
  · rw [if_neg (by omega)]
    exact ⟨q1, by simp [e, q2], q3, q4⟩
theorem N3.congr {w : World} {g : Nat} {m n m' n' : Nat → Int} (h : N3 w g m n) (h1 : ∀ j, j < 3 → m j = m' j) (h2 : ∀ j, j < 3 → n j = n' j) : N3 w g m' n' := by
  obtain ⟨cur, a, b⟩ := h
  exact ⟨cur, a, fun j hj => by rw [← h1 j hj, ← h2 j hj]; exact b j hj⟩
/-- Three nodes in a row of one's own. -/
theorem NzRow.three {w : World} {base : Nat} {v : Value} {a b c : Nz} (h : NzRow w base v [a, b, c]) : ∃ g cap, v = .slice (some ⟨g, 0, none⟩) 3 cap ∧ base ≤ g ∧ 3 ≤ cap ∧ N3 w g (fun j => ([a, b, c].getD j ⟨0, 0⟩).me) (fun j => ([a, b, c].getD j ⟨0, 0⟩).next) := by
  obtain ⟨h1, ⟨rfl, h2⟩ | ⟨g, cap, cur, rfl, hb, hg, hc, hm, hs, ht⟩⟩ := h
  · cases h2
  · refine ⟨g, cap, rfl, hb, hc, cur, hg, fun j hj => ?_⟩
    have q : ∀ i, i < 4 → ∀ t, [a, b, c][j]? = some t → cur[j * 4 + i]? = (nzA t)[i]? := fun i hi t hj' => by
      have x := nzV_get [a, b, c] j i t hj' hi
      rw [← ht, List.getElem?_take, if_pos (by simp; omega)] at x
      rw [← x]
      simp
    have hl : [a, b, c][j]? = some ([a, b, c].getD j ⟨0, 0⟩) := by
      rcases j with _ | _ | _ | j
      · rfl
      · rfl
      · rfl
      · omega
    exact ⟨q 0 (by omega) _ hl, q 1 (by omega) _ hl, q 2 (by omega) _ hl, q 3 (by omega) _ hl⟩
theorem nz_news {w : World} {h : Nat} {x : Nz} (hX : Bx w h 33 (nzA x).toArray) (j : Nat) (u : Value) (hj : (nzV [x])[j]? = some u) : w.cell? ((⟨h, 0, none⟩ : Addr).add j) = some u := by
  rw [Go.WideShapes.add_plain, Nat.zero_add]
  refine hX.cell j u ?_
  have e : nzV [x] = nzA x := by rw [nzV_cons]; simp [nzV]
  rw [e] at hj
  simpa using hj
theorem Try.infoENode : (Try.prog.info? 33).map (fun i => (i.zero, i.size, i.bytes)) = some (some (.agg #[.int .i64 0, .int .i64 0, .slice none 0 0, .slice none 0 0]), 4, 64) := by kernel_rfl
/-- list = append(list, one). -/
theorem wp_append_nz {w : World} {ops : Array Oper} {rest : List Oper} {o : Oper} {a : Act} {Q : Exit → Act → World → Prop} (hgd : o.guard = none) (s x : Operand)
    (ho : o.op = .call { callee := .builtin .append, args := #[s, x], argTypes := #[22, 22] }) (base : Nat) (v : Value) (l : List Nz) (t : Nz) (hs : a.eval s = v) (hown : NzRow w base v l)
    (h c : Nat) (hx : a.eval x = .slice (some ⟨h, 0, none⟩) 1 c) (hX : Bx w h 33 (nzA t).toArray) (hlen : l.length ≤ 4194304) (hbase : base ≤ w.heap.size)
    (hK : ∀ v' w', NzRow w' base v' (l ++ [t]) → w.grownBy w' v.ownBlock → wpList Try.prog ops Q rest (a.put o.dst v') w') : wpList Try.prog ops Q (o :: rest) a w := by
  obtain ⟨i0, hi, hz0, hz1, hz2⟩ := info_parts Try.infoENode
  refine wpList_append_own w hgd s x 22 ho base 33 i0 (.agg #[.int .i64 0, .int .i64 0, .slice none 0 0, .slice none 0 0]) 4 64 Try.underlying22 hi hz0 hz1 hz2 rfl (by decide) v l.length (nzV l) hs hown ⟨h, 0, none⟩ 1 c (nzV [t]) hx (nzV_length [t]) (fun j u hj => nz_news hX j u hj) (nzV_one [t]) (by unfold maxLen; omega) (by omega) hbase ?_
  intro v' w' h1 h2 _
  refine hK v' w' ?_ h2
  unfold NzRow
  rw [List.length_append, nzV_append]
  exact h1
end Go.Proofs.Ytdokglckfabdaaa
