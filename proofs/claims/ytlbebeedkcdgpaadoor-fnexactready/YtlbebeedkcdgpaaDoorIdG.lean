/- Rows of Ids that a call owns and appends to. -/
import Derived.Test.YtlbebeedkcdgpaaDoorIdTo
import Derived.Laws.AppendOwn
import Derived.Lib.LazyBuf
namespace Go.Proofs.YtlbebeedkcdgpaaDoor
open Go.RowKit Go.PlainAid
set_option linter.unusedVariables false

def idV (l : List Ii) : List Value := l.flatMap fun s => [.int .i64 s.rep, .int .i64 s.slot]
theorem idV_append (l m : List Ii) : idV (l ++ m) = idV l ++ idV m := by simp [idV]
theorem idV_cons (x : Ii) (l : List Ii) : idV (x :: l) = .int .i64 x.rep :: .int .i64 x.slot :: idV l := by simp [idV]
theorem idV_length (l : List Ii) : (idV l).length = l.length * 2 := by
  induction l with
  | nil => rfl
  | cons x l ih => rw [idV_cons]; simp only [List.length_cons, ih]; omega
theorem idV_get (l : List Ii) (j : Nat) (h : j < l.length) : (idV l)[j * 2]? = some (.int .i64 (iR l j)) ∧ (idV l)[j * 2 + 1]? = some (.int .i64 (iS l j)) := by
  induction l generalizing j with
  | nil => simp at h
  | cons x l ih =>
    rw [idV_cons]
    cases j with
    | zero => exact ⟨by rw [iR_of (x := x) rfl]; rfl, by rw [iS_of (x := x) rfl]; rfl⟩
    | succ j =>
      have h' : j < l.length := by simpa using h
      obtain ⟨a, b⟩ := ih j h'
      have g : (x :: l)[j + 1]? = some ⟨iR l j, iS l j⟩ := by rw [List.getElem?_cons_succ]; exact ii_get l j h'
      rw [iR_of g, iS_of g, show (j + 1) * 2 = j * 2 + 1 + 1 by omega, show j * 2 + 1 + 1 + 1 = (j * 2 + 1) + 1 + 1 by omega]
      simp only [List.getElem?_cons_succ]
      exact ⟨a, b⟩
theorem idV_one (l : List Ii) : ∀ u ∈ idV l, u.oneCell' = true := by
  induction l with
  | nil => intro u hu; simp [idV] at hu
  | cons x l ih =>
    intro u hu
    rw [idV_cons] at hu
    simp only [List.mem_cons] at hu
    rcases hu with rfl | rfl | hu
    · rfl
    · rfl
    · exact ih u hu
/-- v is a row of l's own, from its block's head on. -/
def IdRow (w : World) (base : Nat) (v : Value) (l : List Ii) : Prop := w.ownsRow base 30 2 v l.length (idV l)
theorem IdRow.own {w : World} {base : Nat} {v : Value} {l : List Ii} (h : IdRow w base v l) : IdOwn w base v l := by
  obtain ⟨h1, ⟨rfl, h2⟩ | ⟨g, cap, cur, rfl, hb, hg, hc, hm, hs, ht⟩⟩ := h
  · exact ⟨none, 0, by rw [h2], by omega, by omega, fun h0 => by omega⟩
  · unfold maxLen at hm
    refine ⟨_, cap, rfl, hc, by omega, fun h0 => ⟨g, 0, cur, rfl, ⟨hb, by omega⟩, hg, fun j hj => ?_⟩⟩
    obtain ⟨a, b⟩ := idV_get l j hj
    rw [← ht] at a b
    rw [List.getElem?_take, if_pos (by omega)] at a b
    rw [Nat.zero_add]
    exact ⟨by simpa using a, by simpa using b⟩
theorem IdRow.kept {w w' : World} {base : Nat} {v : Value} {l : List Ii} {row : Option Nat} (h : IdRow w base v l) (hg : w.grownBy w' row) (hne : ∀ k, row = some k → v.ownBlock ≠ some k) : IdRow w' base v l := by
  obtain ⟨h1, h2⟩ := h
  refine ⟨h1, h2.imp (fun h => h) fun ⟨g, cap, cur, e, hb', hg', r⟩ => ⟨g, cap, cur, e, hb', ?_, r⟩⟩
  subst e
  rw [hg.block g (Array.getElem?_eq_some_iff.1 hg').1 (fun e => hne g e.symm rfl)]
  exact hg'
theorem IdRow.later {w w' : World} {base : Nat} {v : Value} {l : List Ii} (h : IdRow w base v l) (hb : Below w.heap.size w w') : IdRow w' base v l := h.kept (grown_of hb none) (fun k hk => by cases hk)
theorem IdRow.alloc {w : World} {base : Nat} {v : Value} {l : List Ii} (h : IdRow w base v l) (o : Obj) : IdRow (w.alloc o) base v l := h.later ((Below.refl _ _).alloc (Nat.le_refl _) _)
theorem IdRow.drew {w : World} {base : Nat} {v : Value} {l : List Ii} (h : IdRow w base v l) : IdRow w.drew base v l := h.later (Below.refl _ _).drew
theorem IdRow.mono {w : World} {base base' : Nat} {v : Value} {l : List Ii} (h : IdRow w base v l) (hb : base' ≤ base) : IdRow w base' v l := by
  obtain ⟨h1, h2⟩ := h
  exact ⟨h1, h2.imp (fun h => h) fun ⟨g, cap, cur, e, hb', r⟩ => ⟨g, cap, cur, e, Nat.le_trans hb hb', r⟩⟩
theorem IdRow.lt {w : World} {base : Nat} {v : Value} {l : List Ii} (h : IdRow w base v l) (k : Nat) (hk : v.ownBlock = some k) : base ≤ k ∧ k < w.heap.size := by
  obtain ⟨h1, ⟨rfl, h2⟩ | ⟨g, cap, cur, rfl, hb, hg, hc, _⟩⟩ := h
  · cases hk
  · cases hk
    exact ⟨hb, (Array.getElem?_eq_some_iff.1 hg).1⟩
theorem IdRow.form {w : World} {base : Nat} {v : Value} {l : List Ii} (h : IdRow w base v l) : ∃ a cap, v = .slice a l.length cap := by
  obtain ⟨h1, ⟨rfl, h2⟩ | ⟨g, cap, cur, rfl, _⟩⟩ := h
  · exact ⟨none, 0, by rw [h2]⟩
  · exact ⟨_, cap, rfl⟩
theorem below_of_idrow {w w' : World} {base : Nat} {v : Value} {l : List Ii} (h : IdRow w base v l) (hb : base ≤ w.heap.size) (hg : w.grownBy w' v.ownBlock) : Below base w w' :=
  (Below.refl _ _).grown hg hb (fun k hk => (h.lt k hk).1)
theorem idRow_nil (w : World) (base : Nat) : IdRow w base (.slice none 0 0) [] := ⟨by simp [idV], .inl ⟨rfl, rfl⟩⟩
theorem idRow_new (w : World) (base : Nat) (hb : base ≤ w.heap.size) : IdRow (w.alloc (.cells #[] 30)) base (.slice (some ⟨w.heap.size, 0, none⟩) 0 0) [] := World.ownsRow_made w #[] 0 hb (Nat.zero_le _) rfl
theorem ii_news {w : World} {b oo : Nat} {l2 : List Ii} (hX : ∀ j, j < l2.length → IiAt w b oo l2 j) (j : Nat) (u : Value) (hj : (idV l2)[j]? = some u) : w.cell? ((⟨b, oo, none⟩ : Addr).add j) = some u := by
  have hjl : j < l2.length * 2 := by rw [← idV_length]; exact (List.getElem?_eq_some_iff.1 hj).1
  rw [Go.WideShapes.add_plain]
  obtain ⟨p, q⟩ := idV_get l2 (j / 2) (by omega)
  obtain ⟨p', q'⟩ := hX (j / 2) (by omega)
  rcases Nat.mod_two_eq_zero_or_one j with h | h
  · have e : j = j / 2 * 2 := by omega
    rw [e, p] at hj
    rw [e, p']
    exact hj
  · have e : j = j / 2 * 2 + 1 := by omega
    rw [e, q] at hj
    rw [e, ← Nat.add_assoc, q']
    exact hj
/-- list = append(list, others...). -/
theorem wp_append_id {w : World} {ops : Array Oper} {rest : List Oper} {o : Oper} {a : Act} {Q : Exit → Act → World → Prop} (hgd : o.guard = none) (s x : Operand)
    (ho : o.op = .call { callee := .builtin .append, args := #[s, x], argTypes := #[26, 26] }) (base : Nat) (v : Value) (l l2 : List Ii) (hs : a.eval s = v) (hown : IdRow w base v l)
    (b oo c : Nat) (hx : a.eval x = .slice (some ⟨b, oo, none⟩) l2.length c) (hX : ∀ j, j < l2.length → IiAt w b oo l2 j) (hlen : l.length + l2.length ≤ 4194304) (hbase : base ≤ w.heap.size)
    (hK : ∀ v' w', IdRow w' base v' (l ++ l2) → w.grownBy w' v.ownBlock → wpList Tryd.prog ops Q rest (a.put o.dst v') w') : wpList Tryd.prog ops Q (o :: rest) a w := by
  obtain ⟨i0, hi, hz0, hz1, hz2⟩ := info_parts Tryd.infoId
  refine wpList_append_own w hgd s x 26 ho base 30 i0 (.agg #[.int .i64 0, .int .i64 0]) 2 16 Tryd.underlying26 hi hz0 hz1 hz2 rfl (by decide) v l.length (idV l) hs hown ⟨b, oo, none⟩ l2.length c (idV l2) hx (idV_length l2) (fun j u hj => ii_news hX j u hj) (idV_one l2) (by unfold maxLen; omega) (by omega) hbase ?_
  intro v' w' h1 h2 _
  refine hK v' w' ?_ h2
  unfold IdRow
  rw [List.length_append, idV_append]
  exact h1
theorem ii_one {w : World} {b : Nat} {x : Ii} (h : w.cell? ⟨b, 0, none⟩ = some (.int .i64 x.rep) ∧ w.cell? ⟨b, 1, none⟩ = some (.int .i64 x.slot)) (j : Nat) (hj : j < [x].length) : IiAt w b 0 [x] j := by
  obtain rfl : j = 0 := by simpa using hj
  unfold IiAt
  rw [iR_of (x := x) rfl, iS_of (x := x) rfl]
  simpa using h
/-- The same as a step of a region that draws its order. -/
theorem step_append_id {w : World} {ops : Array Oper} {o : Oper} {a : Act} {K : Act → World → Prop} {Q : Exit → Act → World → Prop} {E : Prop} (hgd : o.guard = none) (s x : Operand)
    (ho : o.op = .call { callee := .builtin .append, args := #[s, x], argTypes := #[26, 26] }) (base : Nat) (v : Value) (l : List Ii) (t : Ii) (hs : a.eval s = v) (hown : IdRow w base v l)
    (h c : Nat) (hx : a.eval x = .slice (some ⟨h, 0, none⟩) 1 c) (hX : w.cell? ⟨h, 0, none⟩ = some (.int .i64 t.rep) ∧ w.cell? ⟨h, 1, none⟩ = some (.int .i64 t.slot)) (hlen : l.length ≤ 4194304) (hbase : base ≤ w.heap.size)
    (hK : ∀ v' w', IdRow w' base v' (l ++ [t]) → w.grownBy w' v.ownBlock → K (a.put o.dst v') w') : if Region.wanted o (yielded ops a.tmps) = true then Oper.wp Tryd.prog o a w K Q else E := by
  have hw : Region.wanted o (yielded ops a.tmps) = true := by simp [Region.wanted, hgd]
  rw [if_pos hw]
  obtain ⟨i0, hi, hz0, hz1, hz2⟩ := info_parts Tryd.infoId
  refine wp_append_own w s x 26 ho base 30 i0 (.agg #[.int .i64 0, .int .i64 0]) 2 16 Tryd.underlying26 hi hz0 hz1 hz2 rfl (by decide) v l.length (idV l) hs hown ⟨h, 0, none⟩ 1 c (idV [t]) hx (idV_length [t]) (fun j u hj => ii_news (fun j hj => ii_one hX j hj) j u hj) (idV_one [t]) (by unfold maxLen; omega) (by omega) hbase ?_
  intro v' w' h1 h2 _
  refine hK v' w' ?_ h2
  unfold IdRow
  rw [List.length_append, idV_append]
  exact h1
end Go.Proofs.YtlbebeedkcdgpaaDoor
