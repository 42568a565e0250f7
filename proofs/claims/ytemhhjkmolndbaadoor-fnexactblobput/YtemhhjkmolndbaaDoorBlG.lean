/- Rows of chunks that a call owns and appends to. -/
import Derived.Test.YtemhhjkmolndbaaDoorBlTo
import Derived.Laws.AppendOwn
import Derived.Lib.LazyBuf
namespace Go.Proofs.YtemhhjkmolndbaaDoor
open Go.RowKit Go.PlainAid
set_option linter.unusedVariables false

def blV (l : List Bb) : List Value := l.flatMap fun s => [.string s.id, .string s.dat, .bool s.bad]
theorem blV_append (l m : List Bb) : blV (l ++ m) = blV l ++ blV m := by simp [blV]
theorem blV_cons (x : Bb) (l : List Bb) : blV (x :: l) = .string x.id :: .string x.dat :: .bool x.bad :: blV l := by simp [blV]
theorem blV_length (l : List Bb) : (blV l).length = l.length * 3 := by
  induction l with
  | nil => rfl
  | cons x l ih => rw [blV_cons]; simp only [List.length_cons, ih]; omega
theorem blV_get (l : List Bb) (j : Nat) (h : j < l.length) : (blV l)[j * 3]? = some (.string (bI l j)) ∧ (blV l)[j * 3 + 1]? = some (.string (bD l j)) ∧ (blV l)[j * 3 + 2]? = some (.bool (bX l j)) := by
  induction l generalizing j with
  | nil => simp at h
  | cons x l ih =>
    rw [blV_cons]
    cases j with
    | zero => exact ⟨by rw [bI_of (x := x) rfl]; rfl, by rw [bD_of (x := x) rfl]; rfl, by rw [bX_of (x := x) rfl]; rfl⟩
    | succ j =>
      have h' : j < l.length := by simpa using h
      obtain ⟨a, b, c⟩ := ih j h'
      have g : (x :: l)[j + 1]? = some ⟨bI l j, bD l j, bX l j⟩ := by rw [List.getElem?_cons_succ]; exact bb_get l j h'
      rw [bI_of g, bD_of g, bX_of g, show (j + 1) * 3 = j * 3 + 1 + 1 + 1 by omega, show j * 3 + 1 + 1 + 1 + 1 = (j * 3 + 1) + 1 + 1 + 1 by omega, show j * 3 + 1 + 1 + 1 + 2 = (j * 3 + 2) + 1 + 1 + 1 by omega]
      simp only [List.getElem?_cons_succ]
      exact ⟨a, b, c⟩
theorem blV_one (l : List Bb) : ∀ u ∈ blV l, u.oneCell' = true := by
  induction l with
  | nil => intro u hu; simp [blV] at hu
  | cons x l ih =>
    intro u hu
    rw [blV_cons] at hu
    simp only [List.mem_cons] at hu
    rcases hu with rfl | rfl | rfl | hu
    · rfl
    · rfl
    · rfl
    · exact ih u hu
/-- v is a row of l's own, from its block's head on. -/
def BlRow (w : World) (base : Nat) (v : Value) (l : List Bb) : Prop := w.ownsRow base 89 3 v l.length (blV l)
theorem BlRow.own {w : World} {base : Nat} {v : Value} {l : List Bb} (h : BlRow w base v l) : BlOwn w base v l := by
  obtain ⟨h1, ⟨rfl, h2⟩ | ⟨g, cap, cur, rfl, hb, hg, hc, hm, hs, ht⟩⟩ := h
  · exact ⟨none, 0, by rw [h2], by omega, by omega, fun h0 => by omega⟩
  · unfold maxLen at hm
    refine ⟨_, cap, rfl, hc, by omega, fun h0 => ⟨g, 0, cur, rfl, ⟨hb, by omega⟩, hg, fun j hj => ?_⟩⟩
    obtain ⟨a, b, c⟩ := blV_get l j hj
    rw [← ht] at a b c
    rw [List.getElem?_take, if_pos (by omega)] at a b c
    rw [Nat.zero_add]
    exact ⟨by simpa using a, by simpa using b, by simpa using c⟩
theorem BlRow.kept {w w' : World} {base : Nat} {v : Value} {l : List Bb} {row : Option Nat} (h : BlRow w base v l) (hg : w.grownBy w' row) (hne : ∀ k, row = some k → v.ownBlock ≠ some k) : BlRow w' base v l := by
  obtain ⟨h1, h2⟩ := h
  refine ⟨h1, h2.imp (fun h => h) fun ⟨g, cap, cur, e, hb', hg', r⟩ => ⟨g, cap, cur, e, hb', ?_, r⟩⟩
  subst e
  rw [hg.block g (Array.getElem?_eq_some_iff.1 hg').1 (fun e => hne g e.symm rfl)]
  exact hg'
theorem BlRow.later {w w' : World} {base : Nat} {v : Value} {l : List Bb} (h : BlRow w base v l) (hb : Below w.heap.size w w') : BlRow w' base v l := h.kept (grown_all hb none) (fun k hk => by cases hk)
theorem BlRow.alloc {w : World} {base : Nat} {v : Value} {l : List Bb} (h : BlRow w base v l) (o : Obj) : BlRow (w.alloc o) base v l := h.later ((Below.refl _ _).alloc (Nat.le_refl _) _)
theorem BlRow.drew {w : World} {base : Nat} {v : Value} {l : List Bb} (h : BlRow w base v l) : BlRow w.drew base v l := h.later (Below.refl _ _).drew
theorem BlRow.mono {w : World} {base base' : Nat} {v : Value} {l : List Bb} (h : BlRow w base v l) (hb : base' ≤ base) : BlRow w base' v l := by
  obtain ⟨h1, h2⟩ := h
  exact ⟨h1, h2.imp (fun h => h) fun ⟨g, cap, cur, e, hb', r⟩ => ⟨g, cap, cur, e, Nat.le_trans hb hb', r⟩⟩
theorem BlRow.lt {w : World} {base : Nat} {v : Value} {l : List Bb} (h : BlRow w base v l) (k : Nat) (hk : v.ownBlock = some k) : base ≤ k ∧ k < w.heap.size := by
  obtain ⟨h1, ⟨rfl, h2⟩ | ⟨g, cap, cur, rfl, hb, hg, hc, _⟩⟩ := h
  · cases hk
  · cases hk
    exact ⟨hb, (Array.getElem?_eq_some_iff.1 hg).1⟩
theorem BlRow.setO {w : World} {base q o : Nat} {v : Value} {l : List Bb} (h : BlRow w base v l) (hq : q < base) (y : Value) : BlRow (w.setCell ⟨q, o, none⟩ y) base v l := h.kept (grownBy_set w q o y) (fun k hk e => by cases hk; have := (h.lt _ e).1; omega)
theorem BlRow.st2 {w : World} {base q : Nat} {v : Value} {l : List Bb} (h : BlRow w base v l) (hq : q < base) (y0 y1 : Value) : BlRow (Go.Proofs.YtemhhjkmolndbaaDoor.st2 w q y0 y1) base v l := (h.setO hq y0).setO hq y1
theorem BlRow.form {w : World} {base : Nat} {v : Value} {l : List Bb} (h : BlRow w base v l) : ∃ a cap, v = .slice a l.length cap := by
  obtain ⟨h1, ⟨rfl, h2⟩ | ⟨g, cap, cur, rfl, _⟩⟩ := h
  · exact ⟨none, 0, by rw [h2]⟩
  · exact ⟨_, cap, rfl⟩
theorem below_of_row {w w' : World} {base : Nat} {v : Value} {l : List Bb} (h : BlRow w base v l) (hb : base ≤ w.heap.size) (hg : w.grownBy w' v.ownBlock) : Below base w w' :=
  (Below.refl _ _).grown hg hb (fun k hk => (h.lt k hk).1)
theorem blRow_nil (w : World) (base : Nat) : BlRow w base (.slice none 0 0) [] := ⟨by simp [blV], .inl ⟨rfl, rfl⟩⟩
theorem blRow_new (w : World) (base : Nat) (hb : base ≤ w.heap.size) : BlRow (w.alloc (.cells #[] 89)) base (.slice (some ⟨w.heap.size, 0, none⟩) 0 0) [] := World.ownsRow_made w #[] 0 hb (Nat.zero_le _) rfl
theorem bb_news {w : World} {b oo : Nat} {l2 : List Bb} (hX : ∀ j, j < l2.length → BbAt w b oo l2 j) (j : Nat) (u : Value) (hj : (blV l2)[j]? = some u) : w.cell? ((⟨b, oo, none⟩ : Addr).add j) = some u := by
  have hjl : j < l2.length * 3 := by rw [← blV_length]; exact (List.getElem?_eq_some_iff.1 hj).1
  rw [Go.WideShapes.add_plain]
  obtain ⟨p, q, r⟩ := blV_get l2 (j / 3) (by omega)
  obtain ⟨p', q', r'⟩ := hX (j / 3) (by omega)
  have h3 : j % 3 = 0 ∨ j % 3 = 1 ∨ j % 3 = 2 := by omega
  rcases h3 with h | h | h
  · have e : j = j / 3 * 3 := by omega
    rw [e, p] at hj
    rw [e, p']
    exact hj
  · have e : j = j / 3 * 3 + 1 := by omega
    rw [e, q] at hj
    rw [e, ← Nat.add_assoc, q']
    exact hj
  · have e : j = j / 3 * 3 + 2 := by omega
    rw [e, r] at hj
    rw [e, ← Nat.add_assoc, r']
    exact hj
/-- list = append(list, others...). -/
theorem wp_append_bl {w : World} {ops : Array Oper} {rest : List Oper} {o : Oper} {a : Act} {Q : Exit → Act → World → Prop} (hgd : o.guard = none) (s x : Operand)
    (ho : o.op = .call { callee := .builtin .append, args := #[s, x], argTypes := #[39, 39] }) (base : Nat) (v : Value) (l l2 : List Bb) (hs : a.eval s = v) (hown : BlRow w base v l)
    (b oo c : Nat) (hx : a.eval x = .slice (some ⟨b, oo, none⟩) l2.length c) (hX : ∀ j, j < l2.length → BbAt w b oo l2 j) (hlen : l.length + l2.length ≤ 1048577) (hbase : base ≤ w.heap.size)
    (hK : ∀ v' w', BlRow w' base v' (l ++ l2) → w.grownBy w' v.ownBlock → wpList Tryd.prog ops Q rest (a.put o.dst v') w') : wpList Tryd.prog ops Q (o :: rest) a w := by
  obtain ⟨i0, hi, hz0, hz1, hz2⟩ := info_parts Tryd.infoBlob
  refine wpList_append_own w hgd s x 39 ho base 89 i0 (.agg #[.string ⟨#[]⟩, .string ⟨#[]⟩, .bool false]) 3 40 Tryd.underlying39 hi hz0 hz1 hz2 rfl (by decide) v l.length (blV l) hs hown ⟨b, oo, none⟩ l2.length c (blV l2) hx (blV_length l2) (fun j u hj => bb_news hX j u hj) (blV_one l2) (by unfold maxLen; omega) (by omega) hbase ?_
  intro v' w' h1 h2 _
  refine hK v' w' ?_ h2
  unfold BlRow
  rw [List.length_append, blV_append]
  exact h1
theorem bb_one {w : World} {b : Nat} {x : Bb} (h : w.cell? ⟨b, 0, none⟩ = some (.string x.id) ∧ w.cell? ⟨b, 1, none⟩ = some (.string x.dat) ∧ w.cell? ⟨b, 2, none⟩ = some (.bool x.bad)) (j : Nat) (hj : j < [x].length) : BbAt w b 0 [x] j := by
  obtain rfl : j = 0 := by simpa using hj
  unfold BbAt
  rw [bI_of (x := x) rfl, bD_of (x := x) rfl, bX_of (x := x) rfl]
  simpa using h
/-- The same as a step of a region that draws its order. -/
theorem step_append_bl {w : World} {ops : Array Oper} {o : Oper} {a : Act} {K : Act → World → Prop} {Q : Exit → Act → World → Prop} {E : Prop} (hgd : o.guard = none) (s x : Operand)
    (ho : o.op = .call { callee := .builtin .append, args := #[s, x], argTypes := #[39, 39] }) (base : Nat) (v : Value) (l : List Bb) (t : Bb) (hs : a.eval s = v) (hown : BlRow w base v l)
    (h c : Nat) (hx : a.eval x = .slice (some ⟨h, 0, none⟩) 1 c) (hX : w.cell? ⟨h, 0, none⟩ = some (.string t.id) ∧ w.cell? ⟨h, 1, none⟩ = some (.string t.dat) ∧ w.cell? ⟨h, 2, none⟩ = some (.bool t.bad)) (hlen : l.length ≤ 1048576) (hbase : base ≤ w.heap.size)
    (hK : ∀ v' w', BlRow w' base v' (l ++ [t]) → w.grownBy w' v.ownBlock → K (a.put o.dst v') w') : if Region.wanted o (yielded ops a.tmps) = true then Oper.wp Tryd.prog o a w K Q else E := by
  have hw : Region.wanted o (yielded ops a.tmps) = true := by simp [Region.wanted, hgd]
  rw [if_pos hw]
  obtain ⟨i0, hi, hz0, hz1, hz2⟩ := info_parts Tryd.infoBlob
  refine wp_append_own w s x 39 ho base 89 i0 (.agg #[.string ⟨#[]⟩, .string ⟨#[]⟩, .bool false]) 3 40 Tryd.underlying39 hi hz0 hz1 hz2 rfl (by decide) v l.length (blV l) hs hown ⟨h, 0, none⟩ 1 c (blV [t]) hx (blV_length [t]) (fun j u hj => bb_news (fun j hj => bb_one hX j hj) j u hj) (blV_one [t]) (by unfold maxLen; omega) (by omega) hbase ?_
  intro v' w' h1 h2 _
  refine hK v' w' ?_ h2
  unfold BlRow
  rw [List.length_append, blV_append]
  exact h1
end Go.Proofs.YtemhhjkmolndbaaDoor
