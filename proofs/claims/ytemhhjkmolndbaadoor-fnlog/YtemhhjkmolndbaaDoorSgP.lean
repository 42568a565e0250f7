/- One segment more, appended to a slice of segments wherever in its block it starts. -/
import Derived.Test.YtemhhjkmolndbaaDoorSgG
import Derived.Test.YtemhhjkmolndbaaDoorRdL
import Derived.ArgAppend
namespace Go.Proofs.YtemhhjkmolndbaaDoor
open Go.RowKit Go.PlainAid
set_option linter.unusedVariables false

theorem SegOwn.push_room {w : World} {base gb o cap : Nat} {l : List Sg} (h : SegOwn w base (.slice (some ⟨gb, o, none⟩) l.length cap) l) (hr : l.length + 1 ≤ cap) (hl : 0 < l.length) (hm : l.length ≤ 1000) (x : Sg) :
    SegOwn (w.setCells gb (o + l.length * 2) [.int .i64 x.fst, .string x.txt]) base (.slice (some ⟨gb, o, none⟩) (l.length + 1) cap) (l ++ [x]) := by
  obtain ⟨a, c, e, h1, h2, h3⟩ := h
  obtain ⟨g', o', cur, rfl, r2, r3, r4⟩ := h3 hl
  simp only [Value.slice.injEq, Option.some.injEq, Addr.mk.injEq] at e
  obtain ⟨⟨rfl, rfl, _⟩, _, rfl⟩ := e
  have hlen : (l ++ [x]).length = l.length + 1 := by simp
  have e1 := heap_setCell_same w gb (o + l.length * 2) cur _ (.int .i64 x.fst) r3
  have e2 := heap_setCell_same _ gb (o + l.length * 2 + 1) _ _ (.string x.txt) e1
  refine ⟨_, cap, by rw [hlen], by rw [hlen]; exact hr, by rw [hlen]; omega, fun _ => ⟨gb, o, _, rfl, ⟨r2.1, by simpa using r2.2⟩, e2, fun j hj => ?_⟩⟩
  rw [hlen] at hj
  have hf := r2.2
  simp only [Array.getElem?_setIfInBounds, Array.size_setIfInBounds]
  by_cases hj2 : j < l.length
  · rw [sF_left l _ j hj2, sT_left l _ j hj2, if_neg (by omega), if_neg (by omega), if_neg (by omega), if_neg (by omega)]
    exact r4 j hj2
  · have : j = l.length := by omega
    subst this
    rw [sF_snoc, sT_snoc, if_neg (by omega), if_pos rfl, if_pos (by omega), if_pos rfl, if_pos (by omega)]
    exact ⟨rfl, rfl⟩
theorem SegOwn.olds {w : World} {base gb o cap : Nat} {l : List Sg} (h : SegOwn w base (.slice (some ⟨gb, o, none⟩) l.length cap) l) (hl : 0 < l.length) (j : Nat) (u : Value) (hj : (segV l)[j]? = some u) : w.cell? ⟨gb, o + j, none⟩ = some u := by
  obtain ⟨g', o', e1, _, _, _, hX⟩ := h.cells hl
  simp only [Option.some.injEq, Addr.mk.injEq] at e1
  obtain ⟨rfl, rfl, _⟩ := e1
  have hjl : j < l.length * 2 := by rw [← segV_length]; exact (List.getElem?_eq_some_iff.1 hj).1
  obtain ⟨p, q⟩ := segV_get l (j / 2) (by omega)
  obtain ⟨p', q', _, _⟩ := hX (j / 2) (by omega)
  rcases Nat.mod_two_eq_zero_or_one j with h | h
  · have e : j = j / 2 * 2 := by omega
    rw [e] at hj
    rw [p] at hj
    rw [e, p']
    exact hj
  · have e : j = j / 2 * 2 + 1 := by omega
    rw [e] at hj
    rw [q] at hj
    rw [e, ← Nat.add_assoc, q']
    exact hj
theorem SegOwn.spare {w : World} {base gb o cap : Nat} {l : List Sg} (h : SegOwn w base (.slice (some ⟨gb, o, none⟩) l.length cap) l) (hl : 0 < l.length) (hr : l.length + 1 ≤ cap) (j : Nat) (hj : j < 2) : (w.cell? ⟨gb, o + l.length * 2 + j, none⟩).isSome = true ∧ w.frozen? ⟨gb, o + l.length * 2 + j, none⟩ = false := by
  obtain ⟨a, c, e, h1, h2, h3⟩ := h
  obtain ⟨g', o', cur, rfl, r2, r3, r4⟩ := h3 hl
  simp only [Value.slice.injEq, Option.some.injEq, Addr.mk.injEq] at e
  obtain ⟨⟨rfl, rfl, _⟩, _, rfl⟩ := e
  have hf := r2.2
  rw [cell_of_row w gb _ cur _ (0, 0) r3, Array.getElem?_eq_getElem (by omega)]
  exact ⟨rfl, frozen_of_row w gb _ _ _ r3⟩
theorem wp_append_seg {w : World} {ops : Array Oper} {rest : List Oper} {o : Oper} {a : Act} {Q : Exit → Act → World → Prop} (hgd : o.guard = none) (s x : Operand)
    (ho : o.op = .call { callee := .builtin .append, args := #[s, x], argTypes := #[24, 24] }) (base gb oo k cap : Nat) (l : List Sg) (hk : k = l.length) (hs : a.eval s = .slice (some ⟨gb, oo, none⟩) k cap) (hown : SegOwn w base (.slice (some ⟨gb, oo, none⟩) k cap) l) (hl : 0 < l.length) (hm : l.length ≤ 1000)
    (z : Sg) (b c : Nat) (hx : a.eval x = .slice (some ⟨b, 0, none⟩) 1 c) (hX : w.cell? ⟨b, 0, none⟩ = some (.int .i64 z.fst) ∧ w.cell? ⟨b, 1, none⟩ = some (.string z.txt)) (hbase : base ≤ w.heap.size)
    (hK : ∀ a' k' c' w', SegOwn w' base (.slice a' k' c') (l ++ [z]) → w.grownBy w' (some gb) → (∀ q, Value.ownBlock (.slice a' k' c') = some q → q = gb ∨ w.heap.size ≤ q) → wpList Tryd.prog ops Q rest (a.put o.dst (.slice a' k' c')) w') : wpList Tryd.prog ops Q (o :: rest) a w := by
  subst hk
  obtain ⟨i0, hi, hz0, hz1, hz2⟩ := info_parts Tryd.infoSeg
  refine wpList_append_arg w hgd s x 24 ho 63 i0 (.agg #[.int .i64 0, .string ⟨#[]⟩]) 2 24 Tryd.underlying24 hi hz0 hz1 hz2 rfl (by decide) gb oo l.length cap (segV l) hs (segV_length l) (fun j u hj => hown.olds hl j u hj) ⟨b, 0, none⟩ 1 c [.int .i64 z.fst, .string z.txt] hx rfl ?_ ?_ (fun hr j hj => hown.spare hl hr j hj) (by unfold maxLen; omega) (by omega) (fun hr => ?_) (fun hg v' w' h1 h2 => ?_)
  · intro j u hj
    rw [plain_add]
    match j, hj with
    | 0, hj => simp at hj; subst hj; exact hX.1
    | 1, hj => simp at hj; subst hj; exact hX.2
    | j + 2, hj => simp at hj
  · intro u hu
    simp at hu
    rcases hu with rfl | rfl <;> rfl
  · refine hK _ _ _ _ (hown.push_room hr hl hm z) ((grownBy_set w gb _ _).trans (grownBy_set _ gb _ _)) (fun q hq => ?_)
    simp only [Value.ownBlock, Option.some.injEq] at hq
    exact .inl hq.symm
  · have hR : SegRow w' w.heap.size v' (l ++ [z]) := by
      unfold SegRow
      rw [segV_append]
      simpa [segV] using h1
    obtain ⟨g, cap', rfl, q1, q2, q3⟩ := hR.form (by simp)
    refine hK _ _ _ _ (hR.mono hbase).own ⟨h2.os, h2.tape, h2.output, h2.size, fun j hj _ => h2.block j hj (by simp)⟩ (fun q hq => ?_)
    simp only [Value.ownBlock, Option.some.injEq] at hq
    subst hq
    exact .inr q1
end Go.Proofs.YtemhhjkmolndbaaDoor
