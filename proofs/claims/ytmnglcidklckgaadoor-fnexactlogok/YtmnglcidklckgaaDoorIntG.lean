/- Slices of ints that a call makes itself and that grow by append. -/
import Derived.Test.YtmnglcidklckgaaDoorBytes
namespace Go.Proofs.YtmnglcidklckgaaDoor
open Go.RowKit Go.PlainAid
set_option linter.unusedVariables false

def i64s (l : List Int) : List Value := l.map (Value.int .i64)
theorem i64s_one (l : List Int) : ∀ v ∈ i64s l, v.oneCell' = true := by
  intro v hv
  unfold i64s at hv
  obtain ⟨x, _, rfl⟩ := List.mem_map.1 hv
  rfl
theorem Tryd.info3 : (Tryd.prog.info? 3).map (fun i => (i.zero, i.size, i.bytes)) = some (some (.int .i64 0), 1, 8) := by kernel_rfl
/-- An int slice that grows by append. -/
def GrowsI (w : World) (base : Nat) (v : Value) (l : List Int) : Prop := w.ownsRow base 3 1 v l.length (i64s l)
theorem GrowsI.alloc {w : World} {base : Nat} {v : Value} {l : List Int} (h : GrowsI w base v l) (o : Obj) : GrowsI (w.alloc o) base v l := World.ownsRow.alloc h o
theorem GrowsI.drew {w : World} {base : Nat} {v : Value} {l : List Int} (h : GrowsI w base v l) : GrowsI w.drew base v l := h
theorem growsI_empty (w : World) : GrowsI (w.alloc (.cells #[] 3)) w.heap.size (.slice (some ⟨w.heap.size, 0, none⟩) 0 0) [] :=
  World.ownsRow_made w #[] 0 (Nat.le_refl _) (by decide) rfl
def SrcI (w : World) (h : Nat) (X : List Int) : Prop := ∀ (j : Nat) v, (i64s X)[j]? = some v → w.cell? ⟨h, j, none⟩ = some v
theorem wp_append_ints {w : World} {ops : Array Oper} {rest : List Oper} {o : Oper} {a : Act} {Q : Exit → Act → World → Prop} (hgd : o.guard = none) (s x : Operand)
    (ho : o.op = .call { callee := .builtin .append, args := #[s, x], argTypes := #[119, 119] }) (base : Nat) (v : Value) (l X : List Int) (hs : a.eval s = v) (hown : GrowsI w base v l)
    (h m c : Nat) (hx : a.eval x = .slice (some ⟨h, 0, none⟩) m c) (hm : X.length = m) (hX : SrcI w h X) (hlen : l.length + m ≤ 1099511627776) (hbase : base ≤ w.heap.size)
    (hK : ∀ v' w', GrowsI w' base v' (l ++ X) → Below base w w' → wpList Tryd.prog ops Q rest (a.put o.dst v') w') : wpList Tryd.prog ops Q (o :: rest) a w := by
  obtain ⟨i0, hi, hz0, hz1, hz2⟩ := info_parts Tryd.info3
  subst hm
  refine wpList_append_own w hgd s x 119 ho base 3 i0 (.int .i64 0) 1 8 Tryd.underlying119 hi hz0 hz1 hz2 rfl (by decide) v l.length (i64s l) hs hown ⟨h, 0, none⟩ X.length c (i64s X) hx (by simp [i64s]) ?_ (i64s_one X) (by unfold maxLen; omega) (by omega) hbase ?_
  · intro j u hj
    rw [plain_add, Nat.zero_add]
    exact hX j u hj
  · intro v' w' h1 h2 _
    refine hK v' w' ?_ ?_
    · unfold GrowsI
      rw [List.length_append]
      simpa [i64s] using h1
    · refine (Below.refl _ _).grown h2 hbase ?_
      intro k hk
      exact (hown.lt k hk).1
theorem step_append_ints {w : World} {ops : Array Oper} {o : Oper} {a : Act} {K : Act → World → Prop} {Q : Exit → Act → World → Prop} {E : Prop} (hgd : o.guard = none) (s x : Operand)
    (ho : o.op = .call { callee := .builtin .append, args := #[s, x], argTypes := #[119, 119] }) (base : Nat) (v : Value) (l X : List Int) (hs : a.eval s = v) (hown : GrowsI w base v l)
    (h m c : Nat) (hx : a.eval x = .slice (some ⟨h, 0, none⟩) m c) (hm : X.length = m) (hX : SrcI w h X) (hlen : l.length + m ≤ 1099511627776) (hbase : base ≤ w.heap.size)
    (hK : ∀ v' w', GrowsI w' base v' (l ++ X) → Below base w w' → K (a.put o.dst v') w') : if Region.wanted o (yielded ops a.tmps) = true then Oper.wp Tryd.prog o a w K Q else E := by
  have hw : Region.wanted o (yielded ops a.tmps) = true := by simp [Region.wanted, hgd]
  rw [if_pos hw]
  obtain ⟨i0, hi, hz0, hz1, hz2⟩ := info_parts Tryd.info3
  subst hm
  refine wp_append_own w s x 119 ho base 3 i0 (.int .i64 0) 1 8 Tryd.underlying119 hi hz0 hz1 hz2 rfl (by decide) v l.length (i64s l) hs hown ⟨h, 0, none⟩ X.length c (i64s X) hx (by simp [i64s]) ?_ (i64s_one X) (by unfold maxLen; omega) (by omega) hbase ?_
  · intro j u hj
    rw [plain_add, Nat.zero_add]
    exact hX j u hj
  · intro v' w' h1 h2 _
    refine hK v' w' ?_ ?_
    · unfold GrowsI
      rw [List.length_append]
      simpa [i64s] using h1
    · refine (Below.refl _ _).grown h2 hbase ?_
      intro k hk
      exact (hown.lt k hk).1
theorem srcI_one (w : World) (b : Int) : SrcI (w.alloc (.cells #[.int .i64 b] 3)) w.heap.size [b] := by
  intro j v hj
  match j, hj with
  | 0, hj => simp [i64s] at hj; subst hj; simp
  | j + 1, hj => simp [i64s] at hj
theorem SrcI.drew {w : World} {g : Nat} {X : List Int} (h : SrcI w g X) : SrcI w.drew g X := h

theorem GrowsI.later {w w' : World} {base : Nat} {v : Value} {l : List Int} (h : GrowsI w base v l) (hb : Below w.heap.size w w') : GrowsI w' base v l := by
  refine World.ownsRow.kept (row := none) h ⟨hb.os, hb.tape, hb.output, hb.size, fun k hk _ => hb.block k hk⟩ ?_
  cases v.ownBlock with
  | none => exact .inl rfl
  | some k => exact .inr (by simp)
theorem GrowsI.cell {w : World} {base : Nat} {v : Value} {l : List Int} (h : GrowsI w base v l) (h0 : 0 < l.length) : ∃ g cap, v = .slice (some ⟨g, 0, none⟩) l.length cap ∧ g < w.heap.size ∧ ∀ j x, l[j]? = some x → w.cell? ⟨g, j, none⟩ = some (.int .i64 x) := by
  rcases h.2 with ⟨rfl, h1⟩ | ⟨g, cap, cur, rfl, _, hh, _⟩
  · omega
  · refine ⟨g, cap, rfl, (Array.getElem?_eq_some_iff.1 hh).1, fun j x hx => ?_⟩
    have hj : j < l.length := (List.getElem?_eq_some_iff.1 hx).1
    rw [World.ownsRow.cellAt h j (by omega)]
    simp only [i64s, List.getElem?_map, hx]
    rfl
theorem GrowsI.form {w : World} {base : Nat} {v : Value} {l : List Int} (h : GrowsI w base v l) : ∃ a n cap, v = .slice a n cap := by
  rcases h.2 with ⟨rfl, _⟩ | ⟨g, cap, cur, rfl, _⟩
  · exact ⟨_, _, _, rfl⟩
  · exact ⟨_, _, _, rfl⟩
end Go.Proofs.YtmnglcidklckgaaDoor
