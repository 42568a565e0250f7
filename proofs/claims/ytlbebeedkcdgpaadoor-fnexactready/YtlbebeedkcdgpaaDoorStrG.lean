/- A slice of strings that a call makes itself and that grows by append. -/
import Derived.Test.YtlbebeedkcdgpaaDoorStrs
import Derived.Deep.Onto
import Derived.Maps.AppendAt
import Derived.Deep.RegionLaw
namespace Go.Proofs.YtlbebeedkcdgpaaDoor
open Go.RowKit Go.PlainAid
set_option linter.unusedVariables false

def strV (l : List ByteArray) : List Value := l.map Value.string
theorem strV_one (l : List ByteArray) : ∀ v ∈ strV l, v.oneCell' = true := by
  intro v hv
  unfold strV at hv
  obtain ⟨x, _, rfl⟩ := List.mem_map.1 hv
  rfl
theorem strV_get (l : List ByteArray) (j : Nat) (h : j < l.length) : (strV l)[j]? = some (.string (el l j)) := by
  unfold strV
  rw [List.getElem?_map, el_get l j h]
  rfl
/-- The slice v, made by the call itself behind base, holds l. -/
def GrowsS (w : World) (base : Nat) (v : Value) (l : List ByteArray) : Prop := w.ownsRow base 9 1 v l.length (strV l)
theorem growsS_nil (w : World) (base : Nat) : GrowsS w base (.slice none 0 0) [] := World.ownsRow_nil w base 9 1
theorem GrowsS.alloc {w : World} {base : Nat} {v : Value} {l : List ByteArray} (h : GrowsS w base v l) (o : Obj) : GrowsS (w.alloc o) base v l := World.ownsRow.alloc h o
theorem GrowsS.drew {w : World} {base : Nat} {v : Value} {l : List ByteArray} (h : GrowsS w base v l) : GrowsS w.drew base v l := h
theorem GrowsS.mono {w : World} {base base' : Nat} {v : Value} {l : List ByteArray} (h : GrowsS w base v l) (hb : base' ≤ base) : GrowsS w base' v l := World.ownsRow.mono h hb
theorem GrowsS.kept {w w' : World} {base g : Nat} {v : Value} {l : List ByteArray} (h : GrowsS w base v l) (hg : w.grownBy w' (some g)) (hne : g < base) : GrowsS w' base v l := by
  refine World.ownsRow.kept h hg ?_
  right
  intro e
  have := (World.ownsRow.lt h g e).1
  omega
theorem grown_of_below {w w' : World} (hb : Below w.heap.size w w') (row : Option Nat) : w.grownBy w' row := ⟨hb.os, hb.tape, hb.output, hb.size, fun k hk _ => hb.block k hk⟩
theorem GrowsS.later {w w' : World} {base : Nat} {v : Value} {l : List ByteArray} (h : GrowsS w base v l) (hb : Below w.heap.size w w') : GrowsS w' base v l := by
  refine World.ownsRow.kept h (grown_of_below hb none) ?_
  cases v.ownBlock with
  | none => exact .inl rfl
  | some k => exact .inr (by simp)
theorem GrowsS.form {w : World} {base : Nat} {v : Value} {l : List ByteArray} (h : GrowsS w base v l) : ∃ a n cap, v = .slice a n cap := by
  rcases h.2 with ⟨rfl, _⟩ | ⟨g, cap, cur, rfl, _⟩
  · exact ⟨_, _, _, rfl⟩
  · exact ⟨_, _, _, rfl⟩
theorem GrowsS.strs {w : World} {base : Nat} {v : Value} {l : List ByteArray} (h : GrowsS w base v l) (hs : ∀ j, j < l.length → (el l j).size ≤ 9223372036854775807) : Strs w v l := by
  rcases h.2 with ⟨rfl, h0⟩ | ⟨g, cap, cur, rfl, hb, hheap, hn, hm, hc, ht⟩
  · have : l = [] := List.eq_nil_of_length_eq_zero h0
    subst this
    exact strs_nil _ _ _
  · unfold maxLen at hm
    refine ⟨by omega, hs, _, _, rfl, hn, fun h0 => ⟨g, 0, rfl, (Array.getElem?_eq_some_iff.1 hheap).1, fun j hj => ?_⟩⟩
    rw [Nat.zero_add, World.ownsRow.cellAt h j (by omega), strV_get l j hj]
theorem below_of_grown {w w' : World} {base : Nat} {v : Value} {l : List ByteArray} (h : GrowsS w base v l) (hb : base ≤ w.heap.size) (hg : w.grownBy w' v.ownBlock) : Below base w w' :=
  (Below.refl _ _).grown hg hb (fun k hk => (World.ownsRow.lt h k hk).1)
/-- ids = append(ids, x). -/
theorem wp_append_str {w : World} {ops : Array Oper} {rest : List Oper} {o : Oper} {a : Act} {Q : Exit → Act → World → Prop} (hgd : o.guard = none) (s x : Operand)
    (ho : o.op = .call { callee := .builtin .append, args := #[s, x], argTypes := #[39, 39] }) (base : Nat) (v : Value) (l : List ByteArray) (t : ByteArray) (hs : a.eval s = v) (hown : GrowsS w base v l)
    (h c : Nat) (hx : a.eval x = .slice (some ⟨h, 0, none⟩) 1 c) (hX : w.cell? ⟨h, 0, none⟩ = some (.string t)) (hlen : l.length ≤ 1048576) (hbase : base ≤ w.heap.size)
    (hK : ∀ v' w', GrowsS w' base v' (l ++ [t]) → w.grownBy w' v.ownBlock → wpList Tryd.prog ops Q rest (a.put o.dst v') w') : wpList Tryd.prog ops Q (o :: rest) a w := by
  obtain ⟨i0, hi, hz0, hz1, hz2⟩ := info_parts Tryd.info9
  refine wpList_append_own w hgd s x 39 ho base 9 i0 (.string ByteArray.empty) 1 16 Tryd.underlying39 hi hz0 hz1 hz2 rfl (by decide) v l.length (strV l) hs hown ⟨h, 0, none⟩ 1 c [.string t] hx (by simp) ?_ (by intro u hu; simp at hu; subst hu; rfl) (by unfold maxLen; omega) (by omega) hbase ?_
  · intro j u hj
    match j, hj with
    | 0, hj => simp at hj; subst hj; simpa [Addr.add] using hX
    | j + 1, hj => simp at hj
  · intro v' w' h1 h2 _
    refine hK v' w' ?_ h2
    unfold GrowsS
    rw [List.length_append]
    simpa [strV] using h1
theorem step_append_str {w : World} {ops : Array Oper} {o : Oper} {a : Act} {K : Act → World → Prop} {Q : Exit → Act → World → Prop} {E : Prop} (hgd : o.guard = none) (s x : Operand)
    (ho : o.op = .call { callee := .builtin .append, args := #[s, x], argTypes := #[39, 39] }) (base : Nat) (v : Value) (l : List ByteArray) (t : ByteArray) (hs : a.eval s = v) (hown : GrowsS w base v l)
    (h c : Nat) (hx : a.eval x = .slice (some ⟨h, 0, none⟩) 1 c) (hX : w.cell? ⟨h, 0, none⟩ = some (.string t)) (hlen : l.length ≤ 1048576) (hbase : base ≤ w.heap.size)
    (hK : ∀ v' w', GrowsS w' base v' (l ++ [t]) → w.grownBy w' v.ownBlock → K (a.put o.dst v') w') : if Region.wanted o (yielded ops a.tmps) = true then Oper.wp Tryd.prog o a w K Q else E := by
  have hw : Region.wanted o (yielded ops a.tmps) = true := by simp [Region.wanted, hgd]
  rw [if_pos hw]
  obtain ⟨i0, hi, hz0, hz1, hz2⟩ := info_parts Tryd.info9
  refine wp_append_own w s x 39 ho base 9 i0 (.string ByteArray.empty) 1 16 Tryd.underlying39 hi hz0 hz1 hz2 rfl (by decide) v l.length (strV l) hs hown ⟨h, 0, none⟩ 1 c [.string t] hx (by simp) ?_ (by intro u hu; simp at hu; subst hu; rfl) (by unfold maxLen; omega) (by omega) hbase ?_
  · intro j u hj
    match j, hj with
    | 0, hj => simp at hj; subst hj; simpa [Addr.add] using hX
    | j + 1, hj => simp at hj
  · intro v' w' h1 h2 _
    refine hK v' w' ?_ h2
    unfold GrowsS
    rw [List.length_append]
    simpa [strV] using h1
end Go.Proofs.YtlbebeedkcdgpaaDoor
