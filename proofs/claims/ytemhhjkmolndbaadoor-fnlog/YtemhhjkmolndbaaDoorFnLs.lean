/- What the law FnLog does to its texts. -/
import Derived.Test.YtemhhjkmolndbaaDoorFnL
import Derived.Test.YtemhhjkmolndbaaDoorRdr
import Derived.Test.YtemhhjkmolndbaaDoorQTake
namespace Go.Proofs.YtemhhjkmolndbaaDoor
open Go.RowKit Go.PlainAid
set_option linter.unusedVariables false

theorem conv_first (w : World) (g cap : Nat) (b : Int) (h : w.cell? ⟨g, 0, none⟩ = some (.int .u8 b)) : (convert 22 9 (.slice (some ⟨g, 0, none⟩) 1 cap)).run Tryd.prog w = .ok (.string (strOfNums [b])) w :=
  run_convert_bytes_arg w 22 5 Tryd.underlying22 Tryd.underlying5 g 0 1 cap [b] rfl (fun i hi => by
    obtain rfl : i = 0 := by simpa using hi
    simpa using h) 9 Tryd.underlying9
theorem grows_first {w : World} {base : Nat} {v : Value} {l : List Int} (h : Grows w base v l) (h1 : 1 ≤ l.length) : ∃ g cap b, v = .slice (some ⟨g, 0, none⟩) l.length cap ∧ l.length ≤ cap ∧ cap ≤ 9223372036854775807 ∧ base ≤ g ∧ g < w.heap.size ∧ w.cell? ⟨g, 0, none⟩ = some (.int .u8 b) := by
  obtain ⟨h1', ⟨rfl, h2⟩ | ⟨g, cap, cur, rfl, hb, hg, hc, hm, hs, ht⟩⟩ := h
  · omega
  · unfold maxLen at hm
    have e : (u8s l)[0]? = some (.int .u8 (l.getD 0 0)) := by
      cases l with
      | nil => simp at h1
      | cons x r => simp [u8s]
    rw [← ht, List.getElem?_take, if_pos (by omega)] at e
    refine ⟨g, cap, l.getD 0 0, rfl, hc, by omega, hb, (Array.getElem?_eq_some_iff.1 hg).1, ?_⟩
    rw [cell_of_row w g 0 cur 5 (0, 0) hg]
    simpa using e
theorem wp_append_strs {w : World} {ops : Array Oper} {rest : List Oper} {o : Oper} {a : Act} {Q : Exit → Act → World → Prop} (hgd : o.guard = none) (s x : Operand)
    (ho : o.op = .call { callee := .builtin .append, args := #[s, x], argTypes := #[28, 28] }) (base : Nat) (v : Value) (l l2 : List ByteArray) (hs : a.eval s = v) (hown : GrowsS w base v l)
    (b oo n c : Nat) (hn : l2.length = n) (hx : a.eval x = .slice (some ⟨b, oo, none⟩) n c) (hX : ∀ j, j < l2.length → w.cell? ⟨b, oo + j, none⟩ = some (.string (el l2 j))) (hlen : l.length + l2.length ≤ 1048577) (hbase : base ≤ w.heap.size)
    (hK : ∀ v' w', GrowsS w' base v' (l ++ l2) → w.grownBy w' v.ownBlock → wpList Tryd.prog ops Q rest (a.put o.dst v') w') : wpList Tryd.prog ops Q (o :: rest) a w := by
  subst hn
  obtain ⟨i0, hi, hz0, hz1, hz2⟩ := info_parts Tryd.info9
  refine wpList_append_own w hgd s x 28 ho base 9 i0 (.string ByteArray.empty) 1 16 Tryd.underlying28 hi hz0 hz1 hz2 rfl (by decide) v l.length (strV l) hs hown ⟨b, oo, none⟩ l2.length c (strV l2) hx (by simp [strV]) ?_ (by intro u hu; simp only [strV, List.mem_map] at hu; obtain ⟨t, _, rfl⟩ := hu; rfl) (by unfold maxLen; omega) (by omega) hbase ?_
  · intro j u hj
    have hjl : j < l2.length := by have := (List.getElem?_eq_some_iff.1 hj).1; simpa [strV] using this
    rw [Go.WideShapes.add_plain, hX j hjl]
    have e : (strV l2)[j]? = some (.string (el l2 j)) := by
      rw [el_eq, strV, List.getElem?_map, List.getD, List.getElem?_eq_getElem hjl]
      rfl
    rw [e] at hj
    exact hj
  · intro v' w' h1 h2 _
    refine hK v' w' ?_ h2
    unfold GrowsS
    rw [List.length_append]
    simpa [strV] using h1
theorem growsS_new (w : World) (base : Nat) (hb : base ≤ w.heap.size) : GrowsS (w.alloc (.cells #[] 9)) base (.slice (some ⟨w.heap.size, 0, none⟩) 0 0) [] := World.ownsRow_made w #[] 0 hb (Nat.zero_le _) rfl
theorem GrowsS.has {w : World} {base : Nat} {v : Value} {l : List ByteArray} (h : GrowsS w base v l) (h0 : 0 < l.length) : ∃ g cap, v = .slice (some ⟨g, 0, none⟩) l.length cap ∧ base ≤ g ∧ g < w.heap.size := by
  obtain ⟨h1, ⟨rfl, h2⟩ | ⟨g, cap, cur, rfl, hb, hg, hc, _⟩⟩ := h
  · omega
  · exact ⟨g, cap, rfl, hb, (Array.getElem?_eq_some_iff.1 hg).1⟩
theorem GrowsS.lt {w : World} {base : Nat} {v : Value} {l : List ByteArray} (h : GrowsS w base v l) (k : Nat) (hk : v.ownBlock = some k) : base ≤ k ∧ k < w.heap.size := World.ownsRow.lt h k hk
theorem Code.drew {w : World} {v : Value} {xs : List Int} (h : Code w v xs) : Code w.drew v xs := h.below (Below.refl _ _).drew
theorem Strs.cellsAt {w : World} {b o n c : Nat} {l : List ByteArray} (h : Strs w (.slice (some ⟨b, o, none⟩) n c) l) (j : Nat) (hj : j < l.length) : w.cell? ⟨b, o + j, none⟩ = some (.string (el l j)) := by
  obtain ⟨_, _, a, cap, e, _, h3⟩ := h
  obtain ⟨b', o', rfl, _, hc⟩ := h3 (by omega)
  simp only [Value.slice.injEq, Option.some.injEq, Addr.mk.injEq] at e
  obtain ⟨⟨rfl, rfl, _⟩, _, _⟩ := e
  exact hc j hj
theorem at_three (xs : List Int) (w : World) (v : Value) (hC : Code w v xs) :
    Calls Tryd.prog 13 #[v, .int .i64 3] w fun e w' => (∃ x : Nat, e = .returned (.int .i64 x) ∧ x ≤ 255) ∧ w = w' := at_any xs 3 (by decide) w v hC
/-- want[:k]. -/
theorem Strs.take {w : World} {b o n cap : Nat} {l : List ByteArray} (h : Strs w (.slice (some ⟨b, o, none⟩) n cap) l) (k : Nat) (hk : k ≤ l.length) : Strs w (.slice (some ⟨b, o, none⟩) k cap) (l.take k) := by
  obtain ⟨h1, h2, a', cap', e, hc, h3⟩ := h
  simp only [Value.slice.injEq] at e
  obtain ⟨rfl, rfl, rfl⟩ := e
  have hl : (l.take k).length = k := by rw [List.length_take]; omega
  have he : ∀ j, j < k → el (l.take k) j = el l j := fun j hj => by
    rw [el_eq, el_eq, List.getD, List.getD, List.getElem?_take, if_pos hj]
  refine ⟨by omega, fun j hj => by rw [he j (by omega)]; exact h2 j (by omega), _, cap, by rw [hl], by omega, fun h0 => ?_⟩
  obtain ⟨b', o', ha, hb, hcl⟩ := h3 (by omega)
  refine ⟨b', o', ha, hb, fun j hj => ?_⟩
  rw [he j (by omega)]
  exact hcl j (by omega)
theorem sizes_snoc (l : List ByteArray) (s : ByteArray) (h : ∀ j, j < l.length → (el l j).size ≤ 9223372036854775807) (hs : s.size ≤ 9223372036854775807) : ∀ j, j < (l ++ [s]).length → (el (l ++ [s]) j).size ≤ 9223372036854775807 := by
  intro j hj
  rw [el_eq, List.getD, List.getElem?_append]
  split
  · have := h j (by assumption)
    rw [el_eq, List.getD] at this
    exact this
  · have e : j - l.length = 0 := by simp at hj; omega
    rw [e]
    exact hs
/-- fresh(code, i)[:1] and what is made of it. -/
theorem fresh_first (xs : List Int) (i : Nat) (hi : i ≤ 1000) (w : World) (v : Value) (hC : Code w v xs) :
    Calls Tryd.prog 15 #[v, .int .i64 i] w fun e w' => (∃ g cap n b, e = .returned (.slice (some ⟨g, 0, none⟩) n cap) ∧ 1 ≤ n ∧ 1 ≤ cap ∧ n ≤ cap ∧ cap ≤ 9223372036854775807 ∧
      (convert 22 9 (.slice (some ⟨g, 0, none⟩) 1 cap)).run Tryd.prog w' = .ok (.string (strOfNums [b])) w' ∧
      (∀ y, (convert 22 9 (.slice (some ⟨g, 0, none⟩) 1 cap)).run Tryd.prog (w'.alloc (.cells #[.int .u8 y] 5)) = .ok (.string (strOfNums [b])) (w'.alloc (.cells #[.int .u8 y] 5))) ∧
      (∀ y W, (Op.stringOp .add (strOfNums [b]) (strOfNums [y])).run Tryd.prog W = .ok (.string (strOfNums [b] ++ strOfNums [y])) W)) ∧ Below w.heap.size w w' := by
  refine (fresh_any xs i hi w v hC).mono ?_
  rintro e w2 ⟨⟨u, rfl, lf, hgr, hl1, hl2⟩, hb2⟩
  obtain ⟨g, cap, b, rfl, hcc, hcm, hgb, hgs, hcl⟩ := grows_first hgr hl1
  refine ⟨⟨g, cap, lf.length, b, rfl, hl1, by omega, hcc, hcm, conv_first w2 g cap b hcl, fun y => conv_first _ g cap b (by rw [World.cell?_alloc_lt _ _ ⟨g, 0, none⟩ hgs]; exact hcl), fun y W => run_string_add_sum W _ _ (by rw [strOfNums_size, strOfNums_size]; simp)⟩, hb2⟩
end Go.Proofs.YtemhhjkmolndbaaDoor
