/- Slices of ints that a call makes itself, and the model's table of keys. -/
import Derived.Test.YtemhhjkmolndbaaDoorShaW
import Derived.Test.YtemhhjkmolndbaaDoorShaT
namespace Go.Proofs.YtemhhjkmolndbaaDoor
open Go.RowKit Go.PlainAid
set_option linter.unusedVariables false

theorem not64 (a : Nat) (ha : a < 18446744073709551616) : 18446744073709551615 ^^^ a = 18446744073709551615 - a := by
  apply Nat.eq_of_testBit_eq
  intro i
  have h1 := Nat.testBit_two_pow_sub_succ (n := 64) (x := a) (by omega) i
  rw [show 2 ^ 64 - (a + 1) = 18446744073709551615 - a by omega] at h1
  rw [h1, Nat.testBit_xor, show (18446744073709551615 : Nat) = 2 ^ 64 - 1 by decide, Nat.testBit_two_pow_sub_one]
  by_cases hi : i < 64
  · simp [hi]
  · have : a.testBit i = false := Nat.testBit_lt_two_pow (Nat.lt_of_lt_of_le (show a < 2 ^ 64 by omega) (Nat.pow_le_pow_right (by decide) (by omega)))
    simp [hi, this]
theorem i64_compl (a : Nat) (ha : a < 4294967296) : bits .xor .i64 (if IntKind.i64.signed = true then -1 else 9223372036854775807) (a : Int) = -(a : Int) - 1 := by
  show IntKind.i64.wrap ((BitVec.ofInt 64 (-1 : Int) ^^^ BitVec.ofInt 64 (a : Int)).toNat : Int) = _
  have e1 : (BitVec.ofInt 64 (-1 : Int)).toNat = 18446744073709551615 := by decide
  rw [BitVec.toNat_xor, e1, ofInt_u64 a (by omega), not64 a (by omega)]
  simp [IntKind.wrap, IntKind.bits, IntKind.signed]
  omega
theorem not_z (x : Nat) (w : World) (hx : x < 4294967296) :
    Calls Tryd.prog 123 #[.int .i64 (bits .xor .i64 (if IntKind.i64.signed = true then -1 else 9223372036854775807) (x : Int))] w fun e w' => e = .returned (.int .i64 (4294967295 - x : Nat)) ∧ w' = w := by
  rw [i64_compl x hx]
  exact not_q x w hx
def i64s (l : List Int) : List Value := l.map (Value.int .i64)
theorem i64s_one (l : List Int) : ∀ v ∈ i64s l, v.oneCell' = true := by
  intro v hv
  unfold i64s at hv
  obtain ⟨x, _, rfl⟩ := List.mem_map.1 hv
  rfl
theorem Tryd.info3 : (Tryd.prog.info? 3).map (fun i => (i.zero, i.size, i.bytes)) = some (some (.int .i64 0), 1, 8) := by kernel_rfl
/-- make([]int, n). -/
theorem make_ints (w : World) (n : Nat) (hn : n ≤ 1000) :
    ∃ w1, (Instr.makeSlice 117 (.int .i64 (n : Int)) (.int .i64 (n : Int))).run Tryd.prog w = .ok (.slice (some ⟨w.heap.size, 0, none⟩) n n) w1 ∧ Row w1 w.heap.size .i64 3 n (fun _ => 0) ∧ Below w.heap.size w w1 := by
  have h := run_make_row' (P := Tryd.prog) 117 3 (.int .i64 0) 8 Tryd.underlying117 Tryd.info3 rfl .i64 .i64 n (by omega) (by omega) w
  refine ⟨_, h, Row.made w .i64 3 n (fun _ => 0) _ ?_ _ rfl, (Below.refl _ _).alloc (Nat.le_refl _) _⟩
  apply Array.ext_getElem?
  intro i
  by_cases hi : i < n
  · rw [rowC_get _ _ _ _ hi]
    simp [madeCells, hi, Nat.mod_one]
  · rw [Array.getElem?_eq_none (by simp [madeCells]; omega), Array.getElem?_eq_none (by rw [rowC_size]; omega)]

/-- An int slice that grows by append. -/
def GrowsI (w : World) (base : Nat) (v : Value) (l : List Int) : Prop := w.ownsRow base 3 1 v l.length (i64s l)
theorem GrowsI.alloc {w : World} {base : Nat} {v : Value} {l : List Int} (h : GrowsI w base v l) (o : Obj) : GrowsI (w.alloc o) base v l := World.ownsRow.alloc h o
theorem GrowsI.drew {w : World} {base : Nat} {v : Value} {l : List Int} (h : GrowsI w base v l) : GrowsI w.drew base v l := h
theorem growsI_empty (w : World) : GrowsI (w.alloc (.cells #[] 3)) w.heap.size (.slice (some ⟨w.heap.size, 0, none⟩) 0 0) [] :=
  World.ownsRow_made w #[] 0 (Nat.le_refl _) (by decide) rfl
def SrcI (w : World) (h : Nat) (X : List Int) : Prop := ∀ (j : Nat) v, (i64s X)[j]? = some v → w.cell? ⟨h, j, none⟩ = some v
theorem wp_append_ints {w : World} {ops : Array Oper} {rest : List Oper} {o : Oper} {a : Act} {Q : Exit → Act → World → Prop} (hgd : o.guard = none) (s x : Operand)
    (ho : o.op = .call { callee := .builtin .append, args := #[s, x], argTypes := #[117, 117] }) (base : Nat) (v : Value) (l X : List Int) (hs : a.eval s = v) (hown : GrowsI w base v l)
    (h m c : Nat) (hx : a.eval x = .slice (some ⟨h, 0, none⟩) m c) (hm : X.length = m) (hX : SrcI w h X) (hlen : l.length + m ≤ 1099511627776) (hbase : base ≤ w.heap.size)
    (hK : ∀ v' w', GrowsI w' base v' (l ++ X) → Below base w w' → wpList Tryd.prog ops Q rest (a.put o.dst v') w') : wpList Tryd.prog ops Q (o :: rest) a w := by
  obtain ⟨i0, hi, hz0, hz1, hz2⟩ := info_parts Tryd.info3
  subst hm
  refine wpList_append_own w hgd s x 117 ho base 3 i0 (.int .i64 0) 1 8 Tryd.underlying117 hi hz0 hz1 hz2 rfl (by decide) v l.length (i64s l) hs hown ⟨h, 0, none⟩ X.length c (i64s X) hx (by simp [i64s]) ?_ (i64s_one X) (by unfold maxLen; omega) (by omega) hbase ?_
  · intro j u hj
    rw [plain_add, Nat.zero_add]
    exact hX j u hj
  · intro v' w' h1 h2 _
    refine hK v' w' ?_ ?_
    · unfold GrowsI
      rw [List.length_append]
      simpa [i64s] using h1
    · refine (Below.refl _ _).grown h2 hbase ?_
      intro k hk
      exact (hown.lt k hk).1
theorem step_append_ints {w : World} {ops : Array Oper} {o : Oper} {a : Act} {K : Act → World → Prop} {Q : Exit → Act → World → Prop} {E : Prop} (hgd : o.guard = none) (s x : Operand)
    (ho : o.op = .call { callee := .builtin .append, args := #[s, x], argTypes := #[117, 117] }) (base : Nat) (v : Value) (l X : List Int) (hs : a.eval s = v) (hown : GrowsI w base v l)
    (h m c : Nat) (hx : a.eval x = .slice (some ⟨h, 0, none⟩) m c) (hm : X.length = m) (hX : SrcI w h X) (hlen : l.length + m ≤ 1099511627776) (hbase : base ≤ w.heap.size)
    (hK : ∀ v' w', GrowsI w' base v' (l ++ X) → Below base w w' → K (a.put o.dst v') w') : if Region.wanted o (yielded ops a.tmps) = true then Oper.wp Tryd.prog o a w K Q else E := by
  have hw : Region.wanted o (yielded ops a.tmps) = true := by simp [Region.wanted, hgd]
  rw [if_pos hw]
  obtain ⟨i0, hi, hz0, hz1, hz2⟩ := info_parts Tryd.info3
  subst hm
  refine wp_append_own w s x 117 ho base 3 i0 (.int .i64 0) 1 8 Tryd.underlying117 hi hz0 hz1 hz2 rfl (by decide) v l.length (i64s l) hs hown ⟨h, 0, none⟩ X.length c (i64s X) hx (by simp [i64s]) ?_ (i64s_one X) (by unfold maxLen; omega) (by omega) hbase ?_
  · intro j u hj
    rw [plain_add, Nat.zero_add]
    exact hX j u hj
  · intro v' w' h1 h2 _
    refine hK v' w' ?_ ?_
    · unfold GrowsI
      rw [List.length_append]
      simpa [i64s] using h1
    · refine (Below.refl _ _).grown h2 hbase ?_
      intro k hk
      exact (hown.lt k hk).1
/-- The first n cells of block g are the ints f. -/
def IntsAt (w : World) (g n : Nat) (f : Nat → Nat) : Prop := ∀ j, j < n → w.cell? ⟨g, j, none⟩ = some (.int .i64 (f j : Nat))
theorem IntsAt.later {w w' : World} {g n : Nat} {f : Nat → Nat} (h : IntsAt w g n f) (hb : Below w.heap.size w w') : IntsAt w' g n f := fun j hj => cell_later hb (h j hj)
theorem IntsAt.drew {w : World} {g n : Nat} {f : Nat → Nat} (h : IntsAt w g n f) : IntsAt w.drew g n f := h
theorem Row.ints {w : World} {g n : Nat} {t : TypeId} {f : Nat → Nat} (h : Row w g .i64 t n f) : IntsAt w g n f := fun j hj => h.cell j hj
theorem GrowsI.ints {w : World} {base : Nat} {v : Value} {l : List Int} (h : GrowsI w base v l) (h0 : 0 < l.length) (f : Nat → Nat) (hf : ∀ j, j < l.length → l[j]? = some (f j : Int)) :
    ∃ g cap, v = .slice (some ⟨g, 0, none⟩) l.length cap ∧ IntsAt w g l.length f := by
  rcases h.2 with ⟨rfl, h1⟩ | ⟨g, cap, cur, rfl, _⟩
  · omega
  · refine ⟨g, cap, rfl, fun j hj => ?_⟩
    rw [World.ownsRow.cellAt h j (by omega)]
    simp only [i64s, List.getElem?_map, hf j hj]
    rfl
theorem GrowsI.take {w : World} {base : Nat} {v : Value} {l : List Int} (h : GrowsI w base v l) (n : Nat) (hl : l.length = n) (h0 : 0 < n) (f : Nat → Nat) (hf : ∀ j, j < n → l[j]? = some (f j : Int)) :
    ∃ g cap, v = .slice (some ⟨g, 0, none⟩) n cap ∧ IntsAt w g n f := by
  subst hl
  exact h.ints h0 f hf
theorem ints8 (w : World) (z0 z1 z2 z3 z4 z5 z6 z7 : Int) (r : Reg) (h0 : z0 = (r.a : Nat)) (h1 : z1 = (r.b : Nat)) (h2 : z2 = (r.c : Nat)) (h3 : z3 = (r.d : Nat)) (h4 : z4 = (r.e : Nat)) (h5 : z5 = (r.f : Nat)) (h6 : z6 = (r.g : Nat)) (h7 : z7 = (r.h : Nat)) :
    IntsAt (w.alloc (.cells #[.int .i64 z0, .int .i64 z1, .int .i64 z2, .int .i64 z3, .int .i64 z4, .int .i64 z5, .int .i64 z6, .int .i64 z7] 3)) w.heap.size 8 r.at := by
  subst h0; subst h1; subst h2; subst h3; subst h4; subst h5; subst h6; subst h7
  exact (Row.made w .i64 3 8 r.at _ rfl _ rfl).ints
theorem IntsAt.cells8 {w : World} {g : Nat} {s : Reg} (h : IntsAt w g 8 s.at) :
    w.cell? ⟨g, 0, none⟩ = some (.int .i64 s.a) ∧ w.cell? ⟨g, 1, none⟩ = some (.int .i64 s.b) ∧ w.cell? ⟨g, 2, none⟩ = some (.int .i64 s.c) ∧ w.cell? ⟨g, 3, none⟩ = some (.int .i64 s.d)
    ∧ w.cell? ⟨g, 4, none⟩ = some (.int .i64 s.e) ∧ w.cell? ⟨g, 5, none⟩ = some (.int .i64 s.f) ∧ w.cell? ⟨g, 6, none⟩ = some (.int .i64 s.g) ∧ w.cell? ⟨g, 7, none⟩ = some (.int .i64 s.h) :=
  ⟨h 0 (by omega), h 1 (by omega), h 2 (by omega), h 3 (by omega), h 4 (by omega), h 5 (by omega), h 6 (by omega), h 7 (by omega)⟩
theorem IntsAt.src {w : World} {g : Nat} {f : Nat → Nat} (n : Nat) (h : IntsAt w g n f) : SrcI w g ((List.range n).map fun j => ((f j : Nat) : Int)) := by
  intro j v hj
  by_cases hjn : j < n
  · simp [i64s, hjn] at hj
    subst hj
    exact h j hjn
  · rw [List.getElem?_eq_none (by simp [i64s]; omega)] at hj
    cases hj
theorem srcI_one (w : World) (b : Int) : SrcI (w.alloc (.cells #[.int .i64 b] 3)) w.heap.size [b] := by
  intro j v hj
  match j, hj with
  | 0, hj => simp [i64s] at hj; subst hj; simp
  | j + 1, hj => simp [i64s] at hj
theorem SrcI.drew {w : World} {g : Nat} {X : List Int} (h : SrcI w g X) : SrcI w.drew g X := h

set_option maxRecDepth 100000 in
theorem keys_c (w : World) : Calls Tryd.prog 97 #[] w fun e w' => e = .returned (.slice (some ⟨w.heap.size, 0, none⟩) 64 64) ∧ IntsAt w' w.heap.size 64 keyN ∧ Below w.heap.size w w' := by
  go_enter Tryd.func97, Tryd.ntmps97
  go_wp2
  go_ret
  refine ⟨rfl, ?_, (Below.refl _ _).alloc (Nat.le_refl _) _⟩
  exact (Row.made w .i64 3 64 keyN _ (by kernel_rfl) _ rfl).ints
end Go.Proofs.YtemhhjkmolndbaaDoor
