/- Byte slices that a call makes itself: a row of bytes that is filled from the left, a slice that grows by append, and what they are as strings. -/
import Derived.Test.YtlbebeedkcdgpaaDoorRows
import Derived.Test.YtlbebeedkcdgpaaDoorMath
import Derived.WalkKit
import Derived.WalkSpells
import Derived.WalkLawsBesides
import Derived.Lib.Hide
import Derived.Laws.CopyOwn
import Derived.Laws.BytesArg
import Derived.Lib.SmallJoins
import Derived.Deep.OwnRows
namespace Go.Proofs.YtlbebeedkcdgpaaDoor
open Go.RowKit Go.PlainAid
set_option linter.unusedVariables false


def u8s (l : List Int) : List Value := l.map (Value.int .u8)
/-- Block g is a row of bytes: what was written, then r zeros. -/
def Room (w : World) (g : Nat) (pre : List Int) (r : Nat) : Prop := w.heap[g]? = some (.cells (u8s (pre ++ List.replicate r 0)).toArray 5 (0, 0))
/-- Block h begins with the bytes X. -/
def Src (w : World) (h : Nat) (X : List Int) : Prop := ∀ (j : Nat) v, (u8s X)[j]? = some v → w.cell? ⟨h, j, none⟩ = some v

theorem splice_fill {α : Type} (A Z X : List α) (k : Nat) (hk : A.length = k) : splice (A ++ Z) k X = A ++ (X ++ Z.drop X.length) := by
  subst hk
  unfold splice
  rw [List.take_left, List.drop_append, List.drop_of_length_le (by omega), List.nil_append]
  congr 3
  omega

theorem room_splice (pre X : List Int) (r : Nat) : splice (u8s (pre ++ List.replicate r 0)) pre.length (u8s X) = u8s ((pre ++ X) ++ List.replicate (r - X.length) 0) := by
  unfold u8s
  rw [List.map_append, splice_fill _ _ _ _ (by simp)]
  simp

theorem Tryd.size5 : (Tryd.prog.info? 5).map (·.size) = some 1 := by kernel_rfl

theorem plain_add (b o j : Nat) : (⟨b, o, none⟩ : Addr).add j = ⟨b, o + j, none⟩ := by unfold Addr.add; split <;> simp_all
theorem u8s_length (l : List Int) : (u8s l).length = l.length := by simp [u8s]
theorem u8s_one (l : List Int) : ∀ v ∈ u8s l, v.oneCell' = true := by
  intro v hv
  unfold u8s at hv
  obtain ⟨x, _, rfl⟩ := List.mem_map.1 hv
  rfl

/-- copy into a row that is being filled. -/
theorem copy_room (w : World) (g h k n m r B : Nat) (pre X : List Int) (hr : Room w g pre r) (hX : Src w h X) (hk : pre.length = k) (hm : X.length = m) (hfit : m ≤ r) (hn : k + r = n) (hB : B ≤ g) :
    ∃ w2, (Builtin.copy_ #[70, 70] 3 #[.slice (some ⟨g, k, none⟩) (n - k) (n - k), .slice (some ⟨h, 0, none⟩) m m]).run Tryd.prog w = .ok (.int .i64 (m : Nat)) w2 ∧ Room w2 g (pre ++ X) (r - m) ∧ Below B w w2 := by
  subst hk; subst hm
  unfold Room at hr
  have hl : (u8s X).length = X.length := u8s_length X
  have h := run_copy_row (P := Tryd.prog) w 70 70 3 5 g pre.length (n - pre.length) (n - pre.length) ⟨h, 0, none⟩ X.length X.length (u8s (pre ++ List.replicate r 0)).toArray 5 (u8s X)
    Tryd.underlying70 Tryd.size5 hr (by rw [hl]; exact (Nat.min_eq_left (by omega)).symm) (fun j v hj => by rw [plain_add]; simpa using hX j v hj) (by simp [u8s]; omega) (u8s_one X)
  have e := room_splice pre X r
  unfold splice at e
  refine ⟨w.setRow g (u8s ((pre ++ X) ++ List.replicate (r - X.length) 0)).toArray, ?_, setRow_heap w g _ _ 5 _ hr, below_setRow (Below.refl _ _) hB _⟩
  rw [h, ← e, hl]
  simp [goInt]

/-- A slice literal of one byte, made into a string. -/
theorem conv_one (w : World) (b : Int) : (convert 70 9 (.slice (some ⟨w.heap.size, 0, none⟩) 1 1)).run Tryd.prog (w.alloc (.cells #[.int .u8 b] 5)) = .ok (.string (strOfNums [b])) (w.alloc (.cells #[.int .u8 b] 5)) :=
  run_convert_bytes_arg (w.alloc (.cells #[.int .u8 b] 5)) 70 5 Tryd.underlying70 Tryd.underlying5 w.heap.size 0 1 1 [b] rfl (fun i hi => by
    obtain rfl : i = 0 := by omega
    simp) 9 Tryd.underlying9

theorem Room.cells {w : World} {g r : Nat} {pre : List Int} (h : Room w g pre r) (i : Nat) (hi : i < pre.length) : w.cell? ⟨g, i, none⟩ = some (.int .u8 (pre.getD i 0)) := by
  unfold Room at h
  rw [Joins.cell_of_block h i]
  simp [u8s, List.getElem?_append, hi, List.getD]

/-- What has been written into the row, as a string. -/
theorem conv_room (w : World) (g r n cap : Nat) (pre : List Int) (hr : Room w g pre r) (hn : pre.length = n) :
    (convert 70 9 (.slice (some ⟨g, 0, none⟩) n cap)).run Tryd.prog w = .ok (.string (strOfNums pre)) w :=
  run_convert_bytes_arg w 70 5 Tryd.underlying70 Tryd.underlying5 g 0 n cap pre hn (fun i hi => by rw [Nat.zero_add]; exact hr.cells i (by omega)) 9 Tryd.underlying9

theorem Room.alloc {w : World} {g r : Nat} {pre : List Int} (h : Room w g pre r) (o : Obj) : Room (w.alloc o) g pre r := by
  unfold Room at h ⊢
  have hg : g < w.heap.size := by
    rcases Nat.lt_or_ge g w.heap.size with h' | h'
    · exact h'
    · rw [Array.getElem?_eq_none h'] at h; cases h
  show (w.heap.push o)[g]? = _
  rw [Array.getElem?_push_lt hg, ← Array.getElem?_eq_getElem hg]
  exact h

theorem src_one (w : World) (b : Int) : Src (w.alloc (.cells #[.int .u8 b] 5)) w.heap.size [b] := by
  intro j v hj
  match j, hj with
  | 0, hj => simp [u8s] at hj; subst hj; simp
  | j + 1, hj => simp [u8s] at hj
theorem src_two (w : World) (b c : Int) : Src (w.alloc (.cells #[.int .u8 b, .int .u8 c] 5)) w.heap.size [b, c] := by
  intro j v hj
  match j, hj with
  | 0, hj => simp [u8s] at hj; subst hj; simp
  | 1, hj => simp [u8s] at hj; subst hj; simp
  | j + 2, hj => simp [u8s] at hj

theorem Tryd.info5 : (Tryd.prog.info? 5).map (fun i => (i.zero, i.size, i.bytes)) = some (some (.int .u8 0), 1, 1) := by kernel_rfl
theorem made_zeros (n : Nat) : madeCells #[Value.int .u8 0] n = (u8s (List.replicate n 0)).toArray := by
  apply Array.ext
  · simp [madeCells, u8s]
  · intro i h1 h2
    simp [madeCells, u8s, Nat.mod_one]
/-- make([]byte, n). -/
theorem make_room (w : World) (n : Nat) (hn : n ≤ 1099511627776) :
    ∃ w1, (Instr.makeSlice 70 (.int .i64 (n : Int)) (.int .i64 (n : Int))).run Tryd.prog w = .ok (.slice (some ⟨w.heap.size, 0, none⟩) n n) w1 ∧ Room w1 w.heap.size [] n ∧ Below w.heap.size w w1 := by
  have h := run_make_row' (P := Tryd.prog) 70 5 (.int .u8 0) 1 Tryd.underlying70 Tryd.info5 rfl .i64 .i64 n (by omega) (by omega) w
  refine ⟨_, h, ?_, (Below.refl _ _).alloc (Nat.le_refl _) _⟩
  unfold Room
  rw [List.nil_append, ← made_zeros]
  show (w.heap.push _)[w.heap.size]? = _
  simp
theorem Room.lt {w : World} {g r : Nat} {pre : List Int} (h : Room w g pre r) : g < w.heap.size := by
  unfold Room at h
  rcases Nat.lt_or_ge g w.heap.size with h' | h'
  · exact h'
  · rw [Array.getElem?_eq_none h'] at h; cases h

/-! ### a byte slice that grows by append -/
def Grows (w : World) (base : Nat) (v : Value) (l : List Int) : Prop := w.ownsRow base 5 1 v l.length (u8s l)
theorem Grows.alloc {w : World} {base : Nat} {v : Value} {l : List Int} (h : Grows w base v l) (o : Obj) : Grows (w.alloc o) base v l := World.ownsRow.alloc h o
theorem grows_empty (w : World) : Grows (w.alloc (.cells #[] 5)) w.heap.size (.slice (some ⟨w.heap.size, 0, none⟩) 0 0) [] :=
  World.ownsRow_made w #[] 0 (Nat.le_refl _) (by decide) rfl

theorem wp_append_bytes {w : World} {ops : Array Oper} {rest : List Oper} {o : Oper} {a : Act} {Q : Exit → Act → World → Prop} (hgd : o.guard = none) (s x : Operand)
    (ho : o.op = .call { callee := .builtin .append, args := #[s, x], argTypes := #[70, 70] }) (base : Nat) (v : Value) (l X : List Int) (hs : a.eval s = v) (hown : Grows w base v l)
    (h m c : Nat) (hx : a.eval x = .slice (some ⟨h, 0, none⟩) m c) (hm : X.length = m) (hX : Src w h X) (hlen : l.length + m ≤ 1099511627776) (hbase : base ≤ w.heap.size)
    (hK : ∀ v' w', Grows w' base v' (l ++ X) → Below base w w' → wpList Tryd.prog ops Q rest (a.put o.dst v') w') : wpList Tryd.prog ops Q (o :: rest) a w := by
  obtain ⟨i0, hi, hz0, hz1, hz2⟩ := info_parts Tryd.info5
  subst hm
  refine wpList_append_own w hgd s x 70 ho base 5 i0 (.int .u8 0) 1 1 Tryd.underlying70 hi hz0 hz1 hz2 rfl (by decide) v l.length (u8s l) hs hown ⟨h, 0, none⟩ X.length c (u8s X) hx (by simp [u8s]) ?_ (u8s_one X) (by unfold maxLen; omega) (by omega) hbase ?_
  · intro j u hj
    rw [plain_add, Nat.zero_add]
    exact hX j u hj
  · intro v' w' h1 h2 _
    refine hK v' w' ?_ ?_
    · unfold Grows
      rw [List.length_append]
      simpa [u8s] using h1
    · refine (Below.refl _ _).grown h2 hbase ?_
      intro k hk
      exact (hown.lt k hk).1

/-- The same as one step of a region that draws its order. -/
theorem step_append_bytes {w : World} {ops : Array Oper} {o : Oper} {a : Act} {K : Act → World → Prop} {Q : Exit → Act → World → Prop} {E : Prop} (hgd : o.guard = none) (s x : Operand)
    (ho : o.op = .call { callee := .builtin .append, args := #[s, x], argTypes := #[70, 70] }) (base : Nat) (v : Value) (l X : List Int) (hs : a.eval s = v) (hown : Grows w base v l)
    (h m c : Nat) (hx : a.eval x = .slice (some ⟨h, 0, none⟩) m c) (hm : X.length = m) (hX : Src w h X) (hlen : l.length + m ≤ 1099511627776) (hbase : base ≤ w.heap.size)
    (hK : ∀ v' w', Grows w' base v' (l ++ X) → Below base w w' → K (a.put o.dst v') w') : if Region.wanted o (yielded ops a.tmps) = true then Oper.wp Tryd.prog o a w K Q else E := by
  have hw : Region.wanted o (yielded ops a.tmps) = true := by simp [Region.wanted, hgd]
  rw [if_pos hw]
  obtain ⟨i0, hi, hz0, hz1, hz2⟩ := info_parts Tryd.info5
  subst hm
  refine wp_append_own w s x 70 ho base 5 i0 (.int .u8 0) 1 1 Tryd.underlying70 hi hz0 hz1 hz2 rfl (by decide) v l.length (u8s l) hs hown ⟨h, 0, none⟩ X.length c (u8s X) hx (by simp [u8s]) ?_ (u8s_one X) (by unfold maxLen; omega) (by omega) hbase ?_
  · intro j u hj
    rw [plain_add, Nat.zero_add]
    exact hX j u hj
  · intro v' w' h1 h2 _
    refine hK v' w' ?_ ?_
    · unfold Grows
      rw [List.length_append]
      simpa [u8s] using h1
    · refine (Below.refl _ _).grown h2 hbase ?_
      intro k hk
      exact (hown.lt k hk).1
theorem Grows.drew {w : World} {base : Nat} {v : Value} {l : List Int} (h : Grows w base v l) : Grows w.drew base v l := h
theorem Src.drew {w : World} {g : Nat} {X : List Int} (h : Src w g X) : Src w.drew g X := h
theorem Room.drew {w : World} {g r : Nat} {pre : List Int} (h : Room w g pre r) : Room w.drew g pre r := h

/-- What was appended, as a string. -/
theorem conv_grows (w : World) (base : Nat) (v : Value) (l : List Int) (h : Grows w base v l) :
    (convert 70 9 v).run Tryd.prog w = .ok (.string (strOfNums l)) w := by
  rcases h.2 with ⟨rfl, h0⟩ | ⟨g, cap, cur, rfl, _⟩
  · obtain rfl : l = [] := List.eq_nil_of_length_eq_zero h0
    exact run_convert_bytes_nil w 70 5 Tryd.underlying70 Tryd.underlying5 0 0 9 Tryd.underlying9
  · refine run_convert_bytes_arg w 70 5 Tryd.underlying70 Tryd.underlying5 g 0 l.length cap l rfl (fun i hi => ?_) 9 Tryd.underlying9
    rw [Nat.zero_add, World.ownsRow.cellAt h i (by omega)]
    simp [u8s, List.getElem?_eq_getElem hi, List.getD]

/-! ### small callees -/
end Go.Proofs.YtlbebeedkcdgpaaDoor
