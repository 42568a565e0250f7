import Derived.Test.YtmnglcidklckgaaDoorRows
import Derived.Test.YtmnglcidklckgaaDoorEnc
import Derived.WalkKit
import Derived.WalkSpells
import Derived.WalkLawsBesides
import Derived.Lib.Hide
import Derived.Laws.CopyOwn
import Derived.Laws.BytesArg
import Derived.Lib.SmallJoins
import Derived.Deep.OwnRows
import Derived.Lib.LaidTab
import Derived.Laws.RangeAny
import Derived.Laws.Concat
/- Byte slices that a call makes itself: a row of bytes that is filled from the left, a slice that grows by append, and what they are as strings. -/
namespace Go.Proofs.YtmnglcidklckgaaDoor
open Go.RowKit Go.PlainAid
set_option linter.unusedVariables false


def u8s (l : List Int) : List Value := l.map (Value.int .u8)
/-- Block g is a row of bytes: what was written, then r zeros. -/
def Room (w : World) (g : Nat) (pre : List Int) (r : Nat) : Prop := w.heap[g]? = some (.cells (u8s (pre ++ List.replicate r 0)).toArray 5 (0, 0))
/-- Block h begins with the bytes X. -/
def Src (w : World) (h : Nat) (X : List Int) : Prop := ∀ (j : Nat) v, (u8s X)[j]? = some v → w.cell? ⟨h, j, none⟩ = some v

theorem splice_fill {α : Type} (A Z X : List α) (k : Nat) (hk : A.length = k) : splice (A ++ Z) k X = A ++ (X ++ Z.drop X.length) := by
  subst hk
  unfold splice
  rw [List.take_left, List.drop_append, List.drop_of_length_le (by omega), List.nil_append]
  congr 3
  omega

theorem room_splice (pre X : List Int) (r : Nat) : splice (u8s (pre ++ List.replicate r 0)) pre.length (u8s X) = u8s ((pre ++ X) ++ List.replicate (r - X.length) 0) := by
  unfold u8s
  rw [List.map_append, splice_fill _ _ _ _ (by simp)]
  simp

theorem Tryd.size5 : (Tryd.prog.info? 5).map (·.size) = some 1 := by kernel_rfl

theorem plain_add (b o j : Nat) : (⟨b, o, none⟩ : Addr).add j = ⟨b, o + j, none⟩ := by unfold Addr.add; split <;> simp_all
theorem u8s_length (l : List Int) : (u8s l).length = l.length := by simp [u8s]
theorem u8s_one (l : List Int) : ∀ v ∈ u8s l, v.oneCell' = true := by
  intro v hv
  unfold u8s at hv
  obtain ⟨x, _, rfl⟩ := List.mem_map.1 hv
  rfl

/-- copy into a row that is being filled. -/
theorem copy_room (w : World) (g h k n m r B : Nat) (pre X : List Int) (hr : Room w g pre r) (hX : Src w h X) (hk : pre.length = k) (hm : X.length = m) (hfit : m ≤ r) (hn : k + r = n) (hB : B ≤ g) :
    ∃ w2, (Builtin.copy_ #[22, 22] 3 #[.slice (some ⟨g, k, none⟩) (n - k) (n - k), .slice (some ⟨h, 0, none⟩) m m]).run Tryd.prog w = .ok (.int .i64 (m : Nat)) w2 ∧ Room w2 g (pre ++ X) (r - m) ∧ Below B w w2 := by
  subst hk; subst hm
  unfold Room at hr
  have hl : (u8s X).length = X.length := u8s_length X
  have h := run_copy_row (P := Tryd.prog) w 22 22 3 5 g pre.length (n - pre.length) (n - pre.length) ⟨h, 0, none⟩ X.length X.length (u8s (pre ++ List.replicate r 0)).toArray 5 (u8s X)
    Tryd.underlying22 Tryd.size5 hr (by rw [hl]; exact (Nat.min_eq_left (by omega)).symm) (fun j v hj => by rw [plain_add]; simpa using hX j v hj) (by simp [u8s]; omega) (u8s_one X)
  have e := room_splice pre X r
  unfold splice at e
  refine ⟨w.setRow g (u8s ((pre ++ X) ++ List.replicate (r - X.length) 0)).toArray, ?_, setRow_heap w g _ _ 5 _ hr, below_setRow (Below.refl _ _) hB _⟩
  rw [h, ← e, hl]
  simp [goInt]

/-- A slice literal of one byte, made into a string. -/
theorem conv_one (w : World) (b : Int) : (convert 22 9 (.slice (some ⟨w.heap.size, 0, none⟩) 1 1)).run Tryd.prog (w.alloc (.cells #[.int .u8 b] 5)) = .ok (.string (strOfNums [b])) (w.alloc (.cells #[.int .u8 b] 5)) :=
  run_convert_bytes_arg (w.alloc (.cells #[.int .u8 b] 5)) 22 5 Tryd.underlying22 Tryd.underlying5 w.heap.size 0 1 1 [b] rfl (fun i hi => by
    obtain rfl : i = 0 := by omega
    simp) 9 Tryd.underlying9

theorem Room.cells {w : World} {g r : Nat} {pre : List Int} (h : Room w g pre r) (i : Nat) (hi : i < pre.length) : w.cell? ⟨g, i, none⟩ = some (.int .u8 (pre.getD i 0)) := by
  unfold Room at h
  rw [Joins.cell_of_block h i]
  simp [u8s, List.getElem?_append, hi, List.getD]

/-- What has been written into the row, as a string. -/
theorem conv_room (w : World) (g r n cap : Nat) (pre : List Int) (hr : Room w g pre r) (hn : pre.length = n) :
    (convert 22 9 (.slice (some ⟨g, 0, none⟩) n cap)).run Tryd.prog w = .ok (.string (strOfNums pre)) w :=
  run_convert_bytes_arg w 22 5 Tryd.underlying22 Tryd.underlying5 g 0 n cap pre hn (fun i hi => by rw [Nat.zero_add]; exact hr.cells i (by omega)) 9 Tryd.underlying9

theorem Room.alloc {w : World} {g r : Nat} {pre : List Int} (h : Room w g pre r) (o : Obj) : Room (w.alloc o) g pre r := by
  unfold Room at h ⊢
  have hg : g < w.heap.size := by
    rcases Nat.lt_or_ge g w.heap.size with h' | h'
    · exact h'
    · rw [Array.getElem?_eq_none h'] at h; cases h
  show (w.heap.push o)[g]? = _
  rw [Array.getElem?_push_lt hg, ← Array.getElem?_eq_getElem hg]
  exact h

theorem src_one (w : World) (b : Int) : Src (w.alloc (.cells #[.int .u8 b] 5)) w.heap.size [b] := by
  intro j v hj
  match j, hj with
  | 0, hj => simp [u8s] at hj; subst hj; simp
  | j + 1, hj => simp [u8s] at hj
theorem src_two (w : World) (b c : Int) : Src (w.alloc (.cells #[.int .u8 b, .int .u8 c] 5)) w.heap.size [b, c] := by
  intro j v hj
  match j, hj with
  | 0, hj => simp [u8s] at hj; subst hj; simp
  | 1, hj => simp [u8s] at hj; subst hj; simp
  | j + 2, hj => simp [u8s] at hj

theorem Tryd.info5 : (Tryd.prog.info? 5).map (fun i => (i.zero, i.size, i.bytes)) = some (some (.int .u8 0), 1, 1) := by kernel_rfl
theorem made_zeros (n : Nat) : madeCells #[Value.int .u8 0] n = (u8s (List.replicate n 0)).toArray := by
  apply Array.ext
  · simp [madeCells, u8s]
  · intro i h1 h2
    simp [madeCells, u8s, Nat.mod_one]
/-- make([]byte, n). -/
theorem make_room (w : World) (n : Nat) (hn : n ≤ 1099511627776) :
    ∃ w1, (Instr.makeSlice 22 (.int .i64 (n : Int)) (.int .i64 (n : Int))).run Tryd.prog w = .ok (.slice (some ⟨w.heap.size, 0, none⟩) n n) w1 ∧ Room w1 w.heap.size [] n ∧ Below w.heap.size w w1 := by
  have h := run_make_row' (P := Tryd.prog) 22 5 (.int .u8 0) 1 Tryd.underlying22 Tryd.info5 rfl .i64 .i64 n (by omega) (by omega) w
  refine ⟨_, h, ?_, (Below.refl _ _).alloc (Nat.le_refl _) _⟩
  unfold Room
  rw [List.nil_append, ← made_zeros]
  show (w.heap.push _)[w.heap.size]? = _
  simp
theorem Room.lt {w : World} {g r : Nat} {pre : List Int} (h : Room w g pre r) : g < w.heap.size := by
  unfold Room at h
  rcases Nat.lt_or_ge g w.heap.size with h' | h'
  · exact h'
  · rw [Array.getElem?_eq_none h'] at h; cases h

/-! ### a byte slice that grows by append -/
def Grows (w : World) (base : Nat) (v : Value) (l : List Int) : Prop := w.ownsRow base 5 1 v l.length (u8s l)
theorem Grows.alloc {w : World} {base : Nat} {v : Value} {l : List Int} (h : Grows w base v l) (o : Obj) : Grows (w.alloc o) base v l := World.ownsRow.alloc h o
theorem grows_empty (w : World) : Grows (w.alloc (.cells #[] 5)) w.heap.size (.slice (some ⟨w.heap.size, 0, none⟩) 0 0) [] :=
  World.ownsRow_made w #[] 0 (Nat.le_refl _) (by decide) rfl

theorem wp_append_bytes {w : World} {ops : Array Oper} {rest : List Oper} {o : Oper} {a : Act} {Q : Exit → Act → World → Prop} (hgd : o.guard = none) (s x : Operand)
    (ho : o.op = .call { callee := .builtin .append, args := #[s, x], argTypes := #[22, 22] }) (base : Nat) (v : Value) (l X : List Int) (hs : a.eval s = v) (hown : Grows w base v l)
    (h m c : Nat) (hx : a.eval x = .slice (some ⟨h, 0, none⟩) m c) (hm : X.length = m) (hX : Src w h X) (hlen : l.length + m ≤ 1099511627776) (hbase : base ≤ w.heap.size)
    (hK : ∀ v' w', Grows w' base v' (l ++ X) → Below base w w' → wpList Tryd.prog ops Q rest (a.put o.dst v') w') : wpList Tryd.prog ops Q (o :: rest) a w := by
  obtain ⟨i0, hi, hz0, hz1, hz2⟩ := info_parts Tryd.info5
  subst hm
  refine wpList_append_own w hgd s x 22 ho base 5 i0 (.int .u8 0) 1 1 Tryd.underlying22 hi hz0 hz1 hz2 rfl (by decide) v l.length (u8s l) hs hown ⟨h, 0, none⟩ X.length c (u8s X) hx (by simp [u8s]) ?_ (u8s_one X) (by unfold maxLen; omega) (by omega) hbase ?_
  · intro j u hj
    rw [plain_add, Nat.zero_add]
    exact hX j u hj
  · intro v' w' h1 h2 _
    refine hK v' w' ?_ ?_
    · unfold Grows
      rw [List.length_append]
      simpa [u8s] using h1
    · refine (Below.refl _ _).grown h2 hbase ?_
      intro k hk
      exact (hown.lt k hk).1

/-- The same as one step of a region that draws its order. -/
theorem step_append_bytes {w : World} {ops : Array Oper} {o : Oper} {a : Act} {K : Act → World → Prop} {Q : Exit → Act → World → Prop} {E : Prop} (hgd : o.guard = none) (s x : Operand)
    (ho : o.op = .call { callee := .builtin .append, args := #[s, x], argTypes := #[22, 22] }) (base : Nat) (v : Value) (l X : List Int) (hs : a.eval s = v) (hown : Grows w base v l)
    (h m c : Nat) (hx : a.eval x = .slice (some ⟨h, 0, none⟩) m c) (hm : X.length = m) (hX : Src w h X) (hlen : l.length + m ≤ 1099511627776) (hbase : base ≤ w.heap.size)
    (hK : ∀ v' w', Grows w' base v' (l ++ X) → Below base w w' → K (a.put o.dst v') w') : if Region.wanted o (yielded ops a.tmps) = true then Oper.wp Tryd.prog o a w K Q else E := by
  have hw : Region.wanted o (yielded ops a.tmps) = true := by simp [Region.wanted, hgd]
  rw [if_pos hw]
  obtain ⟨i0, hi, hz0, hz1, hz2⟩ := info_parts Tryd.info5
  subst hm
  refine wp_append_own w s x 22 ho base 5 i0 (.int .u8 0) 1 1 Tryd.underlying22 hi hz0 hz1 hz2 rfl (by decide) v l.length (u8s l) hs hown ⟨h, 0, none⟩ X.length c (u8s X) hx (by simp [u8s]) ?_ (u8s_one X) (by unfold maxLen; omega) (by omega) hbase ?_
  · intro j u hj
    rw [plain_add, Nat.zero_add]
    exact hX j u hj
  · intro v' w' h1 h2 _
    refine hK v' w' ?_ ?_
    · unfold Grows
      rw [List.length_append]
      simpa [u8s] using h1
    · refine (Below.refl _ _).grown h2 hbase ?_
      intro k hk
      exact (hown.lt k hk).1
theorem Grows.drew {w : World} {base : Nat} {v : Value} {l : List Int} (h : Grows w base v l) : Grows w.drew base v l := h
theorem Src.drew {w : World} {g : Nat} {X : List Int} (h : Src w g X) : Src w.drew g X := h
theorem Room.drew {w : World} {g r : Nat} {pre : List Int} (h : Room w g pre r) : Room w.drew g pre r := h

/-- What was appended, as a string. -/
theorem conv_grows (w : World) (base : Nat) (v : Value) (l : List Int) (h : Grows w base v l) :
    (convert 22 9 v).run Tryd.prog w = .ok (.string (strOfNums l)) w := by
  rcases h.2 with ⟨rfl, h0⟩ | ⟨g, cap, cur, rfl, _⟩
  · obtain rfl : l = [] := List.eq_nil_of_length_eq_zero h0
    exact run_convert_bytes_nil w 22 5 Tryd.underlying22 Tryd.underlying5 0 0 9 Tryd.underlying9
  · refine run_convert_bytes_arg w 22 5 Tryd.underlying22 Tryd.underlying5 g 0 l.length cap l rfl (fun i hi => ?_) 9 Tryd.underlying9
    rw [Nat.zero_add, World.ownsRow.cellAt h i (by omega)]
    simp [u8s, List.getElem?_eq_getElem hi, List.getD]

/-! ### small callees -/
end Go.Proofs.YtmnglcidklckgaaDoor
/- The contract of putBytes, which fills a row of bytes. -/
namespace Go.Proofs.YtmnglcidklckgaaDoor
open Go.RowKit Go.PlainAid
set_option linter.unusedVariables false

set_option maxHeartbeats 400000 in
theorem put_bytes (w : World) (g h n k m r B : Nat) (pre X : List Int) (hr : Room w g pre r) (hX : Src w h X) (hk : pre.length = k) (hm : X.length = m)
    (h0 : 0 < m) (hfit : m ≤ r) (hn : k + r = n) (hb : n ≤ 1099511627776) (hB : B ≤ g) :
    Calls Tryd.prog 96 #[.slice (some ⟨g, 0, none⟩) n n, .int .i64 k, .slice (some ⟨h, 0, none⟩) m m] w fun e w' =>
      e = .returned (.int .i64 (k + m : Nat)) ∧ Room w' g (pre ++ X) (r - m) ∧ Below B w w' := by
  obtain ⟨w2, hcp, hr2, hb2⟩ := copy_room w g h k n m r B pre X hr hX hk hm hfit hn hB
  have hlt : k < n := by omega
  have hle : k + m ≤ n := by omega
  clear hk hm hn hr hX
  go_enter Tryd.func96, Tryd.ntmps96
  go_wp2
  go_ret
  exact ⟨by go_num, hr2, hb2⟩

theorem put_bytes_at (w : World) (c : Int) (g h n k m r B : Nat) (pre X : List Int) (hr : Room w g pre r) (hX : Src w h X) (hc : c = (k : Int)) (hk : pre.length = k) (hm : X.length = m)
    (h0 : 0 < m) (hfit : m ≤ r) (hn : k + r = n) (hb : n ≤ 1099511627776) (hB : B ≤ g) :
    Calls Tryd.prog 96 #[.slice (some ⟨g, 0, none⟩) n n, .int .i64 c, .slice (some ⟨h, 0, none⟩) m m] w fun e w' =>
      e = .returned (.int .i64 (c + (m : Int))) ∧ Room w' g (pre ++ X) (r - m) ∧ Below B w w' := by
  subst hc
  exact (put_bytes w g h n k m r B pre X hr hX hk hm h0 hfit hn hb hB).mono fun e w' ⟨he, h1, h2⟩ => ⟨by rw [he, Int.natCast_add], h1, h2⟩
end Go.Proofs.YtmnglcidklckgaaDoor
/- The contract of widthOk. -/
namespace Go.Proofs.YtmnglcidklckgaaDoor
open Go.RowKit
set_option linter.unusedVariables false

theorem wok_yes (a : Int) (w : World) (h1 : 1 ≤ a) (h2 : a ≤ 7) : Calls Tryd.prog 95 #[.int .i64 a] w fun e w' => e = .returned (.bool true) ∧ w = w' := by
  go_enter Tryd.func95, Tryd.ntmps95
  go_wp2
  go_ret
  exact ⟨rfl, rfl⟩
theorem wok_no (a : Int) (w : World) (h : a < 1 ∨ 7 < a) : Calls Tryd.prog 95 #[.int .i64 a] w fun e w' => e = .returned (.bool false) ∧ w = w' := by
  by_cases h1 : 1 ≤ a
  · have h2 : decide (a ≤ 7) = false := by simp; omega
    clear h
    go_enter Tryd.func95, Tryd.ntmps95
    go_wp2
    go_ret
    exact ⟨rfl, rfl⟩
  · clear h
    go_enter Tryd.func95, Tryd.ntmps95
    go_wp2
    go_ret
    exact ⟨rfl, rfl⟩
end Go.Proofs.YtmnglcidklckgaaDoor
/- The contract of the model's l1In. -/
namespace Go.Proofs.YtmnglcidklckgaaDoor
open Go.RowKit
set_option linter.unusedVariables false

theorem in_yes (a b c : Int) (w : World) (h1 : b ≤ a) (h2 : a ≤ c) : Calls Tryd.prog 36 #[.int .i64 a, .int .i64 b, .int .i64 c] w fun e w' => e = .returned (.bool true) ∧ w = w' := by
  go_enter Tryd.func36, Tryd.ntmps36
  go_wp2
  go_ret
  exact ⟨rfl, rfl⟩
theorem in_no (a b c : Int) (w : World) (h : a < b ∨ c < a) : Calls Tryd.prog 36 #[.int .i64 a, .int .i64 b, .int .i64 c] w fun e w' => e = .returned (.bool false) ∧ w = w' := by
  by_cases h1 : b ≤ a
  · have h2 : decide (a ≤ c) = false := by simp; omega
    clear h
    go_enter Tryd.func36, Tryd.ntmps36
    go_wp2
    go_ret
    exact ⟨rfl, rfl⟩
  · clear h
    go_enter Tryd.func36, Tryd.ntmps36
    go_wp2
    go_ret
    exact ⟨rfl, rfl⟩
end Go.Proofs.YtmnglcidklckgaaDoor
/- The walks of the program's Crc, for every string, where the table holds what the program's text lays. -/
namespace Go.Proofs.YtmnglcidklckgaaDoor
open Go.RowKit Go.PlainAid
set_option linter.unusedVariables false

/-- The table that crcBytes reads. -/
def TabC (w : World) : Prop := ∀ l : Nat, l < 16 → w.cell? ⟨1, l, none⟩ = some (.int .u32 (crcTab.getD l 0))

set_option maxHeartbeats 400000 in
theorem crc_bytes (c : Nat) (s : ByteArray) (w : World) (hc : c < 4294967296) (hs : s.size ≤ maxLen) (ht : TabC w) :
    Calls Tryd.prog 97 #[.int .u32 c, .string s] w fun e w' => e = .returned (.int .u32 (crcF c s s.size : Nat)) ∧ w = w' := by
  unfold maxLen at hs
  have HT := Lib.hid ht
  clear ht
  go_enter Tryd.func97, Tryd.ntmps97
  go_wp2
  go_loop [0, 8] (fun a i => ∃ k : Nat, k ≤ s.size ∧ i = .int .i64 k ∧ a = .int .u32 (crcF c s k : Nat)) (fun _ i => s.size - (intOf i).toNat)
  case atStart => exact ⟨0, by omega, rfl, rfl⟩
  case round =>
    obtain ⟨k, hk, rfl, rfl⟩ := hrel
    by_cases hlt : k < s.size
    · have hC := crcF_lt c hc s k
      have hg := get_bt s k hlt
      have b0 := bt_nonneg s k
      have b1 := bt_le s k
      have hX := xor_bt_lt _ hC s k
      have x1 := u32_xor (crcF c s k : Nat) (bt s k) (by omega) (by omega) (by omega) (by omega)
      rw [Int.toNat_natCast] at x1
      have hnext : crcF c s (k + 1) = stepsN (stepsN (crcF c s k ^^^ (bt s k).toNat) 4) 4 := by rw [crcF, stepsN_add]
      generalize crcF c s k ^^^ (bt s k).toNat = X at hX x1 hnext
      have hY := stepsN_lt X 4 hX
      have a1 := u32_and15 X hX
      have c1 := HT.out (X % 16) (by omega)
      rw [tab_at _ (by omega)] at c1
      have y1 := u32_xor_nat (stepsN (X % 16) 4) (X / 16) (stepsN_lt _ _ (by omega)) (by omega)
      rw [nib, show ((X / 16 : Nat) : Int) = (X : Int) / 16 by omega] at y1
      generalize stepsN X 4 = Y at hY y1 hnext
      have a2 := u32_and15 Y hY
      have c2 := HT.out (Y % 16) (by omega)
      rw [tab_at _ (by omega)] at c2
      have y2 := u32_xor_nat (stepsN (Y % 16) 4) (Y / 16) (stepsN_lt _ _ (by omega)) (by omega)
      rw [nib, show ((Y / 16 : Nat) : Int) = (Y : Int) / 16 by omega] at y2
      have HN := Lib.hid hnext
      clear hnext
      go_wp2
      go_round
      case rel => exact ⟨k + 1, by omega, by go_num, by rw [HN.out]⟩
      case measure => simp [intOf]; omega
    · obtain rfl : k = s.size := by omega
      go_wp2
      go_ret
      exact ⟨rfl, rfl⟩

theorem TabC.iter {w : World} (h : TabC w) (s : ByteArray) (p : Nat) : TabC (w.iter s p) := by
  intro l hl
  have := h l hl
  exact cell_later ((Below.refl _ _).alloc (Nat.le_refl _) _) this

theorem width_pos (s : ByteArray) (pos : Nat) (h : pos < s.size) : 1 ≤ (Utf8.decode s pos).2 := by
  by_cases ha : (s[pos]'h).toNat < 128
  · rw [decode_ascii s pos h ha]
    exact Nat.le_refl _
  · exact (decode_high s pos h (by omega)).2

set_option maxHeartbeats 400000 in
theorem impl_crc (s : ByteArray) (w : World) (hs : s.size ≤ maxLen) (ht : TabC w) :
    Calls Tryd.prog 85 #[.string s] w fun e w' => e = .returned (.int .i64 (4294967295 - (crcF 4294967295 s s.size : Nat))) ∧ Below w.heap.size w w' := by
  unfold maxLen at hs
  have HT := Lib.hid ht
  clear ht
  go_enter Tryd.func85, Tryd.ntmps85
  go_wp2
  go_loopw [3, 4] (fun c d wr => ∃ pos k : Nat, k ≤ pos ∧ k ≤ s.size ∧ wr = w.iter s pos ∧ c = .int .u32 (crcF 4294967295 s k : Nat) ∧ d = .int .i64 k) (fun _ _ wr => s.size - wr.iterPos w.heap.size)
  case atStart => exact ⟨0, 0, by omega, by omega, rfl, rfl, rfl⟩
  case round =>
    obtain ⟨pos, k, hkp, hks, rfl, rfl, rfl⟩ := hrel
    have hC := crcF_lt 4294967295 (by decide) s k
    by_cases hp : pos < s.size
    · have hnx : ∀ ty, (Instr.next (.pointer (some ⟨w.heap.size, 0, none⟩)) true ty).run Tryd.prog (w.iter s pos) = _ := fun ty => run_next_any w s pos ty hp
      have hwd := width_pos s pos hp
      go_wp2_with (go_at_call 97; refine (crc_bytes _ _ _ hC ?_ (HT.out.iter _ _)).mono ?_; (· rw [ByteArray.size_extract]; unfold maxLen; omega); rintro e w' ⟨rfl, rfl⟩)
      go_roundw
      case rel =>
        refine ⟨pos + (Utf8.decode s pos).2, pos, by omega, by omega, rfl, ?_, rfl⟩
        rw [crcF_extract 4294967295 s k pos _ (by omega) (by omega)]
        rw [show k + (min pos s.size - k) = pos by omega]
      case measure => simp; omega
    · have hnx : ∀ ty, (Instr.next (.pointer (some ⟨w.heap.size, 0, none⟩)) true ty).run Tryd.prog (w.iter s pos) = _ := fun ty => run_next_end w s pos ty hp
      go_wp2_with (go_at_call 97; refine (crc_bytes _ _ _ hC ?_ (HT.out.iter _ _)).mono ?_; (· rw [ByteArray.size_extract]; unfold maxLen; omega); rintro e w' ⟨rfl, rfl⟩)
      go_ret
      have e : crcF (crcF 4294967295 s k) (s.extract k s.size) (s.size - k) = crcF 4294967295 s s.size := by
        rw [crcF_extract 4294967295 s k s.size _ (by omega) (by omega)]
        rw [show k + (s.size - k) = s.size by omega]
      have hE := crcF_lt 4294967295 (by decide) s s.size
      refine ⟨?_, (Below.refl _ _).alloc (Nat.le_refl _) _⟩
      rw [e]
      show Ending.returned (Value.int .i64 ((4294967295 - ((crcF 4294967295 s s.size : Nat) : Int)) % 4294967296)) = _
      rw [Int.emod_eq_of_lt (by omega) (by omega)]
end Go.Proofs.YtmnglcidklckgaaDoor
/- The walks of the model's Crc, for every string. -/
namespace Go.Proofs.YtmnglcidklckgaaDoor
open Go.RowKit Go.PlainAid
set_option linter.unusedVariables false

set_option maxHeartbeats 400000 in
theorem spec_crc (s : ByteArray) (w : World) (hs : s.size ≤ maxLen) :
    Calls Tryd.prog 75 #[.string s] w fun e w' => e = .returned (.int .i64 (4294967295 - (crcF 4294967295 s s.size : Nat))) ∧ w = w' := by
  unfold maxLen at hs
  go_enter Tryd.func75, Tryd.ntmps75
  go_wp2
  go_loop [3, 4] (fun a i => ∃ k : Nat, k ≤ s.size ∧ i = .int .i64 k ∧ a = .int .i64 (crcF 4294967295 s k : Nat)) (fun _ i => s.size - (intOf i).toNat)
  case atStart => exact ⟨0, by omega, rfl, rfl⟩
  case round =>
    obtain ⟨k, hk, rfl, rfl⟩ := hrel
    have hC := crcF_lt 4294967295 (by decide) s k
    by_cases hlt : k < s.size
    · have hg := get_bt s k hlt
      have b0 := bt_nonneg s k
      have b1 := bt_le s k
      have hX := xor_bt_lt _ hC s k
      have x1 := i64_xor (crcF 4294967295 s k : Nat) (bt s k) (by omega) (by omega) (by omega) (by omega)
      rw [Int.toNat_natCast] at x1
      have hnext : crcF 4294967295 s (k + 1) = stepsN (crcF 4294967295 s k ^^^ (bt s k).toNat) 8 := rfl
      generalize crcF 4294967295 s k ^^^ (bt s k).toNat = X at hX x1 hnext
      have HN := Lib.hid hnext
      clear hnext
      go_wp2
      go_loop [3, 5] (fun a j => ∃ m : Nat, m ≤ 8 ∧ j = .int .i64 m ∧ a = .int .i64 (stepsN X m : Nat)) (fun _ j => 8 - (intOf j).toNat)
      case atStart => exact ⟨0, by omega, rfl, rfl⟩
      case round =>
        obtain ⟨m, hm, rfl, rfl⟩ := hrel
        have hM := stepsN_lt X m hX
        by_cases hlm : m < 8
        · have hs1 : stepsN X (m + 1) = stepN (stepsN X m) := rfl
          generalize stepsN X m = M at hM hs1
          have HS := Lib.hid hs1
          clear hs1
          by_cases ho : M % 2 = 1
          · have o1 : (M : Int) % 2 = 1 := by omega
            have x2 : bits .xor .i64 ((M : Int) / 2) 2197175160 = ((M / 2 ^^^ 2197175160 : Nat) : Int) := i64_xor_nat (M / 2) 2197175160 (by omega) (by decide)
            have HO := Lib.hid ho
            clear ho
            go_wp2
            go_round
            case rel =>
              refine ⟨m + 1, by omega, by go_num, ?_⟩
              rw [HS.out, stepN, if_pos HO.out]
            case measure => simp [intOf]; omega
          · have o1 : (M : Int) % 2 = 0 := by omega
            have HO := Lib.hid ho
            clear ho
            go_wp2
            go_round
            case rel =>
              refine ⟨m + 1, by omega, by go_num, ?_⟩
              rw [HS.out, stepN, if_neg HO.out]
              congr 1
            case measure => simp [intOf]; omega
        · obtain rfl : m = 8 := by omega
          go_wp2
          go_round
          case rel => exact ⟨k + 1, by omega, by go_num, by rw [HN.out]⟩
          case measure => simp [intOf]; omega
    · obtain rfl : k = s.size := by omega
      go_wp2
      go_ret
      exact ⟨rfl, rfl⟩
end Go.Proofs.YtmnglcidklckgaaDoor
/- The walks of the program's Fixed, for every number and width. -/
namespace Go.Proofs.YtmnglcidklckgaaDoor
open Go.RowKit Go.PlainAid
set_option linter.unusedVariables false
set_option maxRecDepth 100000

set_option maxHeartbeats 400000 in
theorem impl_fixed (n : Int) (W : Nat) (w : World) (h1 : 1 ≤ W) (h7 : W ≤ 7) (h0 : 0 ≤ n) (hn : n ≤ 9223372036854775807) (hz : dv n W = 0) :
    Calls Tryd.prog 84 #[.int .i64 n, .int .i64 W] w fun e w' => e = .returned (.string (strOfNums (fixL n W))) ∧ Below w.heap.size w w' := by
  have hz2 : (n / 2 ^ (8 * W) != 0) = false := by rw [dv_shift, hz]; rfl
  have hd : decide (n < 0) = false := by simp; omega
  clear hz
  obtain ⟨w1, hmk, hroom, hb1⟩ := make_room w W (by omega)
  obtain ⟨g, hg⟩ : ∃ g, g = w.heap.size := ⟨_, rfl⟩
  rw [← hg] at hmk hroom hb1 ⊢
  have HG := Lib.hid hg
  clear hg
  go_enter Tryd.func84, Tryd.ntmps84
  go_wp2_with (go_at_call 95; refine (wok_yes _ _ (by omega) (by omega)).mono ?_; rintro e w' ⟨rfl, rfl⟩)
  clear hmk
  go_loopw [6, 7] (fun a s wr => ∃ j : Nat, j ≤ W ∧ a = .int .i64 j ∧ s = .int .i64 (8 * ((W : Int) - 1 - j)) ∧ Room wr g ((fixL n W).take j) (W - j) ∧ Below g w wr) (fun _ s _ => (intOf s + 8).toNat)
  case atStart => exact ⟨0, by omega, rfl, by go_num, hroom, hb1⟩
  case round =>
    obtain ⟨j, hj, rfl, rfl, hr, hbw⟩ := hrel
    have hg := hr.lt
    by_cases hlt : j < W
    · have hlen : ((fixL n W).take j).length = j := by rw [List.length_take, fixL_length]; omega
      have HL := Lib.hid hlen
      clear hlen
      go_wp2_with (go_at_call 96; refine (put_bytes _ g wr.heap.size W j 1 (W - j) g ((fixL n W).take j) [_] (hr.alloc _) (src_one wr _) HL.out rfl (by omega) (by omega) (by omega) (by omega) (Nat.le_refl _)).mono ?_; rintro e w' ⟨rfl, hr', hb'⟩)
      go_roundw
      case rel =>
        refine ⟨j + 1, by omega, by go_num, by go_num, ?_, (hbw.alloc (Nat.le_of_lt hg) _).trans hb'⟩
        rw [fixL_take n W j hlt, ← dv_shift, Nat.sub_add_eq]
        exact hr'
      case measure => simp only [intOf]; omega
    · obtain rfl : j = W := by omega
      rw [List.take_of_length_le (by rw [fixL_length]; exact Nat.le_refl _)] at hr
      have hconv := conv_room wr g _ j j (fixL n j) hr (fixL_length n j)
      go_wp2
      go_ret
      exact ⟨rfl, hbw⟩

set_option maxHeartbeats 400000 in
theorem impl_fixed_no (n width : Int) (w : World) (hn : n ≤ 9223372036854775807) (hn' : -9223372036854775808 ≤ n) (h : width < 1 ∨ 7 < width ∨ n < 0 ∨ 0 < dv n width.toNat) :
    Calls Tryd.prog 84 #[.int .i64 n, .int .i64 width] w fun e w' => e = .returned (.string ByteArray.empty) ∧ w = w' := by
  by_cases h1 : 1 ≤ width ∧ width ≤ 7
  · obtain ⟨W, rfl⟩ := Int.eq_ofNat_of_zero_le (show 0 ≤ width by omega)
    obtain ⟨h1, h7⟩ := h1
    by_cases h0 : n < 0
    · clear h
      have hd : decide (n < 0) = true := by simp; omega
      go_enter Tryd.func84, Tryd.ntmps84
      go_wp2_with (go_at_call 95; refine (wok_yes _ _ (by omega) (by omega)).mono ?_; rintro e w' ⟨rfl, rfl⟩)
      go_ret
      exact ⟨rfl, rfl⟩
    · have hz : 0 < dv n W := by
        rcases h with h | h | h | h
        · omega
        · omega
        · omega
        · simpa using h
      have hz2 : (n / 2 ^ (8 * W) != 0) = true := by rw [dv_shift]; simp; omega
      have hd : decide (n < 0) = false := by simp; omega
      clear h hz
      go_enter Tryd.func84, Tryd.ntmps84
      go_wp2_with (go_at_call 95; refine (wok_yes _ _ (by omega) (by omega)).mono ?_; rintro e w' ⟨rfl, rfl⟩)
      go_ret
      exact ⟨rfl, rfl⟩
  · have h2 : width < 1 ∨ 7 < width := by omega
    clear h h1
    go_enter Tryd.func84, Tryd.ntmps84
    go_wp2_with (go_at_call 95; refine (wok_no _ _ h2).mono ?_; rintro e w' ⟨rfl, rfl⟩)
    go_ret
    exact ⟨rfl, rfl⟩
end Go.Proofs.YtmnglcidklckgaaDoor
/- The walks of the model's Fixed, for every number and width. -/
namespace Go.Proofs.YtmnglcidklckgaaDoor
open Go.RowKit Go.PlainAid
set_option linter.unusedVariables false


theorem strOf_cons (b : Int) (l : List Int) : strOfNums [b] ++ strOfNums l = strOfNums (b :: l) := by
  apply ByteArray.ext
  simp [strOfNums, ByteArray.data_append]

set_option maxHeartbeats 400000 in
theorem spec_fixed (n width : Int) (w : World) (h1 : 1 ≤ width) (h7 : width ≤ 7) (h0 : 0 ≤ n) (hn : n ≤ 9223372036854775807) (hz : dv n width.toNat = 0) :
    Calls Tryd.prog 74 #[.int .i64 n, .int .i64 width] w fun e w' => e = .returned (.string (strOfNums (fixL n width.toNat))) ∧ Below w.heap.size w w' := by
  have HZ := Lib.hid hz
  clear hz
  have hconv := conv_one
  go_enter Tryd.func74, Tryd.ntmps74
  go_wp2_with (go_at_call 36; refine (in_yes _ _ _ _ h1 h7).mono ?_; rintro e w' ⟨rfl, rfl⟩)
  go_loopw [0, 5, 6] (fun a o i wr => ∃ k : Nat, (k : Int) ≤ width ∧ i = .int .i64 k ∧ a = .int .i64 (dv n k) ∧ o = .string (strOfNums (fixL n k)) ∧ Below w.heap.size w wr) (fun _ _ i _ => (width - intOf i).toNat)
  case atStart => exact ⟨0, by omega, rfl, rfl, rfl, Below.refl _ _⟩
  case round =>
    obtain ⟨k, hk, rfl, rfl, rfl, hbw⟩ := hrel
    have d0 := dv_nonneg n h0 k
    have d1 := dv_le n h0 k
    by_cases hlt : (k : Int) < width
    · have hsz : (strOfNums [dv n k % 256]).size + (strOfNums (fixL n k)).size ≤ 9223372036854775807 := by simp only [strOfNums_size, fixL_length, List.length_singleton]; omega
      go_wp2
      go_roundw
      case rel => exact ⟨k + 1, by omega, by go_num, rfl, by rw [strOf_cons, fixL], hbw.alloc hbw.size _⟩
      case measure => simp [intOf]; omega
    · obtain rfl : (k : Int) = width := by omega
      have hz : dv n k = 0 := by simpa using HZ.out
      have hz' : dv n k ≤ 0 := by omega
      clear hz
      go_wp2
      go_ret
      exact ⟨by simp, hbw⟩

set_option maxHeartbeats 400000 in
theorem spec_fixed_big (n width : Int) (w : World) (h1 : 1 ≤ width) (h7 : width ≤ 7) (h0 : 0 ≤ n) (hn : n ≤ 9223372036854775807) (hz : 0 < dv n width.toNat) :
    Calls Tryd.prog 74 #[.int .i64 n, .int .i64 width] w fun e w' => e = .returned (.string ByteArray.empty) ∧ Below w.heap.size w w' := by
  have HZ := Lib.hid hz
  clear hz
  have hconv := conv_one
  go_enter Tryd.func74, Tryd.ntmps74
  go_wp2_with (go_at_call 36; refine (in_yes _ _ _ _ h1 h7).mono ?_; rintro e w' ⟨rfl, rfl⟩)
  go_loopw [0, 5, 6] (fun a o i wr => ∃ k : Nat, (k : Int) ≤ width ∧ i = .int .i64 k ∧ a = .int .i64 (dv n k) ∧ o = .string (strOfNums (fixL n k)) ∧ Below w.heap.size w wr) (fun _ _ i _ => (width - intOf i).toNat)
  case atStart => exact ⟨0, by omega, rfl, rfl, rfl, Below.refl _ _⟩
  case round =>
    obtain ⟨k, hk, rfl, rfl, rfl, hbw⟩ := hrel
    have d0 := dv_nonneg n h0 k
    have d1 := dv_le n h0 k
    by_cases hlt : (k : Int) < width
    · have hsz : (strOfNums [dv n k % 256]).size + (strOfNums (fixL n k)).size ≤ 9223372036854775807 := by simp only [strOfNums_size, fixL_length, List.length_singleton]; omega
      go_wp2
      go_roundw
      case rel => exact ⟨k + 1, by omega, by go_num, rfl, by rw [strOf_cons, fixL], hbw.alloc hbw.size _⟩
      case measure => simp [intOf]; omega
    · obtain rfl : (k : Int) = width := by omega
      have hz : 0 < dv n k := by simpa using HZ.out
      go_wp2
      go_ret
      exact ⟨rfl, hbw⟩

set_option maxHeartbeats 400000 in
theorem spec_fixed_no (n width : Int) (w : World) (h : width < 1 ∨ 7 < width ∨ n < 0) :
    Calls Tryd.prog 74 #[.int .i64 n, .int .i64 width] w fun e w' => e = .returned (.string ByteArray.empty) ∧ w = w' := by
  by_cases h1 : 1 ≤ width ∧ width ≤ 7
  · have h0 : n < 0 := by omega
    obtain ⟨h1, h7⟩ := h1
    clear h
    go_enter Tryd.func74, Tryd.ntmps74
    go_wp2_with (go_at_call 36; refine (in_yes _ _ _ _ h1 h7).mono ?_; rintro e w' ⟨rfl, rfl⟩)
    go_ret
    exact ⟨rfl, rfl⟩
  · have h2 : width < 1 ∨ 7 < width := by omega
    clear h h1
    go_enter Tryd.func74, Tryd.ntmps74
    go_wp2_with (go_at_call 36; refine (in_no _ _ _ _ h2).mono ?_; rintro e w' ⟨rfl, rfl⟩)
    go_ret
    exact ⟨rfl, rfl⟩
end Go.Proofs.YtmnglcidklckgaaDoor
/- The walks of the program's Var, for every number. -/
namespace Go.Proofs.YtmnglcidklckgaaDoor
open Go.RowKit Go.PlainAid
set_option linter.unusedVariables false

set_option maxHeartbeats 400000 in
theorem impl_var_no (n : Int) (w : World) (h : n < 0 ∨ 562949953421311 < n) :
    Calls Tryd.prog 94 #[.int .i64 n] w fun e w' => e = .returned (.string ByteArray.empty) ∧ w = w' := by
  by_cases h0 : n < 0
  · have hd : decide (n < 0) = true := by simpa using h0
    clear h
    go_enter Tryd.func94, Tryd.ntmps94
    go_wp2
    go_ret
    exact ⟨rfl, rfl⟩
  · have hd : decide (n < 0) = false := by simpa using h0
    have hb : decide (562949953421311 < n) = true := by simp; omega
    clear h
    go_enter Tryd.func94, Tryd.ntmps94
    go_wp2
    go_ret
    exact ⟨rfl, rfl⟩

set_option maxHeartbeats 400000 in
theorem impl_var (n : Int) (k : Nat) (w : World) (h0 : 0 ≤ n) (hm : n ≤ 562949953421311) (hk : k ≤ 6) (hv : VK n k) :
    Calls Tryd.prog 94 #[.int .i64 n] w fun e w' => e = .returned (.string (strOfNums (varL n k))) ∧ Below w.heap.size w w' := by
  have hd : decide (n < 0) = false := by simp; omega
  have hb : decide (562949953421311 < n) = false := by simp; omega
  obtain ⟨w1, hmk, hroom, hb1⟩ := make_room w 7 (by omega)
  obtain ⟨g, hg⟩ : ∃ g, g = w.heap.size := ⟨_, rfl⟩
  rw [← hg] at hmk hroom hb1 ⊢
  have HG := Lib.hid hg
  clear hg
  have hmk' : (Instr.makeSlice 22 (.int .i64 7) (.int .i64 7)).run Tryd.prog w = .ok (.slice (some ⟨g, 0, none⟩) 7 7) w1 := hmk
  clear hmk
  go_enter Tryd.func94, Tryd.ntmps94
  go_wp2
  clear hmk'
  go_loopw [0, 4] (fun a c wr => ∃ j : Nat, j ≤ k ∧ a = .int .i64 (vd n j) ∧ c = .int .i64 j ∧ Room wr g (vpre n j) (7 - j) ∧ Below g w wr) (fun a _ _ => (intOf a).toNat)
  case atStart => exact ⟨0, by omega, rfl, rfl, hroom, hb1⟩
  case round =>
    obtain ⟨j, hj, rfl, rfl, hr, hbw⟩ := hrel
    have hg := hr.lt
    have d0 := vd_nonneg n h0 j
    have d1 := vd_le n h0 j
    by_cases hlt : j < k
    · have hge : 128 ≤ vd n j := hv.1 j hlt
      go_wp2_with (go_at_call 96; refine (put_bytes _ g wr.heap.size 7 j 1 (7 - j) g (vpre n j) [_] (hr.alloc _) (src_one wr _) (vpre_length n j) rfl (by omega) (by omega) (by omega) (by omega) (Nat.le_refl _)).mono ?_; rintro e w' ⟨rfl, hr', hb'⟩)
      go_roundw
      case rel =>
        refine ⟨j + 1, by omega, rfl, by go_num, ?_, (hbw.alloc (Nat.le_of_lt hg) _).trans hb'⟩
        rw [vpre, Int.add_comm 128, Nat.sub_add_eq]
        exact hr'
      case measure => simp only [intOf]; omega
    · obtain rfl : j = k := by omega
      have hge : vd n j < 128 := hv.2
      go_wp2_with (go_at_call 96; refine (put_bytes _ g wr.heap.size 7 j 1 (7 - j) g (vpre n j) [_] (hr.alloc _) (src_one wr _) (vpre_length n j) rfl (by omega) (by omega) (by omega) (by omega) (Nat.le_refl _)).mono ?_; rintro e w' ⟨rfl, hr', hb'⟩; have hconv := fun c => conv_room w' g _ (j + 1) c _ hr' (by simp [vpre_length]))
      go_ret
      exact ⟨rfl, (hbw.alloc (Nat.le_of_lt hg) _).trans hb'⟩
end Go.Proofs.YtmnglcidklckgaaDoor
/- The walks of the model's Var, for every number. -/
namespace Go.Proofs.YtmnglcidklckgaaDoor
open Go.RowKit Go.PlainAid
set_option linter.unusedVariables false


set_option maxHeartbeats 400000 in
theorem spec_var (n : Int) (k : Nat) (w : World) (h0 : 0 ≤ n) (hm : n ≤ 562949953421311) (hk : k ≤ 6) (hv : VK n k) :
    Calls Tryd.prog 88 #[.int .i64 n] w fun e w' => e = .returned (.string (strOfNums (varL n k))) ∧ Below w.heap.size w w' := by
  go_enter Tryd.func88, Tryd.ntmps88
  go_wp2_with (go_at_call 36; refine (in_yes _ _ _ _ h0 hm).mono ?_; rintro e w' ⟨rfl, rfl⟩)
  go_loopw [0, 3] (fun a v wr => ∃ j : Nat, j ≤ k ∧ a = .int .i64 (vd n j) ∧ Grows wr w.heap.size v (vpre n j) ∧ Below w.heap.size w wr) (fun a _ _ => (intOf a).toNat)
  case atStart => exact ⟨0, by omega, rfl, grows_empty w, (Below.refl _ _).alloc (Nat.le_refl _) _⟩
  case round =>
    obtain ⟨j, hj, rfl, hgr, hbw⟩ := hrel
    have d0 := vd_nonneg n h0 j
    have d1 := vd_le n h0 j
    have hl : (vpre n j).length ≤ 6 := by rw [vpre_length]; omega
    by_cases hlt : j < k
    · have hge : 128 ≤ vd n j := hv.1 j hlt
      go_wp2_with (at_builtin; refine wp_append_bytes rfl (.tmp 10) (.tmp 15) rfl w.heap.size _ (vpre n j) [_] rfl (hgr.alloc _) wr.heap.size 1 1 rfl rfl (src_one wr _) (by omega) (by have := hbw.size; simp; omega) ?_; intro v' w' hgr' hb')
      go_roundw
      case rel => exact ⟨j + 1, by omega, rfl, hgr', (hbw.alloc hbw.size _).trans hb'⟩
      case measure => simp only [intOf]; omega
    · obtain rfl : j = k := by omega
      have hge : vd n j < 128 := hv.2
      go_wp2_with (at_builtin; refine wp_append_bytes rfl (.tmp 19) (.tmp 22) rfl w.heap.size _ (vpre n j) [_] rfl (hgr.alloc _) wr.heap.size 1 1 rfl rfl (src_one wr _) (by omega) (by have := hbw.size; simp; omega) ?_; intro v' w' hgr' hb'; have hconv := conv_grows w' w.heap.size v' _ hgr')
      go_ret
      exact ⟨rfl, (hbw.alloc hbw.size _).trans hb'⟩

set_option maxHeartbeats 400000 in
theorem spec_var_no (n : Int) (w : World) (h : n < 0 ∨ 562949953421311 < n) :
    Calls Tryd.prog 88 #[.int .i64 n] w fun e w' => e = .returned (.string ByteArray.empty) ∧ w = w' := by
  go_enter Tryd.func88, Tryd.ntmps88
  go_wp2_with (go_at_call 36; refine (in_no _ _ _ _ h).mono ?_; rintro e w' ⟨rfl, rfl⟩)
  go_ret
  exact ⟨rfl, rfl⟩
end Go.Proofs.YtmnglcidklckgaaDoor
/- Var and showText, by one contract each. -/
namespace Go.Proofs.YtmnglcidklckgaaDoor
open Go.RowKit Go.PlainAid
set_option linter.unusedVariables false

theorem impl_varS (n : Int) (w : World) (h0 : 0 ≤ n) (hm : n ≤ 562949953421311) : Calls Tryd.prog 94 #[.int .i64 n] w fun e w' => e = .returned (.string (varS n)) ∧ Below w.heap.size w w' := by
  unfold varS
  exact impl_var n _ w h0 hm (vkF_le 6 n) (varS_vk n hm)
set_option maxHeartbeats 400000 in
theorem show_text (s : ByteArray) (w : World) (hs : s.size ≤ 1048576) : Calls Tryd.prog 83 #[.string s] w fun e w' => e = .returned (.string (showT s)) ∧ Below w.heap.size w w' := by
  have h7 := varS_size s.size
  have a1 := fun W => run_string_add_sum (P := Tryd.prog) (w := W) (varS s.size) s (by omega)
  have HT := Lib.hid (show varS s.size ++ s = showT s by unfold showT; rfl)
  go_enter Tryd.func83, Tryd.ntmps83
  go_wp2_with (go_at_call 94; refine (impl_varS _ _ (by omega) (by omega)).mono ?_; rintro e w' ⟨rfl, hb⟩)
  go_ret
  exact ⟨by rw [← HT.out]; rfl, hb⟩
end Go.Proofs.YtmnglcidklckgaaDoor
/- The model's Var and l4Piece, by one contract each. -/
namespace Go.Proofs.YtmnglcidklckgaaDoor
open Go.RowKit Go.PlainAid
set_option linter.unusedVariables false

theorem spec_varS (n : Int) (w : World) (h0 : 0 ≤ n) (hm : n ≤ 562949953421311) : Calls Tryd.prog 88 #[.int .i64 n] w fun e w' => e = .returned (.string (varS n)) ∧ Below w.heap.size w w' := by
  unfold varS
  exact spec_var n _ w h0 hm (vkF_le 6 n) (varS_vk n hm)
set_option maxHeartbeats 400000 in
theorem show_piece (s : ByteArray) (w : World) (hs : s.size ≤ 1048576) : Calls Tryd.prog 73 #[.string s] w fun e w' => e = .returned (.string (showT s)) ∧ Below w.heap.size w w' := by
  have h7 := varS_size s.size
  have a1 := fun W => run_string_add_sum (P := Tryd.prog) (w := W) (varS s.size) s (by omega)
  have HT := Lib.hid (show varS s.size ++ s = showT s by unfold showT; rfl)
  go_enter Tryd.func73, Tryd.ntmps73
  go_wp2_with (go_at_call 88; refine (spec_varS _ _ (by omega) (by omega)).mono ?_; rintro e w' ⟨rfl, hb⟩)
  go_ret
  exact ⟨by rw [← HT.out]; rfl, hb⟩
end Go.Proofs.YtmnglcidklckgaaDoor
/- Frame and its model, by one contract each. -/
namespace Go.Proofs.YtmnglcidklckgaaDoor
open Go.RowKit Go.PlainAid
set_option linter.unusedVariables false

theorem TabC.later {w w' : World} {B : Nat} (h : TabC w) (hb : Below B w w') (hB : w.heap.size ≤ B) : TabC w' := by
  intro l hl
  have hc := h l hl
  have := cell_lt hc
  rw [hb.cell (p := ⟨1, l, none⟩) (Nat.lt_of_lt_of_le this hB)]
  exact hc
theorem TabC.lt {w : World} (h : TabC w) : 1 < w.heap.size := cell_lt (h 0 (by decide))
theorem TabC.below {w w' : World} {B : Nat} (h : TabC w) (hb : Below B w w') (hB : 1 < B) : TabC w' := by
  intro l hl
  rw [hb.cell (p := ⟨1, l, none⟩) hB]
  exact h l hl
theorem impl_crcV (s : ByteArray) (w : World) (hs : s.size ≤ 1048600) (ht : TabC w) :
    Calls Tryd.prog 85 #[.string s] w fun e w' => e = .returned (.int .i64 (crcV s)) ∧ Below w.heap.size w w' := by
  rw [← crcV_eq]
  exact impl_crc s w (by unfold maxLen; omega) ht
theorem spec_crcV (s : ByteArray) (w : World) (hs : s.size ≤ 1048600) :
    Calls Tryd.prog 75 #[.string s] w fun e w' => e = .returned (.int .i64 (crcV s)) ∧ w = w' := by
  rw [← crcV_eq]
  exact spec_crc s w (by unfold maxLen; omega)
theorem impl_fix4 (n : Int) (w : World) (h0 : 0 ≤ n) (h1 : n ≤ 4294967295) :
    Calls Tryd.prog 84 #[.int .i64 n, .int .i64 4] w fun e w' => e = .returned (.string (fix4 n)) ∧ Below w.heap.size w w' := by
  rw [← fix4_eq]
  exact impl_fixed n 4 w (by decide) (by decide) h0 (by omega) (dv4 n h0 h1)
theorem spec_fix4 (n : Int) (w : World) (h0 : 0 ≤ n) (h1 : n ≤ 4294967295) :
    Calls Tryd.prog 74 #[.int .i64 n, .int .i64 4] w fun e w' => e = .returned (.string (fix4 n)) ∧ Below w.heap.size w w' := by
  rw [← fix4_eq]
  exact spec_fixed n 4 w (by decide) (by decide) h0 (by omega) (dv4 n h0 h1)

set_option maxHeartbeats 400000 in
theorem impl_frame (s : ByteArray) (w : World) (hs : s.size ≤ 1048576) (ht : TabC w) :
    Calls Tryd.prog 59 #[.string s] w fun e w' => e = .returned (.string (frameS s)) ∧ Below w.heap.size w w' := by
  by_cases hb : (200 : Int) < s.size
  · rw [frameS_big s (by omega)]
    go_enter Tryd.func59, Tryd.ntmps59
    go_wp2
    go_ret
    exact ⟨rfl, Below.refl _ _⟩
  · have hF := frameS_ok s (by omega)
    have h7 := showT_size s
    have h8 := fix4_size (crcV (showT s))
    have c0 := crcV_nonneg (showT s)
    have c1 := crcV_le (showT s)
    have a1 := fun W => run_string_add_sum (P := Tryd.prog) (w := W) (fix4 (crcV (showT s))) (showT s) (by omega)
    rw [hF]
    have HT := Lib.hid ht
    clear ht hF
    go_enter Tryd.func59, Tryd.ntmps59
    go_wp2_with (first
      | (go_at_call 83; refine (show_text s _ hs).mono ?_; rintro e w1 ⟨rfl, hb1⟩; have HT1 := Lib.hid (HT.out.later hb1 (Nat.le_refl _)))
      | (go_at_call 85; refine (impl_crcV (showT s) _ (by omega) HT1.out).mono ?_; rintro e w2 ⟨rfl, hb2⟩)
      | (go_at_call 84; refine (impl_fix4 (crcV (showT s)) _ c0 c1).mono ?_; rintro e w3 ⟨rfl, hb3⟩))
    go_ret
    exact ⟨rfl, hb1.trans ((hb2.trans (hb3.mono hb2.size)).mono hb1.size)⟩
set_option maxHeartbeats 400000 in
theorem spec_frame (s : ByteArray) (w : World) (hs : s.size ≤ 1048576) :
    Calls Tryd.prog 49 #[.string s] w fun e w' => e = .returned (.string (frameS s)) ∧ Below w.heap.size w w' := by
  by_cases hb : (200 : Int) < s.size
  · rw [frameS_big s (by omega)]
    go_enter Tryd.func49, Tryd.ntmps49
    go_wp2
    go_ret
    exact ⟨rfl, Below.refl _ _⟩
  · have hF := frameS_ok s (by omega)
    have h7 := showT_size s
    have h8 := fix4_size (crcV (showT s))
    have c0 := crcV_nonneg (showT s)
    have c1 := crcV_le (showT s)
    have a1 := fun W => run_string_add_sum (P := Tryd.prog) (w := W) (fix4 (crcV (showT s))) (showT s) (by omega)
    rw [hF]
    clear hF
    go_enter Tryd.func49, Tryd.ntmps49
    go_wp2_with (first
      | (go_at_call 73; refine (show_piece s _ hs).mono ?_; rintro e w1 ⟨rfl, hb1⟩)
      | (go_at_call 75; refine (spec_crcV (showT s) _ (by omega)).mono ?_; rintro e w2 ⟨rfl, rfl⟩)
      | (go_at_call 74; refine (spec_fix4 (crcV (showT s)) _ c0 c1).mono ?_; rintro e w3 ⟨rfl, hb3⟩))
    go_ret
    exact ⟨rfl, hb1.trans (hb3.mono hb1.size)⟩
end Go.Proofs.YtmnglcidklckgaaDoor
