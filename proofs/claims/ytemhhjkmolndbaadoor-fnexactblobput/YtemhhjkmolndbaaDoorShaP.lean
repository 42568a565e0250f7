/- The walks of the program's shaTail. -/
import Derived.Test.YtemhhjkmolndbaaDoorShaW
import Derived.Test.YtemhhjkmolndbaaDoorShaT
import Derived.Lib.BufferWrite
namespace Go.Proofs.YtemhhjkmolndbaaDoor
open Go.RowKit Go.PlainAid
set_option linter.unusedVariables false

theorem splice_row (k : IntKind) (n : Nat) (f f' : Nat → Nat) (o : Nat) (cs : List Value) (hfit : o + cs.length ≤ n) (h1 : ∀ j, j < n → ¬ (o ≤ j ∧ j < o + cs.length) → f' j = f j) (h2 : ∀ j, j < cs.length → cs[j]? = some (.int k (f' (o + j)))) :
    ((rowC k n f).toList.take o ++ cs ++ (rowC k n f).toList.drop (o + cs.length)).toArray = rowC k n f' := by
  have hl : (rowC k n f).toList.length = n := by simp [rowC]
  have hg : ∀ i, i < n → (rowC k n f).toList[i]? = some (.int k (f i)) := fun i hi => by simp [rowC, hi]
  apply Array.ext_getElem?
  intro i
  rw [List.getElem?_toArray]
  by_cases hi : i < n
  · rw [rowC_get _ _ _ _ hi]
    by_cases ha : i < o
    · rw [List.append_assoc, List.getElem?_append_left (by rw [List.length_take, hl]; omega), List.getElem?_take, if_pos ha, hg i hi, h1 i hi (by omega)]
    · by_cases hb : i < o + cs.length
      · rw [List.append_assoc, List.getElem?_append_right (by rw [List.length_take, hl]; omega), List.length_take, hl, Nat.min_eq_left (by omega), List.getElem?_append_left (by omega), h2 (i - o) (by omega)]
        rw [show o + (i - o) = i by omega]
      · rw [List.getElem?_append_right (by rw [List.length_append, List.length_take, hl]; omega), List.length_append, List.length_take, hl, Nat.min_eq_left (by omega), List.getElem?_drop, show o + cs.length + (i - (o + cs.length)) = i by omega, hg i hi, h1 i hi (by omega)]
  · rw [Array.getElem?_eq_none (by rw [rowC_size]; omega), List.getElem?_eq_none]
    rw [List.length_append, List.length_append, List.length_take, List.length_drop, hl]
    omega

theorem copy_one (w : World) (g h n k v : Nat) (f : Nat → Nat) (hr : Row w g .u8 5 n f) (hX : w.cell? ⟨h, 0, none⟩ = some (.int .u8 v)) (hk : k < n) :
    (Builtin.copy_ #[22, 22] 3 #[.slice (some ⟨g, k, none⟩) (n - k) (n - k), .slice (some ⟨h, 0, none⟩) 1 1]).run Tryd.prog w = .ok (.int .i64 1) (w.setRow g (rowC .u8 n (upd f k v))) := by
  have h := run_copy_row (P := Tryd.prog) w 22 22 3 5 g k (n - k) (n - k) ⟨h, 0, none⟩ 1 1 (rowC .u8 n f) 5 [.int .u8 v]
    Tryd.underlying22 Tryd.size5 hr (Nat.min_eq_left (show 1 ≤ n - k by omega)).symm (fun j u hj => by
      match j, hj with
      | 0, hj => rw [plain_add]; simp at hj; subst hj; exact hX
      | j + 1, hj => simp at hj) (by rw [rowC_size]; simp; omega) (fun u hu => by simp at hu; subst hu; rfl)
  rw [splice_row .u8 n f (upd f k v) k [.int .u8 v] (by simp; omega) (fun j hj hn => upd_other _ _ _ _ (by simp at hn; omega)) (fun j hj => by
      obtain rfl : j = 0 := by simp at hj; omega
      simp [upd_same])] at h
  exact h
theorem copy_str (w : World) (g n : Nat) (s : ByteArray) (f : Nat → Nat) (hr : Row w g .u8 5 n f) (hs : s.size ≤ n) :
    (Builtin.copy_ #[22, 9] 3 #[.slice (some ⟨g, 0, none⟩) n n, .string s]).run Tryd.prog w = .ok (.int .i64 s.size) (w.setRow g (rowC .u8 n (fun j => if j < s.size then btn s j else f j))) := by
  have h := Lib.run_copy_row_string (P := Tryd.prog) w 22 9 3 5 g 0 n n s (rowC .u8 n f) 5 Tryd.underlying22 Tryd.size5 hr hs (by rw [rowC_size]; omega)
  have hl : (Lib.byteCells s.data.toList).length = s.size := by rw [Lib.byteCells_length, ← Lib.size_eq]
  have e := splice_row .u8 n f (fun j => if j < s.size then btn s j else f j) 0 (Lib.byteCells s.data.toList) (by rw [hl]; omega) (fun j hj hn => by rw [hl] at hn; rw [if_neg (by omega)]) (fun j hj => by
    rw [hl] at hj
    rw [Nat.zero_add, if_pos hj, btn_cast, ← get_bt s j hj]
    have hj' : j < s.data.toList.length := by rw [← Lib.size_eq]; exact hj
    simp [Lib.byteCells, List.getElem?_eq_getElem hj']
    rfl)
  rw [hl] at e
  rw [e] at h
  exact h

set_option maxHeartbeats 400000 in
theorem put_one (w : World) (c : Int) (z : Int) (g h n k v B : Nat) (f : Nat → Nat) (hr : Row w g .u8 5 n f) (hX : w.cell? ⟨h, 0, none⟩ = some (.int .u8 z)) (hz : z = (v : Int)) (hc : c = (k : Int)) (hk : k < n) (hn : n ≤ 1099511627776) (hB : B ≤ g) :
    Calls Tryd.prog 121 #[.slice (some ⟨g, 0, none⟩) n n, .int .i64 c, .slice (some ⟨h, 0, none⟩) 1 1] w fun e w' =>
      e = .returned (.int .i64 (c + 1)) ∧ Row w' g .u8 5 n (upd f k v) ∧ Below B w w' := by
  subst hz; subst hc
  have hcp := copy_one w g h n k v f hr hX hk
  have h2 := hr.setRow (upd f k v)
  have h3 : Below B w (w.setRow g (rowC .u8 n (upd f k v))) := below_setRow (Below.refl _ _) hB _
  generalize w.setRow g (rowC .u8 n (upd f k v)) = w2 at hcp h2 h3
  clear hr hX
  go_enter Tryd.func121, Tryd.ntmps121
  go_wp2
  go_ret
  exact ⟨by go_num, h2, h3⟩
theorem make_row (w : World) (n : Nat) (hn : n ≤ 1099511627776) :
    ∃ w1, (Instr.makeSlice 22 (.int .i64 (n : Int)) (.int .i64 (n : Int))).run Tryd.prog w = .ok (.slice (some ⟨w.heap.size, 0, none⟩) n n) w1 ∧ Row w1 w.heap.size .u8 5 n (fun _ => 0) ∧ Below w.heap.size w w1 := by
  obtain ⟨w1, h1, h2, h3⟩ := make_room w n hn
  refine ⟨w1, h1, ?_, h3⟩
  unfold Room at h2
  unfold Row
  rw [h2]
  refine congrArg (fun x => some (Obj.cells x 5 (0, 0))) ?_
  apply Array.ext_getElem?
  intro i
  by_cases hi : i < n
  · rw [rowC_get _ _ _ _ hi]
    simp [u8s, hi]
  · rw [Array.getElem?_eq_none (by simp [u8s]; omega), Array.getElem?_eq_none (by rw [rowC_size]; omega)]

theorem conv_row (w : World) (g n cap : Nat) (f : Nat → Nat) (hr : Row w g .u8 5 n f) :
    (convert 22 9 (.slice (some ⟨g, 0, none⟩) n cap)).run Tryd.prog w = .ok (.string (strOfNums ((List.range n).map fun j => ((f j : Nat) : Int)))) w :=
  run_convert_bytes_arg w 22 5 Tryd.underlying22 Tryd.underlying5 g 0 n cap _ (by simp) (fun i hi => by
    have hi' : i < n := by simpa using hi
    rw [Nat.zero_add, hr.cell i hi']
    simp [List.getD, hi']) 9 Tryd.underlying9

set_option maxRecDepth 100000 in
set_option maxHeartbeats 1000000 in
theorem tail_c (s : ByteArray) (n : Nat) (hs : s.size < 64) (hn : n ≤ 1099511627776) (w : World) :
    Calls Tryd.prog 120 #[.string s, .int .i64 n] w fun e w' => e = .returned (.string (strOfNums ((List.range ((s.size + 72) / 64 * 64)).map fun j => ((padF (btn s) s.size ((s.size + 72) / 64 * 64) n 8 j : Nat) : Int)))) ∧ Below w.heap.size w w' := by
  have h0 : (s.size : Int) < 64 := by omega
  have h1 : (0 : Int) ≤ s.size := by omega
  have eL : ((s.size : Int) + 1 + 8 + 64 - 1) / 64 * 64 = (((s.size + 72) / 64 * 64 : Nat) : Int) := by omega
  have L1 : s.size + 9 ≤ (s.size + 72) / 64 * 64 := by omega
  have L2 : (s.size + 72) / 64 * 64 ≤ 128 := by omega
  generalize (s.size + 72) / 64 * 64 = L at eL L1 L2
  obtain ⟨w1, hmk, hr1, hb1⟩ := make_row w L (by omega)
  have hcp := copy_str w1 w.heap.size L s _ hr1 (by omega)
  have hr2 := hr1.setRow (fun j => if j < s.size then btn s j else 0)
  have hb2 : Below w.heap.size w (w1.setRow w.heap.size (rowC .u8 L (fun j => if j < s.size then btn s j else 0))) := below_setRow hb1 (Nat.le_refl _) _
  generalize w1.setRow w.heap.size (rowC .u8 L (fun j => if j < s.size then btn s j else 0)) = w2 at hcp hr2 hb2
  have R2 := Lib.hid hr2
  have B2 := Lib.hid hb2
  clear hr1 hr2 hb1 hb2
  go_enter Tryd.func120, Tryd.ntmps120
  go_wp2_with (go_at_call 121; refine (put_one _ _ _ w.heap.size w2.heap.size L s.size 128 w.heap.size _ (R2.out.alloc _) ?_ rfl rfl ?_ ?_ (Nat.le_refl _)).mono ?_; (· simp); (· omega); (· omega); rintro e w3 ⟨rfl, hr3, hb3⟩)
  have hr3' : Row w3 w.heap.size .u8 5 L (padF (btn s) s.size L n 0) := hr3.congr (fun j hj => by
    unfold padF upd
    dsimp only
    by_cases e : j = s.size
    · rw [if_pos e, if_neg (by omega), if_pos e]
    · rw [if_neg e]
      by_cases e2 : j < s.size
      · rw [if_pos e2, if_pos e2]
      · rw [if_neg e2, if_neg e2, if_neg e, if_neg (by omega)])
  have hb3' : Below w.heap.size w w3 := (B2.out.alloc B2.out.size _).trans hb3
  have R3 := Lib.hid hr3'
  have B3 := Lib.hid hb3'
  clear hr3 hb3 hr3' hb3' R2 B2
  go_loopw [32] (fun vi wr => ∃ m : Nat, m ≤ 8 ∧ vi = .int .i64 m ∧ Row wr w.heap.size .u8 5 L (padF (btn s) s.size L n m) ∧ Below w.heap.size w wr) (fun i _ => 8 - (intOf i).toNat)
  case atStart => exact ⟨0, by omega, rfl, R3.out, B3.out⟩
  case round =>
    clear R3 B3
    obtain ⟨m, hm, rfl, hr, hbl⟩ := hrel
    have R := Lib.hid hr
    have HB := Lib.hid hbl
    clear hr hbl
    by_cases hlt : m < 8
    · have hz : 8 * (n : Int) / 2 ^ (8 * m) % 256 = ((8 * n / 256 ^ m % 256 : Nat) : Int) := by
        have e : (256 : Nat) ^ m = 2 ^ (8 * m) := by rw [Nat.pow_mul]
        rw [e]
        simp
      have HZ := Lib.hid hz
      clear hz
      go_wp2_with (go_at_call 121; refine (put_one _ _ _ w.heap.size wr.heap.size L (L - 1 - m) (8 * n / 256 ^ m % 256) w.heap.size _ (R.out.alloc _) ?_ HZ.out ?_ ?_ ?_ (Nat.le_refl _)).mono ?_; (· simp); (· omega); (· omega); (· omega); rintro e w4 ⟨rfl, hr4, hb4⟩)
      go_roundw
      case rel =>
        refine ⟨m + 1, by omega, by go_num, hr4.congr ?_, (HB.out.alloc HB.out.size _).trans hb4⟩
        intro j hj
        unfold padF upd
        dsimp only
        by_cases e : j = L - 1 - m
        · rw [if_pos e, if_neg (by omega), if_neg (by omega), if_pos (by omega), show L - 1 - j = m by omega]
        · rw [if_neg e]
          by_cases e1 : j < s.size
          · rw [if_pos e1, if_pos e1]
          · by_cases e2 : j = s.size
            · rw [if_neg e1, if_pos e2, if_neg e1, if_pos e2]
            · rw [if_neg e1, if_neg e2, if_neg e1, if_neg e2]
              by_cases e3 : L ≤ j + m
              · rw [if_pos e3, if_pos (by omega)]
              · rw [if_neg e3, if_neg (by omega)]
      case measure => simp [intOf]; omega
    · obtain rfl : m = 8 := by omega
      have hconv := conv_row wr w.heap.size L L (padF (btn s) s.size L n 8) R.out
      go_wp2
      go_ret
      exact ⟨rfl, HB.out⟩
end Go.Proofs.YtemhhjkmolndbaaDoor
