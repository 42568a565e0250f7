import Derived.Test.YtemhhjkmolndbaaDoorEnc2
import Derived.Test.YtemhhjkmolndbaaDoorRows
import Derived.WalkKit
import Derived.WalkSpells
import Derived.WalkLawsBesides
import Derived.Lib.Hide
import Derived.Test.YtemhhjkmolndbaaDoorMath
import Derived.Test.YtemhhjkmolndbaaDoorWrt2
import Derived.Deep.RegionWith
import Derived.Test.YtemhhjkmolndbaaDoorBytes
import Derived.Test.YtemhhjkmolndbaaDoorStrs
import Derived.Deep.Onto
import Derived.Maps.AppendAt
import Derived.Deep.RegionLaw
import Derived.BigQuiet
/- The walks of the program's ReadVar, for every string. -/
namespace Go.Proofs.YtemhhjkmolndbaaDoor
open Go.RowKit Go.PlainAid
set_option linter.unusedVariables false


set_option maxHeartbeats 400000 in
theorem impl_rv_hit (s : ByteArray) (t : Nat) (w : World) (hs : s.size ≤ maxLen) (ht : t < s.size) (h6 : t ≤ 6) (hh : ∀ i, i < t → 128 ≤ bt s i) (hb : bt s t < 128) (hz : t = 0 ∨ bt s t ≠ 0) :
    Calls Tryd.prog 115 #[.string s] w fun e w' => e = .returned (.tuple #[.int .i64 (acc s (t + 1)), .int .i64 ((t : Int) + 1)]) ∧ w = w' := by
  unfold maxLen at hs
  have HH := Lib.hid hh
  have HB := Lib.hid hb
  have HZ := Lib.hid hz
  clear hh hb hz
  go_enter Tryd.func115, Tryd.ntmps115
  go_wp2
  all_goals
    go_loop [4, 10] (fun a i => ∃ k : Nat, k ≤ t ∧ i = .int .i64 k ∧ a = .int .i64 (acc s k)) (fun _ i => (7 - intOf i).toNat)
    case atStart => exact ⟨0, by omega, rfl, rfl⟩
    case round =>
      obtain ⟨k, hk, rfl, rfl⟩ := hrel
      have hks : k < s.size := by omega
      have hg := get_bt s k hks
      have b0 := bt_nonneg s k
      have b1 := bt_le s k
      have a0 := acc_nonneg s k
      have sg := shl_group s k (by omega)
      have og := or_group s k (by omega)
      by_cases hlt : k < t
      · have h128 : 128 ≤ bt s k := HH.out k hlt
        go_wp2
        go_round
        case rel => exact ⟨k + 1, by omega, by go_num, rfl⟩
        case measure => simp only [intOf]; omega
      · obtain rfl : k = t := by omega
        have h128 : bt s k < 128 := HB.out
        go_wp2
        all_goals first | (go_ret2; exact ⟨rfl, rfl⟩) | (exfalso; rcases HZ.out with h | h <;> omega)

set_option maxHeartbeats 400000 in
theorem impl_rv_zero (s : ByteArray) (t : Nat) (w : World) (hs : s.size ≤ maxLen) (ht : t < s.size) (h6 : t ≤ 6) (hh : ∀ i, i < t → 128 ≤ bt s i) (hb : bt s t = 0) (hz : 0 < t) :
    Calls Tryd.prog 115 #[.string s] w fun e w' => e = .returned (.tuple #[.int .i64 0, .int .i64 0]) ∧ w = w' := by
  unfold maxLen at hs
  have HH := Lib.hid hh
  have HB := Lib.hid hb
  clear hh hb
  go_enter Tryd.func115, Tryd.ntmps115
  go_wp2
  all_goals
    go_loop [4, 10] (fun a i => ∃ k : Nat, k ≤ t ∧ i = .int .i64 k ∧ a = .int .i64 (acc s k)) (fun _ i => (7 - intOf i).toNat)
    case atStart => exact ⟨0, by omega, rfl, rfl⟩
    case round =>
      obtain ⟨k, hk, rfl, rfl⟩ := hrel
      have hks : k < s.size := by omega
      have hg := get_bt s k hks
      have b0 := bt_nonneg s k
      have b1 := bt_le s k
      have a0 := acc_nonneg s k
      have sg := shl_group s k (by omega)
      have og := or_group s k (by omega)
      by_cases hlt : k < t
      · have h128 : 128 ≤ bt s k := HH.out k hlt
        go_wp2
        go_round
        case rel => exact ⟨k + 1, by omega, by go_num, rfl⟩
        case measure => simp only [intOf]; omega
      · obtain rfl : k = t := by omega
        have h128 : bt s k < 1 := by have := HB.out; omega
        go_wp2
        go_ret2
        exact ⟨rfl, rfl⟩

set_option maxHeartbeats 400000 in
theorem impl_rv_none (s : ByteArray) (w : World) (hs : s.size ≤ maxLen) (hh : ∀ i, i < 7 → i < s.size → 128 ≤ bt s i) :
    Calls Tryd.prog 115 #[.string s] w fun e w' => e = .returned (.tuple #[.int .i64 0, .int .i64 0]) ∧ w = w' := by
  unfold maxLen at hs
  have HH := Lib.hid hh
  clear hh
  go_enter Tryd.func115, Tryd.ntmps115
  go_wp2
  all_goals
    go_loop [4, 10] (fun a i => ∃ k : Nat, k ≤ 7 ∧ k ≤ s.size ∧ i = .int .i64 k ∧ a = .int .i64 (acc s k)) (fun _ i => (7 - intOf i).toNat)
    case atStart => exact ⟨0, by omega, by omega, rfl, rfl⟩
    case round =>
      obtain ⟨k, hk, hk2, rfl, rfl⟩ := hrel
      by_cases hlt : k < 7 ∧ k < s.size
      · obtain ⟨hl7, hks⟩ := hlt
        have hg := get_bt s k hks
        have b0 := bt_nonneg s k
        have b1 := bt_le s k
        have a0 := acc_nonneg s k
        have sg := shl_group s k (by omega)
        have og := or_group s k (by omega)
        have h128 : 128 ≤ bt s k := HH.out k hl7 hks
        go_wp2
        go_round
        case rel => exact ⟨k + 1, by omega, by omega, by go_num, rfl⟩
        case measure => simp only [intOf]; omega
      · go_wp2
        go_ret2
        exact ⟨rfl, rfl⟩
end Go.Proofs.YtemhhjkmolndbaaDoor
/- ReadVar, by one contract. -/
namespace Go.Proofs.YtemhhjkmolndbaaDoor
open Go.RowKit Go.PlainAid
set_option linter.unusedVariables false

theorem impl_rv (s : ByteArray) (w : World) (hs : s.size ≤ 1048576) : Calls Tryd.prog 115 #[.string s] w fun e w' => e = .returned (.tuple #[.int .i64 (rvN s), .int .i64 (rvK s : Nat)]) ∧ w = w' := by
  have hm : s.size ≤ maxLen := by unfold maxLen; omega
  by_cases h : rvK s = 0
  · have hn : rvN s = 0 := by unfold rvN; rw [if_pos h]
    rw [h, hn]
    rcases first_low s with ⟨t, ht, h6, hh, hb⟩ | hh
    · have e := rv_hit s t ht h6 hh hb
      have hz : ¬ (t = 0 ∨ bt s t ≠ 0) := by
        intro hz
        unfold rvK at h
        rw [e] at h
        simp only at h
        rw [if_pos hz] at h
        omega
      have hb0 : bt s t = 0 := Decidable.byContradiction fun h => hz (Or.inr h)
      exact impl_rv_zero s t w hm ht h6 hh hb0 (by omega)
    · exact impl_rv_none s w hm hh
  · obtain ⟨t, e, ht, h6, hh, hb, hz⟩ := rvK_pos s h
    have hn : rvN s = acc s (t + 1) := by unfold rvN; rw [if_neg h, e]
    rw [hn, e]
    exact (impl_rv_hit s t w hm ht h6 hh hb hz).mono fun e' w' ⟨he, hw⟩ => ⟨by rw [he]; simp, hw⟩

end Go.Proofs.YtemhhjkmolndbaaDoor
/- The walks of the program's ReadFixed, for every string and width. -/
namespace Go.Proofs.YtemhhjkmolndbaaDoor
open Go.RowKit Go.PlainAid
set_option linter.unusedVariables false

set_option maxHeartbeats 400000 in
theorem impl_rf (s : ByteArray) (n : Int) (w : World) (hs : s.size ≤ maxLen) (h1 : 1 ≤ n) (h7 : n ≤ 7) (hl : n ≤ s.size) :
    Calls Tryd.prog 114 #[.string s, .int .i64 n] w fun e w' => e = .returned (.tuple #[.int .i64 (rf s n.toNat), .bool true]) ∧ w = w' := by
  unfold maxLen at hs
  go_enter Tryd.func114, Tryd.ntmps114
  go_wp2
  go_loop [6, 18] (fun a i => ∃ k : Nat, (k : Int) ≤ n ∧ i = .int .i64 k ∧ a = .int .i64 (rf s k)) (fun _ i => (n - intOf i).toNat)
  case atStart => exact ⟨0, by omega, rfl, rfl⟩
  case round =>
    obtain ⟨k, hk, rfl, rfl⟩ := hrel
    by_cases hlt : (k : Int) < n
    · have r0 := rf_nonneg s k
      have r6 := rf_le6 s k (by omega)
      have hks : k < s.size := by omega
      have hg := get_bt s k hks
      have b0 := bt_nonneg s k
      have b1 := bt_le s k
      go_wp2
      go_round
      case rel => 
        refine ⟨k + 1, by omega, by go_num, ?_⟩
        rw [i64_or_join 8 _ _ (by omega) (by omega) (by omega) (by omega) (by omega) (by omega), rf]
      case measure => simp [intOf]; omega
    · have hn : n.toNat = k := by omega
      have HN := Lib.hid hn
      clear hn
      go_wp2
      go_ret2
      exact ⟨by rw [HN.out]; rfl, rfl⟩

set_option maxHeartbeats 400000 in
theorem impl_rf_no (s : ByteArray) (n : Int) (w : World) (hs : s.size ≤ maxLen) (h : n < 1 ∨ 7 < n ∨ (s.size : Int) < n) :
    Calls Tryd.prog 114 #[.string s, .int .i64 n] w fun e w' => e = .returned (.tuple #[.int .i64 0, .bool false]) ∧ w = w' := by
  unfold maxLen at hs
  by_cases h1 : 1 ≤ n
  · by_cases h7 : n ≤ 7
    · have hl : (s.size : Int) < n := by omega
      clear h
      go_enter Tryd.func114, Tryd.ntmps114
      go_wp2
      go_ret2
      exact ⟨rfl, rfl⟩
    · clear h
      go_enter Tryd.func114, Tryd.ntmps114
      go_wp2
      go_ret2
      exact ⟨rfl, rfl⟩
  · clear h
    go_enter Tryd.func114, Tryd.ntmps114
    go_wp2
    go_ret2
    exact ⟨rfl, rfl⟩
end Go.Proofs.YtemhhjkmolndbaaDoor
/- The walks of the model's ReadVar, for every string. -/
namespace Go.Proofs.YtemhhjkmolndbaaDoor
open Go.RowKit Go.PlainAid
set_option linter.unusedVariables false


set_option maxHeartbeats 400000 in
theorem spec_rv_hit (s : ByteArray) (t : Nat) (w : World) (hs : s.size ≤ maxLen) (ht : t < s.size) (h6 : t ≤ 6) (hno : ∀ k, 1 ≤ k → k ≤ t → NoVar s k) (hyes : IsVar s (t + 1)) :
    Calls Tryd.prog 139 #[.string s] w fun e w' => e = .returned (.tuple #[.int .i64 (rvr s (t + 1) (t + 1)), .int .i64 ((t : Int) + 1)]) ∧ Below w.heap.size w w' := by
  unfold maxLen at hs
  have HN := Lib.hid hno
  have HY := Lib.hid hyes
  clear hno hyes
  go_enter Tryd.func139, Tryd.ntmps139
  go_wp2
  go_loopw [4] (fun kv wr => ∃ k : Nat, 1 ≤ k ∧ k ≤ t + 1 ∧ kv = .int .i64 k ∧ Below w.heap.size w wr) (fun kv _ => (8 - intOf kv).toNat)
  case atStart => exact ⟨1, by omega, by omega, rfl, Below.refl _ _⟩
  case round =>
    obtain ⟨k, hk1, hk2, rfl, hbw⟩ := hrel
    have hk7 : decide ((k : Int) ≤ 7) = true := by simp; omega
    have hks : decide (k ≤ s.size) = true := by simp; omega
    go_wp2
    go_loop [5, 6] (fun nv iv => ∃ m : Nat, m ≤ k ∧ iv = .int .i64 ((k : Int) - 1 - m) ∧ nv = .int .i64 (rvr s k m)) (fun _ iv => (intOf iv + 1).toNat)
    case atStart => exact ⟨0, by omega, by go_num, rfl⟩
    case round =>
      obtain ⟨m, hm, rfl, rfl⟩ := hrel
      have r0 := rvr_nonneg s k m
      by_cases hlt : m < k
      · have r1 := rvr_lt s k m (by omega)
        have hj : k - 1 - m < s.size := by omega
        have hg := get_bt s (k - 1 - m) hj
        have b0 := bt_nonneg s (k - 1 - m)
        have b1 := bt_le s (k - 1 - m)
        go_wp2
        go_round
        case rel => exact ⟨m + 1, by omega, by go_num, by rw [rvr, show k - (m + 1) = k - 1 - m by omega]⟩
        case measure => simp only [intOf]; omega
      · obtain rfl : m = k := by omega
        have r1 := rvr_max s m m (by omega)
        obtain ⟨K, hK6, hK⟩ := vk_exists _ r0 r1
        by_cases hlt : m < t + 1
        · have hne := HN.out m hk1 (by omega) K hK
          have hms : m ≤ s.size := by omega
          go_wp2
          go_region_with ((go_at_call 140; refine (spec_var _ K _ r0 r1 hK6 hK).mono ?_; rintro e w' ⟨rfl, hb'⟩))
          all_goals go_wp2
          all_goals
            go_roundw
            case rel => exact ⟨m + 1, by omega, by omega, by go_num, hbw.drew.trans (hb'.mono hbw.size)⟩
            case measure => simp only [intOf]; omega
        · obtain rfl : m = t + 1 := by omega
          have hne := HY.out K hK
          have hms : t + 1 ≤ s.size := by omega
          go_wp2
          go_region_with ((go_at_call 140; refine (spec_var _ K _ r0 r1 hK6 hK).mono ?_; rintro e w' ⟨rfl, hb'⟩))
          all_goals go_wp2
          all_goals go_ret2
          all_goals exact ⟨rfl, hbw.drew.trans (hb'.mono hbw.size)⟩

set_option maxHeartbeats 400000 in
theorem spec_rv_miss (s : ByteArray) (w : World) (hs : s.size ≤ maxLen) (hno : ∀ k, 1 ≤ k → k ≤ 7 → k ≤ s.size → NoVar s k) :
    Calls Tryd.prog 139 #[.string s] w fun e w' => e = .returned (.tuple #[.int .i64 0, .int .i64 0]) ∧ Below w.heap.size w w' := by
  unfold maxLen at hs
  have HN := Lib.hid hno
  clear hno
  go_enter Tryd.func139, Tryd.ntmps139
  go_wp2
  go_loopw [4] (fun kv wr => ∃ k : Nat, 1 ≤ k ∧ k ≤ 8 ∧ k ≤ s.size + 1 ∧ kv = .int .i64 k ∧ Below w.heap.size w wr) (fun kv _ => (8 - intOf kv).toNat)
  case atStart => exact ⟨1, by omega, by omega, by omega, rfl, Below.refl _ _⟩
  case round =>
    obtain ⟨k, hk1, hk8, hks1, rfl, hbw⟩ := hrel
    by_cases hin : k ≤ 7 ∧ k ≤ s.size
    · obtain ⟨hi7, his⟩ := hin
      have hk7 : decide ((k : Int) ≤ 7) = true := by simp; omega
      have hks : decide (k ≤ s.size) = true := by simp; omega
      go_wp2
      go_loop [5, 6] (fun nv iv => ∃ m : Nat, m ≤ k ∧ iv = .int .i64 ((k : Int) - 1 - m) ∧ nv = .int .i64 (rvr s k m)) (fun _ iv => (intOf iv + 1).toNat)
      case atStart => exact ⟨0, by omega, by go_num, rfl⟩
      case round =>
        obtain ⟨m, hm, rfl, rfl⟩ := hrel
        have r0 := rvr_nonneg s k m
        by_cases hlt : m < k
        · have r1 := rvr_lt s k m (by omega)
          have hj : k - 1 - m < s.size := by omega
          have hg := get_bt s (k - 1 - m) hj
          have b0 := bt_nonneg s (k - 1 - m)
          have b1 := bt_le s (k - 1 - m)
          go_wp2
          go_round
          case rel => exact ⟨m + 1, by omega, by go_num, by rw [rvr, show k - (m + 1) = k - 1 - m by omega]⟩
          case measure => simp only [intOf]; omega
        · obtain rfl : m = k := by omega
          have r1 := rvr_max s m m (by omega)
          obtain ⟨K, hK6, hK⟩ := vk_exists _ r0 r1
          have hne := HN.out m hk1 hi7 his K hK
          go_wp2
          go_region_with ((go_at_call 140; refine (spec_var _ K _ r0 r1 hK6 hK).mono ?_; rintro e w' ⟨rfl, hb'⟩))
          all_goals go_wp2
          all_goals
            go_roundw
            case rel => exact ⟨m + 1, by omega, by omega, by omega, by go_num, hbw.drew.trans (hb'.mono hbw.size)⟩
            case measure => simp only [intOf]; omega
    · by_cases h7 : k ≤ 7
      · have hk7 : decide ((k : Int) ≤ 7) = true := by simp; omega
        have hks : decide (k ≤ s.size) = false := by simp; omega
        go_wp2
        go_ret2
        exact ⟨rfl, hbw⟩
      · have hk7 : decide ((k : Int) ≤ 7) = false := by simp; omega
        go_wp2
        go_ret2
        exact ⟨rfl, hbw⟩
end Go.Proofs.YtemhhjkmolndbaaDoor
/- Slices of ints that a call makes itself and that grow by append. -/
namespace Go.Proofs.YtemhhjkmolndbaaDoor
open Go.RowKit Go.PlainAid
set_option linter.unusedVariables false

def i64s (l : List Int) : List Value := l.map (Value.int .i64)
theorem i64s_one (l : List Int) : ∀ v ∈ i64s l, v.oneCell' = true := by
  intro v hv
  unfold i64s at hv
  obtain ⟨x, _, rfl⟩ := List.mem_map.1 hv
  rfl
theorem Tryd.info3 : (Tryd.prog.info? 3).map (fun i => (i.zero, i.size, i.bytes)) = some (some (.int .i64 0), 1, 8) := by kernel_rfl
/-- An int slice that grows by append. -/
def GrowsI (w : World) (base : Nat) (v : Value) (l : List Int) : Prop := w.ownsRow base 3 1 v l.length (i64s l)
theorem GrowsI.alloc {w : World} {base : Nat} {v : Value} {l : List Int} (h : GrowsI w base v l) (o : Obj) : GrowsI (w.alloc o) base v l := World.ownsRow.alloc h o
theorem GrowsI.drew {w : World} {base : Nat} {v : Value} {l : List Int} (h : GrowsI w base v l) : GrowsI w.drew base v l := h
theorem growsI_empty (w : World) : GrowsI (w.alloc (.cells #[] 3)) w.heap.size (.slice (some ⟨w.heap.size, 0, none⟩) 0 0) [] :=
  World.ownsRow_made w #[] 0 (Nat.le_refl _) (by decide) rfl
def SrcI (w : World) (h : Nat) (X : List Int) : Prop := ∀ (j : Nat) v, (i64s X)[j]? = some v → w.cell? ⟨h, j, none⟩ = some v
theorem wp_append_ints {w : World} {ops : Array Oper} {rest : List Oper} {o : Oper} {a : Act} {Q : Exit → Act → World → Prop} (hgd : o.guard = none) (s x : Operand)
    (ho : o.op = .call { callee := .builtin .append, args := #[s, x], argTypes := #[117, 117] }) (base : Nat) (v : Value) (l X : List Int) (hs : a.eval s = v) (hown : GrowsI w base v l)
    (h m c : Nat) (hx : a.eval x = .slice (some ⟨h, 0, none⟩) m c) (hm : X.length = m) (hX : SrcI w h X) (hlen : l.length + m ≤ 1099511627776) (hbase : base ≤ w.heap.size)
    (hK : ∀ v' w', GrowsI w' base v' (l ++ X) → Below base w w' → wpList Tryd.prog ops Q rest (a.put o.dst v') w') : wpList Tryd.prog ops Q (o :: rest) a w := by
  obtain ⟨i0, hi, hz0, hz1, hz2⟩ := info_parts Tryd.info3
  subst hm
  refine wpList_append_own w hgd s x 117 ho base 3 i0 (.int .i64 0) 1 8 Tryd.underlying117 hi hz0 hz1 hz2 rfl (by decide) v l.length (i64s l) hs hown ⟨h, 0, none⟩ X.length c (i64s X) hx (by simp [i64s]) ?_ (i64s_one X) (by unfold maxLen; omega) (by omega) hbase ?_
  · intro j u hj
    rw [plain_add, Nat.zero_add]
    exact hX j u hj
  · intro v' w' h1 h2 _
    refine hK v' w' ?_ ?_
    · unfold GrowsI
      rw [List.length_append]
      simpa [i64s] using h1
    · refine (Below.refl _ _).grown h2 hbase ?_
      intro k hk
      exact (hown.lt k hk).1
theorem step_append_ints {w : World} {ops : Array Oper} {o : Oper} {a : Act} {K : Act → World → Prop} {Q : Exit → Act → World → Prop} {E : Prop} (hgd : o.guard = none) (s x : Operand)
    (ho : o.op = .call { callee := .builtin .append, args := #[s, x], argTypes := #[117, 117] }) (base : Nat) (v : Value) (l X : List Int) (hs : a.eval s = v) (hown : GrowsI w base v l)
    (h m c : Nat) (hx : a.eval x = .slice (some ⟨h, 0, none⟩) m c) (hm : X.length = m) (hX : SrcI w h X) (hlen : l.length + m ≤ 1099511627776) (hbase : base ≤ w.heap.size)
    (hK : ∀ v' w', GrowsI w' base v' (l ++ X) → Below base w w' → K (a.put o.dst v') w') : if Region.wanted o (yielded ops a.tmps) = true then Oper.wp Tryd.prog o a w K Q else E := by
  have hw : Region.wanted o (yielded ops a.tmps) = true := by simp [Region.wanted, hgd]
  rw [if_pos hw]
  obtain ⟨i0, hi, hz0, hz1, hz2⟩ := info_parts Tryd.info3
  subst hm
  refine wp_append_own w s x 117 ho base 3 i0 (.int .i64 0) 1 8 Tryd.underlying117 hi hz0 hz1 hz2 rfl (by decide) v l.length (i64s l) hs hown ⟨h, 0, none⟩ X.length c (i64s X) hx (by simp [i64s]) ?_ (i64s_one X) (by unfold maxLen; omega) (by omega) hbase ?_
  · intro j u hj
    rw [plain_add, Nat.zero_add]
    exact hX j u hj
  · intro v' w' h1 h2 _
    refine hK v' w' ?_ ?_
    · unfold GrowsI
      rw [List.length_append]
      simpa [i64s] using h1
    · refine (Below.refl _ _).grown h2 hbase ?_
      intro k hk
      exact (hown.lt k hk).1
theorem srcI_one (w : World) (b : Int) : SrcI (w.alloc (.cells #[.int .i64 b] 3)) w.heap.size [b] := by
  intro j v hj
  match j, hj with
  | 0, hj => simp [i64s] at hj; subst hj; simp
  | j + 1, hj => simp [i64s] at hj
theorem SrcI.drew {w : World} {g : Nat} {X : List Int} (h : SrcI w g X) : SrcI w.drew g X := h

theorem GrowsI.later {w w' : World} {base : Nat} {v : Value} {l : List Int} (h : GrowsI w base v l) (hb : Below w.heap.size w w') : GrowsI w' base v l := by
  refine World.ownsRow.kept (row := none) h ⟨hb.os, hb.tape, hb.output, hb.size, fun k hk _ => hb.block k hk⟩ ?_
  cases v.ownBlock with
  | none => exact .inl rfl
  | some k => exact .inr (by simp)
theorem GrowsI.cell {w : World} {base : Nat} {v : Value} {l : List Int} (h : GrowsI w base v l) (h0 : 0 < l.length) : ∃ g cap, v = .slice (some ⟨g, 0, none⟩) l.length cap ∧ g < w.heap.size ∧ ∀ j x, l[j]? = some x → w.cell? ⟨g, j, none⟩ = some (.int .i64 x) := by
  rcases h.2 with ⟨rfl, h1⟩ | ⟨g, cap, cur, rfl, _, hh, _⟩
  · omega
  · refine ⟨g, cap, rfl, (Array.getElem?_eq_some_iff.1 hh).1, fun j x hx => ?_⟩
    have hj : j < l.length := (List.getElem?_eq_some_iff.1 hx).1
    rw [World.ownsRow.cellAt h j (by omega)]
    simp only [i64s, List.getElem?_map, hx]
    rfl
theorem GrowsI.form {w : World} {base : Nat} {v : Value} {l : List Int} (h : GrowsI w base v l) : ∃ a n cap, v = .slice a n cap := by
  rcases h.2 with ⟨rfl, _⟩ | ⟨g, cap, cur, rfl, _⟩
  · exact ⟨_, _, _, rfl⟩
  · exact ⟨_, _, _, rfl⟩
end Go.Proofs.YtemhhjkmolndbaaDoor
/- A slice of strings that a call makes itself and that grows by append. -/
namespace Go.Proofs.YtemhhjkmolndbaaDoor
open Go.RowKit Go.PlainAid
set_option linter.unusedVariables false

def strV (l : List ByteArray) : List Value := l.map Value.string
theorem strV_one (l : List ByteArray) : ∀ v ∈ strV l, v.oneCell' = true := by
  intro v hv
  unfold strV at hv
  obtain ⟨x, _, rfl⟩ := List.mem_map.1 hv
  rfl
theorem strV_get (l : List ByteArray) (j : Nat) (h : j < l.length) : (strV l)[j]? = some (.string (el l j)) := by
  unfold strV
  rw [List.getElem?_map, el_get l j h]
  rfl
/-- The slice v, made by the call itself behind base, holds l. -/
def GrowsS (w : World) (base : Nat) (v : Value) (l : List ByteArray) : Prop := w.ownsRow base 9 1 v l.length (strV l)
theorem growsS_nil (w : World) (base : Nat) : GrowsS w base (.slice none 0 0) [] := World.ownsRow_nil w base 9 1
theorem GrowsS.alloc {w : World} {base : Nat} {v : Value} {l : List ByteArray} (h : GrowsS w base v l) (o : Obj) : GrowsS (w.alloc o) base v l := World.ownsRow.alloc h o
theorem GrowsS.drew {w : World} {base : Nat} {v : Value} {l : List ByteArray} (h : GrowsS w base v l) : GrowsS w.drew base v l := h
theorem GrowsS.mono {w : World} {base base' : Nat} {v : Value} {l : List ByteArray} (h : GrowsS w base v l) (hb : base' ≤ base) : GrowsS w base' v l := World.ownsRow.mono h hb
theorem GrowsS.kept {w w' : World} {base g : Nat} {v : Value} {l : List ByteArray} (h : GrowsS w base v l) (hg : w.grownBy w' (some g)) (hne : g < base) : GrowsS w' base v l := by
  refine World.ownsRow.kept h hg ?_
  right
  intro e
  have := (World.ownsRow.lt h g e).1
  omega
theorem grown_of_below {w w' : World} (hb : Below w.heap.size w w') (row : Option Nat) : w.grownBy w' row := ⟨hb.os, hb.tape, hb.output, hb.size, fun k hk _ => hb.block k hk⟩
theorem GrowsS.later {w w' : World} {base : Nat} {v : Value} {l : List ByteArray} (h : GrowsS w base v l) (hb : Below w.heap.size w w') : GrowsS w' base v l := by
  refine World.ownsRow.kept h (grown_of_below hb none) ?_
  cases v.ownBlock with
  | none => exact .inl rfl
  | some k => exact .inr (by simp)
theorem GrowsS.form {w : World} {base : Nat} {v : Value} {l : List ByteArray} (h : GrowsS w base v l) : ∃ a n cap, v = .slice a n cap := by
  rcases h.2 with ⟨rfl, _⟩ | ⟨g, cap, cur, rfl, _⟩
  · exact ⟨_, _, _, rfl⟩
  · exact ⟨_, _, _, rfl⟩
theorem GrowsS.strs {w : World} {base : Nat} {v : Value} {l : List ByteArray} (h : GrowsS w base v l) (hs : ∀ j, j < l.length → (el l j).size ≤ 9223372036854775807) : Strs w v l := by
  rcases h.2 with ⟨rfl, h0⟩ | ⟨g, cap, cur, rfl, hb, hheap, hn, hm, hc, ht⟩
  · have : l = [] := List.eq_nil_of_length_eq_zero h0
    subst this
    exact strs_nil _ _ _
  · unfold maxLen at hm
    refine ⟨by omega, hs, _, _, rfl, hn, fun h0 => ⟨g, 0, rfl, (Array.getElem?_eq_some_iff.1 hheap).1, fun j hj => ?_⟩⟩
    rw [Nat.zero_add, World.ownsRow.cellAt h j (by omega), strV_get l j hj]
theorem below_of_grown {w w' : World} {base : Nat} {v : Value} {l : List ByteArray} (h : GrowsS w base v l) (hb : base ≤ w.heap.size) (hg : w.grownBy w' v.ownBlock) : Below base w w' :=
  (Below.refl _ _).grown hg hb (fun k hk => (World.ownsRow.lt h k hk).1)
/-- ids = append(ids, x). -/
theorem wp_append_str {w : World} {ops : Array Oper} {rest : List Oper} {o : Oper} {a : Act} {Q : Exit → Act → World → Prop} (hgd : o.guard = none) (s x : Operand)
    (ho : o.op = .call { callee := .builtin .append, args := #[s, x], argTypes := #[28, 28] }) (base : Nat) (v : Value) (l : List ByteArray) (t : ByteArray) (hs : a.eval s = v) (hown : GrowsS w base v l)
    (h c : Nat) (hx : a.eval x = .slice (some ⟨h, 0, none⟩) 1 c) (hX : w.cell? ⟨h, 0, none⟩ = some (.string t)) (hlen : l.length ≤ 1048576) (hbase : base ≤ w.heap.size)
    (hK : ∀ v' w', GrowsS w' base v' (l ++ [t]) → w.grownBy w' v.ownBlock → wpList Tryd.prog ops Q rest (a.put o.dst v') w') : wpList Tryd.prog ops Q (o :: rest) a w := by
  obtain ⟨i0, hi, hz0, hz1, hz2⟩ := info_parts Tryd.info9
  refine wpList_append_own w hgd s x 28 ho base 9 i0 (.string ByteArray.empty) 1 16 Tryd.underlying28 hi hz0 hz1 hz2 rfl (by decide) v l.length (strV l) hs hown ⟨h, 0, none⟩ 1 c [.string t] hx (by simp) ?_ (by intro u hu; simp at hu; subst hu; rfl) (by unfold maxLen; omega) (by omega) hbase ?_
  · intro j u hj
    match j, hj with
    | 0, hj => simp at hj; subst hj; simpa [Addr.add] using hX
    | j + 1, hj => simp at hj
  · intro v' w' h1 h2 _
    refine hK v' w' ?_ h2
    unfold GrowsS
    rw [List.length_append]
    simpa [strV] using h1
theorem step_append_str {w : World} {ops : Array Oper} {o : Oper} {a : Act} {K : Act → World → Prop} {Q : Exit → Act → World → Prop} {E : Prop} (hgd : o.guard = none) (s x : Operand)
    (ho : o.op = .call { callee := .builtin .append, args := #[s, x], argTypes := #[28, 28] }) (base : Nat) (v : Value) (l : List ByteArray) (t : ByteArray) (hs : a.eval s = v) (hown : GrowsS w base v l)
    (h c : Nat) (hx : a.eval x = .slice (some ⟨h, 0, none⟩) 1 c) (hX : w.cell? ⟨h, 0, none⟩ = some (.string t)) (hlen : l.length ≤ 1048576) (hbase : base ≤ w.heap.size)
    (hK : ∀ v' w', GrowsS w' base v' (l ++ [t]) → w.grownBy w' v.ownBlock → K (a.put o.dst v') w') : if Region.wanted o (yielded ops a.tmps) = true then Oper.wp Tryd.prog o a w K Q else E := by
  have hw : Region.wanted o (yielded ops a.tmps) = true := by simp [Region.wanted, hgd]
  rw [if_pos hw]
  obtain ⟨i0, hi, hz0, hz1, hz2⟩ := info_parts Tryd.info9
  refine wp_append_own w s x 28 ho base 9 i0 (.string ByteArray.empty) 1 16 Tryd.underlying28 hi hz0 hz1 hz2 rfl (by decide) v l.length (strV l) hs hown ⟨h, 0, none⟩ 1 c [.string t] hx (by simp) ?_ (by intro u hu; simp at hu; subst hu; rfl) (by unfold maxLen; omega) (by omega) hbase ?_
  · intro j u hj
    match j, hj with
    | 0, hj => simp at hj; subst hj; simpa [Addr.add] using hX
    | j + 1, hj => simp at hj
  · intro v' w' h1 h2 _
    refine hK v' w' ?_ h2
    unfold GrowsS
    rw [List.length_append]
    simpa [strV] using h1
end Go.Proofs.YtemhhjkmolndbaaDoor
/- The model's readers of fields. -/
namespace Go.Proofs.YtemhhjkmolndbaaDoor
open Go.RowKit Go.PlainAid
set_option linter.unusedVariables false

theorem spec_rv (s : ByteArray) (w : World) (hs : s.size ≤ 1048576) : Calls Tryd.prog 139 #[.string s] w fun e w' => e = .returned (.tuple #[.int .i64 (rvN s), .int .i64 (rvK s : Nat)]) ∧ Below w.heap.size w w' := by
  have hm : s.size ≤ maxLen := by unfold maxLen; omega
  by_cases h : rvK s = 0
  · have hn : rvN s = 0 := by unfold rvN; rw [if_pos h]
    rw [h, hn]
    refine spec_rv_miss s w hm fun k k1 k7 ks => ?_
    rcases first_low s with ⟨t, ht, h6, hh, hb⟩ | hh
    · have e := rv_hit s t ht h6 hh hb
      have hz : ¬ (t = 0 ∨ bt s t ≠ 0) := by
        intro hz
        unfold rvK at h
        rw [e] at h
        simp only at h
        rw [if_pos hz] at h
        omega
      have hb0 : bt s t = 0 := Decidable.byContradiction fun h => hz (Or.inr h)
      by_cases c1 : k ≤ t
      · exact noVar_high s k k1 ks (hh (k - 1) (by omega))
      · by_cases c2 : k = t + 1
        · exact noVar_zero s k (by omega) ks (by rw [show k - 1 = t by omega]; exact hb0)
        · exact noVar_low s k t ks (by omega) hb
    · exact noVar_high s k k1 ks (hh (k - 1) (by omega) (by omega))
  · obtain ⟨t, e, ht, h6, hh, hb, hz⟩ := rvK_pos s h
    have hn : rvN s = rvr s (t + 1) (t + 1) := by unfold rvN; rw [if_neg h, e, acc_eq]
    rw [hn, e]
    refine (spec_rv_hit s t w hm ht h6 (fun k k1 kt => noVar_high s k k1 (by omega) (hh (k - 1) (by omega))) (isVar_of s t ht hh hb hz)).mono fun e' w' ⟨he, hw⟩ => ⟨by rw [he]; simp, hw⟩

/-- A state of the reading is the rest of s. -/
def Suf (s : ByteArray) : Option ByteArray → Prop
  | none => True
  | some r => r.size ≤ s.size ∧ r = s.extract (s.size - r.size) s.size
/-- The place of a state in s. -/
def posI (s : ByteArray) : Option ByteArray → Int
  | none => -1
  | some r => ((s.size - r.size : Nat) : Int)
theorem suf_all (s : ByteArray) : Suf s (some s) := ⟨Nat.le_refl _, by rw [Nat.sub_self, ext_all]⟩
theorem suf_cut (s r : ByteArray) (k : Nat) (h : Suf s (some r)) (hk : k ≤ r.size) : Suf s (some (r.extract k r.size)) := by
  obtain ⟨h1, h2⟩ := h
  have hz : (r.extract k r.size).size = r.size - k := ext_size r k _ (Nat.le_refl _)
  refine ⟨by omega, ?_⟩
  rw [hz]
  have e : r.extract k r.size = (s.extract (s.size - r.size) s.size).extract k r.size := by rw [← h2]
  rw [e, ext_ext s _ _ _ _ (Nat.le_refl _) (by omega)]
  congr 1 <;> omega
theorem suf_N (s : ByteArray) (st : Option ByteArray) (h : Suf s st) : Suf s (oN st).2 := by
  cases st with
  | none => trivial
  | some r =>
    by_cases hk : rvK r = 0
    · rw [oN_bad r hk]; trivial
    · rw [oN_ok r hk]; exact suf_cut s r _ h (rvK_le r)
theorem suf_B (s : ByteArray) (n : Int) (st : Option ByteArray) (h0 : 0 ≤ n) (h : Suf s st) : Suf s (oB n st).2 := by
  cases st with
  | none => trivial
  | some r =>
    by_cases hk : (r.size : Int) < n
    · rw [oB_bad r n hk]; trivial
    · rw [oB_ok r n (by omega)]; exact suf_cut s r _ h (by omega)
theorem suf_T (s : ByteArray) (st : Option ByteArray) (h : Suf s st) : Suf s (oT st).2 := suf_B s _ _ (oN_nonneg st) (suf_N s st h)
/-- So many numbers off the front. -/
def vS (st : Option ByteArray) : Nat → Option ByteArray
  | 0 => st
  | k + 1 => (oN (vS st k)).2
def vL (st : Option ByteArray) : Nat → List Int
  | 0 => []
  | k + 1 => vL st k ++ [(oN (vS st k)).1]
theorem vL_length (st : Option ByteArray) (k : Nat) : (vL st k).length = k := by
  induction k with
  | zero => rfl
  | succ k ih => simp [vL, ih]
theorem vS_none (st : Option ByteArray) (k : Nat) (h : vS st k = none) (m : Nat) : vS st (k + m) = none := by
  induction m with
  | zero => exact h
  | succ m ih => show (oN (vS st (k + m))).2 = none; rw [ih]; rfl
theorem suf_V (s : ByteArray) (st : Option ByteArray) (h : Suf s st) (k : Nat) : Suf s (vS st k) := by
  induction k with
  | zero => exact h
  | succ k ih => exact suf_N s _ ih

set_option maxHeartbeats 1000000 in
theorem vars_c (s : ByteArray) (st : Option ByteArray) (n : Nat) (w : World) (hs : s.size ≤ 1048576) (hsf : Suf s st) (hn : n ≤ 4) :
    Calls Tryd.prog 130 #[.string s, .int .i64 (posI s st), .int .i64 n] w fun e w' => (∃ v, e = .returned (.tuple #[v, .int .i64 (posI s (vS st n))]) ∧ (∃ a m c, v = .slice a m c) ∧ (vS st n ≠ none → GrowsI w' w.heap.size v (vL st n))) ∧ Below w.heap.size w w' := by
  have HSF := Lib.hid (suf_V s st hsf)
  clear hsf
  obtain ⟨p0, hp0⟩ : ∃ p, posI s st = p := ⟨_, rfl⟩
  rw [hp0]
  have HP0 := Lib.hid hp0
  clear hp0
  go_enter Tryd.func130, Tryd.ntmps130
  go_wp2
  go_loopw [1, 8, 9] (fun p v i wr => ∃ k : Nat, k ≤ n ∧ i = .int .i64 k ∧ p = .int .i64 (posI s (vS st k)) ∧ GrowsI wr w.heap.size v (vL st k) ∧ Below w.heap.size w wr) (fun _ _ i _ => n - (intOf i).toNat)
  case atStart => exact ⟨0, by omega, rfl, by rw [← HP0.out]; rfl, growsI_empty w, (Below.refl _ _).alloc (Nat.le_refl _) _⟩
  case round =>
    clear HP0
    obtain ⟨k, hk, rfl, rfl, hv, hb⟩ := hrel
    have HV := Lib.hid hv
    have HB := Lib.hid hb
    have HF := Lib.hid hv.form
    clear hv hb
    by_cases hlt : k < n
    · cases hst : vS st k with
      | none =>
        have HE := Lib.hid (show vS st n = none by have := vS_none st k hst (n - k); rwa [show k + (n - k) = n by omega] at this)
        have hp : posI s none = -1 := rfl
        rw [hp]
        go_wp2
        go_ret2
        rw [HE.out]
        exact ⟨⟨_, rfl, HF.out, fun h => absurd rfl h⟩, HB.out⟩
      | some r =>
        have hsu := HSF.out k
        rw [hst] at hsu
        obtain ⟨z1, z2⟩ := hsu
        have hp : posI s (some r) = ((s.size - r.size : Nat) : Int) := rfl
        rw [hp]
        have HST := Lib.hid hst
        have HZ := Lib.hid z2
        clear hst z2 hp
        obtain ⟨q, hq⟩ : ∃ q, s.size - r.size = q := ⟨_, rfl⟩
        rw [hq]
        have hq1 : q ≤ s.size := by omega
        have hq2 : q + r.size = s.size := by omega
        have HQ := Lib.hid hq
        clear hq
        have hx : s.extract q s.size = r := by rw [← HQ.out]; exact HZ.out.symm
        have hr : r.size ≤ 1048576 := by omega
        have hl : (vL st k).length ≤ 4 := by rw [vL_length]; omega
        have r7 := rvK_le7 r
        have HX := Lib.hid hx
        have hbs := HB.out.size
        go_wp2_with fail
        refine (spec_rv r _ hr).mono ?_
        rintro e w1 ⟨rfl, hb1⟩
        have HV1 := Lib.hid (HV.out.later hb1)
        have HB1 := Lib.hid (HB.out.trans (hb1.mono hbs))
        have hbs1 := hb1.size
        clear HV HB hb1 hx
        by_cases hk0 : rvK r = 0
        · have hkz : (((rvK r : Nat) : Int) == 0) = true := by rw [hk0]; rfl
          have hst2 : vS st (k + 1) = none := by show (oN (vS st k)).2 = none; rw [HST.out, oN_bad r hk0]
          have HE := Lib.hid (show vS st n = none by have := vS_none st (k + 1) hst2 (n - (k + 1)); rwa [show k + 1 + (n - (k + 1)) = n by omega] at this)
          clear hk0 hst2
          go_wp2
          go_ret2
          rw [HE.out]
          exact ⟨⟨_, rfl, HF.out, fun h => absurd rfl h⟩, HB1.out⟩
        · have hkz : (((rvK r : Nat) : Int) == 0) = false := beq_no (by omega)
          have hE1 : oN (vS st k) = (rvN r, some (r.extract (rvK r) r.size)) := by rw [HST.out, oN_ok r hk0]
          have HE1 := Lib.hid hE1
          have hle := rvK_le r
          clear hk0 hE1
          go_wp2_with (at_builtin; refine wp_append_ints rfl (.tmp 37) (.tmp 39) rfl w.heap.size _ (vL st k) [rvN r] rfl (HV1.out.alloc _) w1.heap.size 1 1 rfl rfl (srcI_one w1 _) (by omega) (by simp; omega) ?_; intro v' w' hv' hb')
          go_roundw
          case rel =>
            refine ⟨k + 1, by omega, by go_num, ?_, ?_, ?_⟩
            · show _ = Value.int .i64 (posI s (oN (vS st k)).2)
              rw [HE1.out]
              show _ = Value.int .i64 ((s.size - (r.extract (rvK r) r.size).size : Nat) : Int)
              rw [ext_size r _ _ (Nat.le_refl _)]
              congr 1
              omega
            · show GrowsI _ _ _ (vL st k ++ [(oN (vS st k)).1])
              rw [HE1.out]
              exact hv'
            · exact (HB1.out.alloc (by omega) _).trans hb'
          case measure => simp only [intOf]; omega
    · obtain rfl : k = n := by omega
      go_wp2
      go_ret2
      exact ⟨⟨_, rfl, HF.out, fun _ => HV.out⟩, HB.out⟩
end Go.Proofs.YtemhhjkmolndbaaDoor
/- The model's l4Take. -/
namespace Go.Proofs.YtemhhjkmolndbaaDoor
open Go.RowKit Go.PlainAid
set_option linter.unusedVariables false

set_option maxRecDepth 100000 in
set_option maxHeartbeats 1000000 in
theorem take_c (s : ByteArray) (st : Option ByteArray) (w : World) (hs : s.size ≤ 1048576) (hsf : Suf s st) :
    Calls Tryd.prog 112 #[.string s, .int .i64 (posI s st)] w fun e w' => e = .returned (.tuple #[.string (oT st).1, .int .i64 (posI s (oT st).2)]) ∧ Below w.heap.size w w' := by
  have hsu := suf_N s st hsf
  have hvars := vars_c s st 1 w hs hsf (by decide)
  have h0 := oN_nonneg st
  have h1 := oN_le st
  unfold oT
  have ev : vS st 1 = (oN st).2 := rfl
  have el : vL st 1 = [(oN st).1] := rfl
  rw [ev, el] at hvars
  clear ev el hsf
  generalize posI s st = p0 at *
  obtain ⟨m, hm⟩ := Int.eq_ofNat_of_zero_le h0
  rw [hm] at h1 hvars ⊢
  clear h0 hm
  generalize (oN st).2 = st1 at *
  have HV := Lib.hid hvars
  clear hvars
  cases st1 with
  | none =>
    rw [oB_none]
    go_enter Tryd.func112, Tryd.ntmps112
    go_wp2_with fail
    refine HV.out.mono ?_
    rintro e w1 ⟨⟨v, rfl, ⟨a, k, c, rfl⟩, _⟩, hb⟩
    have HB := Lib.hid hb
    have hp : posI s none = -1 := rfl
    rw [hp]
    clear hb
    go_wp2
    go_ret2
    exact ⟨rfl, HB.out⟩
  | some r =>
    obtain ⟨z1, z2⟩ := hsu
    have hp : posI s (some r) = ((s.size - r.size : Nat) : Int) := rfl
    rw [hp] at HV
    obtain ⟨q, hq⟩ : ∃ q, s.size - r.size = q := ⟨_, rfl⟩
    rw [hq] at HV z2
    have hq2 : q + r.size = s.size := by omega
    clear hp
    by_cases hbad : (r.size : Int) < (m : Int)
    · rw [oB_bad r _ hbad]
      clear z2 hq
      go_enter Tryd.func112, Tryd.ntmps112
      go_wp2_with fail
      refine HV.out.mono ?_
      rintro e w1 ⟨⟨v, rfl, _, hv⟩, hb⟩
      obtain ⟨g, cap, rfl, hg, hc⟩ := (hv (by simp)).cell (by simp)
      have c0 := hc 0 _ rfl
      have HB := Lib.hid hb
      clear hb hv hc HV
      go_wp2
      go_ret2
      exact ⟨rfl, HB.out⟩
    · rw [oB_ok r _ (by omega)]
      simp only [Int.toNat_natCast]
      have e1 : r.extract 0 m = s.extract q (q + m) := by
        rw [z2, ext_ext s _ _ _ _ (Nat.le_refl _) (by omega)]
        rfl
      have e2 : posI s (some (r.extract m r.size)) = (q : Int) + m := by
        show ((s.size - (r.extract m r.size).size : Nat) : Int) = _
        rw [ext_size r _ _ (Nat.le_refl _)]
        omega
      rw [e1, e2]
      clear z2 hq e1 e2
      have hbd : q + m ≤ s.size := by omega
      go_enter Tryd.func112, Tryd.ntmps112
      go_wp2_with fail
      refine HV.out.mono ?_
      rintro e w1 ⟨⟨v, rfl, _, hv⟩, hb⟩
      obtain ⟨g, cap, rfl, hg, hc⟩ := (hv (by simp)).cell (by simp)
      have c0 := hc 0 _ rfl
      have HB := Lib.hid hb
      clear hb hv hc HV
      go_wp2_with fail
      have y1 : (q : Int) ≤ (s.size : Int) := by omega
      have y2 : (q : Int) + (m : Int) ≤ (s.size : Int) := by omega
      have y3 : IntKind.i64.wrap ((q : Int) + (m : Int)) = (q : Int) + (m : Int) := IntWalk.i64_in _ (by omega)
      go_quiet (fail)
      go_wp2
      go_ret2
      exact ⟨rfl, dn HB.out _⟩
end Go.Proofs.YtemhhjkmolndbaaDoor
