/- When a command is valid: the program's walks. -/
import Derived.Test.YtlbebeedkcdgpaaDoorOkM
import Derived.Test.YtlbebeedkcdgpaaDoorStrsL
namespace Go.Proofs.YtlbebeedkcdgpaaDoor
open Go.RowKit Go.PlainAid
set_option linter.unusedVariables false

set_option maxHeartbeats 400000 in
theorem in_range (a lo hi : Int) (w : World) : Calls Tryd.prog 61 #[.int .i64 a, .int .i64 lo, .int .i64 hi] w fun e w' => e = .returned (.bool (inB a lo hi)) ∧ w = w' := by
  by_cases h1 : lo ≤ a
  · by_cases h2 : a ≤ hi
    · rw [inB_t h1 h2]
      go_enter Tryd.func61, Tryd.ntmps61
      go_wp2
      go_ret
      exact ⟨rfl, rfl⟩
    · rw [inB_f (.inr (by omega))]
      have hd : decide (a ≤ hi) = false := by simp; omega
      go_enter Tryd.func61, Tryd.ntmps61
      go_wp2
      go_ret
      exact ⟨rfl, rfl⟩
  · rw [inB_f (.inl (by omega))]
    have hd : decide (lo ≤ a) = false := by simp; omega
    go_enter Tryd.func61, Tryd.ntmps61
    go_wp2
    go_ret
    exact ⟨rfl, rfl⟩
set_option maxHeartbeats 400000 in
theorem word_ok (s : ByteArray) (w : World) (hs : s.size ≤ 9223372036854775807) : Calls Tryd.prog 81 #[.string s] w fun e w' => e = .returned (.bool (wordB s)) ∧ w = w' := by
  cases hin : inB s.size 1 8
  · have HW := Lib.hid (wordB_len hin)
    go_enter Tryd.func81, Tryd.ntmps81
    go_wp2_with (go_at_call 61; refine (in_range _ _ _ _).mono ?_; rintro e w' ⟨rfl, rfl⟩)
    go_ret
    exact ⟨by rw [HW.out]; rfl, rfl⟩
  · have HI := Lib.hid hin
    go_enter Tryd.func81, Tryd.ntmps81
    go_wp2_with (go_at_call 61; refine (in_range _ _ _ _).mono ?_; rintro e w' ⟨rfl, rfl⟩)
    clear hin
    go_loop [10] (fun i => ∃ k : Nat, k ≤ s.size ∧ i = .int .i64 k ∧ (∀ j, j < k → 97 ≤ bt s j ∧ bt s j ≤ 122)) (fun i => s.size - (intOf i).toNat)
    case atStart => exact ⟨0, by omega, rfl, fun j hj => by omega⟩
    case round =>
      obtain ⟨k, hk, rfl, he⟩ := hrel
      have HE := Lib.hid he
      clear he
      by_cases hlt : k < s.size
      · have hg := get_bt s k hlt
        have b0 := bt_nonneg s k
        have b1 := bt_le s k
        by_cases c1 : bt s k < 97
        · have HW := Lib.hid (wordB_bad k hlt (.inl c1))
          go_wp2
          go_ret
          exact ⟨by rw [HW.out]; rfl, rfl⟩
        · by_cases c2 : 122 < bt s k
          · have HW := Lib.hid (wordB_bad k hlt (.inr c2))
            go_wp2
            go_ret
            exact ⟨by rw [HW.out]; rfl, rfl⟩
          · go_wp2
            go_round
            case rel =>
              refine ⟨k + 1, by omega, by go_num, fun j hj => ?_⟩
              by_cases e : j = k
              · subst e; omega
              · exact HE.out j (by omega)
            case measure => simp only [intOf]; omega
      · obtain rfl : k = s.size := by omega
        have HW := Lib.hid ((wordB_iff s).2 ⟨HI.out, fun j hj => HE.out j hj⟩)
        go_wp2
        go_ret
        exact ⟨by rw [HW.out]; rfl, rfl⟩
set_option maxHeartbeats 400000 in
theorem word_where (b : Bool) (s : ByteArray) (w : World) (hs : s.size ≤ 9223372036854775807) : Calls Tryd.prog 79 #[.bool b, .string s] w fun e w' => e = .returned (.bool (mayB b s)) ∧ w = w' := by
  cases b
  · rw [mayB_false]
    by_cases h : s.size = 0
    · obtain rfl := size_zero h
      go_enter Tryd.func79, Tryd.ntmps79
      go_wp2
      go_ret
      exact ⟨rfl, rfl⟩
    · have hn : s ≠ ⟨#[]⟩ := fun e => h (by rw [e]; rfl)
      have hb : s.toList.isEmpty = false := by
        cases e : s.toList.isEmpty
        · rfl
        · exact absurd (str_eq (by rw [List.isEmpty_iff.1 e, Lib.toList_data])) hn
      rw [decide_eq_false h]
      clear h hn
      go_enter Tryd.func79, Tryd.ntmps79
      go_wp2
      go_ret
      exact ⟨by first | rfl | (simp [hb]), rfl⟩
  · rw [mayB_true]
    go_enter Tryd.func79, Tryd.ntmps79
    go_wp2_with (go_at_call 81; refine (word_ok s _ hs).mono ?_; rintro e w' ⟨rfl, rfl⟩)
    go_ret
    exact ⟨rfl, rfl⟩
set_option maxHeartbeats 1000000 in
theorem numbers_ok (c : CmdM) (v : Value) (w : World) : Calls Tryd.prog 74 #[.agg #[.int .i64 c.kind, .int .i64 c.client, .int .i64 c.no, .string c.set, .string c.name, .string c.tag, .int .i64 c.n, v]] w fun e w' => e = .returned (.bool (numsB c)) ∧ Below w.heap.size w w' := by
  cases k5 : (c.kind == 5)
  case true =>
    cases h1 : inB c.kind 1 7
    case false =>
      have HF := Lib.hid (show numsB c = false by unfold numsB; simp [k5, h1])
      go_enter Tryd.func74, Tryd.ntmps74
      go_wp2_with (go_at_call 61; refine (in_range _ _ _ _).mono ?_; rintro e w' ⟨rfl, rfl⟩)
      go_ret
      exact ⟨by rw [HF.out]; rfl, (Below.refl _ _).alloc (Nat.le_refl _) _⟩
    cases h2 : inB c.client 1 9
    case false =>
      have HF := Lib.hid (show numsB c = false by unfold numsB; simp [k5, h1, h2])
      go_enter Tryd.func74, Tryd.ntmps74
      go_wp2_with (go_at_call 61; refine (in_range _ _ _ _).mono ?_; rintro e w' ⟨rfl, rfl⟩)
      go_ret
      exact ⟨by rw [HF.out]; rfl, (Below.refl _ _).alloc (Nat.le_refl _) _⟩
    cases h3 : inB c.no 1 1000
    case false =>
      have HF := Lib.hid (show numsB c = false by unfold numsB; simp [k5, h1, h2, h3])
      go_enter Tryd.func74, Tryd.ntmps74
      go_wp2_with (go_at_call 61; refine (in_range _ _ _ _).mono ?_; rintro e w' ⟨rfl, rfl⟩)
      go_ret
      exact ⟨by rw [HF.out]; rfl, (Below.refl _ _).alloc (Nat.le_refl _) _⟩
    cases h4 : inB c.n 0 9
    case false =>
      have HF := Lib.hid (show numsB c = false by unfold numsB; simp [k5, h1, h2, h3, h4])
      go_enter Tryd.func74, Tryd.ntmps74
      go_wp2_with (go_at_call 61; refine (in_range _ _ _ _).mono ?_; rintro e w' ⟨rfl, rfl⟩)
      go_ret
      exact ⟨by rw [HF.out]; rfl, (Below.refl _ _).alloc (Nat.le_refl _) _⟩
    have HF := Lib.hid (show numsB c = true by unfold numsB; simp [k5, h1, h2, h3, h4])
    go_enter Tryd.func74, Tryd.ntmps74
    go_wp2_with (go_at_call 61; refine (in_range _ _ _ _).mono ?_; rintro e w' ⟨rfl, rfl⟩)
    go_ret
    exact ⟨by rw [HF.out]; rfl, (Below.refl _ _).alloc (Nat.le_refl _) _⟩
  case false =>
    cases h1 : inB c.kind 1 7
    case false =>
      have HF := Lib.hid (show numsB c = false by unfold numsB; simp [k5, h1])
      go_enter Tryd.func74, Tryd.ntmps74
      go_wp2_with (go_at_call 61; refine (in_range _ _ _ _).mono ?_; rintro e w' ⟨rfl, rfl⟩)
      go_ret
      exact ⟨by rw [HF.out]; rfl, (Below.refl _ _).alloc (Nat.le_refl _) _⟩
    cases h2 : inB c.client 1 9
    case false =>
      have HF := Lib.hid (show numsB c = false by unfold numsB; simp [k5, h1, h2])
      go_enter Tryd.func74, Tryd.ntmps74
      go_wp2_with (go_at_call 61; refine (in_range _ _ _ _).mono ?_; rintro e w' ⟨rfl, rfl⟩)
      go_ret
      exact ⟨by rw [HF.out]; rfl, (Below.refl _ _).alloc (Nat.le_refl _) _⟩
    cases h3 : inB c.no 1 1000
    case false =>
      have HF := Lib.hid (show numsB c = false by unfold numsB; simp [k5, h1, h2, h3])
      go_enter Tryd.func74, Tryd.ntmps74
      go_wp2_with (go_at_call 61; refine (in_range _ _ _ _).mono ?_; rintro e w' ⟨rfl, rfl⟩)
      go_ret
      exact ⟨by rw [HF.out]; rfl, (Below.refl _ _).alloc (Nat.le_refl _) _⟩
    cases h4 : inB c.n 0 0
    case false =>
      have HF := Lib.hid (show numsB c = false by unfold numsB; simp [k5, h1, h2, h3, h4])
      go_enter Tryd.func74, Tryd.ntmps74
      go_wp2_with (go_at_call 61; refine (in_range _ _ _ _).mono ?_; rintro e w' ⟨rfl, rfl⟩)
      go_ret
      exact ⟨by rw [HF.out]; rfl, (Below.refl _ _).alloc (Nat.le_refl _) _⟩
    have HF := Lib.hid (show numsB c = true by unfold numsB; simp [k5, h1, h2, h3, h4])
    go_enter Tryd.func74, Tryd.ntmps74
    go_wp2_with (go_at_call 61; refine (in_range _ _ _ _).mono ?_; rintro e w' ⟨rfl, rfl⟩)
    go_ret
    exact ⟨by rw [HF.out]; rfl, (Below.refl _ _).alloc (Nat.le_refl _) _⟩
set_option maxHeartbeats 1000000 in
theorem texts_ok (c : CmdM) (v : Value) (w : World) (hs : c.set.size ≤ 9223372036854775807) (hn : c.name.size ≤ 9223372036854775807) (ht : c.tag.size ≤ 9223372036854775807) :
    Calls Tryd.prog 75 #[.agg #[.int .i64 c.kind, .int .i64 c.client, .int .i64 c.no, .string c.set, .string c.name, .string c.tag, .int .i64 c.n, v]] w fun e w' => e = .returned (.bool (textsB c)) ∧ Below w.heap.size w w' := by
  by_cases q3 : c.kind = 3
  case pos =>
    have e3 : (c.kind == 3) = true := by rw [q3]; decide
    have e4 : (c.kind == 4) = false := by rw [q3]; decide
    have e7 : (c.kind != 7) = true := by rw [q3]; decide
    clear q3
    cases h1 : mayB true c.set
    case false =>
      have HF := Lib.hid (show textsB c = false by unfold textsB; simp [e3, e4, e7, h1])
      go_enter Tryd.func75, Tryd.ntmps75
      go_wp2_with (go_at_call 79; refine (word_where _ _ _ ?_).mono ?_; (first | exact hs | exact hn | exact ht); rintro e w' ⟨rfl, rfl⟩)
      go_ret
      exact ⟨by rw [HF.out]; rfl, (Below.refl _ _).alloc (Nat.le_refl _) _⟩
    cases h2 : mayB true c.name
    case false =>
      have HF := Lib.hid (show textsB c = false by unfold textsB; simp [e3, e4, e7, h1, h2])
      go_enter Tryd.func75, Tryd.ntmps75
      go_wp2_with (go_at_call 79; refine (word_where _ _ _ ?_).mono ?_; (first | exact hs | exact hn | exact ht); rintro e w' ⟨rfl, rfl⟩)
      go_ret
      exact ⟨by rw [HF.out]; rfl, (Below.refl _ _).alloc (Nat.le_refl _) _⟩
    cases h3 : mayB false c.tag
    case false =>
      have HF := Lib.hid (show textsB c = false by unfold textsB; simp [e3, e4, e7, h1, h2, h3])
      go_enter Tryd.func75, Tryd.ntmps75
      go_wp2_with (go_at_call 79; refine (word_where _ _ _ ?_).mono ?_; (first | exact hs | exact hn | exact ht); rintro e w' ⟨rfl, rfl⟩)
      go_ret
      exact ⟨by rw [HF.out]; rfl, (Below.refl _ _).alloc (Nat.le_refl _) _⟩
    have HF := Lib.hid (show textsB c = true by unfold textsB; simp [e3, e4, e7, h1, h2, h3])
    go_enter Tryd.func75, Tryd.ntmps75
    go_wp2_with (go_at_call 79; refine (word_where _ _ _ ?_).mono ?_; (first | exact hs | exact hn | exact ht); rintro e w' ⟨rfl, rfl⟩)
    go_ret
    exact ⟨by rw [HF.out]; rfl, (Below.refl _ _).alloc (Nat.le_refl _) _⟩
  by_cases q4 : c.kind = 4
  case pos =>
    have e3 : (c.kind == 3) = false := by rw [q4]; decide
    have e4 : (c.kind == 4) = true := by rw [q4]; decide
    have e7 : (c.kind != 7) = true := by rw [q4]; decide
    clear q4 q3
    cases h1 : mayB true c.set
    case false =>
      have HF := Lib.hid (show textsB c = false by unfold textsB; simp [e3, e4, e7, h1])
      go_enter Tryd.func75, Tryd.ntmps75
      go_wp2_with (go_at_call 79; refine (word_where _ _ _ ?_).mono ?_; (first | exact hs | exact hn | exact ht); rintro e w' ⟨rfl, rfl⟩)
      go_ret
      exact ⟨by rw [HF.out]; rfl, (Below.refl _ _).alloc (Nat.le_refl _) _⟩
    cases h2 : mayB true c.name
    case false =>
      have HF := Lib.hid (show textsB c = false by unfold textsB; simp [e3, e4, e7, h1, h2])
      go_enter Tryd.func75, Tryd.ntmps75
      go_wp2_with (go_at_call 79; refine (word_where _ _ _ ?_).mono ?_; (first | exact hs | exact hn | exact ht); rintro e w' ⟨rfl, rfl⟩)
      go_ret
      exact ⟨by rw [HF.out]; rfl, (Below.refl _ _).alloc (Nat.le_refl _) _⟩
    cases h3 : mayB true c.tag
    case false =>
      have HF := Lib.hid (show textsB c = false by unfold textsB; simp [e3, e4, e7, h1, h2, h3])
      go_enter Tryd.func75, Tryd.ntmps75
      go_wp2_with (go_at_call 79; refine (word_where _ _ _ ?_).mono ?_; (first | exact hs | exact hn | exact ht); rintro e w' ⟨rfl, rfl⟩)
      go_ret
      exact ⟨by rw [HF.out]; rfl, (Below.refl _ _).alloc (Nat.le_refl _) _⟩
    have HF := Lib.hid (show textsB c = true by unfold textsB; simp [e3, e4, e7, h1, h2, h3])
    go_enter Tryd.func75, Tryd.ntmps75
    go_wp2_with (go_at_call 79; refine (word_where _ _ _ ?_).mono ?_; (first | exact hs | exact hn | exact ht); rintro e w' ⟨rfl, rfl⟩)
    go_ret
    exact ⟨by rw [HF.out]; rfl, (Below.refl _ _).alloc (Nat.le_refl _) _⟩
  by_cases q7 : c.kind = 7
  case pos =>
    have e3 : (c.kind == 3) = false := by rw [q7]; decide
    have e4 : (c.kind == 4) = false := by rw [q7]; decide
    have e7 : (c.kind != 7) = false := by rw [q7]; decide
    clear q7 q3 q4
    cases h1 : mayB false c.set
    case false =>
      have HF := Lib.hid (show textsB c = false by unfold textsB; simp [e3, e4, e7, h1])
      go_enter Tryd.func75, Tryd.ntmps75
      go_wp2_with (go_at_call 79; refine (word_where _ _ _ ?_).mono ?_; (first | exact hs | exact hn | exact ht); rintro e w' ⟨rfl, rfl⟩)
      go_ret
      exact ⟨by rw [HF.out]; rfl, (Below.refl _ _).alloc (Nat.le_refl _) _⟩
    cases h2 : mayB false c.name
    case false =>
      have HF := Lib.hid (show textsB c = false by unfold textsB; simp [e3, e4, e7, h1, h2])
      go_enter Tryd.func75, Tryd.ntmps75
      go_wp2_with (go_at_call 79; refine (word_where _ _ _ ?_).mono ?_; (first | exact hs | exact hn | exact ht); rintro e w' ⟨rfl, rfl⟩)
      go_ret
      exact ⟨by rw [HF.out]; rfl, (Below.refl _ _).alloc (Nat.le_refl _) _⟩
    cases h3 : mayB false c.tag
    case false =>
      have HF := Lib.hid (show textsB c = false by unfold textsB; simp [e3, e4, e7, h1, h2, h3])
      go_enter Tryd.func75, Tryd.ntmps75
      go_wp2_with (go_at_call 79; refine (word_where _ _ _ ?_).mono ?_; (first | exact hs | exact hn | exact ht); rintro e w' ⟨rfl, rfl⟩)
      go_ret
      exact ⟨by rw [HF.out]; rfl, (Below.refl _ _).alloc (Nat.le_refl _) _⟩
    have HF := Lib.hid (show textsB c = true by unfold textsB; simp [e3, e4, e7, h1, h2, h3])
    go_enter Tryd.func75, Tryd.ntmps75
    go_wp2_with (go_at_call 79; refine (word_where _ _ _ ?_).mono ?_; (first | exact hs | exact hn | exact ht); rintro e w' ⟨rfl, rfl⟩)
    go_ret
    exact ⟨by rw [HF.out]; rfl, (Below.refl _ _).alloc (Nat.le_refl _) _⟩
  have e3 := beq_no q3
  have e4 := beq_no q4
  have e7 := bne_yes q7
  clear q3 q4 q7
  cases h1 : mayB true c.set
  case false =>
    have HF := Lib.hid (show textsB c = false by unfold textsB; simp [e3, e4, e7, h1])
    go_enter Tryd.func75, Tryd.ntmps75
    go_wp2_with (go_at_call 79; refine (word_where _ _ _ ?_).mono ?_; (first | exact hs | exact hn | exact ht); rintro e w' ⟨rfl, rfl⟩)
    go_ret
    exact ⟨by rw [HF.out]; rfl, (Below.refl _ _).alloc (Nat.le_refl _) _⟩
  cases h2 : mayB false c.name
  case false =>
    have HF := Lib.hid (show textsB c = false by unfold textsB; simp [e3, e4, e7, h1, h2])
    go_enter Tryd.func75, Tryd.ntmps75
    go_wp2_with (go_at_call 79; refine (word_where _ _ _ ?_).mono ?_; (first | exact hs | exact hn | exact ht); rintro e w' ⟨rfl, rfl⟩)
    go_ret
    exact ⟨by rw [HF.out]; rfl, (Below.refl _ _).alloc (Nat.le_refl _) _⟩
  cases h3 : mayB false c.tag
  case false =>
    have HF := Lib.hid (show textsB c = false by unfold textsB; simp [e3, e4, e7, h1, h2, h3])
    go_enter Tryd.func75, Tryd.ntmps75
    go_wp2_with (go_at_call 79; refine (word_where _ _ _ ?_).mono ?_; (first | exact hs | exact hn | exact ht); rintro e w' ⟨rfl, rfl⟩)
    go_ret
    exact ⟨by rw [HF.out]; rfl, (Below.refl _ _).alloc (Nat.le_refl _) _⟩
  have HF := Lib.hid (show textsB c = true by unfold textsB; simp [e3, e4, e7, h1, h2, h3])
  go_enter Tryd.func75, Tryd.ntmps75
  go_wp2_with (go_at_call 79; refine (word_where _ _ _ ?_).mono ?_; (first | exact hs | exact hn | exact ht); rintro e w' ⟨rfl, rfl⟩)
  go_ret
  exact ⟨by rw [HF.out]; rfl, (Below.refl _ _).alloc (Nat.le_refl _) _⟩
set_option maxHeartbeats 400000 in
theorem ids_ok (v : Value) (l : List ByteArray) (w : World) (hv : Strs w v l) : Calls Tryd.prog 80 #[v] w fun e w' => e = .returned (.bool (idsB l)) ∧ w = w' := by
  obtain ⟨k1, k2, a, ca, rfl, hca, ha⟩ := hv
  cases hin : inB l.length 1 4
  · have HW := Lib.hid (idsB_len hin)
    go_enter Tryd.func80, Tryd.ntmps80
    go_wp2_with (go_at_call 61; refine (in_range _ _ _ _).mono ?_; rintro e w' ⟨rfl, rfl⟩)
    go_ret
    exact ⟨by rw [HW.out]; rfl, rfl⟩
  · have HI := Lib.hid hin
    have HA := Lib.hid ha
    have HK := Lib.hid k2
    clear ha k2 hca
    go_enter Tryd.func80, Tryd.ntmps80
    go_wp2_with (go_at_call 61; refine (in_range _ _ _ _).mono ?_; rintro e w' ⟨rfl, rfl⟩)
    clear hin
    generalize hn : l.length = n at HI HA HK k1 ⊢
    have HN := Lib.hid hn
    clear hn
    go_loop [11] (fun i => ∃ k : Nat, k ≤ n ∧ i = .int .i64 k ∧ (∀ j, j < k → (el l j).size = 8)) (fun i => n - (intOf i).toNat)
    case atStart => exact ⟨0, by omega, rfl, fun j hj => by omega⟩
    case round =>
      obtain ⟨k, hk, rfl, he⟩ := hrel
      have HE := Lib.hid he
      clear he
      by_cases hlt : k < n
      · obtain ⟨x, o, rfl, hx, hcx⟩ := HA.out (by omega)
        have c1 := hcx k hlt
        clear hcx
        by_cases h8 : (el l k).size = 8
        · have H8 := Lib.hid h8
          have b8 : (((el l k).size : Int) != 8) = false := by simp; omega
          clear h8
          go_wp2
          go_round
          case rel =>
            refine ⟨k + 1, by omega, by go_num, fun j hj => ?_⟩
            by_cases e : j = k
            · subst e; exact H8.out
            · exact HE.out j (by omega)
          case measure => simp only [intOf]; omega
        · have HW := Lib.hid (idsB_bad k (by rw [HN.out]; exact hlt) h8)
          have b8 : (((el l k).size : Int) != 8) = true := by simp; omega
          clear h8
          go_wp2
          go_ret
          exact ⟨by rw [HW.out]; rfl, rfl⟩
      · obtain rfl : k = n := by omega
        have HW := Lib.hid ((idsB_iff l).2 ⟨by rw [HN.out]; exact HI.out, fun j hj => HE.out j (by rw [← HN.out]; exact hj)⟩)
        go_wp2
        go_ret
        exact ⟨by rw [HW.out]; rfl, rfl⟩
set_option maxHeartbeats 400000 in
theorem chunks_ok (c : CmdM) (v : Value) (w : World) (hv : Strs w v c.ch) : Calls Tryd.prog 76 #[.agg #[.int .i64 c.kind, .int .i64 c.client, .int .i64 c.no, .string c.set, .string c.name, .string c.tag, .int .i64 c.n, v]] w fun e w' => e = .returned (.bool (chunksB c)) ∧ Below w.heap.size w w' := by
  by_cases q3 : c.kind = 3
  · have e3 : (c.kind != 3) = false := by rw [q3]; decide
    have HF := Lib.hid (show chunksB c = idsB c.ch by unfold chunksB; simp [q3])
    have HV := Lib.hid hv
    clear q3 hv
    go_enter Tryd.func76, Tryd.ntmps76
    go_wp2_with (go_at_call 80; refine (ids_ok v c.ch _ (HV.out.alloc _)).mono ?_; rintro e w' ⟨rfl, rfl⟩)
    go_ret
    exact ⟨by rw [HF.out]; rfl, (Below.refl _ _).alloc (Nat.le_refl _) _⟩
  · have e3 := bne_yes q3
    have HF := Lib.hid (show chunksB c = decide (c.ch.length = 0) by unfold chunksB; simp [q3])
    clear q3
    obtain ⟨k1, k2, a, ca, rfl, hca, ha⟩ := hv
    clear ha k2
    by_cases h0 : c.ch.length = 0
    · have HZ := Lib.hid h0
      have hz : ((c.ch.length : Int) == 0) = true := by rw [h0]; rfl
      clear h0
      go_enter Tryd.func76, Tryd.ntmps76
      go_wp2
      go_ret
      exact ⟨by rw [HF.out, decide_eq_true HZ.out]; first | rfl | simp [hz], (Below.refl _ _).alloc (Nat.le_refl _) _⟩
    · have HZ := Lib.hid h0
      have hz : ((c.ch.length : Int) == 0) = false := beq_no (by omega)
      clear h0
      go_enter Tryd.func76, Tryd.ntmps76
      go_wp2
      go_ret
      exact ⟨by rw [HF.out, decide_eq_false HZ.out]; first | rfl | simp [hz], (Below.refl _ _).alloc (Nat.le_refl _) _⟩
end Go.Proofs.YtlbebeedkcdgpaaDoor
