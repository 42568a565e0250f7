/- When a command is valid: the model's walks. -/
import Derived.Test.YtlbebeedkcdgpaaDoorOkM
import Derived.Test.YtlbebeedkcdgpaaDoorCmdB
namespace Go.Proofs.YtlbebeedkcdgpaaDoor
open Go.RowKit Go.PlainAid
set_option linter.unusedVariables false

set_option maxHeartbeats 400000 in
theorem in_b (a lo hi : Int) (w : World) : Calls Tryd.prog 48 #[.int .i64 a, .int .i64 lo, .int .i64 hi] w fun e w' => e = .returned (.bool (inB a lo hi)) ∧ w = w' := by
  by_cases h1 : lo ≤ a
  · by_cases h2 : a ≤ hi
    · rw [inB_t h1 h2]
      go_enter Tryd.func48, Tryd.ntmps48
      go_wp2
      go_ret
      exact ⟨rfl, rfl⟩
    · rw [inB_f (.inr (by omega))]
      have hd : decide (a ≤ hi) = false := by simp; omega
      go_enter Tryd.func48, Tryd.ntmps48
      go_wp2
      go_ret
      exact ⟨rfl, rfl⟩
  · rw [inB_f (.inl (by omega))]
    have hd : decide (lo ≤ a) = false := by simp; omega
    go_enter Tryd.func48, Tryd.ntmps48
    go_wp2
    go_ret
    exact ⟨rfl, rfl⟩
set_option maxHeartbeats 400000 in
theorem word_b (s : ByteArray) (w : World) (hs : s.size ≤ 9223372036854775807) : Calls Tryd.prog 66 #[.string s] w fun e w' => e = .returned (.bool (wordB s)) ∧ w = w' := by
  cases hin : inB s.size 1 8
  · have HW := Lib.hid (wordB_len hin)
    go_enter Tryd.func66, Tryd.ntmps66
    go_wp2_with (go_at_call 48; refine (in_b _ _ _ _).mono ?_; rintro e w' ⟨rfl, rfl⟩)
    go_ret
    exact ⟨by rw [HW.out]; rfl, rfl⟩
  · have HI := Lib.hid hin
    go_enter Tryd.func66, Tryd.ntmps66
    go_wp2_with (go_at_call 48; refine (in_b _ _ _ _).mono ?_; rintro e w' ⟨rfl, rfl⟩)
    clear hin
    go_loop [3] (fun i => ∃ k : Nat, k ≤ s.size ∧ i = .int .i64 k ∧ (∀ j, j < k → 97 ≤ bt s j ∧ bt s j ≤ 122)) (fun i => s.size - (intOf i).toNat)
    case atStart => exact ⟨0, by omega, rfl, fun j hj => by omega⟩
    case round =>
      obtain ⟨k, hk, rfl, he⟩ := hrel
      have HE := Lib.hid he
      clear he
      by_cases hlt : k < s.size
      · have hg := get_bt s k hlt
        have b0 := bt_nonneg s k
        have b1 := bt_le s k
        by_cases c1 : bt s k < 97
        · have HW := Lib.hid (wordB_bad k hlt (.inl c1))
          go_wp2
          go_ret
          exact ⟨by rw [HW.out]; rfl, rfl⟩
        · by_cases c2 : 122 < bt s k
          · have HW := Lib.hid (wordB_bad k hlt (.inr c2))
            go_wp2
            go_ret
            exact ⟨by rw [HW.out]; rfl, rfl⟩
          · go_wp2
            go_round
            case rel =>
              refine ⟨k + 1, by omega, by go_num, fun j hj => ?_⟩
              by_cases e : j = k
              · subst e; omega
              · exact HE.out j (by omega)
            case measure => simp only [intOf]; omega
      · obtain rfl : k = s.size := by omega
        have HW := Lib.hid ((wordB_iff s).2 ⟨HI.out, fun j hj => HE.out j hj⟩)
        go_wp2
        go_ret
        exact ⟨by rw [HW.out]; rfl, rfl⟩
set_option maxHeartbeats 400000 in
theorem may_b (b : Bool) (s : ByteArray) (w : World) (hs : s.size ≤ 9223372036854775807) : Calls Tryd.prog 59 #[.string s, .bool b] w fun e w' => e = .returned (.bool (mayB b s)) ∧ w = w' := by
  cases b
  · rw [mayB_false]
    by_cases h : s.size = 0
    · obtain rfl := size_zero h
      go_enter Tryd.func59, Tryd.ntmps59
      go_wp2
      go_ret
      exact ⟨rfl, rfl⟩
    · have hn : s ≠ ⟨#[]⟩ := fun e => h (by rw [e]; rfl)
      have hb : s.toList.isEmpty = false := by
        cases e : s.toList.isEmpty
        · rfl
        · exact absurd (str_eq (by rw [List.isEmpty_iff.1 e, Lib.toList_data])) hn
      rw [decide_eq_false h]
      clear h hn
      go_enter Tryd.func59, Tryd.ntmps59
      go_wp2
      go_ret
      exact ⟨by first | rfl | (simp [hb]), rfl⟩
  · rw [mayB_true]
    go_enter Tryd.func59, Tryd.ntmps59
    go_wp2_with (go_at_call 66; refine (word_b s _ hs).mono ?_; rintro e w' ⟨rfl, rfl⟩)
    go_ret
    exact ⟨rfl, rfl⟩
set_option maxRecDepth 100000 in
set_option maxHeartbeats 4000000 in
theorem spec_ok_3 (c : CmdM) (v : Value) (w : World) (hv : Strs w v c.ch) (hs : c.set.size ≤ 9223372036854775807) (hn : c.name.size ≤ 9223372036854775807) (ht : c.tag.size ≤ 9223372036854775807) (q : c.kind = 3) :
    Calls Tryd.prog 49 #[.agg #[.int .i64 c.kind, .int .i64 c.client, .int .i64 c.no, .string c.set, .string c.name, .string c.tag, .int .i64 c.n, v]] w fun e w' => e = .returned (.bool (okB c)) ∧ Below w.heap.size w w' := by
  have hz : decide (c = zeroC) = false := decide_eq_false (fun e => absurd (e ▸ q : zeroC.kind = 3) (by decide))
  have k17 : inB c.kind 1 7 = true := inB_t (by omega) (by omega)
  have k07 : inB c.kind 0 7 = true := inB_t (by omega) (by omega)
  have e0 : (c.kind == 0) = false := by rw [q]; decide
  have e3 : (c.kind == 3) = true := by rw [q]; decide
  have e4 : (c.kind == 4) = false := by rw [q]; decide
  have n3 : (c.kind != 3) = false := by rw [q]; decide
  have e5 : (c.kind == 5) = false := by rw [q]; decide
  have n5 : (c.kind != 5) = true := by rw [q]; decide
  have n7 : (c.kind != 7) = true := by rw [q]; decide
  clear q
  obtain ⟨_, _, va, vcap, rfl, _, ha⟩ := hv
  have HA := Lib.hid ha
  clear ha
  cases h1 : inB c.client 1 9
  case false =>
    have HF := Lib.hid (show okB c = false by unfold okB numsB textsB chunksB; simp [hz, k17, e3, e4, e5, n7, h1])
    go_enter Tryd.func49, Tryd.ntmps49
    go_wp2_with (first | (go_at_call 48; refine (in_b _ _ _ _).mono ?_; rintro e w' ⟨rfl, rfl⟩) | (go_at_call 59; refine (may_b _ _ _ ?_).mono ?_; (first | exact hs | exact hn | exact ht); rintro e w' ⟨rfl, rfl⟩))
    go_ret
    exact ⟨by rw [HF.out]; rfl, (Below.refl _ _).alloc (Nat.le_refl _) _⟩
  cases h2 : inB c.no 1 1000
  case false =>
    have HF := Lib.hid (show okB c = false by unfold okB numsB textsB chunksB; simp [hz, k17, e3, e4, e5, n7, h1, h2])
    go_enter Tryd.func49, Tryd.ntmps49
    go_wp2_with (first | (go_at_call 48; refine (in_b _ _ _ _).mono ?_; rintro e w' ⟨rfl, rfl⟩) | (go_at_call 59; refine (may_b _ _ _ ?_).mono ?_; (first | exact hs | exact hn | exact ht); rintro e w' ⟨rfl, rfl⟩))
    go_ret
    exact ⟨by rw [HF.out]; rfl, (Below.refl _ _).alloc (Nat.le_refl _) _⟩
  cases h3 : mayB true c.set
  case false =>
    have HF := Lib.hid (show okB c = false by unfold okB numsB textsB chunksB; simp [hz, k17, e3, e4, e5, n7, h1, h2, h3])
    go_enter Tryd.func49, Tryd.ntmps49
    go_wp2_with (first | (go_at_call 48; refine (in_b _ _ _ _).mono ?_; rintro e w' ⟨rfl, rfl⟩) | (go_at_call 59; refine (may_b _ _ _ ?_).mono ?_; (first | exact hs | exact hn | exact ht); rintro e w' ⟨rfl, rfl⟩))
    go_ret
    exact ⟨by rw [HF.out]; rfl, (Below.refl _ _).alloc (Nat.le_refl _) _⟩
  cases h4 : mayB true c.name
  case false =>
    have HF := Lib.hid (show okB c = false by unfold okB numsB textsB chunksB; simp [hz, k17, e3, e4, e5, n7, h1, h2, h3, h4])
    go_enter Tryd.func49, Tryd.ntmps49
    go_wp2_with (first | (go_at_call 48; refine (in_b _ _ _ _).mono ?_; rintro e w' ⟨rfl, rfl⟩) | (go_at_call 59; refine (may_b _ _ _ ?_).mono ?_; (first | exact hs | exact hn | exact ht); rintro e w' ⟨rfl, rfl⟩))
    go_ret
    exact ⟨by rw [HF.out]; rfl, (Below.refl _ _).alloc (Nat.le_refl _) _⟩
  cases h5 : mayB false c.tag
  case false =>
    have HF := Lib.hid (show okB c = false by unfold okB numsB textsB chunksB; simp [hz, k17, e3, e4, e5, n7, h1, h2, h3, h4, h5])
    go_enter Tryd.func49, Tryd.ntmps49
    go_wp2_with (first | (go_at_call 48; refine (in_b _ _ _ _).mono ?_; rintro e w' ⟨rfl, rfl⟩) | (go_at_call 59; refine (may_b _ _ _ ?_).mono ?_; (first | exact hs | exact hn | exact ht); rintro e w' ⟨rfl, rfl⟩))
    go_ret
    exact ⟨by rw [HF.out]; rfl, (Below.refl _ _).alloc (Nat.le_refl _) _⟩
  by_cases n0 : c.n = 0
  · have m0 : (c.n != 0) = false := by rw [n0]; decide
    have h6 : inB c.n 0 0 = true := inB_t (by omega) (by omega)
    clear n0
    cases h7 : inB c.ch.length 1 4
    case false =>
      have hi := idsB_len h7
      have HF := Lib.hid (show okB c = false by unfold okB numsB textsB chunksB; simp [hz, k17, e3, e4, e5, n7, h1, h2, h3, h4, h5, h6, hi])
      go_enter Tryd.func49, Tryd.ntmps49
      go_wp2_with (first | (go_at_call 48; refine (in_b _ _ _ _).mono ?_; rintro e w' ⟨rfl, rfl⟩) | (go_at_call 59; refine (may_b _ _ _ ?_).mono ?_; (first | exact hs | exact hn | exact ht); rintro e w' ⟨rfl, rfl⟩))
      go_ret
      exact ⟨by rw [HF.out]; rfl, (Below.refl _ _).alloc (Nat.le_refl _) _⟩
    have HI := Lib.hid h7
    have HO := Lib.hid (show okB c = idsB c.ch by unfold okB numsB textsB chunksB; simp [hz, k17, e3, e4, e5, n7, h1, h2, h3, h4, h5, h6])
    go_enter Tryd.func49, Tryd.ntmps49
    go_wp2_with (first | (go_at_call 48; refine (in_b _ _ _ _).mono ?_; rintro e w' ⟨rfl, rfl⟩) | (go_at_call 59; refine (may_b _ _ _ ?_).mono ?_; (first | exact hs | exact hn | exact ht); rintro e w' ⟨rfl, rfl⟩))
    clear hz k17 k07 e0 e3 e4 n3 e5 n5 n7 h1 h2 h3 h4 h5 h6 h7
    have hl4 : c.ch.length ≤ 4 := by have := (inB_iff _ _ _).1 HI.out; omega
    go_loop [4] (fun i => ∃ k : Nat, k ≤ c.ch.length ∧ i = .int .i64 k ∧ (∀ j, j < k → (el c.ch j).size = 8)) (fun i => c.ch.length - (intOf i).toNat)
    case atStart => exact ⟨0, by omega, rfl, fun j hj => by omega⟩
    case round =>
      obtain ⟨k, hk, rfl, he⟩ := hrel
      have HE := Lib.hid he
      clear he
      by_cases hlt : k < c.ch.length
      · obtain ⟨x, o, rfl, hx, hcx⟩ := HA.out (by omega)
        have c1 := hcx k hlt
        clear hcx
        by_cases h8 : (el c.ch k).size = 8
        · have H8 := Lib.hid h8
          have b8 : (((el c.ch k).size : Int) != 8) = false := by simp; omega
          clear h8
          go_wp2
          go_round
          case rel =>
            refine ⟨k + 1, by omega, by go_num, fun j hj => ?_⟩
            by_cases e : j = k
            · subst e; exact H8.out
            · exact HE.out j (by omega)
          case measure => simp only [intOf]; omega
        · have HW := Lib.hid (idsB_bad k hlt h8)
          have b8 : (((el c.ch k).size : Int) != 8) = true := by simp; omega
          clear h8
          go_wp2
          go_ret
          exact ⟨by rw [HO.out, HW.out]; rfl, (Below.refl _ _).alloc (Nat.le_refl _) _⟩
      · obtain rfl : k = c.ch.length := by omega
        have HW := Lib.hid ((idsB_iff c.ch).2 ⟨HI.out, fun j hj => HE.out j hj⟩)
        go_wp2
        go_ret
        exact ⟨by rw [HO.out, HW.out]; rfl, (Below.refl _ _).alloc (Nat.le_refl _) _⟩
  · have m0 := bne_yes n0
    have h6 : inB c.n 0 0 = false := inB_f (by omega)
    clear n0
    have HF := Lib.hid (show okB c = false by unfold okB numsB textsB chunksB; simp [hz, k17, e3, e4, e5, n7, h1, h2, h3, h4, h5, h6])
    go_enter Tryd.func49, Tryd.ntmps49
    go_wp2_with (first | (go_at_call 48; refine (in_b _ _ _ _).mono ?_; rintro e w' ⟨rfl, rfl⟩) | (go_at_call 59; refine (may_b _ _ _ ?_).mono ?_; (first | exact hs | exact hn | exact ht); rintro e w' ⟨rfl, rfl⟩))
    go_ret
    exact ⟨by rw [HF.out]; rfl, (Below.refl _ _).alloc (Nat.le_refl _) _⟩
set_option maxRecDepth 100000 in
set_option maxHeartbeats 4000000 in
theorem spec_ok_4 (c : CmdM) (v : Value) (w : World) (hv : Strs w v c.ch) (hs : c.set.size ≤ 9223372036854775807) (hn : c.name.size ≤ 9223372036854775807) (ht : c.tag.size ≤ 9223372036854775807) (q : c.kind = 4) :
    Calls Tryd.prog 49 #[.agg #[.int .i64 c.kind, .int .i64 c.client, .int .i64 c.no, .string c.set, .string c.name, .string c.tag, .int .i64 c.n, v]] w fun e w' => e = .returned (.bool (okB c)) ∧ Below w.heap.size w w' := by
  have hz : decide (c = zeroC) = false := decide_eq_false (fun e => absurd (e ▸ q : zeroC.kind = 4) (by decide))
  have k17 : inB c.kind 1 7 = true := inB_t (by omega) (by omega)
  have k07 : inB c.kind 0 7 = true := inB_t (by omega) (by omega)
  have e0 : (c.kind == 0) = false := by rw [q]; decide
  have e3 : (c.kind == 3) = false := by rw [q]; decide
  have e4 : (c.kind == 4) = true := by rw [q]; decide
  have n3 : (c.kind != 3) = true := by rw [q]; decide
  have e5 : (c.kind == 5) = false := by rw [q]; decide
  have n5 : (c.kind != 5) = true := by rw [q]; decide
  have n7 : (c.kind != 7) = true := by rw [q]; decide
  clear q
  obtain ⟨_, _, va, vcap, rfl, _, _⟩ := hv
  cases h1 : inB c.client 1 9
  case false =>
    have HF := Lib.hid (show okB c = false by unfold okB numsB textsB chunksB; simp [hz, k17, e3, e4, e5, n7, h1])
    go_enter Tryd.func49, Tryd.ntmps49
    go_wp2_with (first | (go_at_call 48; refine (in_b _ _ _ _).mono ?_; rintro e w' ⟨rfl, rfl⟩) | (go_at_call 59; refine (may_b _ _ _ ?_).mono ?_; (first | exact hs | exact hn | exact ht); rintro e w' ⟨rfl, rfl⟩))
    go_ret
    exact ⟨by rw [HF.out]; rfl, (Below.refl _ _).alloc (Nat.le_refl _) _⟩
  cases h2 : inB c.no 1 1000
  case false =>
    have HF := Lib.hid (show okB c = false by unfold okB numsB textsB chunksB; simp [hz, k17, e3, e4, e5, n7, h1, h2])
    go_enter Tryd.func49, Tryd.ntmps49
    go_wp2_with (first | (go_at_call 48; refine (in_b _ _ _ _).mono ?_; rintro e w' ⟨rfl, rfl⟩) | (go_at_call 59; refine (may_b _ _ _ ?_).mono ?_; (first | exact hs | exact hn | exact ht); rintro e w' ⟨rfl, rfl⟩))
    go_ret
    exact ⟨by rw [HF.out]; rfl, (Below.refl _ _).alloc (Nat.le_refl _) _⟩
  cases h3 : mayB true c.set
  case false =>
    have HF := Lib.hid (show okB c = false by unfold okB numsB textsB chunksB; simp [hz, k17, e3, e4, e5, n7, h1, h2, h3])
    go_enter Tryd.func49, Tryd.ntmps49
    go_wp2_with (first | (go_at_call 48; refine (in_b _ _ _ _).mono ?_; rintro e w' ⟨rfl, rfl⟩) | (go_at_call 59; refine (may_b _ _ _ ?_).mono ?_; (first | exact hs | exact hn | exact ht); rintro e w' ⟨rfl, rfl⟩))
    go_ret
    exact ⟨by rw [HF.out]; rfl, (Below.refl _ _).alloc (Nat.le_refl _) _⟩
  cases h4 : mayB true c.name
  case false =>
    have HF := Lib.hid (show okB c = false by unfold okB numsB textsB chunksB; simp [hz, k17, e3, e4, e5, n7, h1, h2, h3, h4])
    go_enter Tryd.func49, Tryd.ntmps49
    go_wp2_with (first | (go_at_call 48; refine (in_b _ _ _ _).mono ?_; rintro e w' ⟨rfl, rfl⟩) | (go_at_call 59; refine (may_b _ _ _ ?_).mono ?_; (first | exact hs | exact hn | exact ht); rintro e w' ⟨rfl, rfl⟩))
    go_ret
    exact ⟨by rw [HF.out]; rfl, (Below.refl _ _).alloc (Nat.le_refl _) _⟩
  cases h5 : mayB true c.tag
  case false =>
    have HF := Lib.hid (show okB c = false by unfold okB numsB textsB chunksB; simp [hz, k17, e3, e4, e5, n7, h1, h2, h3, h4, h5])
    go_enter Tryd.func49, Tryd.ntmps49
    go_wp2_with (first | (go_at_call 48; refine (in_b _ _ _ _).mono ?_; rintro e w' ⟨rfl, rfl⟩) | (go_at_call 59; refine (may_b _ _ _ ?_).mono ?_; (first | exact hs | exact hn | exact ht); rintro e w' ⟨rfl, rfl⟩))
    go_ret
    exact ⟨by rw [HF.out]; rfl, (Below.refl _ _).alloc (Nat.le_refl _) _⟩
  by_cases n0 : c.n = 0
  · have m0 : (c.n != 0) = false := by rw [n0]; decide
    have h6 : inB c.n 0 0 = true := inB_t (by omega) (by omega)
    clear n0
    by_cases h0 : c.ch.length = 0
    · have HF := Lib.hid (show okB c = true by unfold okB numsB textsB chunksB; simp [hz, k17, e3, e4, e5, n7, h1, h2, h3, h4, h5, h6, h0])
      have hl : ((c.ch.length : Int) == 0) = true := by rw [h0]; rfl
      clear h0
      go_enter Tryd.func49, Tryd.ntmps49
      go_wp2_with (first | (go_at_call 48; refine (in_b _ _ _ _).mono ?_; rintro e w' ⟨rfl, rfl⟩) | (go_at_call 59; refine (may_b _ _ _ ?_).mono ?_; (first | exact hs | exact hn | exact ht); rintro e w' ⟨rfl, rfl⟩))
      go_ret
      exact ⟨by rw [HF.out]; first | rfl | simp [hl], (Below.refl _ _).alloc (Nat.le_refl _) _⟩
    · have HF := Lib.hid (show okB c = false by unfold okB numsB textsB chunksB; simp [hz, k17, e3, e4, e5, n7, h1, h2, h3, h4, h5, h6]; simpa using h0)
      have hl : ((c.ch.length : Int) == 0) = false := beq_no (by omega)
      clear h0
      go_enter Tryd.func49, Tryd.ntmps49
      go_wp2_with (first | (go_at_call 48; refine (in_b _ _ _ _).mono ?_; rintro e w' ⟨rfl, rfl⟩) | (go_at_call 59; refine (may_b _ _ _ ?_).mono ?_; (first | exact hs | exact hn | exact ht); rintro e w' ⟨rfl, rfl⟩))
      go_ret
      exact ⟨by rw [HF.out]; first | rfl | simp [hl], (Below.refl _ _).alloc (Nat.le_refl _) _⟩
  · have m0 := bne_yes n0
    have h6 : inB c.n 0 0 = false := inB_f (by omega)
    clear n0
    have HF := Lib.hid (show okB c = false by unfold okB numsB textsB chunksB; simp [hz, k17, e3, e4, e5, n7, h1, h2, h3, h4, h5, h6])
    go_enter Tryd.func49, Tryd.ntmps49
    go_wp2_with (first | (go_at_call 48; refine (in_b _ _ _ _).mono ?_; rintro e w' ⟨rfl, rfl⟩) | (go_at_call 59; refine (may_b _ _ _ ?_).mono ?_; (first | exact hs | exact hn | exact ht); rintro e w' ⟨rfl, rfl⟩))
    go_ret
    exact ⟨by rw [HF.out]; rfl, (Below.refl _ _).alloc (Nat.le_refl _) _⟩
set_option maxRecDepth 100000 in
set_option maxHeartbeats 4000000 in
theorem spec_ok_5 (c : CmdM) (v : Value) (w : World) (hv : Strs w v c.ch) (hs : c.set.size ≤ 9223372036854775807) (hn : c.name.size ≤ 9223372036854775807) (ht : c.tag.size ≤ 9223372036854775807) (q : c.kind = 5) :
    Calls Tryd.prog 49 #[.agg #[.int .i64 c.kind, .int .i64 c.client, .int .i64 c.no, .string c.set, .string c.name, .string c.tag, .int .i64 c.n, v]] w fun e w' => e = .returned (.bool (okB c)) ∧ Below w.heap.size w w' := by
  have hz : decide (c = zeroC) = false := decide_eq_false (fun e => absurd (e ▸ q : zeroC.kind = 5) (by decide))
  have k17 : inB c.kind 1 7 = true := inB_t (by omega) (by omega)
  have k07 : inB c.kind 0 7 = true := inB_t (by omega) (by omega)
  have e0 : (c.kind == 0) = false := by rw [q]; decide
  have e3 : (c.kind == 3) = false := by rw [q]; decide
  have e4 : (c.kind == 4) = false := by rw [q]; decide
  have n3 : (c.kind != 3) = true := by rw [q]; decide
  have e5 : (c.kind == 5) = true := by rw [q]; decide
  have n5 : (c.kind != 5) = false := by rw [q]; decide
  have n7 : (c.kind != 7) = true := by rw [q]; decide
  clear q
  obtain ⟨_, _, va, vcap, rfl, _, _⟩ := hv
  cases h1 : inB c.client 1 9
  case false =>
    have HF := Lib.hid (show okB c = false by unfold okB numsB textsB chunksB; simp [hz, k17, e3, e4, e5, n7, h1])
    go_enter Tryd.func49, Tryd.ntmps49
    go_wp2_with (first | (go_at_call 48; refine (in_b _ _ _ _).mono ?_; rintro e w' ⟨rfl, rfl⟩) | (go_at_call 59; refine (may_b _ _ _ ?_).mono ?_; (first | exact hs | exact hn | exact ht); rintro e w' ⟨rfl, rfl⟩))
    go_ret
    exact ⟨by rw [HF.out]; rfl, (Below.refl _ _).alloc (Nat.le_refl _) _⟩
  cases h2 : inB c.no 1 1000
  case false =>
    have HF := Lib.hid (show okB c = false by unfold okB numsB textsB chunksB; simp [hz, k17, e3, e4, e5, n7, h1, h2])
    go_enter Tryd.func49, Tryd.ntmps49
    go_wp2_with (first | (go_at_call 48; refine (in_b _ _ _ _).mono ?_; rintro e w' ⟨rfl, rfl⟩) | (go_at_call 59; refine (may_b _ _ _ ?_).mono ?_; (first | exact hs | exact hn | exact ht); rintro e w' ⟨rfl, rfl⟩))
    go_ret
    exact ⟨by rw [HF.out]; rfl, (Below.refl _ _).alloc (Nat.le_refl _) _⟩
  cases h3 : mayB true c.set
  case false =>
    have HF := Lib.hid (show okB c = false by unfold okB numsB textsB chunksB; simp [hz, k17, e3, e4, e5, n7, h1, h2, h3])
    go_enter Tryd.func49, Tryd.ntmps49
    go_wp2_with (first | (go_at_call 48; refine (in_b _ _ _ _).mono ?_; rintro e w' ⟨rfl, rfl⟩) | (go_at_call 59; refine (may_b _ _ _ ?_).mono ?_; (first | exact hs | exact hn | exact ht); rintro e w' ⟨rfl, rfl⟩))
    go_ret
    exact ⟨by rw [HF.out]; rfl, (Below.refl _ _).alloc (Nat.le_refl _) _⟩
  cases h4 : mayB false c.name
  case false =>
    have HF := Lib.hid (show okB c = false by unfold okB numsB textsB chunksB; simp [hz, k17, e3, e4, e5, n7, h1, h2, h3, h4])
    go_enter Tryd.func49, Tryd.ntmps49
    go_wp2_with (first | (go_at_call 48; refine (in_b _ _ _ _).mono ?_; rintro e w' ⟨rfl, rfl⟩) | (go_at_call 59; refine (may_b _ _ _ ?_).mono ?_; (first | exact hs | exact hn | exact ht); rintro e w' ⟨rfl, rfl⟩))
    go_ret
    exact ⟨by rw [HF.out]; rfl, (Below.refl _ _).alloc (Nat.le_refl _) _⟩
  cases h5 : mayB false c.tag
  case false =>
    have HF := Lib.hid (show okB c = false by unfold okB numsB textsB chunksB; simp [hz, k17, e3, e4, e5, n7, h1, h2, h3, h4, h5])
    go_enter Tryd.func49, Tryd.ntmps49
    go_wp2_with (first | (go_at_call 48; refine (in_b _ _ _ _).mono ?_; rintro e w' ⟨rfl, rfl⟩) | (go_at_call 59; refine (may_b _ _ _ ?_).mono ?_; (first | exact hs | exact hn | exact ht); rintro e w' ⟨rfl, rfl⟩))
    go_ret
    exact ⟨by rw [HF.out]; rfl, (Below.refl _ _).alloc (Nat.le_refl _) _⟩
  by_cases n0 : c.n = 0
  · have m0 : (c.n != 0) = false := by rw [n0]; decide
    have h6 : inB c.n 0 9 = true := inB_t (by omega) (by omega)
    clear n0
    by_cases h0 : c.ch.length = 0
    · have HF := Lib.hid (show okB c = true by unfold okB numsB textsB chunksB; simp [hz, k17, e3, e4, e5, n7, h1, h2, h3, h4, h5, h6, h0])
      have hl : ((c.ch.length : Int) == 0) = true := by rw [h0]; rfl
      clear h0
      go_enter Tryd.func49, Tryd.ntmps49
      go_wp2_with (first | (go_at_call 48; refine (in_b _ _ _ _).mono ?_; rintro e w' ⟨rfl, rfl⟩) | (go_at_call 59; refine (may_b _ _ _ ?_).mono ?_; (first | exact hs | exact hn | exact ht); rintro e w' ⟨rfl, rfl⟩))
      go_ret
      exact ⟨by rw [HF.out]; first | rfl | simp [hl], (Below.refl _ _).alloc (Nat.le_refl _) _⟩
    · have HF := Lib.hid (show okB c = false by unfold okB numsB textsB chunksB; simp [hz, k17, e3, e4, e5, n7, h1, h2, h3, h4, h5, h6]; simpa using h0)
      have hl : ((c.ch.length : Int) == 0) = false := beq_no (by omega)
      clear h0
      go_enter Tryd.func49, Tryd.ntmps49
      go_wp2_with (first | (go_at_call 48; refine (in_b _ _ _ _).mono ?_; rintro e w' ⟨rfl, rfl⟩) | (go_at_call 59; refine (may_b _ _ _ ?_).mono ?_; (first | exact hs | exact hn | exact ht); rintro e w' ⟨rfl, rfl⟩))
      go_ret
      exact ⟨by rw [HF.out]; first | rfl | simp [hl], (Below.refl _ _).alloc (Nat.le_refl _) _⟩
  · have m0 := bne_yes n0
    clear n0
    cases h6 : inB c.n 0 9
    case false =>
      have HF := Lib.hid (show okB c = false by unfold okB numsB textsB chunksB; simp [hz, k17, e3, e4, e5, n7, h1, h2, h3, h4, h5, h6])
      go_enter Tryd.func49, Tryd.ntmps49
      go_wp2_with (first | (go_at_call 48; refine (in_b _ _ _ _).mono ?_; rintro e w' ⟨rfl, rfl⟩) | (go_at_call 59; refine (may_b _ _ _ ?_).mono ?_; (first | exact hs | exact hn | exact ht); rintro e w' ⟨rfl, rfl⟩))
      go_ret
      exact ⟨by rw [HF.out]; rfl, (Below.refl _ _).alloc (Nat.le_refl _) _⟩
    by_cases h0 : c.ch.length = 0
    · have HF := Lib.hid (show okB c = true by unfold okB numsB textsB chunksB; simp [hz, k17, e3, e4, e5, n7, h1, h2, h3, h4, h5, h6, h0])
      have hl : ((c.ch.length : Int) == 0) = true := by rw [h0]; rfl
      clear h0
      go_enter Tryd.func49, Tryd.ntmps49
      go_wp2_with (first | (go_at_call 48; refine (in_b _ _ _ _).mono ?_; rintro e w' ⟨rfl, rfl⟩) | (go_at_call 59; refine (may_b _ _ _ ?_).mono ?_; (first | exact hs | exact hn | exact ht); rintro e w' ⟨rfl, rfl⟩))
      go_ret
      exact ⟨by rw [HF.out]; first | rfl | simp [hl], (Below.refl _ _).alloc (Nat.le_refl _) _⟩
    · have HF := Lib.hid (show okB c = false by unfold okB numsB textsB chunksB; simp [hz, k17, e3, e4, e5, n7, h1, h2, h3, h4, h5, h6]; simpa using h0)
      have hl : ((c.ch.length : Int) == 0) = false := beq_no (by omega)
      clear h0
      go_enter Tryd.func49, Tryd.ntmps49
      go_wp2_with (first | (go_at_call 48; refine (in_b _ _ _ _).mono ?_; rintro e w' ⟨rfl, rfl⟩) | (go_at_call 59; refine (may_b _ _ _ ?_).mono ?_; (first | exact hs | exact hn | exact ht); rintro e w' ⟨rfl, rfl⟩))
      go_ret
      exact ⟨by rw [HF.out]; first | rfl | simp [hl], (Below.refl _ _).alloc (Nat.le_refl _) _⟩
set_option maxRecDepth 100000 in
set_option maxHeartbeats 4000000 in
theorem spec_ok_7 (c : CmdM) (v : Value) (w : World) (hv : Strs w v c.ch) (hs : c.set.size ≤ 9223372036854775807) (hn : c.name.size ≤ 9223372036854775807) (ht : c.tag.size ≤ 9223372036854775807) (q : c.kind = 7) :
    Calls Tryd.prog 49 #[.agg #[.int .i64 c.kind, .int .i64 c.client, .int .i64 c.no, .string c.set, .string c.name, .string c.tag, .int .i64 c.n, v]] w fun e w' => e = .returned (.bool (okB c)) ∧ Below w.heap.size w w' := by
  have hz : decide (c = zeroC) = false := decide_eq_false (fun e => absurd (e ▸ q : zeroC.kind = 7) (by decide))
  have k17 : inB c.kind 1 7 = true := inB_t (by omega) (by omega)
  have k07 : inB c.kind 0 7 = true := inB_t (by omega) (by omega)
  have e0 : (c.kind == 0) = false := by rw [q]; decide
  have e3 : (c.kind == 3) = false := by rw [q]; decide
  have e4 : (c.kind == 4) = false := by rw [q]; decide
  have n3 : (c.kind != 3) = true := by rw [q]; decide
  have e5 : (c.kind == 5) = false := by rw [q]; decide
  have n5 : (c.kind != 5) = true := by rw [q]; decide
  have n7 : (c.kind != 7) = false := by rw [q]; decide
  clear q
  obtain ⟨_, _, va, vcap, rfl, _, _⟩ := hv
  cases h1 : inB c.client 1 9
  case false =>
    have HF := Lib.hid (show okB c = false by unfold okB numsB textsB chunksB; simp [hz, k17, e3, e4, e5, n7, h1])
    go_enter Tryd.func49, Tryd.ntmps49
    go_wp2_with (first | (go_at_call 48; refine (in_b _ _ _ _).mono ?_; rintro e w' ⟨rfl, rfl⟩) | (go_at_call 59; refine (may_b _ _ _ ?_).mono ?_; (first | exact hs | exact hn | exact ht); rintro e w' ⟨rfl, rfl⟩))
    go_ret
    exact ⟨by rw [HF.out]; rfl, (Below.refl _ _).alloc (Nat.le_refl _) _⟩
  cases h2 : inB c.no 1 1000
  case false =>
    have HF := Lib.hid (show okB c = false by unfold okB numsB textsB chunksB; simp [hz, k17, e3, e4, e5, n7, h1, h2])
    go_enter Tryd.func49, Tryd.ntmps49
    go_wp2_with (first | (go_at_call 48; refine (in_b _ _ _ _).mono ?_; rintro e w' ⟨rfl, rfl⟩) | (go_at_call 59; refine (may_b _ _ _ ?_).mono ?_; (first | exact hs | exact hn | exact ht); rintro e w' ⟨rfl, rfl⟩))
    go_ret
    exact ⟨by rw [HF.out]; rfl, (Below.refl _ _).alloc (Nat.le_refl _) _⟩
  cases h3 : mayB false c.set
  case false =>
    have HF := Lib.hid (show okB c = false by unfold okB numsB textsB chunksB; simp [hz, k17, e3, e4, e5, n7, h1, h2, h3])
    go_enter Tryd.func49, Tryd.ntmps49
    go_wp2_with (first | (go_at_call 48; refine (in_b _ _ _ _).mono ?_; rintro e w' ⟨rfl, rfl⟩) | (go_at_call 59; refine (may_b _ _ _ ?_).mono ?_; (first | exact hs | exact hn | exact ht); rintro e w' ⟨rfl, rfl⟩))
    go_ret
    exact ⟨by rw [HF.out]; rfl, (Below.refl _ _).alloc (Nat.le_refl _) _⟩
  cases h4 : mayB false c.name
  case false =>
    have HF := Lib.hid (show okB c = false by unfold okB numsB textsB chunksB; simp [hz, k17, e3, e4, e5, n7, h1, h2, h3, h4])
    go_enter Tryd.func49, Tryd.ntmps49
    go_wp2_with (first | (go_at_call 48; refine (in_b _ _ _ _).mono ?_; rintro e w' ⟨rfl, rfl⟩) | (go_at_call 59; refine (may_b _ _ _ ?_).mono ?_; (first | exact hs | exact hn | exact ht); rintro e w' ⟨rfl, rfl⟩))
    go_ret
    exact ⟨by rw [HF.out]; rfl, (Below.refl _ _).alloc (Nat.le_refl _) _⟩
  cases h5 : mayB false c.tag
  case false =>
    have HF := Lib.hid (show okB c = false by unfold okB numsB textsB chunksB; simp [hz, k17, e3, e4, e5, n7, h1, h2, h3, h4, h5])
    go_enter Tryd.func49, Tryd.ntmps49
    go_wp2_with (first | (go_at_call 48; refine (in_b _ _ _ _).mono ?_; rintro e w' ⟨rfl, rfl⟩) | (go_at_call 59; refine (may_b _ _ _ ?_).mono ?_; (first | exact hs | exact hn | exact ht); rintro e w' ⟨rfl, rfl⟩))
    go_ret
    exact ⟨by rw [HF.out]; rfl, (Below.refl _ _).alloc (Nat.le_refl _) _⟩
  by_cases n0 : c.n = 0
  · have m0 : (c.n != 0) = false := by rw [n0]; decide
    have h6 : inB c.n 0 0 = true := inB_t (by omega) (by omega)
    clear n0
    by_cases h0 : c.ch.length = 0
    · have HF := Lib.hid (show okB c = true by unfold okB numsB textsB chunksB; simp [hz, k17, e3, e4, e5, n7, h1, h2, h3, h4, h5, h6, h0])
      have hl : ((c.ch.length : Int) == 0) = true := by rw [h0]; rfl
      clear h0
      go_enter Tryd.func49, Tryd.ntmps49
      go_wp2_with (first | (go_at_call 48; refine (in_b _ _ _ _).mono ?_; rintro e w' ⟨rfl, rfl⟩) | (go_at_call 59; refine (may_b _ _ _ ?_).mono ?_; (first | exact hs | exact hn | exact ht); rintro e w' ⟨rfl, rfl⟩))
      go_ret
      exact ⟨by rw [HF.out]; first | rfl | simp [hl], (Below.refl _ _).alloc (Nat.le_refl _) _⟩
    · have HF := Lib.hid (show okB c = false by unfold okB numsB textsB chunksB; simp [hz, k17, e3, e4, e5, n7, h1, h2, h3, h4, h5, h6]; simpa using h0)
      have hl : ((c.ch.length : Int) == 0) = false := beq_no (by omega)
      clear h0
      go_enter Tryd.func49, Tryd.ntmps49
      go_wp2_with (first | (go_at_call 48; refine (in_b _ _ _ _).mono ?_; rintro e w' ⟨rfl, rfl⟩) | (go_at_call 59; refine (may_b _ _ _ ?_).mono ?_; (first | exact hs | exact hn | exact ht); rintro e w' ⟨rfl, rfl⟩))
      go_ret
      exact ⟨by rw [HF.out]; first | rfl | simp [hl], (Below.refl _ _).alloc (Nat.le_refl _) _⟩
  · have m0 := bne_yes n0
    have h6 : inB c.n 0 0 = false := inB_f (by omega)
    clear n0
    have HF := Lib.hid (show okB c = false by unfold okB numsB textsB chunksB; simp [hz, k17, e3, e4, e5, n7, h1, h2, h3, h4, h5, h6])
    go_enter Tryd.func49, Tryd.ntmps49
    go_wp2_with (first | (go_at_call 48; refine (in_b _ _ _ _).mono ?_; rintro e w' ⟨rfl, rfl⟩) | (go_at_call 59; refine (may_b _ _ _ ?_).mono ?_; (first | exact hs | exact hn | exact ht); rintro e w' ⟨rfl, rfl⟩))
    go_ret
    exact ⟨by rw [HF.out]; rfl, (Below.refl _ _).alloc (Nat.le_refl _) _⟩
set_option maxRecDepth 100000 in
set_option maxHeartbeats 4000000 in
theorem spec_ok_x (c : CmdM) (v : Value) (w : World) (hv : Strs w v c.ch) (hs : c.set.size ≤ 9223372036854775807) (hn : c.name.size ≤ 9223372036854775807) (ht : c.tag.size ≤ 9223372036854775807) (k17 : inB c.kind 1 7 = true) (k07 : inB c.kind 0 7 = true) (q0 : c.kind ≠ 0) (q3 : c.kind ≠ 3) (q4 : c.kind ≠ 4) (q5 : c.kind ≠ 5) (q7 : c.kind ≠ 7) :
    Calls Tryd.prog 49 #[.agg #[.int .i64 c.kind, .int .i64 c.client, .int .i64 c.no, .string c.set, .string c.name, .string c.tag, .int .i64 c.n, v]] w fun e w' => e = .returned (.bool (okB c)) ∧ Below w.heap.size w w' := by
  have hz : decide (c = zeroC) = false := decide_eq_false (fun e => q0 (by rw [e]; rfl))
  have e0 := beq_no q0
  have e3 := beq_no q3
  have e4 := beq_no q4
  have n3 := bne_yes q3
  have e5 := beq_no q5
  have n5 := bne_yes q5
  have n7 := bne_yes q7
  clear q0 q3 q4 q5 q7
  obtain ⟨_, _, va, vcap, rfl, _, _⟩ := hv
  cases h1 : inB c.client 1 9
  case false =>
    have HF := Lib.hid (show okB c = false by unfold okB numsB textsB chunksB; simp [hz, k17, e3, e4, e5, n7, h1])
    go_enter Tryd.func49, Tryd.ntmps49
    go_wp2_with (first | (go_at_call 48; refine (in_b _ _ _ _).mono ?_; rintro e w' ⟨rfl, rfl⟩) | (go_at_call 59; refine (may_b _ _ _ ?_).mono ?_; (first | exact hs | exact hn | exact ht); rintro e w' ⟨rfl, rfl⟩))
    go_ret
    exact ⟨by rw [HF.out]; rfl, (Below.refl _ _).alloc (Nat.le_refl _) _⟩
  cases h2 : inB c.no 1 1000
  case false =>
    have HF := Lib.hid (show okB c = false by unfold okB numsB textsB chunksB; simp [hz, k17, e3, e4, e5, n7, h1, h2])
    go_enter Tryd.func49, Tryd.ntmps49
    go_wp2_with (first | (go_at_call 48; refine (in_b _ _ _ _).mono ?_; rintro e w' ⟨rfl, rfl⟩) | (go_at_call 59; refine (may_b _ _ _ ?_).mono ?_; (first | exact hs | exact hn | exact ht); rintro e w' ⟨rfl, rfl⟩))
    go_ret
    exact ⟨by rw [HF.out]; rfl, (Below.refl _ _).alloc (Nat.le_refl _) _⟩
  cases h3 : mayB true c.set
  case false =>
    have HF := Lib.hid (show okB c = false by unfold okB numsB textsB chunksB; simp [hz, k17, e3, e4, e5, n7, h1, h2, h3])
    go_enter Tryd.func49, Tryd.ntmps49
    go_wp2_with (first | (go_at_call 48; refine (in_b _ _ _ _).mono ?_; rintro e w' ⟨rfl, rfl⟩) | (go_at_call 59; refine (may_b _ _ _ ?_).mono ?_; (first | exact hs | exact hn | exact ht); rintro e w' ⟨rfl, rfl⟩))
    go_ret
    exact ⟨by rw [HF.out]; rfl, (Below.refl _ _).alloc (Nat.le_refl _) _⟩
  cases h4 : mayB false c.name
  case false =>
    have HF := Lib.hid (show okB c = false by unfold okB numsB textsB chunksB; simp [hz, k17, e3, e4, e5, n7, h1, h2, h3, h4])
    go_enter Tryd.func49, Tryd.ntmps49
    go_wp2_with (first | (go_at_call 48; refine (in_b _ _ _ _).mono ?_; rintro e w' ⟨rfl, rfl⟩) | (go_at_call 59; refine (may_b _ _ _ ?_).mono ?_; (first | exact hs | exact hn | exact ht); rintro e w' ⟨rfl, rfl⟩))
    go_ret
    exact ⟨by rw [HF.out]; rfl, (Below.refl _ _).alloc (Nat.le_refl _) _⟩
  cases h5 : mayB false c.tag
  case false =>
    have HF := Lib.hid (show okB c = false by unfold okB numsB textsB chunksB; simp [hz, k17, e3, e4, e5, n7, h1, h2, h3, h4, h5])
    go_enter Tryd.func49, Tryd.ntmps49
    go_wp2_with (first | (go_at_call 48; refine (in_b _ _ _ _).mono ?_; rintro e w' ⟨rfl, rfl⟩) | (go_at_call 59; refine (may_b _ _ _ ?_).mono ?_; (first | exact hs | exact hn | exact ht); rintro e w' ⟨rfl, rfl⟩))
    go_ret
    exact ⟨by rw [HF.out]; rfl, (Below.refl _ _).alloc (Nat.le_refl _) _⟩
  by_cases n0 : c.n = 0
  · have m0 : (c.n != 0) = false := by rw [n0]; decide
    have h6 : inB c.n 0 0 = true := inB_t (by omega) (by omega)
    clear n0
    by_cases h0 : c.ch.length = 0
    · have HF := Lib.hid (show okB c = true by unfold okB numsB textsB chunksB; simp [hz, k17, e3, e4, e5, n7, h1, h2, h3, h4, h5, h6, h0])
      have hl : ((c.ch.length : Int) == 0) = true := by rw [h0]; rfl
      clear h0
      go_enter Tryd.func49, Tryd.ntmps49
      go_wp2_with (first | (go_at_call 48; refine (in_b _ _ _ _).mono ?_; rintro e w' ⟨rfl, rfl⟩) | (go_at_call 59; refine (may_b _ _ _ ?_).mono ?_; (first | exact hs | exact hn | exact ht); rintro e w' ⟨rfl, rfl⟩))
      go_ret
      exact ⟨by rw [HF.out]; first | rfl | simp [hl], (Below.refl _ _).alloc (Nat.le_refl _) _⟩
    · have HF := Lib.hid (show okB c = false by unfold okB numsB textsB chunksB; simp [hz, k17, e3, e4, e5, n7, h1, h2, h3, h4, h5, h6]; simpa using h0)
      have hl : ((c.ch.length : Int) == 0) = false := beq_no (by omega)
      clear h0
      go_enter Tryd.func49, Tryd.ntmps49
      go_wp2_with (first | (go_at_call 48; refine (in_b _ _ _ _).mono ?_; rintro e w' ⟨rfl, rfl⟩) | (go_at_call 59; refine (may_b _ _ _ ?_).mono ?_; (first | exact hs | exact hn | exact ht); rintro e w' ⟨rfl, rfl⟩))
      go_ret
      exact ⟨by rw [HF.out]; first | rfl | simp [hl], (Below.refl _ _).alloc (Nat.le_refl _) _⟩
  · have m0 := bne_yes n0
    have h6 : inB c.n 0 0 = false := inB_f (by omega)
    clear n0
    have HF := Lib.hid (show okB c = false by unfold okB numsB textsB chunksB; simp [hz, k17, e3, e4, e5, n7, h1, h2, h3, h4, h5, h6])
    go_enter Tryd.func49, Tryd.ntmps49
    go_wp2_with (first | (go_at_call 48; refine (in_b _ _ _ _).mono ?_; rintro e w' ⟨rfl, rfl⟩) | (go_at_call 59; refine (may_b _ _ _ ?_).mono ?_; (first | exact hs | exact hn | exact ht); rintro e w' ⟨rfl, rfl⟩))
    go_ret
    exact ⟨by rw [HF.out]; rfl, (Below.refl _ _).alloc (Nat.le_refl _) _⟩
set_option maxRecDepth 100000 in
set_option maxHeartbeats 1000000 in
theorem spec_ok_0 (c : CmdM) (v : Value) (w : World) (hv : Strs w v c.ch) (q : c.kind = 0) :
    Calls Tryd.prog 49 #[.agg #[.int .i64 c.kind, .int .i64 c.client, .int .i64 c.no, .string c.set, .string c.name, .string c.tag, .int .i64 c.n, v]] w fun e w' => e = .returned (.bool (okB c)) ∧ Below w.heap.size w w' := by
  have k17 : inB c.kind 1 7 = false := inB_f (by omega)
  have k07 : inB c.kind 0 7 = true := inB_t (by omega) (by omega)
  have e0 : (c.kind == 0) = true := by rw [q]; decide
  have HF := Lib.hid (show okB c = decide (c = zeroC) by unfold okB numsB; simp [k17])
  have HV := Lib.hid hv
  clear q k17 hv
  go_enter Tryd.func49, Tryd.ntmps49
  go_wp2_with (first | (go_at_call 48; refine (in_b _ _ _ _).mono ?_; rintro e w' ⟨rfl, rfl⟩) | (go_at_call 58; refine (spec_same c zeroC v (.slice none 0 0) _ (HV.out.alloc _) (strs_nil _ _ _)).mono ?_; rintro e w' ⟨rfl, hb⟩))
  go_ret
  exact ⟨by rw [HF.out]; rfl, ((Aft.refl w).alloc _).after hb⟩
set_option maxRecDepth 100000 in
set_option maxHeartbeats 1000000 in
theorem spec_ok_no (c : CmdM) (v : Value) (w : World) (q : inB c.kind 0 7 = false) :
    Calls Tryd.prog 49 #[.agg #[.int .i64 c.kind, .int .i64 c.client, .int .i64 c.no, .string c.set, .string c.name, .string c.tag, .int .i64 c.n, v]] w fun e w' => e = .returned (.bool (okB c)) ∧ Below w.heap.size w w' := by
  have r := inB_no q
  have k17 : inB c.kind 1 7 = false := inB_f (by omega)
  have hz : decide (c = zeroC) = false := decide_eq_false (fun e => by rw [e] at r; exact absurd r (by decide))
  have HF := Lib.hid (show okB c = false by unfold okB numsB; simp [k17, hz])
  clear r k17 hz
  go_enter Tryd.func49, Tryd.ntmps49
  go_wp2_with (go_at_call 48; refine (in_b _ _ _ _).mono ?_; rintro e w' ⟨rfl, rfl⟩)
  go_ret
  exact ⟨by rw [HF.out]; rfl, (Below.refl _ _).alloc (Nat.le_refl _) _⟩
theorem spec_ok (c : CmdM) (v : Value) (w : World) (hv : Strs w v c.ch) (hs : c.set.size ≤ 9223372036854775807) (hn : c.name.size ≤ 9223372036854775807) (ht : c.tag.size ≤ 9223372036854775807) :
    Calls Tryd.prog 49 #[.agg #[.int .i64 c.kind, .int .i64 c.client, .int .i64 c.no, .string c.set, .string c.name, .string c.tag, .int .i64 c.n, v]] w fun e w' => e = .returned (.bool (okB c)) ∧ Below w.heap.size w w' := by
  cases k07 : inB c.kind 0 7
  · exact spec_ok_no c v w k07
  · by_cases q0 : c.kind = 0
    · exact spec_ok_0 c v w hv q0
    · have r := (inB_iff _ _ _).1 k07
      have k17 : inB c.kind 1 7 = true := inB_t (by omega) (by omega)
      by_cases q3 : c.kind = 3
      · exact spec_ok_3 c v w hv hs hn ht q3
      · by_cases q4 : c.kind = 4
        · exact spec_ok_4 c v w hv hs hn ht q4
        · by_cases q5 : c.kind = 5
          · exact spec_ok_5 c v w hv hs hn ht q5
          · by_cases q7 : c.kind = 7
            · exact spec_ok_7 c v w hv hs hn ht q7
            · exact spec_ok_x c v w hv hs hn ht k17 k07 q0 q3 q4 q5 q7
end Go.Proofs.YtlbebeedkcdgpaaDoor
