/- A bundle of texts: OkM, OkI, Is, OkC, OkS. -/
import Derived.Test.YtckeeadkhopljaaGreatDoorCmdM
import Derived.Test.YtckeeadkhopljaaGreatDoorMath
import Derived.Test.YtckeeadkhopljaaGreatDoorStrs
import Derived.Test.YtckeeadkhopljaaGreatDoorStrsL
import Derived.Test.YtckeeadkhopljaaGreatDoorChecked
import Derived.Test.YtckeeadkhopljaaGreatDoorRows
import Derived.WalkKit
import Derived.LaidEql
import Derived.Stop.Asserts
import Derived.Stop.LaidErr
import Derived.LaidSub
import Derived.RowKitTokens
import Derived.Below
import Derived.Test.YtckeeadkhopljaaGreatDoorCmdB
/- When a command is valid, in plain words. Nothing of the program is used here. -/
namespace Go.Proofs.YtckeeadkhopljaaGreatDoor
open Go.RowKit Go.PlainAid
set_option linter.unusedVariables false

@[irreducible] def inB (a lo hi : Int) : Bool := decide (lo ≤ a) && decide (a ≤ hi)
theorem inB_iff (a lo hi : Int) : inB a lo hi = true ↔ lo ≤ a ∧ a ≤ hi := by unfold inB; simp
theorem inB_t {a lo hi : Int} (h1 : lo ≤ a) (h2 : a ≤ hi) : inB a lo hi = true := (inB_iff a lo hi).2 ⟨h1, h2⟩
theorem inB_f {a lo hi : Int} (h : a < lo ∨ hi < a) : inB a lo hi = false := by
  rw [Bool.eq_false_iff, ne_eq, inB_iff]; omega
theorem inB_no {a lo hi : Int} (h : inB a lo hi = false) : a < lo ∨ hi < a := by
  have : ¬ inB a lo hi = true := by rw [h]; decide
  rw [inB_iff] at this; omega
/-- A word: one to eight letters a to z. -/
@[irreducible] def wordB (s : ByteArray) : Bool := inB s.size 1 8 && (List.range s.size).all (fun j => inB (bt s j) 97 122)
theorem wordB_iff (s : ByteArray) : wordB s = true ↔ inB s.size 1 8 = true ∧ ∀ j, j < s.size → 97 ≤ bt s j ∧ bt s j ≤ 122 := by
  unfold wordB; simp [inB_iff]
theorem wordB_len {s : ByteArray} (h : inB s.size 1 8 = false) : wordB s = false := by
  rw [Bool.eq_false_iff, ne_eq, wordB_iff, h]; simp
theorem wordB_bad {s : ByteArray} (j : Nat) (hj : j < s.size) (h : bt s j < 97 ∨ 122 < bt s j) : wordB s = false := by
  rw [Bool.eq_false_iff, ne_eq, wordB_iff]
  intro ⟨_, h2⟩
  have := h2 j hj
  omega
/-- A word where one must be, and nothing elsewhere. -/
@[irreducible] def mayB (b : Bool) (s : ByteArray) : Bool := if b then wordB s else decide (s.size = 0)
theorem mayB_true (s : ByteArray) : mayB true s = wordB s := by unfold mayB; rfl
theorem mayB_false (s : ByteArray) : mayB false s = decide (s.size = 0) := by unfold mayB; rfl
/-- One to four strings of eight bytes. -/
@[irreducible] def idsB (l : List ByteArray) : Bool := inB l.length 1 4 && (List.range l.length).all (fun j => decide ((el l j).size = 8))
theorem idsB_iff (l : List ByteArray) : idsB l = true ↔ inB l.length 1 4 = true ∧ ∀ j, j < l.length → (el l j).size = 8 := by
  unfold idsB; simp
theorem idsB_len {l : List ByteArray} (h : inB l.length 1 4 = false) : idsB l = false := by
  rw [Bool.eq_false_iff, ne_eq, idsB_iff, h]; simp
theorem idsB_bad {l : List ByteArray} (j : Nat) (hj : j < l.length) (h : (el l j).size ≠ 8) : idsB l = false := by
  rw [Bool.eq_false_iff, ne_eq, idsB_iff]
  intro ⟨_, h2⟩
  exact h (h2 j hj)
def zeroC : CmdM := ⟨0, 0, 0, ⟨#[]⟩, ⟨#[]⟩, ⟨#[]⟩, 0, []⟩
@[irreducible] def numsB (c : CmdM) : Bool := inB c.kind 1 7 && (inB c.client 1 9 && (inB c.no 1 1000 && inB c.n 0 (if c.kind == 5 then 9 else 0)))
@[irreducible] def textsB (c : CmdM) : Bool := mayB (c.kind != 7) c.set && (mayB (c.kind == 3 || c.kind == 4) c.name && mayB (c.kind == 4) c.tag)
@[irreducible] def chunksB (c : CmdM) : Bool := if c.kind == 3 then idsB c.ch else decide (c.ch.length = 0)
/-- A valid command. -/
@[irreducible] def okB (c : CmdM) : Bool := decide (c = zeroC) || (numsB c && (textsB c && chunksB c))
theorem size_zero {s : ByteArray} (h : s.size = 0) : s = ⟨#[]⟩ := by
  apply ByteArray.ext
  exact Array.eq_empty_of_size_eq_zero h
theorem bne_yes {a b : Int} (h : a ≠ b) : (a != b) = true := by simpa using h
end Go.Proofs.YtckeeadkhopljaaGreatDoor
/- When a command is valid: the program's walks. -/
namespace Go.Proofs.YtckeeadkhopljaaGreatDoor
open Go.RowKit Go.PlainAid
set_option linter.unusedVariables false

set_option maxHeartbeats 400000 in
theorem in_range (a lo hi : Int) (w : World) : Calls Tryz.prog 36 #[.int .i64 a, .int .i64 lo, .int .i64 hi] w fun e w' => e = .returned (.bool (inB a lo hi)) ∧ w = w' := by
  by_cases h1 : lo ≤ a
  · by_cases h2 : a ≤ hi
    · rw [inB_t h1 h2]
      go_enter Tryz.func36, Tryz.ntmps36
      go_wp2
      go_ret
      exact ⟨rfl, rfl⟩
    · rw [inB_f (.inr (by omega))]
      have hd : decide (a ≤ hi) = false := by simp; omega
      go_enter Tryz.func36, Tryz.ntmps36
      go_wp2
      go_ret
      exact ⟨rfl, rfl⟩
  · rw [inB_f (.inl (by omega))]
    have hd : decide (lo ≤ a) = false := by simp; omega
    go_enter Tryz.func36, Tryz.ntmps36
    go_wp2
    go_ret
    exact ⟨rfl, rfl⟩
set_option maxHeartbeats 400000 in
theorem word_ok (s : ByteArray) (w : World) (hs : s.size ≤ 9223372036854775807) : Calls Tryz.prog 116 #[.string s] w fun e w' => e = .returned (.bool (wordB s)) ∧ w = w' := by
  cases hin : inB s.size 1 8
  · have HW := Lib.hid (wordB_len hin)
    go_enter Tryz.func116, Tryz.ntmps116
    go_wp2_with (go_at_call 36; refine (in_range _ _ _ _).mono ?_; rintro e w' ⟨rfl, rfl⟩)
    go_ret
    exact ⟨by rw [HW.out]; rfl, rfl⟩
  · have HI := Lib.hid hin
    go_enter Tryz.func116, Tryz.ntmps116
    go_wp2_with (go_at_call 36; refine (in_range _ _ _ _).mono ?_; rintro e w' ⟨rfl, rfl⟩)
    clear hin
    go_loop [10] (fun i => ∃ k : Nat, k ≤ s.size ∧ i = .int .i64 k ∧ (∀ j, j < k → 97 ≤ bt s j ∧ bt s j ≤ 122)) (fun i => s.size - (intOf i).toNat)
    case atStart => exact ⟨0, by omega, rfl, fun j hj => by omega⟩
    case round =>
      obtain ⟨k, hk, rfl, he⟩ := hrel
      have HE := Lib.hid he
      clear he
      by_cases hlt : k < s.size
      · have hg := get_bt s k hlt
        have b0 := bt_nonneg s k
        have b1 := bt_le s k
        by_cases c1 : bt s k < 97
        · have HW := Lib.hid (wordB_bad k hlt (.inl c1))
          go_wp2
          go_ret
          exact ⟨by rw [HW.out]; rfl, rfl⟩
        · by_cases c2 : 122 < bt s k
          · have HW := Lib.hid (wordB_bad k hlt (.inr c2))
            go_wp2
            go_ret
            exact ⟨by rw [HW.out]; rfl, rfl⟩
          · go_wp2
            go_round
            case rel =>
              refine ⟨k + 1, by omega, by go_num, fun j hj => ?_⟩
              by_cases e : j = k
              · subst e; omega
              · exact HE.out j (by omega)
            case measure => simp only [intOf]; omega
      · obtain rfl : k = s.size := by omega
        have HW := Lib.hid ((wordB_iff s).2 ⟨HI.out, fun j hj => HE.out j hj⟩)
        go_wp2
        go_ret
        exact ⟨by rw [HW.out]; rfl, rfl⟩
set_option maxHeartbeats 400000 in
theorem word_where (b : Bool) (s : ByteArray) (w : World) (hs : s.size ≤ 9223372036854775807) : Calls Tryz.prog 114 #[.bool b, .string s] w fun e w' => e = .returned (.bool (mayB b s)) ∧ w = w' := by
  cases b
  · rw [mayB_false]
    by_cases h : s.size = 0
    · obtain rfl := size_zero h
      go_enter Tryz.func114, Tryz.ntmps114
      go_wp2
      go_ret
      exact ⟨rfl, rfl⟩
    · have hn : s ≠ ⟨#[]⟩ := fun e => h (by rw [e]; rfl)
      have hb : s.toList.isEmpty = false := by
        cases e : s.toList.isEmpty
        · rfl
        · exact absurd (str_eq (by rw [List.isEmpty_iff.1 e, Lib.toList_data])) hn
      rw [decide_eq_false h]
      clear h hn
      go_enter Tryz.func114, Tryz.ntmps114
      go_wp2
      go_ret
      exact ⟨by first | rfl | (simp [hb]), rfl⟩
  · rw [mayB_true]
    go_enter Tryz.func114, Tryz.ntmps114
    go_wp2_with (go_at_call 116; refine (word_ok s _ hs).mono ?_; rintro e w' ⟨rfl, rfl⟩)
    go_ret
    exact ⟨rfl, rfl⟩
set_option maxHeartbeats 1000000 in
theorem numbers_ok (c : CmdM) (v : Value) (w : World) : Calls Tryz.prog 107 #[.agg #[.int .i64 c.kind, .int .i64 c.client, .int .i64 c.no, .string c.set, .string c.name, .string c.tag, .int .i64 c.n, v]] w fun e w' => e = .returned (.bool (numsB c)) ∧ Below w.heap.size w w' := by
  cases k5 : (c.kind == 5)
  case true =>
    cases h1 : inB c.kind 1 7
    case false =>
      have HF := Lib.hid (show numsB c = false by unfold numsB; simp [k5, h1])
      go_enter Tryz.func107, Tryz.ntmps107
      go_wp2_with (go_at_call 36; refine (in_range _ _ _ _).mono ?_; rintro e w' ⟨rfl, rfl⟩)
      go_ret
      exact ⟨by rw [HF.out]; rfl, (Below.refl _ _).alloc (Nat.le_refl _) _⟩
    cases h2 : inB c.client 1 9
    case false =>
      have HF := Lib.hid (show numsB c = false by unfold numsB; simp [k5, h1, h2])
      go_enter Tryz.func107, Tryz.ntmps107
      go_wp2_with (go_at_call 36; refine (in_range _ _ _ _).mono ?_; rintro e w' ⟨rfl, rfl⟩)
      go_ret
      exact ⟨by rw [HF.out]; rfl, (Below.refl _ _).alloc (Nat.le_refl _) _⟩
    cases h3 : inB c.no 1 1000
    case false =>
      have HF := Lib.hid (show numsB c = false by unfold numsB; simp [k5, h1, h2, h3])
      go_enter Tryz.func107, Tryz.ntmps107
      go_wp2_with (go_at_call 36; refine (in_range _ _ _ _).mono ?_; rintro e w' ⟨rfl, rfl⟩)
      go_ret
      exact ⟨by rw [HF.out]; rfl, (Below.refl _ _).alloc (Nat.le_refl _) _⟩
    cases h4 : inB c.n 0 9
    case false =>
      have HF := Lib.hid (show numsB c = false by unfold numsB; simp [k5, h1, h2, h3, h4])
      go_enter Tryz.func107, Tryz.ntmps107
      go_wp2_with (go_at_call 36; refine (in_range _ _ _ _).mono ?_; rintro e w' ⟨rfl, rfl⟩)
      go_ret
      exact ⟨by rw [HF.out]; rfl, (Below.refl _ _).alloc (Nat.le_refl _) _⟩
    have HF := Lib.hid (show numsB c = true by unfold numsB; simp [k5, h1, h2, h3, h4])
    go_enter Tryz.func107, Tryz.ntmps107
    go_wp2_with (go_at_call 36; refine (in_range _ _ _ _).mono ?_; rintro e w' ⟨rfl, rfl⟩)
    go_ret
    exact ⟨by rw [HF.out]; rfl, (Below.refl _ _).alloc (Nat.le_refl _) _⟩
  case false =>
    cases h1 : inB c.kind 1 7
    case false =>
      have HF := Lib.hid (show numsB c = false by unfold numsB; simp [k5, h1])
      go_enter Tryz.func107, Tryz.ntmps107
      go_wp2_with (go_at_call 36; refine (in_range _ _ _ _).mono ?_; rintro e w' ⟨rfl, rfl⟩)
      go_ret
      exact ⟨by rw [HF.out]; rfl, (Below.refl _ _).alloc (Nat.le_refl _) _⟩
    cases h2 : inB c.client 1 9
    case false =>
      have HF := Lib.hid (show numsB c = false by unfold numsB; simp [k5, h1, h2])
      go_enter Tryz.func107, Tryz.ntmps107
      go_wp2_with (go_at_call 36; refine (in_range _ _ _ _).mono ?_; rintro e w' ⟨rfl, rfl⟩)
      go_ret
      exact ⟨by rw [HF.out]; rfl, (Below.refl _ _).alloc (Nat.le_refl _) _⟩
    cases h3 : inB c.no 1 1000
    case false =>
      have HF := Lib.hid (show numsB c = false by unfold numsB; simp [k5, h1, h2, h3])
      go_enter Tryz.func107, Tryz.ntmps107
      go_wp2_with (go_at_call 36; refine (in_range _ _ _ _).mono ?_; rintro e w' ⟨rfl, rfl⟩)
      go_ret
      exact ⟨by rw [HF.out]; rfl, (Below.refl _ _).alloc (Nat.le_refl _) _⟩
    cases h4 : inB c.n 0 0
    case false =>
      have HF := Lib.hid (show numsB c = false by unfold numsB; simp [k5, h1, h2, h3, h4])
      go_enter Tryz.func107, Tryz.ntmps107
      go_wp2_with (go_at_call 36; refine (in_range _ _ _ _).mono ?_; rintro e w' ⟨rfl, rfl⟩)
      go_ret
      exact ⟨by rw [HF.out]; rfl, (Below.refl _ _).alloc (Nat.le_refl _) _⟩
    have HF := Lib.hid (show numsB c = true by unfold numsB; simp [k5, h1, h2, h3, h4])
    go_enter Tryz.func107, Tryz.ntmps107
    go_wp2_with (go_at_call 36; refine (in_range _ _ _ _).mono ?_; rintro e w' ⟨rfl, rfl⟩)
    go_ret
    exact ⟨by rw [HF.out]; rfl, (Below.refl _ _).alloc (Nat.le_refl _) _⟩
set_option maxHeartbeats 1000000 in
theorem texts_ok (c : CmdM) (v : Value) (w : World) (hs : c.set.size ≤ 9223372036854775807) (hn : c.name.size ≤ 9223372036854775807) (ht : c.tag.size ≤ 9223372036854775807) :
    Calls Tryz.prog 108 #[.agg #[.int .i64 c.kind, .int .i64 c.client, .int .i64 c.no, .string c.set, .string c.name, .string c.tag, .int .i64 c.n, v]] w fun e w' => e = .returned (.bool (textsB c)) ∧ Below w.heap.size w w' := by
  by_cases q3 : c.kind = 3
  case pos =>
    have e3 : (c.kind == 3) = true := by rw [q3]; decide
    have e4 : (c.kind == 4) = false := by rw [q3]; decide
    have e7 : (c.kind != 7) = true := by rw [q3]; decide
    clear q3
    cases h1 : mayB true c.set
    case false =>
      have HF := Lib.hid (show textsB c = false by unfold textsB; simp [e3, e4, e7, h1])
      go_enter Tryz.func108, Tryz.ntmps108
      go_wp2_with (go_at_call 114; refine (word_where _ _ _ ?_).mono ?_; (first | exact hs | exact hn | exact ht); rintro e w' ⟨rfl, rfl⟩)
      go_ret
      exact ⟨by rw [HF.out]; rfl, (Below.refl _ _).alloc (Nat.le_refl _) _⟩
    cases h2 : mayB true c.name
    case false =>
      have HF := Lib.hid (show textsB c = false by unfold textsB; simp [e3, e4, e7, h1, h2])
      go_enter Tryz.func108, Tryz.ntmps108
      go_wp2_with (go_at_call 114; refine (word_where _ _ _ ?_).mono ?_; (first | exact hs | exact hn | exact ht); rintro e w' ⟨rfl, rfl⟩)
      go_ret
      exact ⟨by rw [HF.out]; rfl, (Below.refl _ _).alloc (Nat.le_refl _) _⟩
    cases h3 : mayB false c.tag
    case false =>
      have HF := Lib.hid (show textsB c = false by unfold textsB; simp [e3, e4, e7, h1, h2, h3])
      go_enter Tryz.func108, Tryz.ntmps108
      go_wp2_with (go_at_call 114; refine (word_where _ _ _ ?_).mono ?_; (first | exact hs | exact hn | exact ht); rintro e w' ⟨rfl, rfl⟩)
      go_ret
      exact ⟨by rw [HF.out]; rfl, (Below.refl _ _).alloc (Nat.le_refl _) _⟩
    have HF := Lib.hid (show textsB c = true by unfold textsB; simp [e3, e4, e7, h1, h2, h3])
    go_enter Tryz.func108, Tryz.ntmps108
    go_wp2_with (go_at_call 114; refine (word_where _ _ _ ?_).mono ?_; (first | exact hs | exact hn | exact ht); rintro e w' ⟨rfl, rfl⟩)
    go_ret
    exact ⟨by rw [HF.out]; rfl, (Below.refl _ _).alloc (Nat.le_refl _) _⟩
  by_cases q4 : c.kind = 4
  case pos =>
    have e3 : (c.kind == 3) = false := by rw [q4]; decide
    have e4 : (c.kind == 4) = true := by rw [q4]; decide
    have e7 : (c.kind != 7) = true := by rw [q4]; decide
    clear q4 q3
    cases h1 : mayB true c.set
    case false =>
      have HF := Lib.hid (show textsB c = false by unfold textsB; simp [e3, e4, e7, h1])
      go_enter Tryz.func108, Tryz.ntmps108
      go_wp2_with (go_at_call 114; refine (word_where _ _ _ ?_).mono ?_; (first | exact hs | exact hn | exact ht); rintro e w' ⟨rfl, rfl⟩)
      go_ret
      exact ⟨by rw [HF.out]; rfl, (Below.refl _ _).alloc (Nat.le_refl _) _⟩
    cases h2 : mayB true c.name
    case false =>
      have HF := Lib.hid (show textsB c = false by unfold textsB; simp [e3, e4, e7, h1, h2])
      go_enter Tryz.func108, Tryz.ntmps108
      go_wp2_with (go_at_call 114; refine (word_where _ _ _ ?_).mono ?_; (first | exact hs | exact hn | exact ht); rintro e w' ⟨rfl, rfl⟩)
      go_ret
      exact ⟨by rw [HF.out]; rfl, (Below.refl _ _).alloc (Nat.le_refl _) _⟩
    cases h3 : mayB true c.tag
    case false =>
      have HF := Lib.hid (show textsB c = false by unfold textsB; simp [e3, e4, e7, h1, h2, h3])
      go_enter Tryz.func108, Tryz.ntmps108
      go_wp2_with (go_at_call 114; refine (word_where _ _ _ ?_).mono ?_; (first | exact hs | exact hn | exact ht); rintro e w' ⟨rfl, rfl⟩)
      go_ret
      exact ⟨by rw [HF.out]; rfl, (Below.refl _ _).alloc (Nat.le_refl _) _⟩
    have HF := Lib.hid (show textsB c = true by unfold textsB; simp [e3, e4, e7, h1, h2, h3])
    go_enter Tryz.func108, Tryz.ntmps108
    go_wp2_with (go_at_call 114; refine (word_where _ _ _ ?_).mono ?_; (first | exact hs | exact hn | exact ht); rintro e w' ⟨rfl, rfl⟩)
    go_ret
    exact ⟨by rw [HF.out]; rfl, (Below.refl _ _).alloc (Nat.le_refl _) _⟩
  by_cases q7 : c.kind = 7
  case pos =>
    have e3 : (c.kind == 3) = false := by rw [q7]; decide
    have e4 : (c.kind == 4) = false := by rw [q7]; decide
    have e7 : (c.kind != 7) = false := by rw [q7]; decide
    clear q7 q3 q4
    cases h1 : mayB false c.set
    case false =>
      have HF := Lib.hid (show textsB c = false by unfold textsB; simp [e3, e4, e7, h1])
      go_enter Tryz.func108, Tryz.ntmps108
      go_wp2_with (go_at_call 114; refine (word_where _ _ _ ?_).mono ?_; (first | exact hs | exact hn | exact ht); rintro e w' ⟨rfl, rfl⟩)
      go_ret
      exact ⟨by rw [HF.out]; rfl, (Below.refl _ _).alloc (Nat.le_refl _) _⟩
    cases h2 : mayB false c.name
    case false =>
      have HF := Lib.hid (show textsB c = false by unfold textsB; simp [e3, e4, e7, h1, h2])
      go_enter Tryz.func108, Tryz.ntmps108
      go_wp2_with (go_at_call 114; refine (word_where _ _ _ ?_).mono ?_; (first | exact hs | exact hn | exact ht); rintro e w' ⟨rfl, rfl⟩)
      go_ret
      exact ⟨by rw [HF.out]; rfl, (Below.refl _ _).alloc (Nat.le_refl _) _⟩
    cases h3 : mayB false c.tag
    case false =>
      have HF := Lib.hid (show textsB c = false by unfold textsB; simp [e3, e4, e7, h1, h2, h3])
      go_enter Tryz.func108, Tryz.ntmps108
      go_wp2_with (go_at_call 114; refine (word_where _ _ _ ?_).mono ?_; (first | exact hs | exact hn | exact ht); rintro e w' ⟨rfl, rfl⟩)
      go_ret
      exact ⟨by rw [HF.out]; rfl, (Below.refl _ _).alloc (Nat.le_refl _) _⟩
    have HF := Lib.hid (show textsB c = true by unfold textsB; simp [e3, e4, e7, h1, h2, h3])
    go_enter Tryz.func108, Tryz.ntmps108
    go_wp2_with (go_at_call 114; refine (word_where _ _ _ ?_).mono ?_; (first | exact hs | exact hn | exact ht); rintro e w' ⟨rfl, rfl⟩)
    go_ret
    exact ⟨by rw [HF.out]; rfl, (Below.refl _ _).alloc (Nat.le_refl _) _⟩
  have e3 := beq_no q3
  have e4 := beq_no q4
  have e7 := bne_yes q7
  clear q3 q4 q7
  cases h1 : mayB true c.set
  case false =>
    have HF := Lib.hid (show textsB c = false by unfold textsB; simp [e3, e4, e7, h1])
    go_enter Tryz.func108, Tryz.ntmps108
    go_wp2_with (go_at_call 114; refine (word_where _ _ _ ?_).mono ?_; (first | exact hs | exact hn | exact ht); rintro e w' ⟨rfl, rfl⟩)
    go_ret
    exact ⟨by rw [HF.out]; rfl, (Below.refl _ _).alloc (Nat.le_refl _) _⟩
  cases h2 : mayB false c.name
  case false =>
    have HF := Lib.hid (show textsB c = false by unfold textsB; simp [e3, e4, e7, h1, h2])
    go_enter Tryz.func108, Tryz.ntmps108
    go_wp2_with (go_at_call 114; refine (word_where _ _ _ ?_).mono ?_; (first | exact hs | exact hn | exact ht); rintro e w' ⟨rfl, rfl⟩)
    go_ret
    exact ⟨by rw [HF.out]; rfl, (Below.refl _ _).alloc (Nat.le_refl _) _⟩
  cases h3 : mayB false c.tag
  case false =>
    have HF := Lib.hid (show textsB c = false by unfold textsB; simp [e3, e4, e7, h1, h2, h3])
    go_enter Tryz.func108, Tryz.ntmps108
    go_wp2_with (go_at_call 114; refine (word_where _ _ _ ?_).mono ?_; (first | exact hs | exact hn | exact ht); rintro e w' ⟨rfl, rfl⟩)
    go_ret
    exact ⟨by rw [HF.out]; rfl, (Below.refl _ _).alloc (Nat.le_refl _) _⟩
  have HF := Lib.hid (show textsB c = true by unfold textsB; simp [e3, e4, e7, h1, h2, h3])
  go_enter Tryz.func108, Tryz.ntmps108
  go_wp2_with (go_at_call 114; refine (word_where _ _ _ ?_).mono ?_; (first | exact hs | exact hn | exact ht); rintro e w' ⟨rfl, rfl⟩)
  go_ret
  exact ⟨by rw [HF.out]; rfl, (Below.refl _ _).alloc (Nat.le_refl _) _⟩
set_option maxHeartbeats 400000 in
theorem ids_ok (v : Value) (l : List ByteArray) (w : World) (hv : Strs w v l) : Calls Tryz.prog 115 #[v] w fun e w' => e = .returned (.bool (idsB l)) ∧ w = w' := by
  obtain ⟨k1, k2, a, ca, rfl, hca, ha⟩ := hv
  cases hin : inB l.length 1 4
  · have HW := Lib.hid (idsB_len hin)
    go_enter Tryz.func115, Tryz.ntmps115
    go_wp2_with (go_at_call 36; refine (in_range _ _ _ _).mono ?_; rintro e w' ⟨rfl, rfl⟩)
    go_ret
    exact ⟨by rw [HW.out]; rfl, rfl⟩
  · have HI := Lib.hid hin
    have HA := Lib.hid ha
    have HK := Lib.hid k2
    clear ha k2 hca
    go_enter Tryz.func115, Tryz.ntmps115
    go_wp2_with (go_at_call 36; refine (in_range _ _ _ _).mono ?_; rintro e w' ⟨rfl, rfl⟩)
    clear hin
    generalize hn : l.length = n at HI HA HK k1 ⊢
    have HN := Lib.hid hn
    clear hn
    go_loop [11] (fun i => ∃ k : Nat, k ≤ n ∧ i = .int .i64 k ∧ (∀ j, j < k → (el l j).size = 8)) (fun i => n - (intOf i).toNat)
    case atStart => exact ⟨0, by omega, rfl, fun j hj => by omega⟩
    case round =>
      obtain ⟨k, hk, rfl, he⟩ := hrel
      have HE := Lib.hid he
      clear he
      by_cases hlt : k < n
      · obtain ⟨x, o, rfl, hx, hcx⟩ := HA.out (by omega)
        have c1 := hcx k hlt
        clear hcx
        by_cases h8 : (el l k).size = 8
        · have H8 := Lib.hid h8
          have b8 : (((el l k).size : Int) != 8) = false := by simp; omega
          clear h8
          go_wp2
          go_round
          case rel =>
            refine ⟨k + 1, by omega, by go_num, fun j hj => ?_⟩
            by_cases e : j = k
            · subst e; exact H8.out
            · exact HE.out j (by omega)
          case measure => simp only [intOf]; omega
        · have HW := Lib.hid (idsB_bad k (by rw [HN.out]; exact hlt) h8)
          have b8 : (((el l k).size : Int) != 8) = true := by simp; omega
          clear h8
          go_wp2
          go_ret
          exact ⟨by rw [HW.out]; rfl, rfl⟩
      · obtain rfl : k = n := by omega
        have HW := Lib.hid ((idsB_iff l).2 ⟨by rw [HN.out]; exact HI.out, fun j hj => HE.out j (by rw [← HN.out]; exact hj)⟩)
        go_wp2
        go_ret
        exact ⟨by rw [HW.out]; rfl, rfl⟩
set_option maxHeartbeats 400000 in
theorem chunks_ok (c : CmdM) (v : Value) (w : World) (hv : Strs w v c.ch) : Calls Tryz.prog 109 #[.agg #[.int .i64 c.kind, .int .i64 c.client, .int .i64 c.no, .string c.set, .string c.name, .string c.tag, .int .i64 c.n, v]] w fun e w' => e = .returned (.bool (chunksB c)) ∧ Below w.heap.size w w' := by
  by_cases q3 : c.kind = 3
  · have e3 : (c.kind != 3) = false := by rw [q3]; decide
    have HF := Lib.hid (show chunksB c = idsB c.ch by unfold chunksB; simp [q3])
    have HV := Lib.hid hv
    clear q3 hv
    go_enter Tryz.func109, Tryz.ntmps109
    go_wp2_with (go_at_call 115; refine (ids_ok v c.ch _ (HV.out.alloc _)).mono ?_; rintro e w' ⟨rfl, rfl⟩)
    go_ret
    exact ⟨by rw [HF.out]; rfl, (Below.refl _ _).alloc (Nat.le_refl _) _⟩
  · have e3 := bne_yes q3
    have HF := Lib.hid (show chunksB c = decide (c.ch.length = 0) by unfold chunksB; simp [q3])
    clear q3
    obtain ⟨k1, k2, a, ca, rfl, hca, ha⟩ := hv
    clear ha k2
    by_cases h0 : c.ch.length = 0
    · have HZ := Lib.hid h0
      have hz : ((c.ch.length : Int) == 0) = true := by rw [h0]; rfl
      clear h0
      go_enter Tryz.func109, Tryz.ntmps109
      go_wp2
      go_ret
      exact ⟨by rw [HF.out, decide_eq_true HZ.out]; first | rfl | simp [hz], (Below.refl _ _).alloc (Nat.le_refl _) _⟩
    · have HZ := Lib.hid h0
      have hz : ((c.ch.length : Int) == 0) = false := beq_no (by omega)
      clear h0
      go_enter Tryz.func109, Tryz.ntmps109
      go_wp2
      go_ret
      exact ⟨by rw [HF.out, decide_eq_false HZ.out]; first | rfl | simp [hz], (Below.refl _ _).alloc (Nat.le_refl _) _⟩
end Go.Proofs.YtckeeadkhopljaaGreatDoor
/- errors.Is at the program's sentinel: the sentinel itself, and nil; and where the sentinel lies. -/
namespace Go.Proofs.YtckeeadkhopljaaGreatDoor
open Go.RowKit Go.Extern.Stop Go.Stop Go.Extern
set_option linter.unusedVariables false

theorem Tryz.isTypeOf (v : Value) (w : World) : (Extern.ReflectliteType.typeOf #[.iface 138 v]).run Tryz.prog w = .ok (.iface 125 (.agg #[.pointer (some ⟨1, 138, none⟩)])) w := by kernel_rfl
theorem Tryz.isComparable (w : World) : ((Extern.ReflectliteType.method fun t => do Extern.Rtype.noPackHeld "Comparable" t; pure (.bool (← typeInfo t).comparable)) #[.agg #[.pointer (some ⟨1, 138, none⟩)]]).run Tryz.prog w = .ok (.bool true) w := by kernel_rfl
theorem Tryz.isCallComparable (w : World) : (callFunc 136 #[.agg #[.pointer (some ⟨1, 138, none⟩)]]).run Tryz.prog w = .ok (.value (.bool true)) w := by
  have h := @run_callFunc_extern Tryz.prog 136 _ (Extern.ReflectliteType.method fun t => do Extern.Rtype.noPackHeld "Comparable" t; pure (.bool (← typeInfo t).comparable)) Tryz.func136 (by kernel_rfl) (by kernel_rfl) (by kernel_rfl) (by kernel_rfl) #[.agg #[.pointer (some ⟨1, 138, none⟩)]] w
  rw [h, Tryz.isComparable]
  rfl
theorem Tryz.isMethodComparable (v : Value) (w : World) : (Go.method 276 125 v "Comparable").run Tryz.prog w = .ok (136, v) w := by kernel_rfl
theorem Tryz.isComp : (Tryz.prog.info? 138).map (·.comparable) = some true := by kernel_rfl
theorem Tryz.isSize : (Tryz.prog.info? 164).map (·.size) = some 1 := by kernel_rfl

set_option maxRecDepth 100000 in
set_option maxHeartbeats 1000000 in
/-- errors.Is(x, x), x a pointer to an errors.errorString. -/
theorem is_same (a : Addr) (w : World) :
    Calls Tryz.prog 95 #[.iface 138 (.pointer (some a)), .iface 138 (.pointer (some a))] w fun e w' => e = .returned (.bool true) ∧ w' = w := by
  obtain ⟨i, hi, hcmp⟩ := Option.map_eq_some_iff.1 Tryz.isComp
  obtain ⟨j, hj, hjs⟩ := Option.map_eq_some_iff.1 Tryz.isSize
  have h8 := @run_callFunc_extern Tryz.prog 104 _ Extern.ReflectliteType.typeOf Tryz.func104 (by kernel_rfl) (by kernel_rfl) (by kernel_rfl) (by kernel_rfl)
  have tT := Tryz.isTypeOf
  have cT := Tryz.isCallComparable
  have mR := Tryz.isMethodComparable
  have heq := run_eql_iface_ptr_same (P := Tryz.prog) w a Tryz.underlying114 Tryz.underlying138 hi hcmp hj
  go_enter Tryz.func95, Tryz.ntmps95
  go_wp2
  refine wp_loop_rounds 1 ?_
  rw [rounds_succ]
  go_wp2
  go_ret
  exact ⟨rfl, rfl⟩

set_option maxRecDepth 100000 in
/-- errors.Is(nil, x). -/
theorem is_nil (b : Addr) (w : World) :
    Calls Tryz.prog 95 #[.nilIface, .iface 138 (.pointer (some b))] w fun e w' => e = .returned (.bool false) ∧ w' = w := by
  have hn := run_eql_iface_nil_left (P := Tryz.prog) w 138 (.pointer (some b)) Tryz.underlying114
  go_enter Tryz.func95, Tryz.ntmps95
  go_wp2
  go_ret
  exact ⟨rfl, rfl⟩

/-- The program's sentinel points to a. -/
def Sent (w : World) (a : Addr) : Prop := w.cell? ⟨0, 0, none⟩ = some (.iface 138 (.pointer (some a)))
theorem sent_lt {w : World} {p : Addr} {v : Value} (h : w.cell? p = some v) : p.block < w.heap.size := by
  rcases Nat.lt_or_ge p.block w.heap.size with h' | h'
  · exact h'
  · exfalso
    unfold World.cell? at h
    rw [Array.getElem?_eq_none h'] at h
    cases h
theorem Sent.later {w w' : World} {a : Addr} (h : Sent w a) (hb : Below w.heap.size w w') : Sent w' a := by
  unfold Sent
  rw [hb.cell (sent_lt h)]
  exact h
theorem Sent.alloc {w : World} {a : Addr} (h : Sent w a) (o : Obj) : Sent (w.alloc o) a := h.later ((Below.refl _ _).alloc (Nat.le_refl _) _)
theorem Sent.drew {w : World} {a : Addr} (h : Sent w a) : Sent w.drew a := h
theorem star : "*" ++ "errors.errorString" = "*errors.errorString" := by decide
theorem rowErr (u : TypeId) (h : Tryz.prog.typeName? 3 u = some "*errors.errorString") : u = 138 := typeName_ptr_named (nm := "errors.errorString") (by rw [star]; kernel_rfl) (by kernel_rfl) (by decide) u (by rw [star]; exact h)
theorem cellsErr : Tryz.prog.cellsOf 164 = 1 := by kernel_rfl
theorem cellsStr : Tryz.prog.cellsOf 9 = 1 := by kernel_rfl
theorem sent_of {W : World} (h : laidMetH Tryz.prog [("loop.example/g00954/impl.errInvalidCmd", Rows.laid_loop_example_g00954_impl_errInvalidCmd)] W) : ∃ a, Sent W a := by
  rw [MakeChecks.laidMetH_plain _ _ _ (by kernel_rfl)] at h
  obtain ⟨a0, s0, hv0, -, -, -⟩ := laid_sentinel h (g := 0) (ti := 114) (by kernel_rfl) (by kernel_rfl) Tryz.underlying114 rowErr Tryz.underlying138 Tryz.underlying164 rfl rfl Tryz.underlying9 cellsErr cellsStr
  refine ⟨a0, ?_⟩
  unfold Sent
  simpa using World.var?_cell (by kernel_rfl) hv0 0
end Go.Proofs.YtckeeadkhopljaaGreatDoor
/- When a command is valid: the program's checkCmd and CmdOk. -/
namespace Go.Proofs.YtckeeadkhopljaaGreatDoor
open Go.RowKit Go.PlainAid
set_option linter.unusedVariables false

/-- What checkCmd answers. -/
def errV (a : Addr) : Bool → Value
  | true => .nilIface
  | false => .iface 138 (.pointer (some a))
set_option maxRecDepth 100000 in
set_option maxHeartbeats 2000000 in
theorem check_cmd (c : CmdM) (v : Value) (a : Addr) (w : World) (hv : Strs w v c.ch) (hS : Sent w a) (hs : c.set.size ≤ 9223372036854775807) (hn : c.name.size ≤ 9223372036854775807) (ht : c.tag.size ≤ 9223372036854775807) :
    Calls Tryz.prog 96 #[.agg #[.int .i64 c.kind, .int .i64 c.client, .int .i64 c.no, .string c.set, .string c.name, .string c.tag, .int .i64 c.n, v]] w fun e w' => e = .returned (errV a (okB c)) ∧ Below w.heap.size w w' := by
  have HV := Lib.hid hv
  have HS := Lib.hid hS
  clear hv hS
  go_enter Tryz.func96, Tryz.ntmps96
  go_wp2_with fail
  refine (impl_same c zeroC v (.slice none 0 0) _ (HV.out.alloc _) (strs_nil _ _ _)).mono ?_
  rintro e w1 ⟨rfl, hb⟩
  have H1 := Lib.hid ((Has.new w 64 c v _ rfl HV.out).after hb)
  have S1 := Lib.hid ((HS.out.alloc _).later hb)
  have W1 := Lib.hid (((Aft.refl w).alloc _).after hb)
  clear hb HV HS
  by_cases z : c = zeroC
  · have hd := decide_eq_true z
    have HF := Lib.hid (show okB c = true by unfold okB; simp [z])
    clear z
    go_wp2
    go_ret
    exact ⟨by rw [HF.out]; rfl, W1.out⟩
  have hd := decide_eq_false z
  have HZ := Lib.hid hd
  clear z
  obtain ⟨b0, b1, b2, b3, b4, b5, b6, b7⟩ := H1.out.cells
  go_wp2_with fail
  clear b0 b1 b2 b3 b4 b5 b6 b7
  refine (numbers_ok c v _).mono ?_
  rintro e w2 ⟨rfl, hb⟩
  have H2 := Lib.hid (H1.out.after hb)
  have S2 := Lib.hid (S1.out.later hb)
  have W2 := Lib.hid (W1.out.after hb)
  clear hb H1 S1 W1
  cases h1 : numsB c
  · have HF := Lib.hid (show okB c = false by unfold okB; simp [HZ.out, h1])
    have hs0 := S2.out
    unfold Sent at hs0
    go_wp2
    go_ret
    exact ⟨by rw [HF.out]; rfl, W2.out⟩
  obtain ⟨b0, b1, b2, b3, b4, b5, b6, b7⟩ := H2.out.cells
  go_wp2_with fail
  clear b0 b1 b2 b3 b4 b5 b6 b7
  refine (texts_ok c v _ hs hn ht).mono ?_
  rintro e w3 ⟨rfl, hb⟩
  have H3 := Lib.hid (H2.out.after hb)
  have S3 := Lib.hid (S2.out.later hb)
  have W3 := Lib.hid (W2.out.after hb)
  clear hb H2 S2 W2
  cases h2 : textsB c
  · have HF := Lib.hid (show okB c = false by unfold okB; simp [HZ.out, h2])
    have hs0 := S3.out
    unfold Sent at hs0
    go_wp2
    go_ret
    exact ⟨by rw [HF.out]; rfl, W3.out⟩
  obtain ⟨b0, b1, b2, b3, b4, b5, b6, b7⟩ := H3.out.cells
  go_wp2_with fail
  clear b0 b1 b2 b3 b4 b5 b6 b7
  refine (chunks_ok c v _ H3.out.2).mono ?_
  rintro e w4 ⟨rfl, hb⟩
  have H4 := Lib.hid (H3.out.after hb)
  have S4 := Lib.hid (S3.out.later hb)
  have W4 := Lib.hid (W3.out.after hb)
  clear hb H3 S3 W3
  cases h3 : chunksB c
  · have HF := Lib.hid (show okB c = false by unfold okB; simp [HZ.out, h3])
    have hs0 := S4.out
    unfold Sent at hs0
    go_wp2
    go_ret
    exact ⟨by rw [HF.out]; rfl, W4.out⟩
  · have HF := Lib.hid (show okB c = true by unfold okB; simp [HZ.out, h1, h2, h3])
    go_wp2
    go_ret
    exact ⟨by rw [HF.out]; rfl, W4.out⟩

theorem is_err (b : Bool) (a : Addr) (w : World) : Calls Tryz.prog 95 #[errV a b, .iface 138 (.pointer (some a))] w fun e w' => e = .returned (.bool (!b)) ∧ w' = w := by
  cases b
  · exact is_same a w
  · exact is_nil a w
theorem held1 {w : World} {g : Nat} {c : CmdM} {v : Value} {t : TypeId} {a : Addr} (h : Has w g t c v) (hs : Sent w a) : (w.cell? ⟨g, 0, none⟩ = some (.int .i64 c.kind) ∧ w.cell? ⟨g, 1, none⟩ = some (.int .i64 c.client) ∧ w.cell? ⟨g, 2, none⟩ = some (.int .i64 c.no) ∧ w.cell? ⟨g, 3, none⟩ = some (.string c.set) ∧ w.cell? ⟨g, 4, none⟩ = some (.string c.name) ∧ w.cell? ⟨g, 5, none⟩ = some (.string c.tag) ∧ w.cell? ⟨g, 6, none⟩ = some (.int .i64 c.n) ∧ w.cell? ⟨g, 7, none⟩ = some (v)) ∧ w.cell? ⟨0, 0, none⟩ = some (.iface 138 (.pointer (some a))) := ⟨h.cells, hs⟩
set_option maxRecDepth 100000 in
set_option maxHeartbeats 2000000 in
theorem cmd_ok (c : CmdM) (v : Value) (a : Addr) (w : World) (hv : Strs w v c.ch) (hS : Sent w a) (hs : c.set.size ≤ 9223372036854775807) (hn : c.name.size ≤ 9223372036854775807) (ht : c.tag.size ≤ 9223372036854775807) :
    Calls Tryz.prog 84 #[.agg #[.int .i64 c.kind, .int .i64 c.client, .int .i64 c.no, .string c.set, .string c.name, .string c.tag, .int .i64 c.n, v]] w fun e w' => e = .returned (.bool (okB c)) ∧ Below w.heap.size w w' := by
  have KA := Lib.hid (Has.new w 64 c v _ rfl hv).drew
  have KS := Lib.hid (hS.alloc (.cells #[.int .i64 c.kind, .int .i64 c.client, .int .i64 c.no, .string c.set, .string c.name, .string c.tag, .int .i64 c.n, v] 64)).drew
  have KW := Lib.hid ((Aft.refl w).alloc (.cells #[.int .i64 c.kind, .int .i64 c.client, .int .i64 c.no, .string c.set, .string c.name, .string c.tag, .int .i64 c.n, v] 64)).drew
  clear hv hS
  obtain ⟨b, hok⟩ : ∃ b, okB c = b := ⟨_, rfl⟩
  rw [hok]
  have HO := Lib.hid hok
  clear hok
  go_enter Tryz.func84, Tryz.ntmps84
  go_wp2_with fail
  go_region_held3 (fun w' => (w'.cell? ⟨w.heap.size, 0, none⟩ = some (.int .i64 c.kind) ∧ w'.cell? ⟨w.heap.size, 1, none⟩ = some (.int .i64 c.client) ∧ w'.cell? ⟨w.heap.size, 2, none⟩ = some (.int .i64 c.no) ∧ w'.cell? ⟨w.heap.size, 3, none⟩ = some (.string c.set) ∧ w'.cell? ⟨w.heap.size, 4, none⟩ = some (.string c.name) ∧ w'.cell? ⟨w.heap.size, 5, none⟩ = some (.string c.tag) ∧ w'.cell? ⟨w.heap.size, 6, none⟩ = some (.int .i64 c.n) ∧ w'.cell? ⟨w.heap.size, 7, none⟩ = some (v)) ∧ w'.cell? ⟨0, 0, none⟩ = some (.iface 138 (.pointer (some a))))
    (exact held1 KA.out KS.out)
    (first
      | (go_at_call 96; refine (check_cmd c v a _ KA.out.2 KS.out hs hn ht).mono ?_; rintro e w1 ⟨he, hb⟩; rw [HO.out] at he; subst he; have NA := Lib.hid (KA.out.after hb); have NS := Lib.hid (KS.out.later hb); have NW := Lib.hid (KW.out.after hb); clear hb KA KS KW; rename Hid (Has w1 _ _ c v) => KA; rename Hid (Sent w1 a) => KS; rename Hid (Aft w w1) => KW)
      | (go_at_call 95; refine (is_err b a _).mono ?_; rintro e w2 ⟨rfl, rfl⟩))
  go_wp2
  go_ret
  exact ⟨by simp, KW.out⟩
end Go.Proofs.YtckeeadkhopljaaGreatDoor
/- When a command is valid: the model's walks. -/
namespace Go.Proofs.YtckeeadkhopljaaGreatDoor
open Go.RowKit Go.PlainAid
set_option linter.unusedVariables false

set_option maxHeartbeats 400000 in
theorem in_b (a lo hi : Int) (w : World) : Calls Tryz.prog 28 #[.int .i64 a, .int .i64 lo, .int .i64 hi] w fun e w' => e = .returned (.bool (inB a lo hi)) ∧ w = w' := by
  by_cases h1 : lo ≤ a
  · by_cases h2 : a ≤ hi
    · rw [inB_t h1 h2]
      go_enter Tryz.func28, Tryz.ntmps28
      go_wp2
      go_ret
      exact ⟨rfl, rfl⟩
    · rw [inB_f (.inr (by omega))]
      have hd : decide (a ≤ hi) = false := by simp; omega
      go_enter Tryz.func28, Tryz.ntmps28
      go_wp2
      go_ret
      exact ⟨rfl, rfl⟩
  · rw [inB_f (.inl (by omega))]
    have hd : decide (lo ≤ a) = false := by simp; omega
    go_enter Tryz.func28, Tryz.ntmps28
    go_wp2
    go_ret
    exact ⟨rfl, rfl⟩
set_option maxHeartbeats 400000 in
theorem word_b (s : ByteArray) (w : World) (hs : s.size ≤ 9223372036854775807) : Calls Tryz.prog 103 #[.string s] w fun e w' => e = .returned (.bool (wordB s)) ∧ w = w' := by
  cases hin : inB s.size 1 8
  · have HW := Lib.hid (wordB_len hin)
    go_enter Tryz.func103, Tryz.ntmps103
    go_wp2_with (go_at_call 28; refine (in_b _ _ _ _).mono ?_; rintro e w' ⟨rfl, rfl⟩)
    go_ret
    exact ⟨by rw [HW.out]; rfl, rfl⟩
  · have HI := Lib.hid hin
    go_enter Tryz.func103, Tryz.ntmps103
    go_wp2_with (go_at_call 28; refine (in_b _ _ _ _).mono ?_; rintro e w' ⟨rfl, rfl⟩)
    clear hin
    go_loop [3] (fun i => ∃ k : Nat, k ≤ s.size ∧ i = .int .i64 k ∧ (∀ j, j < k → 97 ≤ bt s j ∧ bt s j ≤ 122)) (fun i => s.size - (intOf i).toNat)
    case atStart => exact ⟨0, by omega, rfl, fun j hj => by omega⟩
    case round =>
      obtain ⟨k, hk, rfl, he⟩ := hrel
      have HE := Lib.hid he
      clear he
      by_cases hlt : k < s.size
      · have hg := get_bt s k hlt
        have b0 := bt_nonneg s k
        have b1 := bt_le s k
        by_cases c1 : bt s k < 97
        · have HW := Lib.hid (wordB_bad k hlt (.inl c1))
          go_wp2
          go_ret
          exact ⟨by rw [HW.out]; rfl, rfl⟩
        · by_cases c2 : 122 < bt s k
          · have HW := Lib.hid (wordB_bad k hlt (.inr c2))
            go_wp2
            go_ret
            exact ⟨by rw [HW.out]; rfl, rfl⟩
          · go_wp2
            go_round
            case rel =>
              refine ⟨k + 1, by omega, by go_num, fun j hj => ?_⟩
              by_cases e : j = k
              · subst e; omega
              · exact HE.out j (by omega)
            case measure => simp only [intOf]; omega
      · obtain rfl : k = s.size := by omega
        have HW := Lib.hid ((wordB_iff s).2 ⟨HI.out, fun j hj => HE.out j hj⟩)
        go_wp2
        go_ret
        exact ⟨by rw [HW.out]; rfl, rfl⟩
set_option maxHeartbeats 400000 in
theorem may_b (b : Bool) (s : ByteArray) (w : World) (hs : s.size ≤ 9223372036854775807) : Calls Tryz.prog 94 #[.string s, .bool b] w fun e w' => e = .returned (.bool (mayB b s)) ∧ w = w' := by
  cases b
  · rw [mayB_false]
    by_cases h : s.size = 0
    · obtain rfl := size_zero h
      go_enter Tryz.func94, Tryz.ntmps94
      go_wp2
      go_ret
      exact ⟨rfl, rfl⟩
    · have hn : s ≠ ⟨#[]⟩ := fun e => h (by rw [e]; rfl)
      have hb : s.toList.isEmpty = false := by
        cases e : s.toList.isEmpty
        · rfl
        · exact absurd (str_eq (by rw [List.isEmpty_iff.1 e, Lib.toList_data])) hn
      rw [decide_eq_false h]
      clear h hn
      go_enter Tryz.func94, Tryz.ntmps94
      go_wp2
      go_ret
      exact ⟨by first | rfl | (simp [hb]), rfl⟩
  · rw [mayB_true]
    go_enter Tryz.func94, Tryz.ntmps94
    go_wp2_with (go_at_call 103; refine (word_b s _ hs).mono ?_; rintro e w' ⟨rfl, rfl⟩)
    go_ret
    exact ⟨rfl, rfl⟩
set_option maxRecDepth 100000 in
set_option maxHeartbeats 4000000 in
theorem spec_ok_3 (c : CmdM) (v : Value) (w : World) (hv : Strs w v c.ch) (hs : c.set.size ≤ 9223372036854775807) (hn : c.name.size ≤ 9223372036854775807) (ht : c.tag.size ≤ 9223372036854775807) (q : c.kind = 3) :
    Calls Tryz.prog 80 #[.agg #[.int .i64 c.kind, .int .i64 c.client, .int .i64 c.no, .string c.set, .string c.name, .string c.tag, .int .i64 c.n, v]] w fun e w' => e = .returned (.bool (okB c)) ∧ Below w.heap.size w w' := by
  have hz : decide (c = zeroC) = false := decide_eq_false (fun e => absurd (e ▸ q : zeroC.kind = 3) (by decide))
  have k17 : inB c.kind 1 7 = true := inB_t (by omega) (by omega)
  have k07 : inB c.kind 0 7 = true := inB_t (by omega) (by omega)
  have e0 : (c.kind == 0) = false := by rw [q]; decide
  have e3 : (c.kind == 3) = true := by rw [q]; decide
  have e4 : (c.kind == 4) = false := by rw [q]; decide
  have n3 : (c.kind != 3) = false := by rw [q]; decide
  have e5 : (c.kind == 5) = false := by rw [q]; decide
  have n5 : (c.kind != 5) = true := by rw [q]; decide
  have n7 : (c.kind != 7) = true := by rw [q]; decide
  clear q
  obtain ⟨_, _, va, vcap, rfl, _, ha⟩ := hv
  have HA := Lib.hid ha
  clear ha
  cases h1 : inB c.client 1 9
  case false =>
    have HF := Lib.hid (show okB c = false by unfold okB numsB textsB chunksB; simp [hz, k17, e3, e4, e5, n7, h1])
    go_enter Tryz.func80, Tryz.ntmps80
    go_wp2_with (first | (go_at_call 28; refine (in_b _ _ _ _).mono ?_; rintro e w' ⟨rfl, rfl⟩) | (go_at_call 94; refine (may_b _ _ _ ?_).mono ?_; (first | exact hs | exact hn | exact ht); rintro e w' ⟨rfl, rfl⟩))
    go_ret
    exact ⟨by rw [HF.out]; rfl, (Below.refl _ _).alloc (Nat.le_refl _) _⟩
  cases h2 : inB c.no 1 1000
  case false =>
    have HF := Lib.hid (show okB c = false by unfold okB numsB textsB chunksB; simp [hz, k17, e3, e4, e5, n7, h1, h2])
    go_enter Tryz.func80, Tryz.ntmps80
    go_wp2_with (first | (go_at_call 28; refine (in_b _ _ _ _).mono ?_; rintro e w' ⟨rfl, rfl⟩) | (go_at_call 94; refine (may_b _ _ _ ?_).mono ?_; (first | exact hs | exact hn | exact ht); rintro e w' ⟨rfl, rfl⟩))
    go_ret
    exact ⟨by rw [HF.out]; rfl, (Below.refl _ _).alloc (Nat.le_refl _) _⟩
  cases h3 : mayB true c.set
  case false =>
    have HF := Lib.hid (show okB c = false by unfold okB numsB textsB chunksB; simp [hz, k17, e3, e4, e5, n7, h1, h2, h3])
    go_enter Tryz.func80, Tryz.ntmps80
    go_wp2_with (first | (go_at_call 28; refine (in_b _ _ _ _).mono ?_; rintro e w' ⟨rfl, rfl⟩) | (go_at_call 94; refine (may_b _ _ _ ?_).mono ?_; (first | exact hs | exact hn | exact ht); rintro e w' ⟨rfl, rfl⟩))
    go_ret
    exact ⟨by rw [HF.out]; rfl, (Below.refl _ _).alloc (Nat.le_refl _) _⟩
  cases h4 : mayB true c.name
  case false =>
    have HF := Lib.hid (show okB c = false by unfold okB numsB textsB chunksB; simp [hz, k17, e3, e4, e5, n7, h1, h2, h3, h4])
    go_enter Tryz.func80, Tryz.ntmps80
    go_wp2_with (first | (go_at_call 28; refine (in_b _ _ _ _).mono ?_; rintro e w' ⟨rfl, rfl⟩) | (go_at_call 94; refine (may_b _ _ _ ?_).mono ?_; (first | exact hs | exact hn | exact ht); rintro e w' ⟨rfl, rfl⟩))
    go_ret
    exact ⟨by rw [HF.out]; rfl, (Below.refl _ _).alloc (Nat.le_refl _) _⟩
  cases h5 : mayB false c.tag
  case false =>
    have HF := Lib.hid (show okB c = false by unfold okB numsB textsB chunksB; simp [hz, k17, e3, e4, e5, n7, h1, h2, h3, h4, h5])
    go_enter Tryz.func80, Tryz.ntmps80
    go_wp2_with (first | (go_at_call 28; refine (in_b _ _ _ _).mono ?_; rintro e w' ⟨rfl, rfl⟩) | (go_at_call 94; refine (may_b _ _ _ ?_).mono ?_; (first | exact hs | exact hn | exact ht); rintro e w' ⟨rfl, rfl⟩))
    go_ret
    exact ⟨by rw [HF.out]; rfl, (Below.refl _ _).alloc (Nat.le_refl _) _⟩
  by_cases n0 : c.n = 0
  · have m0 : (c.n != 0) = false := by rw [n0]; decide
    have h6 : inB c.n 0 0 = true := inB_t (by omega) (by omega)
    clear n0
    cases h7 : inB c.ch.length 1 4
    case false =>
      have hi := idsB_len h7
      have HF := Lib.hid (show okB c = false by unfold okB numsB textsB chunksB; simp [hz, k17, e3, e4, e5, n7, h1, h2, h3, h4, h5, h6, hi])
      go_enter Tryz.func80, Tryz.ntmps80
      go_wp2_with (first | (go_at_call 28; refine (in_b _ _ _ _).mono ?_; rintro e w' ⟨rfl, rfl⟩) | (go_at_call 94; refine (may_b _ _ _ ?_).mono ?_; (first | exact hs | exact hn | exact ht); rintro e w' ⟨rfl, rfl⟩))
      go_ret
      exact ⟨by rw [HF.out]; rfl, (Below.refl _ _).alloc (Nat.le_refl _) _⟩
    have HI := Lib.hid h7
    have HO := Lib.hid (show okB c = idsB c.ch by unfold okB numsB textsB chunksB; simp [hz, k17, e3, e4, e5, n7, h1, h2, h3, h4, h5, h6])
    go_enter Tryz.func80, Tryz.ntmps80
    go_wp2_with (first | (go_at_call 28; refine (in_b _ _ _ _).mono ?_; rintro e w' ⟨rfl, rfl⟩) | (go_at_call 94; refine (may_b _ _ _ ?_).mono ?_; (first | exact hs | exact hn | exact ht); rintro e w' ⟨rfl, rfl⟩))
    clear hz k17 k07 e0 e3 e4 n3 e5 n5 n7 h1 h2 h3 h4 h5 h6 h7
    have hl4 : c.ch.length ≤ 4 := by have := (inB_iff _ _ _).1 HI.out; omega
    go_loop [4] (fun i => ∃ k : Nat, k ≤ c.ch.length ∧ i = .int .i64 k ∧ (∀ j, j < k → (el c.ch j).size = 8)) (fun i => c.ch.length - (intOf i).toNat)
    case atStart => exact ⟨0, by omega, rfl, fun j hj => by omega⟩
    case round =>
      obtain ⟨k, hk, rfl, he⟩ := hrel
      have HE := Lib.hid he
      clear he
      by_cases hlt : k < c.ch.length
      · obtain ⟨x, o, rfl, hx, hcx⟩ := HA.out (by omega)
        have c1 := hcx k hlt
        clear hcx
        by_cases h8 : (el c.ch k).size = 8
        · have H8 := Lib.hid h8
          have b8 : (((el c.ch k).size : Int) != 8) = false := by simp; omega
          clear h8
          go_wp2
          go_round
          case rel =>
            refine ⟨k + 1, by omega, by go_num, fun j hj => ?_⟩
            by_cases e : j = k
            · subst e; exact H8.out
            · exact HE.out j (by omega)
          case measure => simp only [intOf]; omega
        · have HW := Lib.hid (idsB_bad k hlt h8)
          have b8 : (((el c.ch k).size : Int) != 8) = true := by simp; omega
          clear h8
          go_wp2
          go_ret
          exact ⟨by rw [HO.out, HW.out]; rfl, (Below.refl _ _).alloc (Nat.le_refl _) _⟩
      · obtain rfl : k = c.ch.length := by omega
        have HW := Lib.hid ((idsB_iff c.ch).2 ⟨HI.out, fun j hj => HE.out j hj⟩)
        go_wp2
        go_ret
        exact ⟨by rw [HO.out, HW.out]; rfl, (Below.refl _ _).alloc (Nat.le_refl _) _⟩
  · have m0 := bne_yes n0
    have h6 : inB c.n 0 0 = false := inB_f (by omega)
    clear n0
    have HF := Lib.hid (show okB c = false by unfold okB numsB textsB chunksB; simp [hz, k17, e3, e4, e5, n7, h1, h2, h3, h4, h5, h6])
    go_enter Tryz.func80, Tryz.ntmps80
    go_wp2_with (first | (go_at_call 28; refine (in_b _ _ _ _).mono ?_; rintro e w' ⟨rfl, rfl⟩) | (go_at_call 94; refine (may_b _ _ _ ?_).mono ?_; (first | exact hs | exact hn | exact ht); rintro e w' ⟨rfl, rfl⟩))
    go_ret
    exact ⟨by rw [HF.out]; rfl, (Below.refl _ _).alloc (Nat.le_refl _) _⟩
set_option maxRecDepth 100000 in
set_option maxHeartbeats 4000000 in
theorem spec_ok_4 (c : CmdM) (v : Value) (w : World) (hv : Strs w v c.ch) (hs : c.set.size ≤ 9223372036854775807) (hn : c.name.size ≤ 9223372036854775807) (ht : c.tag.size ≤ 9223372036854775807) (q : c.kind = 4) :
    Calls Tryz.prog 80 #[.agg #[.int .i64 c.kind, .int .i64 c.client, .int .i64 c.no, .string c.set, .string c.name, .string c.tag, .int .i64 c.n, v]] w fun e w' => e = .returned (.bool (okB c)) ∧ Below w.heap.size w w' := by
  have hz : decide (c = zeroC) = false := decide_eq_false (fun e => absurd (e ▸ q : zeroC.kind = 4) (by decide))
  have k17 : inB c.kind 1 7 = true := inB_t (by omega) (by omega)
  have k07 : inB c.kind 0 7 = true := inB_t (by omega) (by omega)
  have e0 : (c.kind == 0) = false := by rw [q]; decide
  have e3 : (c.kind == 3) = false := by rw [q]; decide
  have e4 : (c.kind == 4) = true := by rw [q]; decide
  have n3 : (c.kind != 3) = true := by rw [q]; decide
  have e5 : (c.kind == 5) = false := by rw [q]; decide
  have n5 : (c.kind != 5) = true := by rw [q]; decide
  have n7 : (c.kind != 7) = true := by rw [q]; decide
  clear q
  obtain ⟨_, _, va, vcap, rfl, _, _⟩ := hv
  cases h1 : inB c.client 1 9
  case false =>
    have HF := Lib.hid (show okB c = false by unfold okB numsB textsB chunksB; simp [hz, k17, e3, e4, e5, n7, h1])
    go_enter Tryz.func80, Tryz.ntmps80
    go_wp2_with (first | (go_at_call 28; refine (in_b _ _ _ _).mono ?_; rintro e w' ⟨rfl, rfl⟩) | (go_at_call 94; refine (may_b _ _ _ ?_).mono ?_; (first | exact hs | exact hn | exact ht); rintro e w' ⟨rfl, rfl⟩))
    go_ret
    exact ⟨by rw [HF.out]; rfl, (Below.refl _ _).alloc (Nat.le_refl _) _⟩
  cases h2 : inB c.no 1 1000
  case false =>
    have HF := Lib.hid (show okB c = false by unfold okB numsB textsB chunksB; simp [hz, k17, e3, e4, e5, n7, h1, h2])
    go_enter Tryz.func80, Tryz.ntmps80
    go_wp2_with (first | (go_at_call 28; refine (in_b _ _ _ _).mono ?_; rintro e w' ⟨rfl, rfl⟩) | (go_at_call 94; refine (may_b _ _ _ ?_).mono ?_; (first | exact hs | exact hn | exact ht); rintro e w' ⟨rfl, rfl⟩))
    go_ret
    exact ⟨by rw [HF.out]; rfl, (Below.refl _ _).alloc (Nat.le_refl _) _⟩
  cases h3 : mayB true c.set
  case false =>
    have HF := Lib.hid (show okB c = false by unfold okB numsB textsB chunksB; simp [hz, k17, e3, e4, e5, n7, h1, h2, h3])
    go_enter Tryz.func80, Tryz.ntmps80
    go_wp2_with (first | (go_at_call 28; refine (in_b _ _ _ _).mono ?_; rintro e w' ⟨rfl, rfl⟩) | (go_at_call 94; refine (may_b _ _ _ ?_).mono ?_; (first | exact hs | exact hn | exact ht); rintro e w' ⟨rfl, rfl⟩))
    go_ret
    exact ⟨by rw [HF.out]; rfl, (Below.refl _ _).alloc (Nat.le_refl _) _⟩
  cases h4 : mayB true c.name
  case false =>
    have HF := Lib.hid (show okB c = false by unfold okB numsB textsB chunksB; simp [hz, k17, e3, e4, e5, n7, h1, h2, h3, h4])
    go_enter Tryz.func80, Tryz.ntmps80
    go_wp2_with (first | (go_at_call 28; refine (in_b _ _ _ _).mono ?_; rintro e w' ⟨rfl, rfl⟩) | (go_at_call 94; refine (may_b _ _ _ ?_).mono ?_; (first | exact hs | exact hn | exact ht); rintro e w' ⟨rfl, rfl⟩))
    go_ret
    exact ⟨by rw [HF.out]; rfl, (Below.refl _ _).alloc (Nat.le_refl _) _⟩
  cases h5 : mayB true c.tag
  case false =>
    have HF := Lib.hid (show okB c = false by unfold okB numsB textsB chunksB; simp [hz, k17, e3, e4, e5, n7, h1, h2, h3, h4, h5])
    go_enter Tryz.func80, Tryz.ntmps80
    go_wp2_with (first | (go_at_call 28; refine (in_b _ _ _ _).mono ?_; rintro e w' ⟨rfl, rfl⟩) | (go_at_call 94; refine (may_b _ _ _ ?_).mono ?_; (first | exact hs | exact hn | exact ht); rintro e w' ⟨rfl, rfl⟩))
    go_ret
    exact ⟨by rw [HF.out]; rfl, (Below.refl _ _).alloc (Nat.le_refl _) _⟩
  by_cases n0 : c.n = 0
  · have m0 : (c.n != 0) = false := by rw [n0]; decide
    have h6 : inB c.n 0 0 = true := inB_t (by omega) (by omega)
    clear n0
    by_cases h0 : c.ch.length = 0
    · have HF := Lib.hid (show okB c = true by unfold okB numsB textsB chunksB; simp [hz, k17, e3, e4, e5, n7, h1, h2, h3, h4, h5, h6, h0])
      have hl : ((c.ch.length : Int) == 0) = true := by rw [h0]; rfl
      clear h0
      go_enter Tryz.func80, Tryz.ntmps80
      go_wp2_with (first | (go_at_call 28; refine (in_b _ _ _ _).mono ?_; rintro e w' ⟨rfl, rfl⟩) | (go_at_call 94; refine (may_b _ _ _ ?_).mono ?_; (first | exact hs | exact hn | exact ht); rintro e w' ⟨rfl, rfl⟩))
      go_ret
      exact ⟨by rw [HF.out]; first | rfl | simp [hl], (Below.refl _ _).alloc (Nat.le_refl _) _⟩
    · have HF := Lib.hid (show okB c = false by unfold okB numsB textsB chunksB; simp [hz, k17, e3, e4, e5, n7, h1, h2, h3, h4, h5, h6]; simpa using h0)
      have hl : ((c.ch.length : Int) == 0) = false := beq_no (by omega)
      clear h0
      go_enter Tryz.func80, Tryz.ntmps80
      go_wp2_with (first | (go_at_call 28; refine (in_b _ _ _ _).mono ?_; rintro e w' ⟨rfl, rfl⟩) | (go_at_call 94; refine (may_b _ _ _ ?_).mono ?_; (first | exact hs | exact hn | exact ht); rintro e w' ⟨rfl, rfl⟩))
      go_ret
      exact ⟨by rw [HF.out]; first | rfl | simp [hl], (Below.refl _ _).alloc (Nat.le_refl _) _⟩
  · have m0 := bne_yes n0
    have h6 : inB c.n 0 0 = false := inB_f (by omega)
    clear n0
    have HF := Lib.hid (show okB c = false by unfold okB numsB textsB chunksB; simp [hz, k17, e3, e4, e5, n7, h1, h2, h3, h4, h5, h6])
    go_enter Tryz.func80, Tryz.ntmps80
    go_wp2_with (first | (go_at_call 28; refine (in_b _ _ _ _).mono ?_; rintro e w' ⟨rfl, rfl⟩) | (go_at_call 94; refine (may_b _ _ _ ?_).mono ?_; (first | exact hs | exact hn | exact ht); rintro e w' ⟨rfl, rfl⟩))
    go_ret
    exact ⟨by rw [HF.out]; rfl, (Below.refl _ _).alloc (Nat.le_refl _) _⟩
set_option maxRecDepth 100000 in
set_option maxHeartbeats 4000000 in
theorem spec_ok_5 (c : CmdM) (v : Value) (w : World) (hv : Strs w v c.ch) (hs : c.set.size ≤ 9223372036854775807) (hn : c.name.size ≤ 9223372036854775807) (ht : c.tag.size ≤ 9223372036854775807) (q : c.kind = 5) :
    Calls Tryz.prog 80 #[.agg #[.int .i64 c.kind, .int .i64 c.client, .int .i64 c.no, .string c.set, .string c.name, .string c.tag, .int .i64 c.n, v]] w fun e w' => e = .returned (.bool (okB c)) ∧ Below w.heap.size w w' := by
  have hz : decide (c = zeroC) = false := decide_eq_false (fun e => absurd (e ▸ q : zeroC.kind = 5) (by decide))
  have k17 : inB c.kind 1 7 = true := inB_t (by omega) (by omega)
  have k07 : inB c.kind 0 7 = true := inB_t (by omega) (by omega)
  have e0 : (c.kind == 0) = false := by rw [q]; decide
  have e3 : (c.kind == 3) = false := by rw [q]; decide
  have e4 : (c.kind == 4) = false := by rw [q]; decide
  have n3 : (c.kind != 3) = true := by rw [q]; decide
  have e5 : (c.kind == 5) = true := by rw [q]; decide
  have n5 : (c.kind != 5) = false := by rw [q]; decide
  have n7 : (c.kind != 7) = true := by rw [q]; decide
  clear q
  obtain ⟨_, _, va, vcap, rfl, _, _⟩ := hv
  cases h1 : inB c.client 1 9
  case false =>
    have HF := Lib.hid (show okB c = false by unfold okB numsB textsB chunksB; simp [hz, k17, e3, e4, e5, n7, h1])
    go_enter Tryz.func80, Tryz.ntmps80
    go_wp2_with (first | (go_at_call 28; refine (in_b _ _ _ _).mono ?_; rintro e w' ⟨rfl, rfl⟩) | (go_at_call 94; refine (may_b _ _ _ ?_).mono ?_; (first | exact hs | exact hn | exact ht); rintro e w' ⟨rfl, rfl⟩))
    go_ret
    exact ⟨by rw [HF.out]; rfl, (Below.refl _ _).alloc (Nat.le_refl _) _⟩
  cases h2 : inB c.no 1 1000
  case false =>
    have HF := Lib.hid (show okB c = false by unfold okB numsB textsB chunksB; simp [hz, k17, e3, e4, e5, n7, h1, h2])
    go_enter Tryz.func80, Tryz.ntmps80
    go_wp2_with (first | (go_at_call 28; refine (in_b _ _ _ _).mono ?_; rintro e w' ⟨rfl, rfl⟩) | (go_at_call 94; refine (may_b _ _ _ ?_).mono ?_; (first | exact hs | exact hn | exact ht); rintro e w' ⟨rfl, rfl⟩))
    go_ret
    exact ⟨by rw [HF.out]; rfl, (Below.refl _ _).alloc (Nat.le_refl _) _⟩
  cases h3 : mayB true c.set
  case false =>
    have HF := Lib.hid (show okB c = false by unfold okB numsB textsB chunksB; simp [hz, k17, e3, e4, e5, n7, h1, h2, h3])
    go_enter Tryz.func80, Tryz.ntmps80
    go_wp2_with (first | (go_at_call 28; refine (in_b _ _ _ _).mono ?_; rintro e w' ⟨rfl, rfl⟩) | (go_at_call 94; refine (may_b _ _ _ ?_).mono ?_; (first | exact hs | exact hn | exact ht); rintro e w' ⟨rfl, rfl⟩))
    go_ret
    exact ⟨by rw [HF.out]; rfl, (Below.refl _ _).alloc (Nat.le_refl _) _⟩
  cases h4 : mayB false c.name
  case false =>
    have HF := Lib.hid (show okB c = false by unfold okB numsB textsB chunksB; simp [hz, k17, e3, e4, e5, n7, h1, h2, h3, h4])
    go_enter Tryz.func80, Tryz.ntmps80
    go_wp2_with (first | (go_at_call 28; refine (in_b _ _ _ _).mono ?_; rintro e w' ⟨rfl, rfl⟩) | (go_at_call 94; refine (may_b _ _ _ ?_).mono ?_; (first | exact hs | exact hn | exact ht); rintro e w' ⟨rfl, rfl⟩))
    go_ret
    exact ⟨by rw [HF.out]; rfl, (Below.refl _ _).alloc (Nat.le_refl _) _⟩
  cases h5 : mayB false c.tag
  case false =>
    have HF := Lib.hid (show okB c = false by unfold okB numsB textsB chunksB; simp [hz, k17, e3, e4, e5, n7, h1, h2, h3, h4, h5])
    go_enter Tryz.func80, Tryz.ntmps80
    go_wp2_with (first | (go_at_call 28; refine (in_b _ _ _ _).mono ?_; rintro e w' ⟨rfl, rfl⟩) | (go_at_call 94; refine (may_b _ _ _ ?_).mono ?_; (first | exact hs | exact hn | exact ht); rintro e w' ⟨rfl, rfl⟩))
    go_ret
    exact ⟨by rw [HF.out]; rfl, (Below.refl _ _).alloc (Nat.le_refl _) _⟩
  by_cases n0 : c.n = 0
  · have m0 : (c.n != 0) = false := by rw [n0]; decide
    have h6 : inB c.n 0 9 = true := inB_t (by omega) (by omega)
    clear n0
    by_cases h0 : c.ch.length = 0
    · have HF := Lib.hid (show okB c = true by unfold okB numsB textsB chunksB; simp [hz, k17, e3, e4, e5, n7, h1, h2, h3, h4, h5, h6, h0])
      have hl : ((c.ch.length : Int) == 0) = true := by rw [h0]; rfl
      clear h0
      go_enter Tryz.func80, Tryz.ntmps80
      go_wp2_with (first | (go_at_call 28; refine (in_b _ _ _ _).mono ?_; rintro e w' ⟨rfl, rfl⟩) | (go_at_call 94; refine (may_b _ _ _ ?_).mono ?_; (first | exact hs | exact hn | exact ht); rintro e w' ⟨rfl, rfl⟩))
      go_ret
      exact ⟨by rw [HF.out]; first | rfl | simp [hl], (Below.refl _ _).alloc (Nat.le_refl _) _⟩
    · have HF := Lib.hid (show okB c = false by unfold okB numsB textsB chunksB; simp [hz, k17, e3, e4, e5, n7, h1, h2, h3, h4, h5, h6]; simpa using h0)
      have hl : ((c.ch.length : Int) == 0) = false := beq_no (by omega)
      clear h0
      go_enter Tryz.func80, Tryz.ntmps80
      go_wp2_with (first | (go_at_call 28; refine (in_b _ _ _ _).mono ?_; rintro e w' ⟨rfl, rfl⟩) | (go_at_call 94; refine (may_b _ _ _ ?_).mono ?_; (first | exact hs | exact hn | exact ht); rintro e w' ⟨rfl, rfl⟩))
      go_ret
      exact ⟨by rw [HF.out]; first | rfl | simp [hl], (Below.refl _ _).alloc (Nat.le_refl _) _⟩
  · have m0 := bne_yes n0
    clear n0
    cases h6 : inB c.n 0 9
    case false =>
      have HF := Lib.hid (show okB c = false by unfold okB numsB textsB chunksB; simp [hz, k17, e3, e4, e5, n7, h1, h2, h3, h4, h5, h6])
      go_enter Tryz.func80, Tryz.ntmps80
      go_wp2_with (first | (go_at_call 28; refine (in_b _ _ _ _).mono ?_; rintro e w' ⟨rfl, rfl⟩) | (go_at_call 94; refine (may_b _ _ _ ?_).mono ?_; (first | exact hs | exact hn | exact ht); rintro e w' ⟨rfl, rfl⟩))
      go_ret
      exact ⟨by rw [HF.out]; rfl, (Below.refl _ _).alloc (Nat.le_refl _) _⟩
    by_cases h0 : c.ch.length = 0
    · have HF := Lib.hid (show okB c = true by unfold okB numsB textsB chunksB; simp [hz, k17, e3, e4, e5, n7, h1, h2, h3, h4, h5, h6, h0])
      have hl : ((c.ch.length : Int) == 0) = true := by rw [h0]; rfl
      clear h0
      go_enter Tryz.func80, Tryz.ntmps80
      go_wp2_with (first | (go_at_call 28; refine (in_b _ _ _ _).mono ?_; rintro e w' ⟨rfl, rfl⟩) | (go_at_call 94; refine (may_b _ _ _ ?_).mono ?_; (first | exact hs | exact hn | exact ht); rintro e w' ⟨rfl, rfl⟩))
      go_ret
      exact ⟨by rw [HF.out]; first | rfl | simp [hl], (Below.refl _ _).alloc (Nat.le_refl _) _⟩
    · have HF := Lib.hid (show okB c = false by unfold okB numsB textsB chunksB; simp [hz, k17, e3, e4, e5, n7, h1, h2, h3, h4, h5, h6]; simpa using h0)
      have hl : ((c.ch.length : Int) == 0) = false := beq_no (by omega)
      clear h0
      go_enter Tryz.func80, Tryz.ntmps80
      go_wp2_with (first | (go_at_call 28; refine (in_b _ _ _ _).mono ?_; rintro e w' ⟨rfl, rfl⟩) | (go_at_call 94; refine (may_b _ _ _ ?_).mono ?_; (first | exact hs | exact hn | exact ht); rintro e w' ⟨rfl, rfl⟩))
      go_ret
      exact ⟨by rw [HF.out]; first | rfl | simp [hl], (Below.refl _ _).alloc (Nat.le_refl _) _⟩
set_option maxRecDepth 100000 in
set_option maxHeartbeats 4000000 in
theorem spec_ok_7 (c : CmdM) (v : Value) (w : World) (hv : Strs w v c.ch) (hs : c.set.size ≤ 9223372036854775807) (hn : c.name.size ≤ 9223372036854775807) (ht : c.tag.size ≤ 9223372036854775807) (q : c.kind = 7) :
    Calls Tryz.prog 80 #[.agg #[.int .i64 c.kind, .int .i64 c.client, .int .i64 c.no, .string c.set, .string c.name, .string c.tag, .int .i64 c.n, v]] w fun e w' => e = .returned (.bool (okB c)) ∧ Below w.heap.size w w' := by
  have hz : decide (c = zeroC) = false := decide_eq_false (fun e => absurd (e ▸ q : zeroC.kind = 7) (by decide))
  have k17 : inB c.kind 1 7 = true := inB_t (by omega) (by omega)
  have k07 : inB c.kind 0 7 = true := inB_t (by omega) (by omega)
  have e0 : (c.kind == 0) = false := by rw [q]; decide
  have e3 : (c.kind == 3) = false := by rw [q]; decide
  have e4 : (c.kind == 4) = false := by rw [q]; decide
  have n3 : (c.kind != 3) = true := by rw [q]; decide
  have e5 : (c.kind == 5) = false := by rw [q]; decide
  have n5 : (c.kind != 5) = true := by rw [q]; decide
  have n7 : (c.kind != 7) = false := by rw [q]; decide
  clear q
  obtain ⟨_, _, va, vcap, rfl, _, _⟩ := hv
  cases h1 : inB c.client 1 9
  case false =>
    have HF := Lib.hid (show okB c = false by unfold okB numsB textsB chunksB; simp [hz, k17, e3, e4, e5, n7, h1])
    go_enter Tryz.func80, Tryz.ntmps80
    go_wp2_with (first | (go_at_call 28; refine (in_b _ _ _ _).mono ?_; rintro e w' ⟨rfl, rfl⟩) | (go_at_call 94; refine (may_b _ _ _ ?_).mono ?_; (first | exact hs | exact hn | exact ht); rintro e w' ⟨rfl, rfl⟩))
    go_ret
    exact ⟨by rw [HF.out]; rfl, (Below.refl _ _).alloc (Nat.le_refl _) _⟩
  cases h2 : inB c.no 1 1000
  case false =>
    have HF := Lib.hid (show okB c = false by unfold okB numsB textsB chunksB; simp [hz, k17, e3, e4, e5, n7, h1, h2])
    go_enter Tryz.func80, Tryz.ntmps80
    go_wp2_with (first | (go_at_call 28; refine (in_b _ _ _ _).mono ?_; rintro e w' ⟨rfl, rfl⟩) | (go_at_call 94; refine (may_b _ _ _ ?_).mono ?_; (first | exact hs | exact hn | exact ht); rintro e w' ⟨rfl, rfl⟩))
    go_ret
    exact ⟨by rw [HF.out]; rfl, (Below.refl _ _).alloc (Nat.le_refl _) _⟩
  cases h3 : mayB false c.set
  case false =>
    have HF := Lib.hid (show okB c = false by unfold okB numsB textsB chunksB; simp [hz, k17, e3, e4, e5, n7, h1, h2, h3])
    go_enter Tryz.func80, Tryz.ntmps80
    go_wp2_with (first | (go_at_call 28; refine (in_b _ _ _ _).mono ?_; rintro e w' ⟨rfl, rfl⟩) | (go_at_call 94; refine (may_b _ _ _ ?_).mono ?_; (first | exact hs | exact hn | exact ht); rintro e w' ⟨rfl, rfl⟩))
    go_ret
    exact ⟨by rw [HF.out]; rfl, (Below.refl _ _).alloc (Nat.le_refl _) _⟩
  cases h4 : mayB false c.name
  case false =>
    have HF := Lib.hid (show okB c = false by unfold okB numsB textsB chunksB; simp [hz, k17, e3, e4, e5, n7, h1, h2, h3, h4])
    go_enter Tryz.func80, Tryz.ntmps80
    go_wp2_with (first | (go_at_call 28; refine (in_b _ _ _ _).mono ?_; rintro e w' ⟨rfl, rfl⟩) | (go_at_call 94; refine (may_b _ _ _ ?_).mono ?_; (first | exact hs | exact hn | exact ht); rintro e w' ⟨rfl, rfl⟩))
    go_ret
    exact ⟨by rw [HF.out]; rfl, (Below.refl _ _).alloc (Nat.le_refl _) _⟩
  cases h5 : mayB false c.tag
  case false =>
    have HF := Lib.hid (show okB c = false by unfold okB numsB textsB chunksB; simp [hz, k17, e3, e4, e5, n7, h1, h2, h3, h4, h5])
    go_enter Tryz.func80, Tryz.ntmps80
    go_wp2_with (first | (go_at_call 28; refine (in_b _ _ _ _).mono ?_; rintro e w' ⟨rfl, rfl⟩) | (go_at_call 94; refine (may_b _ _ _ ?_).mono ?_; (first | exact hs | exact hn | exact ht); rintro e w' ⟨rfl, rfl⟩))
    go_ret
    exact ⟨by rw [HF.out]; rfl, (Below.refl _ _).alloc (Nat.le_refl _) _⟩
  by_cases n0 : c.n = 0
  · have m0 : (c.n != 0) = false := by rw [n0]; decide
    have h6 : inB c.n 0 0 = true := inB_t (by omega) (by omega)
    clear n0
    by_cases h0 : c.ch.length = 0
    · have HF := Lib.hid (show okB c = true by unfold okB numsB textsB chunksB; simp [hz, k17, e3, e4, e5, n7, h1, h2, h3, h4, h5, h6, h0])
      have hl : ((c.ch.length : Int) == 0) = true := by rw [h0]; rfl
      clear h0
      go_enter Tryz.func80, Tryz.ntmps80
      go_wp2_with (first | (go_at_call 28; refine (in_b _ _ _ _).mono ?_; rintro e w' ⟨rfl, rfl⟩) | (go_at_call 94; refine (may_b _ _ _ ?_).mono ?_; (first | exact hs | exact hn | exact ht); rintro e w' ⟨rfl, rfl⟩))
      go_ret
      exact ⟨by rw [HF.out]; first | rfl | simp [hl], (Below.refl _ _).alloc (Nat.le_refl _) _⟩
    · have HF := Lib.hid (show okB c = false by unfold okB numsB textsB chunksB; simp [hz, k17, e3, e4, e5, n7, h1, h2, h3, h4, h5, h6]; simpa using h0)
      have hl : ((c.ch.length : Int) == 0) = false := beq_no (by omega)
      clear h0
      go_enter Tryz.func80, Tryz.ntmps80
      go_wp2_with (first | (go_at_call 28; refine (in_b _ _ _ _).mono ?_; rintro e w' ⟨rfl, rfl⟩) | (go_at_call 94; refine (may_b _ _ _ ?_).mono ?_; (first | exact hs | exact hn | exact ht); rintro e w' ⟨rfl, rfl⟩))
      go_ret
      exact ⟨by rw [HF.out]; first | rfl | simp [hl], (Below.refl _ _).alloc (Nat.le_refl _) _⟩
  · have m0 := bne_yes n0
    have h6 : inB c.n 0 0 = false := inB_f (by omega)
    clear n0
    have HF := Lib.hid (show okB c = false by unfold okB numsB textsB chunksB; simp [hz, k17, e3, e4, e5, n7, h1, h2, h3, h4, h5, h6])
    go_enter Tryz.func80, Tryz.ntmps80
    go_wp2_with (first | (go_at_call 28; refine (in_b _ _ _ _).mono ?_; rintro e w' ⟨rfl, rfl⟩) | (go_at_call 94; refine (may_b _ _ _ ?_).mono ?_; (first | exact hs | exact hn | exact ht); rintro e w' ⟨rfl, rfl⟩))
    go_ret
    exact ⟨by rw [HF.out]; rfl, (Below.refl _ _).alloc (Nat.le_refl _) _⟩
set_option maxRecDepth 100000 in
set_option maxHeartbeats 4000000 in
theorem spec_ok_x (c : CmdM) (v : Value) (w : World) (hv : Strs w v c.ch) (hs : c.set.size ≤ 9223372036854775807) (hn : c.name.size ≤ 9223372036854775807) (ht : c.tag.size ≤ 9223372036854775807) (k17 : inB c.kind 1 7 = true) (k07 : inB c.kind 0 7 = true) (q0 : c.kind ≠ 0) (q3 : c.kind ≠ 3) (q4 : c.kind ≠ 4) (q5 : c.kind ≠ 5) (q7 : c.kind ≠ 7) :
    Calls Tryz.prog 80 #[.agg #[.int .i64 c.kind, .int .i64 c.client, .int .i64 c.no, .string c.set, .string c.name, .string c.tag, .int .i64 c.n, v]] w fun e w' => e = .returned (.bool (okB c)) ∧ Below w.heap.size w w' := by
  have hz : decide (c = zeroC) = false := decide_eq_false (fun e => q0 (by rw [e]; rfl))
  have e0 := beq_no q0
  have e3 := beq_no q3
  have e4 := beq_no q4
  have n3 := bne_yes q3
  have e5 := beq_no q5
  have n5 := bne_yes q5
  have n7 := bne_yes q7
  clear q0 q3 q4 q5 q7
  obtain ⟨_, _, va, vcap, rfl, _, _⟩ := hv
  cases h1 : inB c.client 1 9
  case false =>
    have HF := Lib.hid (show okB c = false by unfold okB numsB textsB chunksB; simp [hz, k17, e3, e4, e5, n7, h1])
    go_enter Tryz.func80, Tryz.ntmps80
    go_wp2_with (first | (go_at_call 28; refine (in_b _ _ _ _).mono ?_; rintro e w' ⟨rfl, rfl⟩) | (go_at_call 94; refine (may_b _ _ _ ?_).mono ?_; (first | exact hs | exact hn | exact ht); rintro e w' ⟨rfl, rfl⟩))
    go_ret
    exact ⟨by rw [HF.out]; rfl, (Below.refl _ _).alloc (Nat.le_refl _) _⟩
  cases h2 : inB c.no 1 1000
  case false =>
    have HF := Lib.hid (show okB c = false by unfold okB numsB textsB chunksB; simp [hz, k17, e3, e4, e5, n7, h1, h2])
    go_enter Tryz.func80, Tryz.ntmps80
    go_wp2_with (first | (go_at_call 28; refine (in_b _ _ _ _).mono ?_; rintro e w' ⟨rfl, rfl⟩) | (go_at_call 94; refine (may_b _ _ _ ?_).mono ?_; (first | exact hs | exact hn | exact ht); rintro e w' ⟨rfl, rfl⟩))
    go_ret
    exact ⟨by rw [HF.out]; rfl, (Below.refl _ _).alloc (Nat.le_refl _) _⟩
  cases h3 : mayB true c.set
  case false =>
    have HF := Lib.hid (show okB c = false by unfold okB numsB textsB chunksB; simp [hz, k17, e3, e4, e5, n7, h1, h2, h3])
    go_enter Tryz.func80, Tryz.ntmps80
    go_wp2_with (first | (go_at_call 28; refine (in_b _ _ _ _).mono ?_; rintro e w' ⟨rfl, rfl⟩) | (go_at_call 94; refine (may_b _ _ _ ?_).mono ?_; (first | exact hs | exact hn | exact ht); rintro e w' ⟨rfl, rfl⟩))
    go_ret
    exact ⟨by rw [HF.out]; rfl, (Below.refl _ _).alloc (Nat.le_refl _) _⟩
  cases h4 : mayB false c.name
  case false =>
    have HF := Lib.hid (show okB c = false by unfold okB numsB textsB chunksB; simp [hz, k17, e3, e4, e5, n7, h1, h2, h3, h4])
    go_enter Tryz.func80, Tryz.ntmps80
    go_wp2_with (first | (go_at_call 28; refine (in_b _ _ _ _).mono ?_; rintro e w' ⟨rfl, rfl⟩) | (go_at_call 94; refine (may_b _ _ _ ?_).mono ?_; (first | exact hs | exact hn | exact ht); rintro e w' ⟨rfl, rfl⟩))
    go_ret
    exact ⟨by rw [HF.out]; rfl, (Below.refl _ _).alloc (Nat.le_refl _) _⟩
  cases h5 : mayB false c.tag
  case false =>
    have HF := Lib.hid (show okB c = false by unfold okB numsB textsB chunksB; simp [hz, k17, e3, e4, e5, n7, h1, h2, h3, h4, h5])
    go_enter Tryz.func80, Tryz.ntmps80
    go_wp2_with (first | (go_at_call 28; refine (in_b _ _ _ _).mono ?_; rintro e w' ⟨rfl, rfl⟩) | (go_at_call 94; refine (may_b _ _ _ ?_).mono ?_; (first | exact hs | exact hn | exact ht); rintro e w' ⟨rfl, rfl⟩))
    go_ret
    exact ⟨by rw [HF.out]; rfl, (Below.refl _ _).alloc (Nat.le_refl _) _⟩
  by_cases n0 : c.n = 0
  · have m0 : (c.n != 0) = false := by rw [n0]; decide
    have h6 : inB c.n 0 0 = true := inB_t (by omega) (by omega)
    clear n0
    by_cases h0 : c.ch.length = 0
    · have HF := Lib.hid (show okB c = true by unfold okB numsB textsB chunksB; simp [hz, k17, e3, e4, e5, n7, h1, h2, h3, h4, h5, h6, h0])
      have hl : ((c.ch.length : Int) == 0) = true := by rw [h0]; rfl
      clear h0
      go_enter Tryz.func80, Tryz.ntmps80
      go_wp2_with (first | (go_at_call 28; refine (in_b _ _ _ _).mono ?_; rintro e w' ⟨rfl, rfl⟩) | (go_at_call 94; refine (may_b _ _ _ ?_).mono ?_; (first | exact hs | exact hn | exact ht); rintro e w' ⟨rfl, rfl⟩))
      go_ret
      exact ⟨by rw [HF.out]; first | rfl | simp [hl], (Below.refl _ _).alloc (Nat.le_refl _) _⟩
    · have HF := Lib.hid (show okB c = false by unfold okB numsB textsB chunksB; simp [hz, k17, e3, e4, e5, n7, h1, h2, h3, h4, h5, h6]; simpa using h0)
      have hl : ((c.ch.length : Int) == 0) = false := beq_no (by omega)
      clear h0
      go_enter Tryz.func80, Tryz.ntmps80
      go_wp2_with (first | (go_at_call 28; refine (in_b _ _ _ _).mono ?_; rintro e w' ⟨rfl, rfl⟩) | (go_at_call 94; refine (may_b _ _ _ ?_).mono ?_; (first | exact hs | exact hn | exact ht); rintro e w' ⟨rfl, rfl⟩))
      go_ret
      exact ⟨by rw [HF.out]; first | rfl | simp [hl], (Below.refl _ _).alloc (Nat.le_refl _) _⟩
  · have m0 := bne_yes n0
    have h6 : inB c.n 0 0 = false := inB_f (by omega)
    clear n0
    have HF := Lib.hid (show okB c = false by unfold okB numsB textsB chunksB; simp [hz, k17, e3, e4, e5, n7, h1, h2, h3, h4, h5, h6])
    go_enter Tryz.func80, Tryz.ntmps80
    go_wp2_with (first | (go_at_call 28; refine (in_b _ _ _ _).mono ?_; rintro e w' ⟨rfl, rfl⟩) | (go_at_call 94; refine (may_b _ _ _ ?_).mono ?_; (first | exact hs | exact hn | exact ht); rintro e w' ⟨rfl, rfl⟩))
    go_ret
    exact ⟨by rw [HF.out]; rfl, (Below.refl _ _).alloc (Nat.le_refl _) _⟩
set_option maxRecDepth 100000 in
set_option maxHeartbeats 1000000 in
theorem spec_ok_0 (c : CmdM) (v : Value) (w : World) (hv : Strs w v c.ch) (q : c.kind = 0) :
    Calls Tryz.prog 80 #[.agg #[.int .i64 c.kind, .int .i64 c.client, .int .i64 c.no, .string c.set, .string c.name, .string c.tag, .int .i64 c.n, v]] w fun e w' => e = .returned (.bool (okB c)) ∧ Below w.heap.size w w' := by
  have k17 : inB c.kind 1 7 = false := inB_f (by omega)
  have k07 : inB c.kind 0 7 = true := inB_t (by omega) (by omega)
  have e0 : (c.kind == 0) = true := by rw [q]; decide
  have HF := Lib.hid (show okB c = decide (c = zeroC) by unfold okB numsB; simp [k17])
  have HV := Lib.hid hv
  clear q k17 hv
  go_enter Tryz.func80, Tryz.ntmps80
  go_wp2_with (first | (go_at_call 28; refine (in_b _ _ _ _).mono ?_; rintro e w' ⟨rfl, rfl⟩) | (go_at_call 93; refine (spec_same c zeroC v (.slice none 0 0) _ (HV.out.alloc _) (strs_nil _ _ _)).mono ?_; rintro e w' ⟨rfl, hb⟩))
  go_ret
  exact ⟨by rw [HF.out]; rfl, ((Aft.refl w).alloc _).after hb⟩
set_option maxRecDepth 100000 in
set_option maxHeartbeats 1000000 in
theorem spec_ok_no (c : CmdM) (v : Value) (w : World) (q : inB c.kind 0 7 = false) :
    Calls Tryz.prog 80 #[.agg #[.int .i64 c.kind, .int .i64 c.client, .int .i64 c.no, .string c.set, .string c.name, .string c.tag, .int .i64 c.n, v]] w fun e w' => e = .returned (.bool (okB c)) ∧ Below w.heap.size w w' := by
  have r := inB_no q
  have k17 : inB c.kind 1 7 = false := inB_f (by omega)
  have hz : decide (c = zeroC) = false := decide_eq_false (fun e => by rw [e] at r; exact absurd r (by decide))
  have HF := Lib.hid (show okB c = false by unfold okB numsB; simp [k17, hz])
  clear r k17 hz
  go_enter Tryz.func80, Tryz.ntmps80
  go_wp2_with (go_at_call 28; refine (in_b _ _ _ _).mono ?_; rintro e w' ⟨rfl, rfl⟩)
  go_ret
  exact ⟨by rw [HF.out]; rfl, (Below.refl _ _).alloc (Nat.le_refl _) _⟩
theorem spec_ok (c : CmdM) (v : Value) (w : World) (hv : Strs w v c.ch) (hs : c.set.size ≤ 9223372036854775807) (hn : c.name.size ≤ 9223372036854775807) (ht : c.tag.size ≤ 9223372036854775807) :
    Calls Tryz.prog 80 #[.agg #[.int .i64 c.kind, .int .i64 c.client, .int .i64 c.no, .string c.set, .string c.name, .string c.tag, .int .i64 c.n, v]] w fun e w' => e = .returned (.bool (okB c)) ∧ Below w.heap.size w w' := by
  cases k07 : inB c.kind 0 7
  · exact spec_ok_no c v w k07
  · by_cases q0 : c.kind = 0
    · exact spec_ok_0 c v w hv q0
    · have r := (inB_iff _ _ _).1 k07
      have k17 : inB c.kind 1 7 = true := inB_t (by omega) (by omega)
      by_cases q3 : c.kind = 3
      · exact spec_ok_3 c v w hv hs hn ht q3
      · by_cases q4 : c.kind = 4
        · exact spec_ok_4 c v w hv hs hn ht q4
        · by_cases q5 : c.kind = 5
          · exact spec_ok_5 c v w hv hs hn ht q5
          · by_cases q7 : c.kind = 7
            · exact spec_ok_7 c v w hv hs hn ht q7
            · exact spec_ok_x c v w hv hs hn ht k17 k07 q0 q3 q4 q5 q7
end Go.Proofs.YtckeeadkhopljaaGreatDoor
