/- The walks of Dec's model: for every int it answers the decimal numeral. -/
import Derived.Test.YtnaimoppljjcdaaDoorRows
import Derived.WalkKit
import Derived.WalkSpells
import Derived.WalkLawsBesides
import Derived.Lib.Hide
import Derived.Lib.ItoaNum
import Derived.Test.YtnaimoppljjcdaaDoorBytes
import Derived.Laws.BytesArg
import Derived.PlainAid
namespace Go.Proofs.YtnaimoppljjcdaaDoor
open Go.RowKit Go.PlainAid
set_option linter.unusedVariables false

/-- m is what is left of U, l the digits that have been taken off it. -/
def DI (U m : Nat) (l : List UInt8) : Prop := ((m = 0 ∧ l = Lib.decDigits U) ∨ (m ≠ 0 ∧ Lib.decDigits m ++ l = Lib.decDigits U)) ∧ ((m = 0 ∧ 9 * l.length ≤ U + 9) ∨ (m ≠ 0 ∧ 9 * l.length + m ≤ U))
theorem di_start (U : Nat) (h : U ≠ 0) : DI U U [] := ⟨.inr ⟨h, by simp⟩, .inr ⟨h, by simp⟩⟩
theorem dec_small (u : Nat) (h : u < 10) : Lib.decDigits u = [UInt8.ofNat (48 + u)] := by rw [Lib.decDigits, dif_pos h]
theorem dec_big (u : Nat) (h : ¬ u < 10) : Lib.decDigits u = Lib.decDigits (u / 10) ++ [UInt8.ofNat (48 + u % 10)] := by rw [Lib.decDigits, dif_neg h]
theorem di_step (U m : Nat) (l : List UInt8) (h : DI U m l) (hm : m ≠ 0) : DI U (m / 10) (UInt8.ofNat (48 + m % 10) :: l) := by
  obtain ⟨h1, h2⟩ := h
  rcases h1 with ⟨h0, _⟩ | ⟨_, h1⟩
  · exact absurd h0 hm
  rcases h2 with ⟨h0, _⟩ | ⟨_, h2⟩
  · exact absurd h0 hm
  by_cases hs : m < 10
  · refine ⟨.inl ⟨by omega, ?_⟩, .inl ⟨by omega, by simp; omega⟩⟩
    rw [dec_small m hs] at h1
    rw [show m % 10 = m by omega]
    simpa using h1
  · refine ⟨.inr ⟨by omega, ?_⟩, .inr ⟨by omega, by simp; omega⟩⟩
    rw [dec_big m hs] at h1
    simpa using h1
theorem di_end (U : Nat) (l : List UInt8) (h : DI U 0 l) : l = Lib.decDigits U := by
  rcases h.1 with ⟨_, h⟩ | ⟨h, _⟩
  · exact h
  · exact absurd rfl h
theorem di_len (U m : Nat) (l : List UInt8) (h : DI U m l) : 9 * l.length ≤ U + 9 := by
  rcases h.2 with ⟨_, h⟩ | ⟨_, h⟩ <;> omega
theorem digit_cons (b : Int) (n : Nat) (l : List UInt8) (hb : b = 48 + (n : Int)) : strOfNums [b] ++ (⟨l.toArray⟩ : ByteArray) = ⟨(UInt8.ofNat (48 + n) :: l).toArray⟩ := by
  subst hb
  apply ByteArray.ext
  have : (48 + (n : Int)).toNat = 48 + n := by omega
  simp [strOfNums, ByteArray.data_append, this]

set_option maxHeartbeats 400000 in
theorem spec_dec_pos (U : Nat) (w : World) (h1 : 1 ≤ U) (hU : U ≤ 9223372036854775807) :
    Calls Tryd.prog 18 #[.int .i64 U] w fun e w' => e = .returned (.string ⟨(Lib.decDigits U).toArray⟩) ∧ Below w.heap.size w w' := by
  have hconv := conv_one
  have hz : ((U : Int) == 0) = false := by simp; omega
  have hneg : decide ((U : Int) < 0) = false := by simp
  go_enter Tryd.func18, Tryd.ntmps18
  go_wp2
  go_loopw [0, 3] (fun a o wr => ∃ (m : Nat) (l : List UInt8), m ≤ U ∧ a = .int .i64 m ∧ o = .string ⟨l.toArray⟩ ∧ DI U m l ∧ Below w.heap.size w wr) (fun a _ _ => (intOf a).toNat)
  case atStart => exact ⟨U, [], by omega, rfl, rfl, di_start U (by omega), Below.refl _ _⟩
  case round =>
    obtain ⟨m, l, hm, rfl, rfl, hd, hbw⟩ := hrel
    have hl := di_len U m l hd
    have hsz : (⟨l.toArray⟩ : ByteArray).size = l.length := by simp [ByteArray.size]
    by_cases h0 : m = 0
    · subst h0
      have he := di_end U l hd
      have HE := Lib.hid he
      clear he hsz
      go_wp2
      go_ret
      exact ⟨by rw [← HE.out]; rfl, hbw⟩
    · have hne : ((m : Int) != 0) = true := by simp; omega
      have hm1 : 1 ≤ m := by omega
      have hss : (strOfNums [48 + (m : Int) % 10]).size + (⟨l.toArray⟩ : ByteArray).size ≤ 9223372036854775807 := by rw [strOfNums_size, hsz]; simp; omega
      have hd' := di_step U m l hd h0
      clear hsz h0
      go_wp2
      go_roundw
      case rel => exact ⟨m / 10, UInt8.ofNat (48 + m % 10) :: l, by omega, by go_num, by rw [digit_cons _ (m % 10) l (by omega)], hd', hbw.alloc hbw.size _⟩
      case measure => simp only [intOf]; omega

theorem minus_cons (l : List UInt8) : ({ data := #[45] } : ByteArray) ++ (⟨l.toArray⟩ : ByteArray) = ⟨(45 :: l).toArray⟩ := by
  apply ByteArray.ext
  simp [ByteArray.data_append]

set_option maxHeartbeats 400000 in
theorem spec_dec_neg (U : Nat) (w : World) (h1 : 1 ≤ U) (hU : U ≤ 9223372036854775808) :
    Calls Tryd.prog 18 #[.int .i64 (-(U : Int))] w fun e w' => e = .returned (.string ⟨(45 :: Lib.decDigits U).toArray⟩) ∧ Below w.heap.size w w' := by
  have hconv := conv_one
  have hz : (-(U : Int) == 0) = false := by simp; omega
  have hneg : decide (-(U : Int) < 0) = true := by simp; omega
  go_enter Tryd.func18, Tryd.ntmps18
  go_wp2
  go_loopw [0, 3] (fun a o wr => ∃ (m : Nat) (l : List UInt8), m ≤ U ∧ a = .int .i64 (-(m : Int)) ∧ o = .string ⟨l.toArray⟩ ∧ DI U m l ∧ Below w.heap.size w wr) (fun a _ _ => (intOf a).natAbs)
  case atStart => exact ⟨U, [], by omega, rfl, rfl, di_start U (by omega), Below.refl _ _⟩
  case round =>
    obtain ⟨m, l, hm, rfl, rfl, hd, hbw⟩ := hrel
    have hl := di_len U m l hd
    have hsz : (⟨l.toArray⟩ : ByteArray).size = l.length := by simp [ByteArray.size]
    by_cases h0 : m = 0
    · subst h0
      have he := di_end U l hd
      have HE := Lib.hid he
      have hss : ({ data := #[45] } : ByteArray).size + (⟨l.toArray⟩ : ByteArray).size ≤ 9223372036854775807 := by rw [hsz]; simp [ByteArray.size]; omega
      have hz0 : (-((0 : Nat) : Int) != 0) = false := rfl
      clear he hsz
      go_wp2
      go_ret
      exact ⟨by rw [← HE.out, ← minus_cons]; rfl, hbw⟩
    · have hne : (-(m : Int) != 0) = true := by simp; omega
      have hm1 : 1 ≤ m := by omega
      have e1 : Int.tmod (-(m : Int)) 10 = -((m : Int) % 10) := by rw [Int.neg_tmod, Int.tmod_eq_emod_of_nonneg (by omega)]
      have e2 : Int.tdiv (-(m : Int)) 10 = -((m : Int) / 10) := by rw [Int.neg_tdiv, Int.tdiv_eq_ediv_of_nonneg (by omega)]
      have hd' := di_step U m l hd h0
      by_cases hp : 0 < (m : Int) % 10
      · have hss : (strOfNums [48 + (m : Int) % 10]).size + (⟨l.toArray⟩ : ByteArray).size ≤ 9223372036854775807 := by rw [strOfNums_size, hsz]; simp; omega
        clear hsz h0
        go_wp2
        go_roundw
        case rel => exact ⟨m / 10, UInt8.ofNat (48 + m % 10) :: l, by omega, by go_num, by rw [digit_cons _ (m % 10) l (by omega)], hd', hbw.alloc hbw.size _⟩
        case measure => simp only [intOf]; omega
      · have hss : (strOfNums [48 + -((m : Int) % 10)]).size + (⟨l.toArray⟩ : ByteArray).size ≤ 9223372036854775807 := by rw [strOfNums_size, hsz]; simp; omega
        clear hsz h0
        go_wp2
        go_roundw
        case rel => exact ⟨m / 10, UInt8.ofNat (48 + m % 10) :: l, by omega, by go_num, by rw [digit_cons _ (m % 10) l (by omega)], hd', hbw.alloc hbw.size _⟩
        case measure => simp only [intOf]; omega

set_option maxHeartbeats 400000 in
theorem spec_dec_zero (w : World) : Calls Tryd.prog 18 #[.int .i64 0] w fun e w' => e = .returned (.string ⟨#[48]⟩) ∧ w = w' := by
  go_enter Tryd.func18, Tryd.ntmps18
  go_wp2
  go_ret
  exact ⟨rfl, rfl⟩

/-- Dec's model answers the decimal numeral, for every int. -/
theorem spec_dec (n : Int) (w : World) (h0 : -9223372036854775808 ≤ n) (h1 : n ≤ 9223372036854775807) :
    Calls Tryd.prog 18 #[.int .i64 n] w fun e w' => e = .returned (.string ⟨(Lib.itoa n).toArray⟩) ∧ Below w.heap.size w w' := by
  rcases Int.lt_trichotomy n 0 with h | h | h
  · obtain ⟨U, rfl⟩ : ∃ U : Nat, n = -(U : Int) := ⟨n.natAbs, by omega⟩
    have e : Lib.itoa (-(U : Int)) = 45 :: Lib.decDigits U := by unfold Lib.itoa; rw [if_pos h]; simp
    rw [e]
    exact spec_dec_neg U w (by omega) (by omega)
  · subst h
    have e : Lib.itoa 0 = [48] := by unfold Lib.itoa; rw [if_neg (by omega)]; exact dec_small 0 (by omega)
    rw [e]
    exact (spec_dec_zero w).mono fun e w' ⟨he, hw⟩ => ⟨he, by subst hw; exact Below.refl _ _⟩
  · obtain ⟨U, rfl⟩ : ∃ U : Nat, n = (U : Int) := ⟨n.toNat, by omega⟩
    have e : Lib.itoa (U : Int) = Lib.decDigits U := by unfold Lib.itoa; rw [if_neg (by omega)]; simp
    rw [e]
    exact spec_dec_pos U w (by omega) (by omega)
end Go.Proofs.YtnaimoppljjcdaaDoor
