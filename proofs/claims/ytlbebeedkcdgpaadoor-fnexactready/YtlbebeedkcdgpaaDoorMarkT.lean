/- The laws' marks: the text of a number. -/
import Derived.Test.YtlbebeedkcdgpaaDoorBytes
import Derived.Laws.Concat
import Derived.Laws.BytesArg
import Derived.Deep.RegionHeld3
namespace Go.Proofs.YtlbebeedkcdgpaaDoor
open Go.RowKit Go.PlainAid
set_option linter.unusedVariables false

/-- The digits of k before what stands in o. -/
def finT : Nat → Nat → ByteArray → ByteArray
  | 0, _, o => o
  | f + 1, k, o => if k = 0 then o else finT f (k / 10) (strOfNums [48 + (k : Int) % 10] ++ o)
theorem finT_zero (f : Nat) (o : ByteArray) : finT f 0 o = o := by cases f <;> simp [finT]
theorem finT_step (f k : Nat) (o : ByteArray) (h : k ≠ 0) : finT (f + 1) k o = finT f (k / 10) (strOfNums [48 + (k : Int) % 10] ++ o) := by simp [finT, h]
theorem finT_size (f k : Nat) (o : ByteArray) : (finT f k o).size ≤ f + o.size := by
  induction f generalizing k o with
  | zero => simp [finT]
  | succ f ih =>
    unfold finT
    split
    · omega
    · have := ih (k / 10) (strOfNums [48 + (k : Int) % 10] ++ o)
      rw [ByteArray.size_append, strOfNums_size] at this
      simp at this
      omega
@[irreducible] def mkT (k : Nat) : ByteArray := ⟨#[109]⟩ ++ finT k k ⟨#[]⟩
set_option maxRecDepth 100000 in
set_option maxHeartbeats 1000000 in
theorem mark_text (k : Nat) (w : World) (h1 : 1 ≤ k) (h4 : k ≤ 4194305) : Calls Tryd.prog 25 #[.int .i64 k] w fun e w' => e = .returned (.string (mkT k)) ∧ Below w.heap.size w w' := by
  have hM : mkT k = ⟨#[109]⟩ ++ finT k k ⟨#[]⟩ := by unfold mkT; rfl
  rw [hM]
  have hconv := conv_one
  clear hM
  obtain ⟨R, hR⟩ : ∃ R, finT k k ⟨#[]⟩ = R := ⟨_, rfl⟩
  have HR := Lib.hid hR
  have hRz : R.size ≤ k + 0 := by rw [← hR]; exact finT_size k k _
  rw [hR]
  clear hR
  go_enter Tryd.func25, Tryd.ntmps25
  go_wp2
  go_loopw [0, 3] (fun a o wr => ∃ (f m : Nat) (t : ByteArray), m ≤ f ∧ f + t.size ≤ k ∧ a = .int .i64 m ∧ o = .string t ∧ finT f m t = R ∧ Below w.heap.size w wr) (fun a _ _ => (intOf a).toNat)
  case atStart => exact ⟨k, k, ⟨#[]⟩, Nat.le_refl _, Nat.le_refl _, rfl, rfl, HR.out, Below.refl _ _⟩
  case round =>
    obtain ⟨f, m, t, hmf, hft, rfl, rfl, hfin, hbw⟩ := hrel
    have HF := Lib.hid hfin
    have HB := Lib.hid hbw
    clear hfin hbw HR
    by_cases h0 : m = 0
    · subst h0
      have ht : t = R := by rw [← HF.out]; exact (finT_zero f t).symm
      subst ht
      have hss : ({ data := #[109] } : ByteArray).size + t.size ≤ 9223372036854775807 := by
        have e : ({ data := #[109] } : ByteArray).size = 1 := rfl
        rw [e]
        omega
      go_wp2
      go_ret
      exact ⟨rfl, HB.out⟩
    · have hm1 : 1 ≤ m := by omega
      obtain ⟨f', rfl⟩ : ∃ f', f = f' + 1 := ⟨f - 1, by omega⟩
      have hst := finT_step f' m t h0
      rw [HF.out] at hst
      have HST := Lib.hid hst
      have hz1 : (strOfNums [48 + (m : Int) % 10]).size = 1 := by rw [strOfNums_size]; rfl
      have hss : (strOfNums [48 + (m : Int) % 10]).size + t.size ≤ 9223372036854775807 := by rw [hz1]; omega
      clear hst HF h0
      go_wp2
      go_roundw
      case rel => exact ⟨f', m / 10, _, by omega, by rw [ByteArray.size_append, hz1]; omega, by go_num, rfl, HST.out.symm, HB.out.alloc HB.out.size _⟩
      case measure => simp only [intOf]; omega
theorem mkT_size (k : Nat) : (mkT k).size ≤ k + 1 := by
  unfold mkT
  rw [ByteArray.size_append]
  have := finT_size k k ⟨#[]⟩
  have e : (⟨#[]⟩ : ByteArray).size = 0 := rfl
  have e1 : (⟨#[109]⟩ : ByteArray).size = 1 := rfl
  rw [e] at this
  rw [e1]
  omega
end Go.Proofs.YtlbebeedkcdgpaaDoor
