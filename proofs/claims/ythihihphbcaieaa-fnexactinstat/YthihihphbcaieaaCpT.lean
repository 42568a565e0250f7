/- Strings and commands copied: the program's copyTexts and copyCmd, the model's l4Copy. -/
import Derived.Test.YthihihphbcaieaaInCp
import Derived.Test.YthihihphbcaieaaCloneC
namespace Go.Proofs.Ythihihphbcaieaa
open Go.RowKit Go.PlainAid
set_option linter.unusedVariables false

/-- Each string is within the law's measure. -/
def Sml1 (l : List ByteArray) : Prop := l.length ≤ 1048576 ∧ ∀ j, j < l.length → (el l j).size ≤ 1048576
theorem take_el_succ (l : List ByteArray) (k : Nat) (h : k < l.length) : l.take (k + 1) = l.take k ++ [el l k] := by
  have g := strV_get l k h
  rw [List.take_add_one]
  congr 1
  rw [strV, List.getElem?_map] at g
  cases e : l[k]? with
  | none => rw [e] at g; cases g
  | some y => rw [e] at g; simp at g; rw [g]; rfl
set_option maxRecDepth 100000 in
set_option maxHeartbeats 1000000 in
theorem copy_texts (v : Value) (l : List ByteArray) (w : World) (hv : Strs w v l) (hs : Sml1 l) :
    Calls Try.prog 69 #[v] w fun e w' => (∃ u, e = .returned u ∧ StO w' w.heap.size u l) ∧ Below w.heap.size w w' := by
  have HSZ := Lib.hid hs
  obtain ⟨k1, k2, a, ca, rfl, hca, ha⟩ := hv
  obtain ⟨n, hn⟩ : ∃ n, l.length = n := ⟨_, rfl⟩
  have hln := hs.1
  rw [hn] at k1 k2 ha hca hln ⊢
  have HN := Lib.hid hn
  have HA := Lib.hid ha
  have HK := Lib.hid k2
  clear hn k2 ha hca hs
  go_enter Try.func69, Try.ntmps69
  go_wp2
  go_loopw [3, 8] (fun q i wr => ∃ (k : Nat) (a' : Option Addr) (n' c' : Nat), k ≤ n ∧ i = .int .i64 k ∧ q = .slice a' n' c' ∧ GrowsS wr w.heap.size (.slice a' n' c') (l.take k) ∧ Af w wr) (fun _ i _ => n - (intOf i).toNat)
  case atStart => exact ⟨0, _, _, _, by omega, rfl, rfl, by rw [List.take_zero]; exact growsS_nil _ _, Af.refl w⟩
  case round =>
    obtain ⟨k, a', n', c', hk, rfl, rfl, hr, haf⟩ := hrel
    have R := Lib.hid hr
    have A := Lib.hid haf
    clear hr haf
    by_cases hlt : k < n
    · obtain ⟨x, o, rfl, hx, hcx⟩ := HA.out (by omega)
      have c1 : wr.cell? ⟨x, o + k, none⟩ = some (.string (el l k)) := by rw [A.out.cell (p := ⟨x, o + k, none⟩) hx]; exact hcx k hlt
      have HE := Lib.hid (HSZ.out.2 k (by rw [HN.out]; exact hlt))
      have y1 : (k : Int) < (n : Int) := by omega
      have y0 : (0 : Int) ≤ (k : Int) := by omega
      have HT := Lib.hid (take_el_succ l k (by rw [HN.out]; exact hlt))
      clear hcx
      go_wp2_with fail
      clear c1
      refine (clone_c (el l k) _ HE.out).mono ?_
      rintro e w2 ⟨rfl, b2⟩
      have R2 := Lib.hid (R.out.later b2)
      have A2 := Lib.hid (A.out.after b2)
      clear b2 R A
      go_wp2_with (at_builtin; refine wp_append_str rfl (.tmp 12) (.tmp 15) rfl w.heap.size (.slice a' n' c') (l.take k) (el l k) rfl (R2.out.alloc _) w2.heap.size 1 rfl (by simp) (by rw [List.length_take]; omega) (by have := A2.out.size; simp; omega) ?_; intro v6 w6 hr6 hg6; obtain ⟨a6, n6, c6, hv6⟩ := hr6.form; subst hv6; have A6 := Lib.hid ((A2.out.alloc (.cells #[.string (el l k)] 9)).grow hg6 (fun k hk => (R2.out.lt _ hk).1)); have R6 := Lib.hid hr6; clear hr6 hg6)
      go_roundw
      case rel => exact ⟨k + 1, a6, n6, c6, by omega, by go_num, rfl, by rw [HT.out]; exact R6.out, A6.out⟩
      case measure => simp only [intOf]; omega
    · obtain rfl : k = n := by omega
      go_wp2
      go_ret
      exact ⟨⟨_, rfl, by have h := R.out; rw [← HN.out, List.take_length] at h; exact ⟨h, fun j hj => HK.out j (by rw [HN.out] at hj; exact hj)⟩⟩, A.out⟩
end Go.Proofs.Ythihihphbcaieaa
