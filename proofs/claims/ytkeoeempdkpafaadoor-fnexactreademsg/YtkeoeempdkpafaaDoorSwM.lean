/- The encoding of a message, in plain words. -/
import Derived.Test.YtkeoeempdkpafaaDoorShowM
import Derived.Test.YtkeoeempdkpafaaDoorEmV
namespace Go.Proofs.YtkeoeempdkpafaaDoor
open Go.RowKit Go.PlainAid
set_option linter.unusedVariables false

/-- The first k Ids, one behind the other. -/
@[irreducible] def idsS (l : List Ii) (k : Nat) : ByteArray := (List.range k).foldl (fun a j => a ++ varS (iR l j) ++ varS (iS l j)) ⟨#[]⟩
theorem idsS_zero (l : List Ii) : idsS l 0 = ⟨#[]⟩ := by unfold idsS; rfl
theorem idsS_succ (l : List Ii) (k : Nat) : idsS l (k + 1) = idsS l k ++ varS (iR l k) ++ varS (iS l k) := by
  unfold idsS
  rw [List.range_succ, List.foldl_append]
  rfl
theorem idsS_size (l : List Ii) (k : Nat) : (idsS l k).size ≤ 14 * k := by
  induction k with
  | zero => rw [idsS_zero]; exact Nat.le_refl _
  | succ k ih =>
    rw [idsS_succ, ByteArray.size_append, ByteArray.size_append]
    have := varS_size (iR l k)
    have := varS_size (iS l k)
    omega
/-- The byte of a flag. -/
@[irreducible] def flagS (b : Bool) : ByteArray := ⟨#[if b then 1 else 0]⟩
theorem flagS_t : flagS true = ⟨#[1]⟩ := by unfold flagS; rfl
theorem flagS_f : flagS false = ⟨#[0]⟩ := by unfold flagS; rfl
theorem flagS_size (b : Bool) : (flagS b).size = 1 := by unfold flagS; cases b <;> rfl
theorem varS_0 : varS 0 = flagS false := by unfold varS flagS; rfl
theorem varS_1 : varS 1 = flagS true := by unfold varS flagS; rfl
/-- The fields ahead of the Deps. -/
@[irreducible] def headW (x : Em) : ByteArray := varS x.kind ++ varS x.frm ++ varS x.dst ++ varS x.i.rep ++ varS x.i.slot ++ varS x.i.bal ++ varS x.i.st ++ varS (x.i.vbal + 1) ++ varS x.i.seq ++ flagS x.i.same ++ showT (showS x.i.cmd) ++ varS x.i.deps.length
theorem headW_eq (x : Em) : headW x = varS x.kind ++ varS x.frm ++ varS x.dst ++ varS x.i.rep ++ varS x.i.slot ++ varS x.i.bal ++ varS x.i.st ++ varS (x.i.vbal + 1) ++ varS x.i.seq ++ flagS x.i.same ++ showT (showS x.i.cmd) ++ varS x.i.deps.length := by unfold headW; rfl
/-- ShowEMsg. -/
@[irreducible] def showE (x : Em) : ByteArray := if emB x then headW x ++ idsS x.i.deps x.i.deps.length else ⟨#[]⟩
theorem showE_no {x : Em} (h : emB x = false) : showE x = ⟨#[]⟩ := by unfold showE; simp [h]
theorem showE_yes {x : Em} (h : emB x = true) : showE x = headW x ++ idsS x.i.deps x.i.deps.length := by unfold showE; simp [h]
theorem showS_size (c : CmdM) : (showS c).size ≤ 112 := by
  unfold showS
  split
  · rename_i h
    obtain ⟨_, _, _, _, h5, h6, h7, h8, h9⟩ := okB_fit c h
    have hc := catN_size c.ch c.ch.length 8 (fun j hj => Nat.le_of_eq (h9 j hj))
    unfold showB
    simp only [ByteArray.size_append]
    have := varS_size c.kind; have := varS_size c.client; have := varS_size c.no; have := varS_size c.n; have := varS_size c.ch.length
    have := showT_size c.set; have := showT_size c.name; have := showT_size c.tag
    omega
  · exact Nat.zero_le _
theorem ivE_iff (a lo hi : Int) : iv a lo hi = true ↔ lo ≤ a ∧ a ≤ hi := by unfold iv; simp
/-- The bounds of a valid message. -/
theorem emB_fit {x : Em} (h : emB x = true) : (0 ≤ x.kind ∧ x.kind ≤ 7) ∧ (0 ≤ x.frm ∧ x.frm ≤ 2) ∧ (0 ≤ x.dst ∧ x.dst ≤ 2) ∧ (0 ≤ x.i.rep ∧ x.i.rep ≤ 2) ∧ (0 ≤ x.i.slot ∧ x.i.slot ≤ 6) ∧ (0 ≤ x.i.bal ∧ x.i.bal ≤ 600) ∧ (0 ≤ x.i.st ∧ x.i.st ≤ 3) ∧ (-1 ≤ x.i.vbal ∧ x.i.vbal ≤ 600) ∧ (0 ≤ x.i.seq ∧ x.i.seq ≤ 60) ∧
    (∀ j, j < x.i.deps.length → (0 ≤ iR x.i.deps j ∧ iR x.i.deps j ≤ 2) ∧ (0 ≤ iS x.i.deps j ∧ iS x.i.deps j ≤ 6)) := by
  rw [emB_eq] at h
  simp only [Bool.and_eq_true, ivE_iff] at h
  obtain ⟨h1, h2, h3, _, h5, h6, _, h8, h9, _, h11, h12⟩ := h
  rw [idB_iv, Bool.and_eq_true, ivE_iff, ivE_iff] at h5
  refine ⟨by omega, by omega, by omega, by omega, by omega, by omega, by omega, by omega, by omega, fun j hj => ?_⟩
  have := idlB_at h9 j hj
  rw [okAt_eq, Bool.and_eq_true, idB_iv, Bool.and_eq_true, ivE_iff, ivE_iff] at this
  omega
end Go.Proofs.YtkeoeempdkpafaaDoor
