/- JoinIds: the program's walk. -/
import Derived.Test.YtckeeadkhopljaaGreatDoorIdL
import Derived.Test.YtckeeadkhopljaaGreatDoorIdG
import Derived.Lib.SliceRun
namespace Go.Proofs.YtckeeadkhopljaaGreatDoor
open Go.RowKit Go.PlainAid
set_option linter.unusedVariables false

theorem take_filter_succ (p : Ii → Bool) (l : List Ii) (k : Nat) (h : k < l.length) : (l.take (k + 1)).filter p = (l.take k).filter p ++ (if p ⟨iR l k, iS l k⟩ then [⟨iR l k, iS l k⟩] else []) := by
  rw [List.take_add_one, ii_get l k h, List.filter_append]
  congr 1
  simp only [Option.toList, List.filter_cons, List.filter_nil]
theorem take_snoc_ii (l : List Ii) (k : Nat) (h : k < l.length) : l.take (k + 1) = l.take k ++ [⟨iR l k, iS l k⟩] := by
  rw [List.take_add_one, ii_get l k h]; rfl
theorem filter_take_le (p : Ii → Bool) (l : List Ii) (k : Nat) : ((l.take k).filter p).length ≤ k := by
  have := List.length_filter_le p (l.take k)
  rw [List.length_take] at this
  omega
theorem Bx.c2 {w : World} {g : Nat} {t : TypeId} {x0 x1 : Value} (h : Bx w g t #[x0, x1]) : w.cell? ⟨g, 0, none⟩ = some x0 ∧ w.cell? ⟨g, 1, none⟩ = some x1 := ⟨h.cell 0 _ rfl, h.cell 1 _ rfl⟩
set_option maxHeartbeats 400000 in
theorem clone_ids (v : Value) (l : List Ii) (w : World) (hv : Ids w v l) (hl : l.length ≤ 1048577) :
    Calls Tryz.prog 42 #[v] w fun e w' => (∃ u, e = .returned u ∧ IdRow w' w.heap.size u l) ∧ Below w.heap.size w w' := by
  obtain ⟨h1, a, ca, rfl, hca, ha⟩ := hv
  cases a with
  | none =>
    have e0 : l = [] := List.eq_nil_of_length_eq_zero (by
      by_cases h0 : 0 < l.length
      · obtain ⟨b, o, e, _⟩ := ha h0; cases e
      · omega)
    subst e0
    clear ha
    have heq : Sem.run Tryz.prog (binOp BinOp.eql 65 (.slice none 0 ca) (.slice none 0 0)) w = .ok (.bool true) w := Go.Lib.run_eql_slice_nil w _ _ none 0 ca 0 0 Tryz.underlying65
    go_enter Tryz.func42, Tryz.ntmps42
    go_wp2
    go_ret
    exact ⟨⟨_, rfl, idRow_nil _ _⟩, Below.refl _ _⟩
  | some ad =>
    by_cases h0 : 0 < l.length
    · obtain ⟨b, o, e, hb, hcl⟩ := ha h0
      cases e
      have C0 := Lib.hid (fun j hj => (hcl j hj).below ((Below.refl _ _).alloc (Nat.le_refl _) (.cells #[] 63)) hb)
      have HL := Lib.hid hl
      have heq : Sem.run Tryz.prog (binOp BinOp.eql 65 (.slice (some ⟨b, o, none⟩) l.length ca) (.slice none 0 0)) w = .ok (.bool false) w := Go.Lib.run_eql_slice_nil w _ _ (some ⟨b, o, none⟩) _ ca 0 0 Tryz.underlying65
      clear ha hcl hl
      go_enter Tryz.func42, Tryz.ntmps42
      go_wp2_with (at_builtin; refine wp_append_id rfl (.tmp 5) (.tmp 6) rfl w.heap.size (.slice (some ⟨w.heap.size, 0, none⟩) 0 0) [] l rfl (idRow_new w w.heap.size (Nat.le_refl _)) b o ca rfl C0.out (by have := HL.out; simp only [List.length_nil]; omega) (by simp) ?_; intro u w5 hr hg; rw [List.nil_append] at hr; have R5 := Lib.hid hr; have A5 := Lib.hid (((Af.refl w).alloc (.cells #[] 63)).grow hg (fun k hk => by cases hk; exact Nat.le_refl _)); clear hr hg)
      go_ret
      exact ⟨⟨_, rfl, R5.out⟩, A5.out⟩
    · have e0 : l = [] := List.eq_nil_of_length_eq_zero (by omega)
      subst e0
      have heq : Sem.run Tryz.prog (binOp BinOp.eql 65 (.slice (some ad) 0 ca) (.slice none 0 0)) w = .ok (.bool false) w := Go.Lib.run_eql_slice_nil w _ _ (some ad) 0 ca 0 0 Tryz.underlying65
      clear ha h0
      go_enter Tryz.func42, Tryz.ntmps42
      go_wp2
      go_ret
      exact ⟨⟨_, rfl, idRow_new w w.heap.size (Nat.le_refl _)⟩, (Af.refl w).alloc _⟩
theorem l_impl_ids (v : Value) (l : List Ii) (b : Bool) (e : idlB l = b) (w0 w : World) (hv : Ids w0 v l) (h : LatI w0 w) : Calls Tryz.prog 97 #[v] w fun e w' => e = .returned (.bool b) ∧ LatI w0 w' :=
  (impl_ids v l w (hv.later h)).mono fun _ w' hh => ⟨e ▸ hh.1, h.trans hh.2⟩
end Go.Proofs.YtckeeadkhopljaaGreatDoor
