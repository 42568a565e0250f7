/- Commands as values: the model of one, and where two are compared. -/
import Derived.Test.YtlbebeedkcdgpaaDoorCmdM
import Derived.Test.YtlbebeedkcdgpaaDoorStrsL
namespace Go.Proofs.YtlbebeedkcdgpaaDoor
open Go.RowKit Go.PlainAid
set_option linter.unusedVariables false

set_option maxHeartbeats 1000000 in
theorem eq_cmd_x (k cl no : Int) (s nm tg : ByteArray) (n : Int) (v : Value) (l : List ByteArray) (k' cl' no' : Int) (s' nm' tg' : ByteArray) (n' : Int) (v' : Value) (l' : List ByteArray) (w : World) (hv : Strs w v l) (hv' : Strs w v' l') :
    Calls Tryd.prog 43 #[.agg #[.int .i64 k, .int .i64 cl, .int .i64 no, .string s, .string nm, .string tg, .int .i64 n, v], .agg #[.int .i64 k', .int .i64 cl', .int .i64 no', .string s', .string nm', .string tg', .int .i64 n', v']] w fun e w' => e = .returned (.bool (decide ((CmdM.mk k cl no s nm tg n l) = (CmdM.mk k' cl' no' s' nm' tg' n' l')))) ∧ Below w.heap.size w w' := by
  have HV := Lib.hid hv
  have HV' := Lib.hid hv'
  clear hv hv'
  by_cases h : k = k'
  case neg =>
    have hb : (k == k') = false := by simpa using h
    have H := Lib.hid h
    clear h
    go_enter Tryd.func43, Tryd.ntmps43
    go_wp2
    go_ret
    exact ⟨by rw [decide_eq_false (fun e => H.out (by injection e))]; rfl, ((Below.refl _ _).alloc (Nat.le_refl _) _).alloc (by simp) _⟩
  subst h
  by_cases h : cl = cl'
  case neg =>
    have hb : (cl == cl') = false := by simpa using h
    have H := Lib.hid h
    clear h
    go_enter Tryd.func43, Tryd.ntmps43
    go_wp2
    go_ret
    exact ⟨by rw [decide_eq_false (fun e => H.out (by injection e))]; rfl, ((Below.refl _ _).alloc (Nat.le_refl _) _).alloc (by simp) _⟩
  subst h
  by_cases h : no = no'
  case neg =>
    have hb : (no == no') = false := by simpa using h
    have H := Lib.hid h
    clear h
    go_enter Tryd.func43, Tryd.ntmps43
    go_wp2
    go_ret
    exact ⟨by rw [decide_eq_false (fun e => H.out (by injection e))]; rfl, ((Below.refl _ _).alloc (Nat.le_refl _) _).alloc (by simp) _⟩
  subst h
  by_cases h : s = s'
  case neg =>
    have hb := ne_list h
    have H := Lib.hid h
    clear h
    go_enter Tryd.func43, Tryd.ntmps43
    go_wp2
    go_ret
    exact ⟨by rw [decide_eq_false (fun e => H.out (by injection e))]; rfl, ((Below.refl _ _).alloc (Nat.le_refl _) _).alloc (by simp) _⟩
  subst h
  by_cases h : nm = nm'
  case neg =>
    have hb := ne_list h
    have H := Lib.hid h
    clear h
    go_enter Tryd.func43, Tryd.ntmps43
    go_wp2
    go_ret
    exact ⟨by rw [decide_eq_false (fun e => H.out (by injection e))]; rfl, ((Below.refl _ _).alloc (Nat.le_refl _) _).alloc (by simp) _⟩
  subst h
  by_cases h : tg = tg'
  case neg =>
    have hb := ne_list h
    have H := Lib.hid h
    clear h
    go_enter Tryd.func43, Tryd.ntmps43
    go_wp2
    go_ret
    exact ⟨by rw [decide_eq_false (fun e => H.out (by injection e))]; rfl, ((Below.refl _ _).alloc (Nat.le_refl _) _).alloc (by simp) _⟩
  subst h
  by_cases h : n = n'
  case neg =>
    have hb : (n == n') = false := by simpa using h
    have H := Lib.hid h
    clear h
    go_enter Tryd.func43, Tryd.ntmps43
    go_wp2
    go_ret
    exact ⟨by rw [decide_eq_false (fun e => H.out (by injection e))]; rfl, ((Below.refl _ _).alloc (Nat.le_refl _) _).alloc (by simp) _⟩
  subst h
  go_enter Tryd.func43, Tryd.ntmps43
  go_wp2_with (go_at_call 57; refine (eq_strs v v' l l' _ ((HV.out.alloc _).alloc _) ((HV'.out.alloc _).alloc _)).mono ?_; rintro e w' ⟨rfl, hb⟩)
  all_goals
    go_ret
    refine ⟨?_, (((Below.refl _ _).alloc (Nat.le_refl _) _).alloc (by simp) _).trans (hb.mono (by simp; omega))⟩
    have e : decide ((CmdM.mk k cl no s nm tg n l) = (CmdM.mk k cl no s nm tg n l')) = decide (l = l') := by simp
    rw [e]
    first | rfl | (rename_i hq; rw [show decide (l = l') = _ from hq]; rfl) | simp_all

theorem eq_cmd (c d : CmdM) (v v' : Value) (w : World) (hv : Strs w v c.ch) (hv' : Strs w v' d.ch) :
    Calls Tryd.prog 43 #[.agg #[.int .i64 c.kind, .int .i64 c.client, .int .i64 c.no, .string c.set, .string c.name, .string c.tag, .int .i64 c.n, v], .agg #[.int .i64 d.kind, .int .i64 d.client, .int .i64 d.no, .string d.set, .string d.name, .string d.tag, .int .i64 d.n, v']] w fun e w' => e = .returned (.bool (decide (c = d))) ∧ Below w.heap.size w w' :=
  eq_cmd_x c.kind c.client c.no c.set c.name c.tag c.n v c.ch d.kind d.client d.no d.set d.name d.tag d.n v' d.ch w hv hv'

set_option maxHeartbeats 1000000 in
theorem spec_same_x (k cl no : Int) (s nm tg : ByteArray) (n : Int) (v : Value) (l : List ByteArray) (k' cl' no' : Int) (s' nm' tg' : ByteArray) (n' : Int) (v' : Value) (l' : List ByteArray) (w : World) (hv : Strs w v l) (hv' : Strs w v' l') :
    Calls Tryd.prog 58 #[.agg #[.int .i64 k, .int .i64 cl, .int .i64 no, .string s, .string nm, .string tg, .int .i64 n, v], .agg #[.int .i64 k', .int .i64 cl', .int .i64 no', .string s', .string nm', .string tg', .int .i64 n', v']] w fun e w' => e = .returned (.bool (decide ((CmdM.mk k cl no s nm tg n l) = (CmdM.mk k' cl' no' s' nm' tg' n' l')))) ∧ Below w.heap.size w w' := by
  have HV := Lib.hid hv
  have HV' := Lib.hid hv'
  clear hv hv'
  by_cases h : k = k'
  case neg =>
    have hb : (k == k') = false := by simpa using h
    have H := Lib.hid h
    clear h
    go_enter Tryd.func58, Tryd.ntmps58
    go_wp2
    go_ret
    exact ⟨by rw [decide_eq_false (fun e => H.out (by injection e))]; rfl, ((Below.refl _ _).alloc (Nat.le_refl _) _).alloc (by simp) _⟩
  subst h
  by_cases h : cl = cl'
  case neg =>
    have hb : (cl == cl') = false := by simpa using h
    have H := Lib.hid h
    clear h
    go_enter Tryd.func58, Tryd.ntmps58
    go_wp2
    go_ret
    exact ⟨by rw [decide_eq_false (fun e => H.out (by injection e))]; rfl, ((Below.refl _ _).alloc (Nat.le_refl _) _).alloc (by simp) _⟩
  subst h
  by_cases h : no = no'
  case neg =>
    have hb : (no == no') = false := by simpa using h
    have H := Lib.hid h
    clear h
    go_enter Tryd.func58, Tryd.ntmps58
    go_wp2
    go_ret
    exact ⟨by rw [decide_eq_false (fun e => H.out (by injection e))]; rfl, ((Below.refl _ _).alloc (Nat.le_refl _) _).alloc (by simp) _⟩
  subst h
  by_cases h : s = s'
  case neg =>
    have hb := ne_list h
    have H := Lib.hid h
    clear h
    go_enter Tryd.func58, Tryd.ntmps58
    go_wp2
    go_ret
    exact ⟨by rw [decide_eq_false (fun e => H.out (by injection e))]; rfl, ((Below.refl _ _).alloc (Nat.le_refl _) _).alloc (by simp) _⟩
  subst h
  by_cases h : nm = nm'
  case neg =>
    have hb := ne_list h
    have H := Lib.hid h
    clear h
    go_enter Tryd.func58, Tryd.ntmps58
    go_wp2
    go_ret
    exact ⟨by rw [decide_eq_false (fun e => H.out (by injection e))]; rfl, ((Below.refl _ _).alloc (Nat.le_refl _) _).alloc (by simp) _⟩
  subst h
  by_cases h : tg = tg'
  case neg =>
    have hb := ne_list h
    have H := Lib.hid h
    clear h
    go_enter Tryd.func58, Tryd.ntmps58
    go_wp2
    go_ret
    exact ⟨by rw [decide_eq_false (fun e => H.out (by injection e))]; rfl, ((Below.refl _ _).alloc (Nat.le_refl _) _).alloc (by simp) _⟩
  subst h
  by_cases h : n = n'
  case neg =>
    have hb : (n == n') = false := by simpa using h
    have H := Lib.hid h
    clear h
    go_enter Tryd.func58, Tryd.ntmps58
    go_wp2
    go_ret
    exact ⟨by rw [decide_eq_false (fun e => H.out (by injection e))]; rfl, ((Below.refl _ _).alloc (Nat.le_refl _) _).alloc (by simp) _⟩
  subst h
  go_enter Tryd.func58, Tryd.ntmps58
  go_wp2_with (go_at_call 65; refine (texts_strs v v' l l' _ ((HV.out.alloc _).alloc _) ((HV'.out.alloc _).alloc _)).mono ?_; rintro e w' ⟨rfl, hb⟩)
  all_goals
    go_ret
    refine ⟨?_, (((Below.refl _ _).alloc (Nat.le_refl _) _).alloc (by simp) _).trans (hb.mono (by simp; omega))⟩
    have e : decide ((CmdM.mk k cl no s nm tg n l) = (CmdM.mk k cl no s nm tg n l')) = decide (l = l') := by simp
    rw [e]
    first | rfl | (rename_i hq; rw [show decide (l = l') = _ from hq]; rfl) | simp_all

theorem spec_same (c d : CmdM) (v v' : Value) (w : World) (hv : Strs w v c.ch) (hv' : Strs w v' d.ch) :
    Calls Tryd.prog 58 #[.agg #[.int .i64 c.kind, .int .i64 c.client, .int .i64 c.no, .string c.set, .string c.name, .string c.tag, .int .i64 c.n, v], .agg #[.int .i64 d.kind, .int .i64 d.client, .int .i64 d.no, .string d.set, .string d.name, .string d.tag, .int .i64 d.n, v']] w fun e w' => e = .returned (.bool (decide (c = d))) ∧ Below w.heap.size w w' :=
  spec_same_x c.kind c.client c.no c.set c.name c.tag c.n v c.ch d.kind d.client d.no d.set d.name d.tag d.n v' d.ch w hv hv'

set_option maxHeartbeats 1000000 in
theorem impl_same_x (k cl no : Int) (s nm tg : ByteArray) (n : Int) (v : Value) (l : List ByteArray) (k' cl' no' : Int) (s' nm' tg' : ByteArray) (n' : Int) (v' : Value) (l' : List ByteArray) (w : World) (hv : Strs w v l) (hv' : Strs w v' l') :
    Calls Tryd.prog 73 #[.agg #[.int .i64 k, .int .i64 cl, .int .i64 no, .string s, .string nm, .string tg, .int .i64 n, v], .agg #[.int .i64 k', .int .i64 cl', .int .i64 no', .string s', .string nm', .string tg', .int .i64 n', v']] w fun e w' => e = .returned (.bool (decide ((CmdM.mk k cl no s nm tg n l) = (CmdM.mk k' cl' no' s' nm' tg' n' l')))) ∧ Below w.heap.size w w' := by
  have HV := Lib.hid hv
  have HV' := Lib.hid hv'
  clear hv hv'
  by_cases h : k = k'
  case neg =>
    have hb : (k == k') = false := by simpa using h
    have H := Lib.hid h
    clear h
    go_enter Tryd.func73, Tryd.ntmps73
    go_wp2
    go_ret
    exact ⟨by rw [decide_eq_false (fun e => H.out (by injection e))]; rfl, ((Below.refl _ _).alloc (Nat.le_refl _) _).alloc (by simp) _⟩
  subst h
  by_cases h : cl = cl'
  case neg =>
    have hb : (cl == cl') = false := by simpa using h
    have H := Lib.hid h
    clear h
    go_enter Tryd.func73, Tryd.ntmps73
    go_wp2
    go_ret
    exact ⟨by rw [decide_eq_false (fun e => H.out (by injection e))]; rfl, ((Below.refl _ _).alloc (Nat.le_refl _) _).alloc (by simp) _⟩
  subst h
  by_cases h : no = no'
  case neg =>
    have hb : (no == no') = false := by simpa using h
    have H := Lib.hid h
    clear h
    go_enter Tryd.func73, Tryd.ntmps73
    go_wp2
    go_ret
    exact ⟨by rw [decide_eq_false (fun e => H.out (by injection e))]; rfl, ((Below.refl _ _).alloc (Nat.le_refl _) _).alloc (by simp) _⟩
  subst h
  by_cases h : n = n'
  case neg =>
    have hb : (n == n') = false := by simpa using h
    have H := Lib.hid h
    clear h
    go_enter Tryd.func73, Tryd.ntmps73
    go_wp2
    go_ret
    exact ⟨by rw [decide_eq_false (fun e => H.out (by injection e))]; rfl, ((Below.refl _ _).alloc (Nat.le_refl _) _).alloc (by simp) _⟩
  subst h
  by_cases h : s = s'
  case neg =>
    have hb := ne_list h
    have H := Lib.hid h
    clear h
    go_enter Tryd.func73, Tryd.ntmps73
    go_wp2
    go_ret
    exact ⟨by rw [decide_eq_false (fun e => H.out (by injection e))]; rfl, ((Below.refl _ _).alloc (Nat.le_refl _) _).alloc (by simp) _⟩
  subst h
  by_cases h : nm = nm'
  case neg =>
    have hb := ne_list h
    have H := Lib.hid h
    clear h
    go_enter Tryd.func73, Tryd.ntmps73
    go_wp2
    go_ret
    exact ⟨by rw [decide_eq_false (fun e => H.out (by injection e))]; rfl, ((Below.refl _ _).alloc (Nat.le_refl _) _).alloc (by simp) _⟩
  subst h
  by_cases h : tg = tg'
  case neg =>
    have hb := ne_list h
    have H := Lib.hid h
    clear h
    go_enter Tryd.func73, Tryd.ntmps73
    go_wp2
    go_ret
    exact ⟨by rw [decide_eq_false (fun e => H.out (by injection e))]; rfl, ((Below.refl _ _).alloc (Nat.le_refl _) _).alloc (by simp) _⟩
  subst h
  go_enter Tryd.func73, Tryd.ntmps73
  go_wp2_with (go_at_call 78; refine (equal_strs v v' l l' _ ((HV.out.alloc _).alloc _) ((HV'.out.alloc _).alloc _)).mono ?_; rintro e w' ⟨rfl, hb⟩)
  all_goals
    go_ret
    refine ⟨?_, (((Below.refl _ _).alloc (Nat.le_refl _) _).alloc (by simp) _).trans (hb.mono (by simp; omega))⟩
    have e : decide ((CmdM.mk k cl no s nm tg n l) = (CmdM.mk k cl no s nm tg n l')) = decide (l = l') := by simp
    rw [e]
    first | rfl | (rename_i hq; rw [show decide (l = l') = _ from hq]; rfl) | simp_all

theorem impl_same (c d : CmdM) (v v' : Value) (w : World) (hv : Strs w v c.ch) (hv' : Strs w v' d.ch) :
    Calls Tryd.prog 73 #[.agg #[.int .i64 c.kind, .int .i64 c.client, .int .i64 c.no, .string c.set, .string c.name, .string c.tag, .int .i64 c.n, v], .agg #[.int .i64 d.kind, .int .i64 d.client, .int .i64 d.no, .string d.set, .string d.name, .string d.tag, .int .i64 d.n, v']] w fun e w' => e = .returned (.bool (decide (c = d))) ∧ Below w.heap.size w w' :=
  impl_same_x c.kind c.client c.no c.set c.name c.tag c.n v c.ch d.kind d.client d.no d.set d.name d.tag d.n v' d.ch w hv hv'

end Go.Proofs.YtlbebeedkcdgpaaDoor
