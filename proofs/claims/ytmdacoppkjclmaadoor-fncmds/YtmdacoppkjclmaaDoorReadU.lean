/- The model's ReadCmd. -/
import Derived.Test.YtmdacoppkjclmaaDoorReadT
import Derived.Test.YtmdacoppkjclmaaDoorReadQ
import Derived.Test.YtmdacoppkjclmaaDoorShowS
namespace Go.Proofs.YtmdacoppkjclmaaDoor
open Go.RowKit Go.PlainAid
set_option linter.unusedVariables false

theorem vars4 (s : ByteArray) (w : World) (hs : s.size ≤ 1048576) :
    Calls Tryd.prog 35 #[.string s, .int .i64 0, .int .i64 4] w fun e w' => (∃ v, e = .returned (.tuple #[v, .int .i64 (posI s (s4 s).2)]) ∧ (∃ a m c, v = .slice a m c) ∧ ((s4 s).2 ≠ none → GrowsI w' w.heap.size v [(s1 s).1, (s2 s).1, (s3 s).1, (s4 s).1])) ∧ Below w.heap.size w w' := by
  have h := vars_c s (some s) 4 w hs (suf_all s) (by decide)
  have e0 : posI s (some s) = 0 := by simp [posI]
  rw [e0] at h
  exact h
theorem vars8 (s : ByteArray) (w : World) (hs : s.size ≤ 1048576) (hsf : Suf s (s7 s).2) :
    Calls Tryd.prog 35 #[.string s, .int .i64 (posI s (s7 s).2), .int .i64 1] w fun e w' => (∃ v, e = .returned (.tuple #[v, .int .i64 (posI s (s8 s).2)]) ∧ (∃ a m c, v = .slice a m c) ∧ ((s8 s).2 ≠ none → GrowsI w' w.heap.size v [(s8 s).1])) ∧ Below w.heap.size w w' :=
  vars_c s (s7 s).2 1 w hs hsf (by decide)
theorem take5 (s : ByteArray) (w : World) (hs : s.size ≤ 1048576) (hsf : Suf s (s4 s).2) :
    Calls Tryd.prog 36 #[.string s, .int .i64 (posI s (s4 s).2)] w fun e w' => e = .returned (.tuple #[.string (s5 s).1, .int .i64 (posI s (s5 s).2)]) ∧ Below w.heap.size w w' := take_c s _ w hs hsf
theorem take6 (s : ByteArray) (w : World) (hs : s.size ≤ 1048576) (hsf : Suf s (s5 s).2) :
    Calls Tryd.prog 36 #[.string s, .int .i64 (posI s (s5 s).2)] w fun e w' => e = .returned (.tuple #[.string (s6 s).1, .int .i64 (posI s (s6 s).2)]) ∧ Below w.heap.size w w' := take_c s _ w hs hsf
theorem take7 (s : ByteArray) (w : World) (hs : s.size ≤ 1048576) (hsf : Suf s (s6 s).2) :
    Calls Tryd.prog 36 #[.string s, .int .i64 (posI s (s6 s).2)] w fun e w' => e = .returned (.tuple #[.string (s7 s).1, .int .i64 (posI s (s7 s).2)]) ∧ Below w.heap.size w w' := take_c s _ w hs hsf
theorem suf4 (s : ByteArray) : Suf s (s4 s).2 := suf_N _ _ (suf_N _ _ (suf_N _ _ (suf_N _ _ (suf_all s))))
theorem suf7 (s : ByteArray) : Suf s (s7 s).2 := suf_T _ _ (suf_T _ _ (suf_T _ _ (suf4 s)))
theorem suf8 (s : ByteArray) : Suf s (s8 s).2 := suf_N _ _ (suf7 s)
theorem no_good (s : ByteArray) (h : wholeB s = false) : readC s = zeroC ∧ goodB s = false := by
  have e : goodB s = false := by unfold goodB; rw [h]; rfl
  refine ⟨?_, e⟩
  unfold readC
  rw [e]
  rfl
theorem no4 (s : ByteArray) (h : (s4 s).2 = none) : wholeB s = false := by
  cases e : wholeB s
  · rfl
  · exfalso
    obtain ⟨_, r8, e8, _⟩ := whole_parts s e
    obtain ⟨r7, e7, _⟩ := oN_some (st := (s7 s).2) e8
    obtain ⟨r6, e6, _⟩ := oT_some (st := (s6 s).2) e7
    obtain ⟨r5, e5, _⟩ := oT_some (st := (s5 s).2) e6
    obtain ⟨r4, e4, _⟩ := oT_some (st := (s4 s).2) e5
    rw [h] at e4
    cases e4
theorem no8 (s : ByteArray) (h : (s8 s).2 = none ∨ 4 < (s8 s).1 ∨ ∃ r, (s8 s).2 = some r ∧ r.size ≠ 8 * (s8 s).1.toNat) : wholeB s = false := by
  cases e : wholeB s
  · rfl
  · exfalso
    obtain ⟨h4, r8, e8, hr⟩ := whole_parts s e
    rcases h with h | h | ⟨r, h, hn⟩
    · rw [h] at e8; cases e8
    · omega
    · rw [e8] at h
      cases h
      exact hn hr
theorem posI_pos (s : ByteArray) (st : Option ByteArray) (h : st ≠ none) : 0 ≤ posI s st := by
  cases st with
  | none => exact absurd rfl h
  | some r => show (0 : Int) ≤ ((s.size - r.size : Nat) : Int); omega
theorem posI_le (s : ByteArray) (st : Option ByteArray) : posI s st ≤ s.size := by
  cases st with
  | none => show (-1 : Int) ≤ _; omega
  | some r => show ((s.size - r.size : Nat) : Int) ≤ _; omega

set_option maxRecDepth 100000 in
set_option maxHeartbeats 8000000 in
theorem spec_read_no (s : ByteArray) (w : World) (hs : s.size ≤ 1048576) (hno : wholeB s = false) :
    Calls Tryd.prog 13 #[.string s] w fun e w' => (∃ va vn vcap, e = .returned (.tuple #[.agg #[.int .i64 (readC s).kind, .int .i64 (readC s).client, .int .i64 (readC s).no, .string (readC s).set, .string (readC s).name, .string (readC s).tag, .int .i64 (readC s).n, .slice va vn vcap], .bool (goodB s)]) ∧ GrowsS w' (w.heap.size + 1) (.slice va vn vcap) (readC s).ch) ∧ Below w.heap.size w w' := by
  have HNO := Lib.hid hno
  clear hno
  go_enter Tryd.func13, Tryd.ntmps13
  go_wp2_with fail
  refine (vars4 s _ hs).mono ?_
  rintro e w1 ⟨⟨lv, rfl, ⟨la, lm, lc, rfl⟩, hl⟩, hb⟩
  have B0 := Lib.hid ((Box.new w 26 #[.int .i64 0, .int .i64 0, .int .i64 0, .string ⟨#[]⟩, .string ⟨#[]⟩, .string ⟨#[]⟩, .int .i64 0, .slice none 0 0] w.heap.size rfl).after hb)
  have HW := Lib.hid (((Aft.refl w).alloc _).after hb)
  clear hb
  by_cases h4 : (s4 s).2 = none
  · have hp : posI s (s4 s).2 = -1 := by rw [h4]; rfl
    rw [hp]
    clear h4 hl hp
    have e0 := B0.out.frozen 0
    have e1 := B0.out.frozen 1
    have e2 := B0.out.frozen 2
    have e3 := B0.out.frozen 3
    have e4 := B0.out.frozen 4
    have e5 := B0.out.frozen 5
    have e6 := B0.out.frozen 6
    have e7 := B0.out.frozen 7
    obtain ⟨x0, x1, x2, x3, x4, x5, x6, x7⟩ := B0.out.cells8
    have l0 := B0.out.lt
    have HNW := Lib.hid (HNO.out)
    go_wp2
    refine bodyPost_ret (results_cmd2 Tryd.results13 _ _ w.heap.size _ _ _ _ _ _ _ _ _ rfl rfl (B0.out.set8cells _ _ _ _ _ _ _ _)) rfl ⟨⟨none, 0, 0, by rw [(no_good s HNW.out).1, (no_good s HNW.out).2]; rfl, ?_⟩, ?_⟩
    · rw [(no_good s HNW.out).1]
      exact growsS_nil _ _
    · exact HW.out.set8 _ (Nat.le_refl _) _ _ _ _ _ _ _ _

  have hp4 := posI_pos s _ h4
  have HL := Lib.hid (hl h4)
  clear hl h4
  go_wp2_with fail
  refine (take5 s _ hs (suf4 s)).mono ?_
  rintro e w2 ⟨rfl, hb⟩
  have B0' := Lib.hid (B0.out.after hb)
  have HL' := Lib.hid (HL.out.later hb)
  have HW' := Lib.hid (HW.out.after hb)
  clear hb B0 HL HW
  have B0 := Lib.hid B0'.out
  have HL := Lib.hid HL'.out
  have HW := Lib.hid HW'.out
  clear B0' HL' HW'
  clear hp4
  go_wp2_with fail
  refine (take6 s _ hs (suf_T _ _ (suf4 s))).mono ?_
  rintro e w3 ⟨rfl, hb⟩
  have B0' := Lib.hid (B0.out.after hb)
  have HL' := Lib.hid (HL.out.later hb)
  have HW' := Lib.hid (HW.out.after hb)
  clear hb B0 HL HW
  have B0 := Lib.hid B0'.out
  have HL := Lib.hid HL'.out
  have HW := Lib.hid HW'.out
  clear B0' HL' HW'
  go_wp2_with fail
  refine (take7 s _ hs (suf_T _ _ (suf_T _ _ (suf4 s)))).mono ?_
  rintro e w4 ⟨rfl, hb⟩
  have B0' := Lib.hid (B0.out.after hb)
  have HL' := Lib.hid (HL.out.later hb)
  have HW' := Lib.hid (HW.out.after hb)
  clear hb B0 HL HW
  have B0 := Lib.hid B0'.out
  have HL := Lib.hid HL'.out
  have HW := Lib.hid HW'.out
  clear B0' HL' HW'
  go_wp2_with fail
  refine (vars8 s _ hs (suf7 s)).mono ?_
  rintro e w5 ⟨⟨nv, rfl, ⟨na, nm, nc, rfl⟩, hn⟩, hb⟩
  have B0' := Lib.hid (B0.out.after hb)
  have HL' := Lib.hid (HL.out.later hb)
  have HW' := Lib.hid (HW.out.after hb)
  clear hb B0 HL HW
  have B0 := Lib.hid B0'.out
  have HL := Lib.hid HL'.out
  have HW := Lib.hid HW'.out
  clear B0' HL' HW'
  by_cases h8 : (s8 s).2 = none
  · have hp : posI s (s8 s).2 = -1 := by rw [h8]; rfl
    rw [hp]
    clear h8 hn hp
    have e0 := B0.out.frozen 0
    have e1 := B0.out.frozen 1
    have e2 := B0.out.frozen 2
    have e3 := B0.out.frozen 3
    have e4 := B0.out.frozen 4
    have e5 := B0.out.frozen 5
    have e6 := B0.out.frozen 6
    have e7 := B0.out.frozen 7
    obtain ⟨x0, x1, x2, x3, x4, x5, x6, x7⟩ := B0.out.cells8
    have l0 := B0.out.lt
    have HNW := Lib.hid (HNO.out)
    go_wp2
    refine bodyPost_ret (results_cmd2 Tryd.results13 _ _ w.heap.size _ _ _ _ _ _ _ _ _ rfl rfl (B0.out.set8cells _ _ _ _ _ _ _ _)) rfl ⟨⟨none, 0, 0, by rw [(no_good s HNW.out).1, (no_good s HNW.out).2]; rfl, ?_⟩, ?_⟩
    · rw [(no_good s HNW.out).1]
      exact growsS_nil _ _
    · exact HW.out.set8 _ (Nat.le_refl _) _ _ _ _ _ _ _ _

  have HN := Lib.hid (hn h8)
  clear hn
  have hp8 := posI_pos s _ h8
  have hp9 := posI_le s (s8 s).2
  have n0 := oN_nonneg (s7 s).2
  have n1 := oN_le (s7 s).2
  have n0' : 0 ≤ (s8 s).1 := n0
  have n1' : (s8 s).1 ≤ 562949953421311 := n1
  clear n0 n1
  obtain ⟨gn, ncap, en, hgn, hcn⟩ := HN.out.cell (by simp)
  simp only [Value.slice.injEq] at en
  obtain ⟨rfl, rfl, rfl⟩ := en
  have cn0 := hcn 0 _ rfl
  clear hcn
  by_cases h5 : 4 < (s8 s).1
  · clear h8 hp9
    have e0 := B0.out.frozen 0
    have e1 := B0.out.frozen 1
    have e2 := B0.out.frozen 2
    have e3 := B0.out.frozen 3
    have e4 := B0.out.frozen 4
    have e5 := B0.out.frozen 5
    have e6 := B0.out.frozen 6
    have e7 := B0.out.frozen 7
    obtain ⟨x0, x1, x2, x3, x4, x5, x6, x7⟩ := B0.out.cells8
    have l0 := B0.out.lt
    have HNW := Lib.hid (HNO.out)
    go_wp2
    refine bodyPost_ret (results_cmd2 Tryd.results13 _ _ w.heap.size _ _ _ _ _ _ _ _ _ rfl rfl (B0.out.set8cells _ _ _ _ _ _ _ _)) rfl ⟨⟨none, 0, 0, by rw [(no_good s HNW.out).1, (no_good s HNW.out).2]; rfl, ?_⟩, ?_⟩
    · rw [(no_good s HNW.out).1]
      exact growsS_nil _ _
    · exact HW.out.set8 _ (Nat.le_refl _) _ _ _ _ _ _ _ _

  have hneq : (((s.size : Nat) : Int) != posI s (s8 s).2 + 8 * (s8 s).1) = true := by
    refine bne_yes fun e => ?_
    cases h9 : (s8 s).2 with
    | none => exact h8 h9
    | some r =>
      have hr := whole_of s r (by omega) h9 (by
        have hsu := suf8 s
        rw [h9] at hsu e
        have hz := hsu.1
        have hpp : posI s (some r) = ((s.size - r.size : Nat) : Int) := rfl
        rw [hpp] at e
        omega)
      rw [HNO.out] at hr
      cases hr
  clear h8
  have e0 := B0.out.frozen 0
  have e1 := B0.out.frozen 1
  have e2 := B0.out.frozen 2
  have e3 := B0.out.frozen 3
  have e4 := B0.out.frozen 4
  have e5 := B0.out.frozen 5
  have e6 := B0.out.frozen 6
  have e7 := B0.out.frozen 7
  obtain ⟨x0, x1, x2, x3, x4, x5, x6, x7⟩ := B0.out.cells8
  have l0 := B0.out.lt
  have HNW := Lib.hid (HNO.out)
  go_wp2
  refine bodyPost_ret (results_cmd2 Tryd.results13 _ _ w.heap.size _ _ _ _ _ _ _ _ _ rfl rfl (B0.out.set8cells _ _ _ _ _ _ _ _)) rfl ⟨⟨none, 0, 0, by rw [(no_good s HNW.out).1, (no_good s HNW.out).2]; rfl, ?_⟩, ?_⟩
  · rw [(no_good s HNW.out).1]
    exact growsS_nil _ _
  · exact HW.out.set8 _ (Nat.le_refl _) _ _ _ _ _ _ _ _
end Go.Proofs.YtmdacoppkjclmaaDoor
