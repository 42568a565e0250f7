/- The program's ReadCmd. -/
import Derived.Test.YtmdacoppkjclmaaDoorReadQ
namespace Go.Proofs.YtmdacoppkjclmaaDoor
open Go.RowKit Go.PlainAid
set_option linter.unusedVariables false

def pc (s : ByteArray) : CmdM := if wholeB s then rawC s else zeroC
theorem parse_c (s : ByteArray) (a : Addr) (w : World) (hS : Sent w a) (hs : s.size ≤ 1048576) :
    Calls Tryd.prog 31 #[.string s] w fun e w' => (∃ va vn vcap, e = .returned (.tuple #[.agg #[.int .i64 (pc s).kind, .int .i64 (pc s).client, .int .i64 (pc s).no, .string (pc s).set, .string (pc s).name, .string (pc s).tag, .int .i64 (pc s).n, .slice va vn vcap], errV a (goodB s)]) ∧ GrowsS w' (w.heap.size + 1) (.slice va vn vcap) (pc s).ch) ∧ Below w.heap.size w w' := by
  cases h : wholeB s
  · refine (parse_no s a w hS hs h).mono fun e w' ⟨he, hb⟩ => ⟨⟨none, 0, 0, ?_, ?_⟩, hb⟩
    · have e1 : pc s = zeroC := by unfold pc; rw [h]; rfl
      have e2 : goodB s = false := by unfold goodB; rw [h]; rfl
      rw [he, e1, e2]
      rfl
    · have e1 : pc s = zeroC := by unfold pc; rw [h]; rfl
      rw [e1]
      exact growsS_nil _ _
  · refine (parse_yes s a w hS hs h).mono fun e w' ⟨⟨va, vn, vcap, he, hv⟩, hb⟩ => ⟨⟨va, vn, vcap, ?_, ?_⟩, hb⟩
    · have e1 : pc s = rawC s := by unfold pc; rw [h]; rfl
      have e2 : goodB s = okB (rawC s) := by unfold goodB; rw [h, Bool.true_and]
      rw [he, e1, e2]
    · have e1 : pc s = rawC s := by unfold pc; rw [h]; rfl
      rw [e1]
      exact hv
theorem read_of (s : ByteArray) (h : goodB s = true) : readC s = pc s := by
  unfold readC pc
  rw [h]
  have hw : wholeB s = true := by
    unfold goodB at h
    rw [Bool.and_eq_true] at h
    exact h.1
  rw [hw]
theorem read_no (s : ByteArray) (h : goodB s = false) : readC s = zeroC := by
  unfold readC
  rw [h]
  rfl

set_option maxRecDepth 100000 in
set_option maxHeartbeats 4000000 in
theorem impl_read (s : ByteArray) (a : Addr) (w : World) (hS : Sent w a) (hs : s.size ≤ 1048576) :
    Calls Tryd.prog 11 #[.string s] w fun e w' => (∃ va vn vcap, e = .returned (.tuple #[.agg #[.int .i64 (readC s).kind, .int .i64 (readC s).client, .int .i64 (readC s).no, .string (readC s).set, .string (readC s).name, .string (readC s).tag, .int .i64 (readC s).n, .slice va vn vcap], .bool (goodB s)]) ∧ GrowsS w' (w.heap.size + 1) (.slice va vn vcap) (readC s).ch) ∧ Below w.heap.size w w' := by
  have HS := Lib.hid hS
  clear hS
  obtain ⟨b, hg⟩ : ∃ b, goodB s = b := ⟨_, rfl⟩
  have HG := Lib.hid hg
  clear hg
  go_enter Tryd.func11, Tryd.ntmps11
  go_wp2_with fail
  refine (parse_c s a _ (HS.out.alloc _) hs).mono ?_
  rintro e w1 ⟨⟨va, vn, vcap, he, hv⟩, hb⟩
  rw [HG.out] at he
  subst he
  have B0 := Lib.hid (((Box.new w 26 #[.int .i64 0, .int .i64 0, .int .i64 0, .string ⟨#[]⟩, .string ⟨#[]⟩, .string ⟨#[]⟩, .int .i64 0, .slice none 0 0] w.heap.size rfl).after hb).alloc (.cells #[.int .i64 (pc s).kind, .int .i64 (pc s).client, .int .i64 (pc s).no, .string (pc s).set, .string (pc s).name, .string (pc s).tag, .int .i64 (pc s).n, .slice va vn vcap] 26))
  have S1 := Lib.hid (((HS.out.alloc _).later hb).alloc (.cells #[.int .i64 (pc s).kind, .int .i64 (pc s).client, .int .i64 (pc s).no, .string (pc s).set, .string (pc s).name, .string (pc s).tag, .int .i64 (pc s).n, .slice va vn vcap] 26))
  have W1 := Lib.hid ((((Aft.refl w).alloc _).after hb).alloc (.cells #[.int .i64 (pc s).kind, .int .i64 (pc s).client, .int .i64 (pc s).no, .string (pc s).set, .string (pc s).name, .string (pc s).tag, .int .i64 (pc s).n, .slice va vn vcap] 26))
  have V1 := Lib.hid ((hv.mono (base' := w.heap.size + 1) (by simp)).alloc (.cells #[.int .i64 (pc s).kind, .int .i64 (pc s).client, .int .i64 (pc s).no, .string (pc s).set, .string (pc s).name, .string (pc s).tag, .int .i64 (pc s).n, .slice va vn vcap] 26))
  clear hv hb HS
  generalize hpc : pc s = c at *
  have HP := Lib.hid hpc
  clear hpc
  have hs0 := S1.out
  unfold Sent at hs0
  go_wp2_with fail
  refine (is_err b a _).mono ?_
  rintro e w2 ⟨rfl, rfl⟩
  have e0 := B0.out.frozen 0
  have e1 := B0.out.frozen 1
  have e2 := B0.out.frozen 2
  have e3 := B0.out.frozen 3
  have e4 := B0.out.frozen 4
  have e5 := B0.out.frozen 5
  have e6 := B0.out.frozen 6
  have e7 := B0.out.frozen 7
  obtain ⟨x0, x1, x2, x3, x4, x5, x6, x7⟩ := B0.out.cells8
  have l0 := B0.out.lt
  cases b
  · go_wp2
    refine bodyPost_ret (results_cmd2 Tryd.results11 _ _ w.heap.size _ _ _ _ _ _ _ _ _ rfl rfl (B0.out.set8cells _ _ _ _ _ _ _ _)) rfl ⟨⟨none, 0, 0, by rw [read_no s HG.out, HG.out]; rfl, ?_⟩, ?_⟩
    · rw [read_no s HG.out]
      exact growsS_nil _ _
    · exact W1.out.set8 _ (Nat.le_refl _) _ _ _ _ _ _ _ _
  · go_wp2
    refine bodyPost_ret (results_cmd2 Tryd.results11 _ _ w.heap.size _ _ _ _ _ _ _ _ _ rfl rfl (B0.out.set8cells _ _ _ _ _ _ _ _)) rfl ⟨⟨va, vn, vcap, by rw [read_of s HG.out, HG.out, HP.out]; rfl, ?_⟩, ?_⟩
    · rw [read_of s HG.out, HP.out]
      exact V1.out.set8 _ (by omega) _ _ _ _ _ _ _ _
    · exact W1.out.set8 _ (Nat.le_refl _) _ _ _ _ _ _ _ _
end Go.Proofs.YtmdacoppkjclmaaDoor
