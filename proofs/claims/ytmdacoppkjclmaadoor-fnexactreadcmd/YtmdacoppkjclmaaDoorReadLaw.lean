/- The law FnExactReadCmd, walked: it returns true at every argument. -/
import Derived.Test.YtmdacoppkjclmaaDoorReadV
import Derived.Test.YtmdacoppkjclmaaDoorReadC
import Derived.Test.YtmdacoppkjclmaaDoorMark
namespace Go.Proofs.YtmdacoppkjclmaaDoor
open Go.RowKit Go.PlainAid
set_option linter.unusedVariables false

theorem read_fit (s : ByteArray) : (readC s).ch.length ≤ 4 ∧ ∀ j, j < (readC s).ch.length → (el (readC s).ch j).size ≤ 9223372036854775807 := by
  cases h : goodB s
  · rw [read_no s h]
    exact ⟨by decide, fun j hj => by simp [zeroC] at hj⟩
  · have e : readC s = rawC s := by unfold readC; rw [h]; rfl
    have ho : okB (rawC s) = true := by
      unfold goodB at h
      rw [Bool.and_eq_true] at h
      exact h.2
    obtain ⟨_, _, _, _, _, _, _, h8, h9⟩ := okB_fit _ ho
    rw [e]
    exact ⟨h8, fun j hj => by rw [h9 j hj]; decide⟩
set_option maxHeartbeats 1000000 in
theorem mark_cmd (c : CmdM) (v : Value) (base : Nat) (w : World) (hv : GrowsS w base v c.ch) (hl : c.ch.length ≤ 4) :
    Calls Tryd.prog 24 #[.agg #[.int .i64 c.kind, .int .i64 c.client, .int .i64 c.no, .string c.set, .string c.name, .string c.tag, .int .i64 c.n, v], .int .i64 1] w fun e w' => e = .returned (.int .i64 ((c.ch.length : Int) + 1)) ∧ GrowsS w' base v (mkL c.ch c.ch.length) ∧ w.grownBy w' v.ownBlock := by
  have HV := Lib.hid hv
  clear hv
  go_enter Tryd.func24, Tryd.ntmps24
  go_wp2_with fail
  refine (mark_strs v c.ch base _ (HV.out.alloc _) hl).mono ?_
  rintro e w1 ⟨rfl, hv1, hg⟩
  have H1 := Lib.hid hv1
  have G1 := Lib.hid (World.grownBy.trans (World.grownBy_alloc w _ _) hg)
  clear hv1 hg
  go_wp2
  go_ret
  exact ⟨rfl, H1.out, G1.out⟩
set_option maxHeartbeats 1000000 in
theorem held_cmd (c : CmdM) (v : Value) (w : World) (hv : Strs w v (mkL c.ch c.ch.length)) (hl : c.ch.length ≤ 4) :
    Calls Tryd.prog 25 #[.agg #[.int .i64 c.kind, .int .i64 c.client, .int .i64 c.no, .string c.set, .string c.name, .string c.tag, .int .i64 c.n, v], .int .i64 1] w fun e w' => e = .returned (.int .i64 ((c.ch.length : Int) + 1)) ∧ Below w.heap.size w w' := by
  have HV := Lib.hid hv
  clear hv
  go_enter Tryd.func25, Tryd.ntmps25
  go_wp2_with fail
  refine (held_strs v c.ch _ (HV.out.alloc _) hl).mono ?_
  rintro e w1 ⟨rfl, hb⟩
  have HW := Lib.hid (((Aft.refl w).alloc _).after hb)
  clear hb
  go_wp2
  go_ret
  exact ⟨rfl, HW.out⟩
theorem marks_size (l : List ByteArray) (j : Nat) (h : j < (mkL l l.length).length) : (el (mkL l l.length) j).size ≤ 9223372036854775807 := by
  rw [mkL_length] at h
  rw [mkL_el l _ j h, if_pos h, mkT_size]
  decide

set_option maxRecDepth 100000 in
set_option maxHeartbeats 4000000 in
theorem law_read (s : ByteArray) (a : Addr) (w : World) (hS : Sent w a) (hsz : s.size ≤ 9223372036854775807) :
    Calls Tryd.prog 7 #[.string s] w fun e w' => e = .returned (.bool true) ∧ Below w.heap.size w w' := by
  by_cases hbig : s.size ≤ 1048576
  case neg =>
    go_enter Tryd.func7, Tryd.ntmps7
    go_wp2
    go_ret
    exact ⟨rfl, Below.refl _ _⟩
  obtain ⟨hl4, hel⟩ := read_fit s
  have hI := fun w' (h : Sent w' a) => impl_read s a w' h hbig
  have hP := fun w' => spec_read s w' hbig
  generalize readC s = c at *
  generalize goodB s = b at *
  have HI := Lib.hid hI
  have HP := Lib.hid hP
  have HE := Lib.hid hel
  have HS := Lib.hid hS
  clear hI hP hel hS
  go_enter Tryd.func7, Tryd.ntmps7
  go_wp2_with fail
  refine (HP.out _).mono ?_
  rintro e w1 ⟨⟨a0, n0, p0, rfl, hv0⟩, hb⟩
  have H3 := Lib.hid (Has.new w1 26 c (.slice a0 n0 p0) _ rfl (hv0.strs HE.out))
  have HW := Lib.hid ((Aft.after (Aft.refl w) hb).alloc (.cells #[.int .i64 c.kind, .int .i64 c.client, .int .i64 c.no, .string c.set, .string c.name, .string c.tag, .int .i64 c.n, .slice a0 n0 p0] 26))
  clear hv0 hb
  go_wp2_with fail
  have S1 := HS.out.later HW.out
  refine (HI.out _ S1).mono ?_
  rintro e w2 ⟨⟨a1, n1, p1, rfl, hv1⟩, hb⟩
  have HU := Lib.hid (show Aft (w1.alloc (.cells #[.int .i64 c.kind, .int .i64 c.client, .int .i64 c.no, .string c.set, .string c.name, .string c.tag, .int .i64 c.n, .slice a0 n0 p0] 26)) (w2.alloc (.cells #[.int .i64 c.kind, .int .i64 c.client, .int .i64 c.no, .string c.set, .string c.name, .string c.tag, .int .i64 c.n, .slice a1 n1 p1] 26)) from (Aft.after (Aft.refl _) hb).alloc _)
  have B5 := Lib.hid (Box.new w2 26 #[.int .i64 c.kind, .int .i64 c.client, .int .i64 c.no, .string c.set, .string c.name, .string c.tag, .int .i64 c.n, .slice a1 n1 p1] w2.heap.size rfl)
  have own : ∀ k, Value.ownBlock (.slice a1 n1 p1) = some k → w1.heap.size + 1 + 1 ≤ k ∧ k < w2.heap.size := fun k hk => by
    have := World.ownsRow.lt hv1 k hk
    simpa using this
  have OWN := Lib.hid own
  have V5 := Lib.hid (hv1.alloc (.cells #[.int .i64 c.kind, .int .i64 c.client, .int .i64 c.no, .string c.set, .string c.name, .string c.tag, .int .i64 c.n, .slice a1 n1 p1] 26))
  clear hv1 hb S1 own
  obtain ⟨d0, d1, d2, d3, d4, d5, d6, d7⟩ := (H3.out.after HU.out).cells
  go_wp2_with fail
  clear d0 d1 d2 d3 d4 d5 d6 d7
  refine (eq_cmd c c _ _ _ (V5.out.strs HE.out) (H3.out.after HU.out).2).mono ?_
  rintro e w3 ⟨rfl, hb⟩
  have hcc : decide (c = c) = true := by simp
  have HU3 := Lib.hid (HU.out.after hb)
  have B53 := Lib.hid (B5.out.after hb)
  have V53 := Lib.hid (V5.out.later hb)
  clear hb HU B5 V5
  obtain ⟨d0, d1, d2, d3, d4, d5, d6, d7⟩ := B53.out.cells8
  go_wp2_with fail
  clear d0 d1 d2 d3 d4 d5 d6 d7
  refine (mark_cmd c _ _ _ V53.out hl4).mono ?_
  rintro e w4 ⟨rfl, hv4, hg⟩
  have V54 := Lib.hid hv4
  have B54 := Lib.hid (B53.out.keep hg (fun e => by have := (OWN.out _ e.symm).2; omega))
  have HU4 := Lib.hid (HU3.out.grow hg (fun k hk => by have := (OWN.out k hk).1; simp; omega))
  clear hv4 hg HU3 B53 V53
  obtain ⟨d0, d1, d2, d3, d4, d5, d6, d7⟩ := B54.out.cells8
  go_wp2_with fail
  clear d0 d1 d2 d3 d4 d5 d6 d7
  refine (held_cmd c _ _ (V54.out.strs (marks_size _)) hl4).mono ?_
  rintro e w5 ⟨rfl, hb⟩
  have V55 := Lib.hid (V54.out.later hb)
  have B55 := Lib.hid (B54.out.after hb)
  have HU5 := Lib.hid (HU4.out.after hb)
  clear hb V54 B54 HU4
  have S5 := HS.out.later (Aft.after HW.out HU5.out)
  go_wp2_with fail
  refine (HI.out _ S5).mono ?_
  rintro e w6 ⟨⟨a2, n2, p2, rfl, hv2⟩, hb⟩
  have H9 := Lib.hid (Has.new w6 26 c (.slice a2 n2 p2) _ rfl (hv2.strs HE.out))
  have V56 := Lib.hid ((V55.out.later hb).alloc (.cells #[.int .i64 c.kind, .int .i64 c.client, .int .i64 c.no, .string c.set, .string c.name, .string c.tag, .int .i64 c.n, .slice a2 n2 p2] 26))
  have B56 := Lib.hid ((B55.out.after hb).alloc (.cells #[.int .i64 c.kind, .int .i64 c.client, .int .i64 c.no, .string c.set, .string c.name, .string c.tag, .int .i64 c.n, .slice a2 n2 p2] 26))
  have HU6 := Lib.hid ((HU5.out.after hb).alloc (.cells #[.int .i64 c.kind, .int .i64 c.client, .int .i64 c.no, .string c.set, .string c.name, .string c.tag, .int .i64 c.n, .slice a2 n2 p2] 26))
  clear hv2 hb V55 B55 HU5 S5
  obtain ⟨d0, d1, d2, d3, d4, d5, d6, d7⟩ := (H3.out.after HU6.out).cells
  go_wp2_with fail
  clear d0 d1 d2 d3 d4 d5 d6 d7
  refine (eq_cmd c c _ _ _ H9.out.2 (H3.out.after HU6.out).2).mono ?_
  rintro e w7 ⟨rfl, hb⟩
  have V57 := Lib.hid (V56.out.later hb)
  have B57 := Lib.hid (B56.out.after hb)
  have HU7 := Lib.hid (HU6.out.after hb)
  clear hb V56 B56 HU6 H9 H3
  obtain ⟨d0, d1, d2, d3, d4, d5, d6, d7⟩ := B57.out.cells8
  go_wp2_with fail
  clear d0 d1 d2 d3 d4 d5 d6 d7
  refine (held_cmd c _ _ (V57.out.strs (marks_size _)) hl4).mono ?_
  rintro e w8 ⟨rfl, hb⟩
  have HU8 := Lib.hid (Aft.after HW.out (HU7.out.after hb))
  clear hb V57 B57 HU7
  go_wp2
  go_ret
  exact ⟨rfl, HU8.out⟩
end Go.Proofs.YtmdacoppkjclmaaDoor
