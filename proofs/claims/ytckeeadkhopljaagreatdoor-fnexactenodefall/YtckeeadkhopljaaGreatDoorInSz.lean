/- The law's measure, with what it says of the texts. -/
import Derived.Test.YtckeeadkhopljaaGreatDoorCp
namespace Go.Proofs.YtckeeadkhopljaaGreatDoor
open Go.RowKit Go.PlainAid
set_option linter.unusedVariables false

def SzCmdF (c : CmdM) (left : Int) (e : Ending) : Prop := e = .returned (.int .i64 (-1)) ∨ ∃ r : Int, e = .returned (.int .i64 r) ∧ 0 ≤ r ∧ r ≤ left ∧ SmlC c
set_option maxHeartbeats 1000000 in
theorem sz_cmdF (c : CmdM) (v : Value) (left : Int) (w : World) (hv : Strs w v c.ch) (h0 : 0 ≤ left) (h1 : left ≤ 1048576) (hs : c.set.size ≤ 9223372036854775807) (hn : c.name.size ≤ 9223372036854775807) (ht : c.tag.size ≤ 9223372036854775807) :
    Calls Tryz.prog 53 #[.agg #[.int .i64 c.kind, .int .i64 c.client, .int .i64 c.no, .string c.set, .string c.name, .string c.tag, .int .i64 c.n, v], .int .i64 left] w fun e w' => SzCmdF c left e ∧ Below w.heap.size w w' := by
  have HV := Lib.hid hv
  clear hv
  go_enter Tryz.func53, Tryz.ntmps53
  by_cases g1 : (c.set.size : Int) ≤ left
  case neg =>
    go_wp2
    go_ret
    exact ⟨.inl rfl, (Below.refl _ _).alloc (Nat.le_refl _) _⟩
  by_cases g2 : (c.set.size : Int) + c.name.size ≤ left
  case neg =>
    go_wp2
    go_ret
    exact ⟨.inl rfl, (Below.refl _ _).alloc (Nat.le_refl _) _⟩
  by_cases g3 : (c.set.size : Int) + c.name.size + c.tag.size ≤ left
  case neg =>
    go_wp2
    go_ret
    exact ⟨.inl rfl, (Below.refl _ _).alloc (Nat.le_refl _) _⟩
  go_wp2_with (go_at_call 79; refine (sz_strs v c.ch _ _ (HV.out.alloc _) (by omega) (by omega)).mono ?_; rintro e w' ⟨(rfl | ⟨r, rfl, r0, r1, r2, r3⟩), rfl⟩)
  · go_wp2
    go_ret
    exact ⟨.inl rfl, (Below.refl _ _).alloc (Nat.le_refl _) _⟩
  · have R3 := Lib.hid r3
    clear r3
    go_wp2
    go_ret
    exact ⟨.inr ⟨r, rfl, r0, by omega, ⟨by omega, fun j hj => by have := R3.out j hj; omega⟩, by omega, by omega, by omega⟩, (Below.refl _ _).alloc (Nat.le_refl _) _⟩

def SzInF (x : In) (left : Int) (e : Ending) : Prop := e = .returned (.int .i64 (-1)) ∨ ∃ r : Int, e = .returned (.int .i64 r) ∧ 0 ≤ r ∧ r ≤ left ∧ SmlC x.cmd ∧ x.deps.length ≤ 1048576
set_option maxRecDepth 100000 in
set_option maxHeartbeats 2000000 in
theorem sz_instF (x : In) (u d : Value) (left : Int) (w : World) (h : Pts w x u d) (h0 : 0 ≤ left) (h1 : left ≤ 1048576) :
    Calls Tryz.prog 25 #[.agg #[.int .i64 x.rep, .int .i64 x.slot, .int .i64 x.bal, .int .i64 x.vbal, .int .i64 x.st, .int .i64 x.cmd.kind, .int .i64 x.cmd.client, .int .i64 x.cmd.no, .string x.cmd.set, .string x.cmd.name, .string x.cmd.tag, .int .i64 x.cmd.n, u, .int .i64 x.seq, d, .bool x.same], .int .i64 left] w fun e w' => SzInF x left e ∧ Below w.heap.size w w' := by
  obtain ⟨⟨a1, n1, c1, rfl⟩, a2, n2, c2, rfl⟩ := h.form
  have X := Lib.hid (Bx.new w 55 #[.int .i64 x.rep, .int .i64 x.slot, .int .i64 x.bal, .int .i64 x.vbal, .int .i64 x.st, .int .i64 x.cmd.kind, .int .i64 x.cmd.client, .int .i64 x.cmd.no, .string x.cmd.set, .string x.cmd.name, .string x.cmd.tag, .int .i64 x.cmd.n, .slice a1 n1 c1, .int .i64 x.seq, .slice a2 n2 c2, .bool x.same] _ rfl)
  have P := Lib.hid (h.alloc (.cells #[.int .i64 x.rep, .int .i64 x.slot, .int .i64 x.bal, .int .i64 x.vbal, .int .i64 x.st, .int .i64 x.cmd.kind, .int .i64 x.cmd.client, .int .i64 x.cmd.no, .string x.cmd.set, .string x.cmd.name, .string x.cmd.tag, .int .i64 x.cmd.n, .slice a1 n1 c1, .int .i64 x.seq, .slice a2 n2 c2, .bool x.same] 55))
  have A := Lib.hid ((Af.refl w).alloc (.cells #[.int .i64 x.rep, .int .i64 x.slot, .int .i64 x.bal, .int .i64 x.vbal, .int .i64 x.st, .int .i64 x.cmd.kind, .int .i64 x.cmd.client, .int .i64 x.cmd.no, .string x.cmd.set, .string x.cmd.name, .string x.cmd.tag, .int .i64 x.cmd.n, .slice a1 n1 c1, .int .i64 x.seq, .slice a2 n2 c2, .bool x.same] 55))
  clear h
  go_enter Tryz.func25, Tryz.ntmps25
  go_wp2_with fail
  refine (sz_cmdF x.cmd _ left _ P.out.1 h0 h1 P.out.2.2.1 P.out.2.2.2.1 P.out.2.2.2.2).mono ?_
  rintro e w1 ⟨(rfl | ⟨r, rfl, r0, r1, r2⟩), b1⟩
  · have A1 := Lib.hid (A.out.after b1)
    clear b1
    go_wp2
    go_ret
    exact ⟨.inl rfl, A1.out⟩
  have X1 := Lib.hid (X.out.after b1)
  have P1 := Lib.hid (P.out.later b1)
  have A1 := Lib.hid (A.out.after b1)
  have hd : decide (r < 0) = false := decide_eq_false (by omega)
  clear b1 X P A
  obtain ⟨x0, x1, x2, x3, x4, x5, x6, x7, x8, x9, x10, x11, x12, x13, x14, x15⟩ := X1.out.c16
  go_wp2_with fail
  clear x0 x1 x2 x3 x4 x5 x6 x7 x8 x9 x10 x11 x12 x13 x14 x15
  by_cases hf : (x.deps.length : Int) ≤ r
  · refine (sz_idL_yes _ x.deps r _ P1.out.2.1 hf (by omega)).mono ?_
    rintro e w2 ⟨rfl, b2⟩
    have A2 := Lib.hid (A1.out.after b2)
    obtain ⟨q, hq⟩ : ∃ q : Int, r - (x.deps.length : Int) = q := ⟨_, rfl⟩
    rw [hq]
    have hd2 : decide (q < 0) = false := decide_eq_false (by omega)
    have hq0 : 0 ≤ q := by omega
    have hq1 : q ≤ left := by omega
    have hq2 : x.deps.length ≤ 1048576 := by omega
    have hr2 : SmlC x.cmd := r2
    clear b2 hq hd X1 P1 A1
    go_wp2
    go_ret
    exact ⟨.inr ⟨q, rfl, hq0, hq1, hr2, hq2⟩, A2.out⟩
  · refine (sz_idL_no _ x.deps r _ P1.out.2.1 (by omega) r0 (by omega)).mono ?_
    rintro e w2 ⟨rfl, b2⟩
    have A2 := Lib.hid (A1.out.after b2)
    clear b2 hd X1 P1 A1
    go_wp2
    go_ret
    exact ⟨.inl rfl, A2.out⟩
def SmF (l : List In) : Prop := l.length ≤ 1048576 ∧ ∀ j, j < l.length → SmlX (nth l j)
theorem SmF.sm {l : List In} (h : SmF l) : Sm l := ⟨h.1, fun j hj => ⟨(h.2 j hj).1.1.1, (h.2 j hj).2⟩⟩
def SzInLF (l : List In) (e : Ending) : Prop := e = .returned (.int .i64 (-1)) ∨ ∃ r : Int, e = .returned (.int .i64 r) ∧ 0 ≤ r ∧ r ≤ 1048576 ∧ SmF l
set_option maxRecDepth 100000 in
set_option maxHeartbeats 2000000 in
theorem sz_instsF (v : Value) (l : List In) (w : World) (hv : Insts w v l) :
    Calls Tryz.prog 11 #[v, .int .i64 1048576] w fun e w' => SzInLF l e ∧ Below w.heap.size w w' := by
  obtain ⟨k1, a, ca, rfl, hca, ha⟩ := hv
  obtain ⟨n, hn⟩ : ∃ n, l.length = n := ⟨_, rfl⟩
  rw [hn] at k1 hca ha ⊢
  have HN := Lib.hid hn
  have HA := Lib.hid ha
  clear hn ha hca
  by_cases hbig : 1048576 < n
  · have hni : (1048576 : Int) < (n : Int) := by omega
    have hd : decide ((1048576 : Int) - (n : Int) < 0) = true := by simp; omega
    go_enter Tryz.func11, Tryz.ntmps11
    go_wp2
    go_ret
    exact ⟨.inl rfl, Below.refl _ _⟩
  · have hni : (n : Int) ≤ 1048576 := by omega
    have hd : decide ((1048576 : Int) - (n : Int) < 0) = false := by simp; omega
    go_enter Tryz.func11, Tryz.ntmps11
    go_wp2
    go_loopw [1, 5] (fun r i wr => ∃ (k : Nat) (q : Int), k ≤ n ∧ i = .int .i64 k ∧ r = .int .i64 q ∧ 0 ≤ q ∧ q ≤ 1048576 ∧ (∀ j, j < k → SmlX (nth l j)) ∧ Below w.heap.size w wr) (fun _ i _ => n - (intOf i).toNat)
    case atStart => exact ⟨0, _, by omega, rfl, rfl, by omega, by omega, fun j hj => by omega, Below.refl _ _⟩
    case round =>
      obtain ⟨k, q, hk, rfl, rfl, hq0, hq1, he, hb⟩ := hrel
      have HE := Lib.hid he
      have HB := Lib.hid hb
      clear he hb hd
      by_cases hlt : k < n
      · obtain ⟨y, o, rfl, hy, hcy⟩ := HA.out (by omega)
        obtain ⟨u, d, cc, pp⟩ := hcy k hlt
        obtain ⟨c0, c1, c2, c3, c4, c5, c6, c7, c8, c9, c10, c11, c12, c13, c14, c15⟩ := cc.below HB.out hy
        have P := Lib.hid (pp.later HB.out)
        clear hcy cc pp
        go_wp2_with fail
        clear c0 c1 c2 c3 c4 c5 c6 c7 c8 c9 c10 c11 c12 c13 c14 c15
        refine (sz_instF (nth l k) u d q _ P.out hq0 hq1).mono ?_
        rintro e w2 ⟨(rfl | ⟨r, rfl, r0, r1, r2, r3⟩), hb2⟩
        · have HB2 := Lib.hid (HB.out.trans (hb2.mono HB.out.size))
          clear hb2
          go_wp2
          go_ret
          exact ⟨.inl rfl, HB2.out⟩
        · have HB2 := Lib.hid (HB.out.trans (hb2.mono HB.out.size))
          have hd2 : decide (r < 0) = false := by simp; omega
          have HQ := Lib.hid (show SmlX (nth l k) from ⟨r2, r3⟩)
          have hr1 : r ≤ 1048576 := by omega
          clear hb2 r1 r2 r3
          go_wp2
          go_roundw
          case rel =>
            refine ⟨k + 1, r, by omega, by go_num, rfl, r0, hr1, fun j hj => ?_, HB2.out⟩
            by_cases e : j = k
            · subst e; exact HQ.out
            · exact HE.out j (by omega)
          case measure => simp only [intOf]; omega
      · obtain rfl : k = n := by omega
        go_wp2
        go_ret
        exact ⟨.inr ⟨q, rfl, hq0, hq1, by rw [HN.out]; omega, fun j hj => HE.out j (by rw [HN.out] at hj; exact hj)⟩, HB.out⟩
end Go.Proofs.YtckeeadkhopljaaGreatDoor
