/- ENetNew, its model: the walks. -/
import Derived.Test.YtdokglckfabdaaaNwE
namespace Go.Proofs.Ytdokglckfabdaaa
open Go.RowKit Go.PlainAid
set_option linter.unusedVariables false

def nzL (k : Nat) : List Nz := (List.range k).map fun j : Nat => (⟨(j : Int), 1⟩ : Nz)
theorem nzL_succ (k : Nat) : nzL (k + 1) = nzL k ++ [⟨(k : Int), 1⟩] := by unfold nzL; rw [List.range_succ, List.map_append]; rfl
theorem nzL_len (k : Nat) : (nzL k).length = k := by simp [nzL]
theorem newN_k (k : Nat) (h : k < 3) : newN (k : Int) = ((k : Int), 1, true) := newN_yes _ (iv_t (by omega) (by omega))
theorem results_net {fn : Func} {p : Tmp} (h : fn.results = #[.cell p 25]) (tmps : Array Value) (w : World) (g : Nat) (cs : Array Value) (hs : 2 = cs.size)
    (hp : tmps.getD p undef = .pointer (some ⟨g, 0, none⟩)) (hc : Bx w g 25 cs) : (results fn tmps).run Try.prog w = .ok (.agg cs) w :=
  results_cell_row h tmps w g 25 cs (0, 0) _ hp hc Try.underlying25 rfl (by rw [← hs]; kernel_rfl)
theorem nzRow_three {w : World} {base : Nat} {v : Value} (h : NzRow w base v (nzL 3)) : ∃ g cap, v = .slice (some ⟨g, 0, none⟩) 3 cap ∧ base ≤ g ∧ 3 ≤ cap ∧ N3 w g (fun j => (j : Int)) (fun _ => 1) := by
  obtain ⟨g, cap, h1, h2, h3, h4⟩ := NzRow.three (a := ⟨0, 1⟩) (b := ⟨1, 1⟩) (c := ⟨2, 1⟩) h
  refine ⟨g, cap, h1, h2, h3, h4.congr (fun j hj => ?_) (fun j hj => ?_)⟩
  · rcases j with _ | _ | _ | j
    · rfl
    · rfl
    · rfl
    · omega
  · rcases j with _ | _ | _ | j
    · rfl
    · rfl
    · rfl
    · omega
set_option maxRecDepth 100000 in
set_option maxHeartbeats 2000000 in
theorem impl_netNew (w : World) :
    Calls Try.prog 5 #[] w fun e w' => (∃ g c, e = .returned (.agg #[.slice (some ⟨g, 0, none⟩) 3 c, .slice none 0 0]) ∧ w.heap.size ≤ g ∧ N3 w' g (fun j => (j : Int)) (fun _ => 1)) ∧ Below w.heap.size w w' := by
  have R0 := Lib.hid ((Bx.new w 25 #[.slice none 0 0, .slice none 0 0] _ rfl).alloc (.cells #[.slice none 0 0, .slice none 0 0] 25))
  have X0 := Lib.hid (Bx.new (w.alloc (.cells #[.slice none 0 0, .slice none 0 0] 25)) 25 #[.slice none 0 0, .slice none 0 0] (w.heap.size + 1) (by simp))
  have A0 := Lib.hid (((Af.refl w).alloc (.cells #[.slice none 0 0, .slice none 0 0] 25)).alloc (.cells #[.slice none 0 0, .slice none 0 0] 25))
  go_enter Try.func5, Try.ntmps5
  go_wp2
  go_loopw [5] (fun i wr => ∃ (k : Nat) (a : Option Addr) (c : Nat), k ≤ 3 ∧ i = .int .i64 k ∧ NzRow wr (w.heap.size + 2) (.slice a k c) (nzL k) ∧ Bx wr w.heap.size 25 #[.slice none 0 0, .slice none 0 0] ∧ Bx wr (w.heap.size + 1) 25 #[.slice a k c, .slice none 0 0] ∧ Af w wr) (fun i _ => 3 - (intOf i).toNat)
  case atStart => exact ⟨0, none, 0, by omega, rfl, nzRow_nil _ _, R0.out, X0.out, A0.out⟩
  case round =>
    clear R0 X0 A0
    obtain ⟨k, a, c, hk, rfl, hr, hr0, hx, haf⟩ := hrel
    have R := Lib.hid hr
    have R0 := Lib.hid hr0
    have X := Lib.hid hx
    have A := Lib.hid haf
    have hsz : w.heap.size + 2 ≤ wr.heap.size := by have := hx.lt; omega
    clear hr hr0 hx haf
    by_cases hlt : k < 3
    · have y1 : (k : Int) < 3 := by omega
      have y0 : (0 : Int) ≤ (k : Int) := by omega
      go_wp2_with fail
      refine (impl_new (k : Int) _).mono ?_
      rw [newN_k k hlt]
      rintro e w1 ⟨rfl, bb⟩
      have R1 := Lib.hid ((R.out.later bb).alloc (.cells #[.int .i64 (k : Int), .int .i64 1, .slice none 0 0, .slice none 0 0] 33))
      have R01 := Lib.hid ((R0.out.after bb).alloc (.cells #[.int .i64 (k : Int), .int .i64 1, .slice none 0 0, .slice none 0 0] 33))
      have X1 := Lib.hid ((X.out.after bb).alloc (.cells #[.int .i64 (k : Int), .int .i64 1, .slice none 0 0, .slice none 0 0] 33))
      have A1 := Lib.hid ((A.out.after bb).alloc (.cells #[.int .i64 (k : Int), .int .i64 1, .slice none 0 0, .slice none 0 0] 33))
      have Y1 := Lib.hid (Bx.new w1 33 #[.int .i64 (k : Int), .int .i64 1, .slice none 0 0, .slice none 0 0] _ rfl)
      have hsz1 : w.heap.size + 2 ≤ w1.heap.size := by have := bb.size; omega
      clear bb R R0 X A
      obtain ⟨x0, x1⟩ := cells2n X1.out
      obtain ⟨z0, z1, z2, z3⟩ := cells4n Y1.out
      have fx := X1.out.frozen 0
      go_wp2_with (at_builtin; refine wp_append_nz rfl (.tmp 14) (.tmp 16) rfl (w.heap.size + 2) (.slice a k c) (nzL k) ⟨(k : Int), 1⟩ rfl (R1.out.alloc _) (w1.heap.size + 1) 1 (by first | rfl | simp) (Bx.new _ _ _ (w1.heap.size + 1) (by simp)) (by rw [nzL_len]; omega) (by simp; omega) ?_; intro v6 w6 hr6 hg6; have Q6 := Lib.hid (nzL_succ k ▸ hr6); have X6 := Lib.hid ((X1.out.alloc (.cells #[.int .i64 (k : Int), .int .i64 1, .slice none 0 0, .slice none 0 0] 33)).keep hg6 (fun e => by have := (R1.out.lt _ e.symm).1; omega)); have R06 := Lib.hid ((R01.out.alloc (.cells #[.int .i64 (k : Int), .int .i64 1, .slice none 0 0, .slice none 0 0] 33)).keep hg6 (fun e => by have := (R1.out.lt _ e.symm).1; omega)); have A6 := Lib.hid ((A1.out.alloc (.cells #[.int .i64 (k : Int), .int .i64 1, .slice none 0 0, .slice none 0 0] 33)).grow hg6 (fun q hq => by have := (R1.out.lt _ hq).1; omega)); obtain ⟨a6, c6, hv6⟩ : ∃ aa cc, v6 = .slice aa (k + 1) cc := (by obtain ⟨aa, cc, ee⟩ := hr6.form; exact ⟨aa, cc, by rw [ee, List.length_append, nzL_len]; rfl⟩); subst hv6; obtain ⟨u0, u1⟩ := cells2n X6.out; have fu := X6.out.frozen 0; clear hr6 hg6)
      go_roundw
      case rel =>
        refine ⟨k + 1, a6, c6, by omega, by go_num, ?_, R06.out.set_other ⟨w.heap.size + 1, 0, none⟩ _ (by simp), X6.out.set 0 (.slice a6 (k + 1) c6), A6.out.set (p := ⟨w.heap.size + 1, 0, none⟩) (by simp <;> omega) _⟩
        exact Q6.out.kept (grownBy_put _ (w.heap.size + 1) 0 _) (fun q hq e => by cases hq; have := (Q6.out.lt _ e).1; omega)
      case measure => simp only [intOf]; omega
    · obtain rfl : k = 3 := by omega
      clear hlt
      obtain ⟨g, cap, hv, q1, q2, q3⟩ := nzRow_three R.out
      cases hv
      obtain ⟨x0, x1⟩ := cells2n X.out
      obtain ⟨z0, z1⟩ := cells2n R0.out
      have f0 := R0.out.frozen 0
      have f1 := R0.out.frozen 1
      have N := Lib.hid q3
      clear q3
      go_wp2
      have F := Lib.hid (show Bx ((wr.setCell ⟨w.heap.size, 0, none⟩ (.slice (some ⟨g, 0, none⟩) 3 c)).setCell ⟨w.heap.size, 1, none⟩ (.slice none 0 0)) w.heap.size 25 #[.slice (some ⟨g, 0, none⟩) 3 c, .slice none 0 0] from (R0.out.set 0 (.slice (some ⟨g, 0, none⟩) 3 c)).set 1 (.slice none 0 0))
      have NF := Lib.hid ((N.out.keep (grownBy_put wr w.heap.size 0 (.slice (some ⟨g, 0, none⟩) 3 c)) (fun e => by cases e; omega)).keep (grownBy_put _ w.heap.size 1 (.slice none 0 0)) (fun e => by cases e; omega))
      have AF := Lib.hid ((A.out.set (p := ⟨w.heap.size, 0, none⟩) (by simp) (.slice (some ⟨g, 0, none⟩) 3 c)).set (p := ⟨w.heap.size, 1, none⟩) (by simp) (.slice none 0 0))
      clear x0 x1 z0 z1 f0 f1
      exact bodyPost_ret (results_net Try.results5 _ _ w.heap.size _ rfl rfl F.out) rfl ⟨⟨g, c, rfl, by omega, NF.out⟩, AF.out⟩
set_option maxRecDepth 100000 in
set_option maxHeartbeats 2000000 in
theorem spec_netNew (w : World) :
    Calls Try.prog 4 #[] w fun e w' => (∃ g c, e = .returned (.agg #[.slice (some ⟨g, 0, none⟩) 3 c, .slice none 0 0]) ∧ w.heap.size ≤ g ∧ N3 w' g (fun j => (j : Int)) (fun _ => 1)) ∧ Below w.heap.size w w' := by
  have R0 := Lib.hid ((Bx.new w 25 #[.slice none 0 0, .slice none 0 0] _ rfl).alloc (.cells #[.slice none 0 0, .slice none 0 0] 25))
  have X0 := Lib.hid (Bx.new (w.alloc (.cells #[.slice none 0 0, .slice none 0 0] 25)) 25 #[.slice none 0 0, .slice none 0 0] (w.heap.size + 1) (by simp))
  have A0 := Lib.hid (((Af.refl w).alloc (.cells #[.slice none 0 0, .slice none 0 0] 25)).alloc (.cells #[.slice none 0 0, .slice none 0 0] 25))
  go_enter Try.func4, Try.ntmps4
  go_wp2
  go_loopw [2] (fun i wr => ∃ (k : Nat) (a : Option Addr) (c : Nat), k ≤ 3 ∧ i = .int .i64 k ∧ NzRow wr (w.heap.size + 2) (.slice a k c) (nzL k) ∧ Bx wr w.heap.size 25 #[.slice none 0 0, .slice none 0 0] ∧ Bx wr (w.heap.size + 1) 25 #[.slice a k c, .slice none 0 0] ∧ Af w wr) (fun i _ => 3 - (intOf i).toNat)
  case atStart => exact ⟨0, none, 0, by omega, rfl, nzRow_nil _ _, R0.out, X0.out, A0.out⟩
  case round =>
    clear R0 X0 A0
    obtain ⟨k, a, c, hk, rfl, hr, hr0, hx, haf⟩ := hrel
    have R := Lib.hid hr
    have R0 := Lib.hid hr0
    have X := Lib.hid hx
    have A := Lib.hid haf
    have hsz : w.heap.size + 2 ≤ wr.heap.size := by have := hx.lt; omega
    clear hr hr0 hx haf
    by_cases hlt : k < 3
    · have y1 : (k : Int) < 3 := by omega
      have y0 : (0 : Int) ≤ (k : Int) := by omega
      go_wp2_with fail
      refine (spec_new (k : Int) _).mono ?_
      rw [newN_k k hlt]
      rintro e w1 ⟨rfl, bb⟩
      have R1 := Lib.hid ((R.out.later bb).alloc (.cells #[.int .i64 (k : Int), .int .i64 1, .slice none 0 0, .slice none 0 0] 33))
      have R01 := Lib.hid ((R0.out.after bb).alloc (.cells #[.int .i64 (k : Int), .int .i64 1, .slice none 0 0, .slice none 0 0] 33))
      have X1 := Lib.hid ((X.out.after bb).alloc (.cells #[.int .i64 (k : Int), .int .i64 1, .slice none 0 0, .slice none 0 0] 33))
      have A1 := Lib.hid ((A.out.after bb).alloc (.cells #[.int .i64 (k : Int), .int .i64 1, .slice none 0 0, .slice none 0 0] 33))
      have Y1 := Lib.hid (Bx.new w1 33 #[.int .i64 (k : Int), .int .i64 1, .slice none 0 0, .slice none 0 0] _ rfl)
      have hsz1 : w.heap.size + 2 ≤ w1.heap.size := by have := bb.size; omega
      clear bb R R0 X A
      obtain ⟨x0, x1⟩ := cells2n X1.out
      obtain ⟨z0, z1, z2, z3⟩ := cells4n Y1.out
      have fx := X1.out.frozen 0
      go_wp2_with (at_builtin; refine wp_append_nz rfl (.tmp 16) (.tmp 18) rfl (w.heap.size + 2) (.slice a k c) (nzL k) ⟨(k : Int), 1⟩ rfl (R1.out.alloc _) (w1.heap.size + 1) 1 (by first | rfl | simp) (Bx.new _ _ _ (w1.heap.size + 1) (by simp)) (by rw [nzL_len]; omega) (by simp; omega) ?_; intro v6 w6 hr6 hg6; have Q6 := Lib.hid (nzL_succ k ▸ hr6); have X6 := Lib.hid ((X1.out.alloc (.cells #[.int .i64 (k : Int), .int .i64 1, .slice none 0 0, .slice none 0 0] 33)).keep hg6 (fun e => by have := (R1.out.lt _ e.symm).1; omega)); have R06 := Lib.hid ((R01.out.alloc (.cells #[.int .i64 (k : Int), .int .i64 1, .slice none 0 0, .slice none 0 0] 33)).keep hg6 (fun e => by have := (R1.out.lt _ e.symm).1; omega)); have A6 := Lib.hid ((A1.out.alloc (.cells #[.int .i64 (k : Int), .int .i64 1, .slice none 0 0, .slice none 0 0] 33)).grow hg6 (fun q hq => by have := (R1.out.lt _ hq).1; omega)); obtain ⟨a6, c6, hv6⟩ : ∃ aa cc, v6 = .slice aa (k + 1) cc := (by obtain ⟨aa, cc, ee⟩ := hr6.form; exact ⟨aa, cc, by rw [ee, List.length_append, nzL_len]; rfl⟩); subst hv6; obtain ⟨u0, u1⟩ := cells2n X6.out; have fu := X6.out.frozen 0; clear hr6 hg6)
      go_roundw
      case rel =>
        refine ⟨k + 1, a6, c6, by omega, by go_num, ?_, R06.out.set_other ⟨w.heap.size + 1, 0, none⟩ _ (by simp), X6.out.set 0 (.slice a6 (k + 1) c6), A6.out.set (p := ⟨w.heap.size + 1, 0, none⟩) (by simp <;> omega) _⟩
        exact Q6.out.kept (grownBy_put _ (w.heap.size + 1) 0 _) (fun q hq e => by cases hq; have := (Q6.out.lt _ e).1; omega)
      case measure => simp only [intOf]; omega
    · obtain rfl : k = 3 := by omega
      clear hlt
      obtain ⟨g, cap, hv, q1, q2, q3⟩ := nzRow_three R.out
      cases hv
      obtain ⟨x0, x1⟩ := cells2n X.out
      obtain ⟨z0, z1⟩ := cells2n R0.out
      have f0 := R0.out.frozen 0
      have f1 := R0.out.frozen 1
      have N := Lib.hid q3
      clear q3
      go_wp2
      have F := Lib.hid (show Bx ((wr.setCell ⟨w.heap.size, 0, none⟩ (.slice (some ⟨g, 0, none⟩) 3 c)).setCell ⟨w.heap.size, 1, none⟩ (.slice none 0 0)) w.heap.size 25 #[.slice (some ⟨g, 0, none⟩) 3 c, .slice none 0 0] from (R0.out.set 0 (.slice (some ⟨g, 0, none⟩) 3 c)).set 1 (.slice none 0 0))
      have NF := Lib.hid ((N.out.keep (grownBy_put wr w.heap.size 0 (.slice (some ⟨g, 0, none⟩) 3 c)) (fun e => by cases e; omega)).keep (grownBy_put _ w.heap.size 1 (.slice none 0 0)) (fun e => by cases e; omega))
      have AF := Lib.hid ((A.out.set (p := ⟨w.heap.size, 0, none⟩) (by simp) (.slice (some ⟨g, 0, none⟩) 3 c)).set (p := ⟨w.heap.size, 1, none⟩) (by simp) (.slice none 0 0))
      clear x0 x1 z0 z1 f0 f1
      exact bodyPost_ret (results_net Try.results4 _ _ w.heap.size _ rfl rfl F.out) rfl ⟨⟨g, c, rfl, by omega, NF.out⟩, AF.out⟩
end Go.Proofs.Ytdokglckfabdaaa
