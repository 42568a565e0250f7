/- The law over ENodeNew and its model: it returns true. -/
import Derived.Test.YthihihphbcaieaaNn
namespace Go.Proofs.Ythihihphbcaieaa
open Go.RowKit Go.PlainAid
set_option linter.unusedVariables false

set_option maxRecDepth 100000 in
set_option maxHeartbeats 1000000 in
theorem law_new (me : Int) (w : World) :
    Calls Try.prog 6 #[.int .i64 me] w fun e w' => e = .returned (.bool true) ∧ Below w.heap.size w w' := by
  obtain ⟨m, n, b, hr⟩ : ∃ m n b, newN me = (m, n, b) := ⟨_, _, _, rfl⟩
  have CI := Lib.hid (fun W => (by have := impl_new me W; rw [hr] at this; exact this : Calls Try.prog 27 #[.int .i64 me] W fun e w' => e = .returned (.tuple #[.agg #[.int .i64 m, .int .i64 n, .slice none 0 0, .slice none 0 0], .bool b]) ∧ Below W.heap.size W w'))
  have CS := Lib.hid (fun W => (by have := spec_new me W; rw [hr] at this; exact this : Calls Try.prog 26 #[.int .i64 me] W fun e w' => e = .returned (.tuple #[.agg #[.int .i64 m, .int .i64 n, .slice none 0 0, .slice none 0 0], .bool b]) ∧ Below W.heap.size W w'))
  clear hr
  have A0 := Lib.hid (Af.refl w)
  go_enter Try.func6, Try.ntmps6
  go_wp2_with fail
  refine (CS.out _).mono ?_
  rintro e w1 ⟨rfl, bb⟩
  have WB := Lib.hid (Bx.new w1 53 #[.int .i64 m, .int .i64 n, .slice none 0 0, .slice none 0 0] _ rfl)
  have AF := Lib.hid ((A0.out.after bb).alloc (.cells #[.int .i64 m, .int .i64 n, .slice none 0 0, .slice none 0 0] 53))
  clear bb A0
  go_wp2_with fail
  refine (CI.out _).mono ?_
  rintro e w2 ⟨rfl, bb⟩
  have GB := Lib.hid (Bx.new w2 53 #[.int .i64 m, .int .i64 n, .slice none 0 0, .slice none 0 0] _ rfl)
  have WB := Lib.hid ((WB.out.after bb).alloc (.cells #[.int .i64 m, .int .i64 n, .slice none 0 0, .slice none 0 0] 53))
  have AF := Lib.hid ((AF.out.after bb).alloc (.cells #[.int .i64 m, .int .i64 n, .slice none 0 0, .slice none 0 0] 53))
  clear bb
  obtain ⟨x0, x1, x2, x3⟩ := cells4n WB.out
  obtain ⟨y0, y1, y2, y3⟩ := cells4n GB.out
  go_wp2_with fail
  clear x0 x1 x2 x3 y0 y1 y2 y3
  refine (eq_node_nil m n _).mono ?_
  rintro e w3 ⟨rfl, bb⟩
  have GB := Lib.hid (GB.out.after bb)
  have WB := Lib.hid (WB.out.after bb)
  have AF := Lib.hid (AF.out.after bb)
  clear bb
  have hbb : (b == b) = true := by simp
  have hbn : (b != b) = false := by simp
  obtain ⟨y0, y1, y2, y3⟩ := cells4n GB.out
  go_wp2_with fail
  clear y0 y1 y2 y3
  refine (mark_node_nil m n 1 _).mono ?_
  rintro e w4 ⟨rfl, bb⟩
  have GB := Lib.hid (GB.out.after bb)
  have WB := Lib.hid (WB.out.after bb)
  have AF := Lib.hid (AF.out.after bb)
  clear bb
  obtain ⟨y0, y1, y2, y3⟩ := cells4n GB.out
  go_wp2_with fail
  clear y0 y1 y2 y3
  refine (held_node_nil m n 1 _ (by decide)).mono ?_
  rintro e w5 ⟨rfl, bb⟩
  have GB := Lib.hid (GB.out.after bb)
  have WB := Lib.hid (WB.out.after bb)
  have AF := Lib.hid (AF.out.after bb)
  clear bb
  go_wp2_with fail
  refine (CI.out _).mono ?_
  rintro e w6 ⟨rfl, bb⟩
  have HB := Lib.hid (Bx.new w6 53 #[.int .i64 m, .int .i64 n, .slice none 0 0, .slice none 0 0] _ rfl)
  have GB := Lib.hid ((GB.out.after bb).alloc (.cells #[.int .i64 m, .int .i64 n, .slice none 0 0, .slice none 0 0] 53))
  have WB := Lib.hid ((WB.out.after bb).alloc (.cells #[.int .i64 m, .int .i64 n, .slice none 0 0, .slice none 0 0] 53))
  have AF := Lib.hid ((AF.out.after bb).alloc (.cells #[.int .i64 m, .int .i64 n, .slice none 0 0, .slice none 0 0] 53))
  clear bb
  obtain ⟨x0, x1, x2, x3⟩ := cells4n WB.out
  obtain ⟨y0, y1, y2, y3⟩ := cells4n HB.out
  go_wp2_with fail
  clear x0 x1 x2 x3 y0 y1 y2 y3
  refine (eq_node_nil m n _).mono ?_
  rintro e w7 ⟨rfl, bb⟩
  have GB := Lib.hid (GB.out.after bb)
  have AF := Lib.hid (AF.out.after bb)
  clear bb
  obtain ⟨y0, y1, y2, y3⟩ := cells4n GB.out
  go_wp2_with fail
  clear y0 y1 y2 y3
  refine (held_node_nil m n 1 _ (by decide)).mono ?_
  rintro e w8 ⟨rfl, bb⟩
  have AF := Lib.hid (AF.out.after bb)
  clear bb
  go_wp2
  go_ret
  exact ⟨rfl, AF.out⟩
end Go.Proofs.Ythihihphbcaieaa
