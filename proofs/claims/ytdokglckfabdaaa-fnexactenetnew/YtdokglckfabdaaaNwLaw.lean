/- The law over ENetNew and its model: it returns true. -/
import Derived.Test.YtdokglckfabdaaaNwC
namespace Go.Proofs.Ytdokglckfabdaaa
open Go.RowKit Go.PlainAid
set_option linter.unusedVariables false

set_option maxRecDepth 100000 in
set_option maxHeartbeats 1000000 in
theorem law_netNew (w : World) :
    Calls Try.prog 3 #[] w fun e w' => e = .returned (.bool true) ∧ Below w.heap.size w w' := by
  have A0 := Lib.hid (Af.refl w)
  go_enter Try.func3, Try.ntmps3
  go_wp2_with fail
  refine (spec_netNew _).mono ?_
  rintro e w1 ⟨⟨g1, c1, rfl, q1, n1⟩, bb⟩
  have B1 := Lib.hid (Bx.new w1 25 #[.slice (some ⟨g1, 0, none⟩) 3 c1, .slice none 0 0] _ rfl)
  have N1 := Lib.hid (n1.alloc (.cells #[.slice (some ⟨g1, 0, none⟩) 3 c1, .slice none 0 0] 25))
  have A := Lib.hid ((A0.out.after bb).alloc (.cells #[.slice (some ⟨g1, 0, none⟩) 3 c1, .slice none 0 0] 25))
  have hg1 := n1.lt
  clear bb A0 n1
  go_wp2_with fail
  refine (impl_netNew _).mono ?_
  rintro e w2 ⟨⟨g2, c2, rfl, q2, n2⟩, bb⟩
  have hne : g1 ≠ g2 := by have h := q2; simp at h; omega
  have hw1 : w1.heap.size < g2 := by have h := q2; simp at h; omega
  have hg2 := n2.lt
  have B1 := Lib.hid ((B1.out.after bb).alloc (.cells #[.slice (some ⟨g2, 0, none⟩) 3 c2, .slice none 0 0] 25))
  have N1 := Lib.hid ((N1.out.after bb).alloc (.cells #[.slice (some ⟨g2, 0, none⟩) 3 c2, .slice none 0 0] 25))
  have B2 := Lib.hid (Bx.new w2 25 #[.slice (some ⟨g2, 0, none⟩) 3 c2, .slice none 0 0] _ rfl)
  have N2 := Lib.hid (n2.alloc (.cells #[.slice (some ⟨g2, 0, none⟩) 3 c2, .slice none 0 0] 25))
  have A := Lib.hid ((A.out.after bb).alloc (.cells #[.slice (some ⟨g2, 0, none⟩) 3 c2, .slice none 0 0] 25))
  clear bb n2
  obtain ⟨x0, x1⟩ := cells2n B1.out
  obtain ⟨z0, z1⟩ := cells2n B2.out
  go_wp2_with fail
  clear x0 x1 z0 z1
  refine (eq_net g2 g1 c2 c1 _ _ _ N2.out N1.out).mono ?_
  rintro e w3 ⟨rfl, bb⟩
  have B1 := Lib.hid (B1.out.after bb)
  have N1 := Lib.hid (N1.out.after bb)
  have B2 := Lib.hid (B2.out.after bb)
  have N2 := Lib.hid (N2.out.after bb)
  have A := Lib.hid (A.out.after bb)
  clear bb
  obtain ⟨z0, z1⟩ := cells2n B2.out
  go_wp2_with fail
  clear z0 z1
  refine (mark_net g2 c2 _ _ _ N2.out).mono ?_
  rintro e w4 ⟨rfl, n4, bg⟩
  have B1 := Lib.hid (B1.out.keep bg (fun e => by cases e; omega))
  have N1 := Lib.hid (N1.out.keep bg (fun e => by cases e; omega))
  have B2 := Lib.hid (B2.out.keep bg (fun e => by cases e; omega))
  have N2 := Lib.hid n4
  have A := Lib.hid (A.out.grow bg (fun q hq => by cases hq; omega))
  clear bg n4
  obtain ⟨z0, z1⟩ := cells2n B2.out
  go_wp2_with fail
  clear z0 z1
  refine (held_net g2 c2 _ _ _ N2.out).mono ?_
  rintro e w5 ⟨rfl, bb⟩
  have B1 := Lib.hid (B1.out.after bb)
  have N1 := Lib.hid (N1.out.after bb)
  have B2 := Lib.hid (B2.out.after bb)
  have N2 := Lib.hid (N2.out.after bb)
  have A := Lib.hid (A.out.after bb)
  clear bb
  go_wp2_with fail
  refine (impl_netNew _).mono ?_
  rintro e w6 ⟨⟨g3, c3, rfl, q3, n3⟩, bb⟩
  have B1 := Lib.hid ((B1.out.after bb).alloc (.cells #[.slice (some ⟨g3, 0, none⟩) 3 c3, .slice none 0 0] 25))
  have N1 := Lib.hid ((N1.out.after bb).alloc (.cells #[.slice (some ⟨g3, 0, none⟩) 3 c3, .slice none 0 0] 25))
  have B2 := Lib.hid ((B2.out.after bb).alloc (.cells #[.slice (some ⟨g3, 0, none⟩) 3 c3, .slice none 0 0] 25))
  have N2 := Lib.hid ((N2.out.after bb).alloc (.cells #[.slice (some ⟨g3, 0, none⟩) 3 c3, .slice none 0 0] 25))
  have B3 := Lib.hid (Bx.new w6 25 #[.slice (some ⟨g3, 0, none⟩) 3 c3, .slice none 0 0] _ rfl)
  have N3 := Lib.hid (n3.alloc (.cells #[.slice (some ⟨g3, 0, none⟩) 3 c3, .slice none 0 0] 25))
  have A := Lib.hid ((A.out.after bb).alloc (.cells #[.slice (some ⟨g3, 0, none⟩) 3 c3, .slice none 0 0] 25))
  clear bb n3 q3
  obtain ⟨x0, x1⟩ := cells2n B1.out
  obtain ⟨z0, z1⟩ := cells2n B3.out
  go_wp2_with fail
  clear x0 x1 z0 z1
  refine (eq_net g3 g1 c3 c1 _ _ _ N3.out N1.out).mono ?_
  rintro e w7 ⟨rfl, bb⟩
  have B2 := Lib.hid (B2.out.after bb)
  have N2 := Lib.hid (N2.out.after bb)
  have A := Lib.hid (A.out.after bb)
  clear bb
  obtain ⟨z0, z1⟩ := cells2n B2.out
  go_wp2_with fail
  clear z0 z1
  refine (held_net g2 c2 _ _ _ N2.out).mono ?_
  rintro e w8 ⟨rfl, bb⟩
  have A := Lib.hid (A.out.after bb)
  clear bb
  go_wp2
  go_ret
  exact ⟨rfl, A.out⟩
end Go.Proofs.Ytdokglckfabdaaa
