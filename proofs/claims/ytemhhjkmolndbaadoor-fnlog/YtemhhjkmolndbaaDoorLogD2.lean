/- What FnLog draws at its end: some log that can be read, and some number. -/
import Derived.Test.YtemhhjkmolndbaaDoorLogD
import Derived.Test.YtemhhjkmolndbaaDoorRowArg
namespace Go.Proofs.YtemhhjkmolndbaaDoor
open Go.RowKit Go.PlainAid
set_option linter.unusedVariables false

set_option maxRecDepth 100000 in
set_option maxHeartbeats 2000000 in
theorem draw_logMark (xs : List Int) (w : World) (v : Value) (hC : Code w v xs) :
    Calls Tryd.prog 21 #[v] w fun e w' => (∃ a k cap n m x, e = .returned (.tuple #[.agg #[.slice a k cap, .int .i64 n, .int .i64 m], .int .i64 x]) ∧ ∃ l, Segs w' (.slice a k cap) l ∧ ∀ j, j < l.length → (sT l j).size ≤ 1048576) ∧ Below w.heap.size w w' := by
  have Z0 := Lib.hid (Bx.new w 26 #[.slice none 0 0, .int .i64 0, .int .i64 0] _ rfl)
  have A0 := Lib.hid ((Af.refl w).alloc (.cells #[.slice none 0 0, .int .i64 0, .int .i64 0] 26))
  have HC := Lib.hid (hC.below ((Below.refl _ _).alloc (Nat.le_refl _) (.cells #[.slice none 0 0, .int .i64 0, .int .i64 0] 26)))
  clear hC
  go_enter Tryd.func21, Tryd.ntmps21
  go_wp2_with fail
  refine (new_at xs _ v HC.out).mono ?_
  rintro e w1 ⟨rfl, hat, hg⟩
  have D1 := Lib.hid (dr_new hat)
  have Z1 := Lib.hid (Z0.out.keep hg (by simp))
  have A1 := Lib.hid (A0.out.grow hg (fun k hk => by cases hk))
  clear hat hg Z0 A0 HC
  simp only [World.size_alloc] at D1 ⊢
  go_wp2_with fail
  refine (l6_some w1.heap.size (w.heap.size + 1) _ D1.out (Nat.le_refl _)).mono ?_
  rintro e w2 ⟨⟨a, k, cap, n, m, rfl, m0, m1, l, hs, ht⟩, hd, hg⟩
  have hsz := A1.out.size
  have hz1 := D1.out.1
  have D2 := Lib.hid (hd.keep (((Below.refl w2.heap.size w2).alloc (Nat.le_refl _) (.cells #[.slice a k cap, .int .i64 n, .int .i64 m] 26)).mono hg.size))
  have Z2 := Lib.hid ((Z1.out.keep hg (by simp)).alloc (.cells #[.slice a k cap, .int .i64 n, .int .i64 m] 26))
  have A2 := Lib.hid ((A1.out.grow hg (fun k hk => by cases hk; omega)).alloc (.cells #[.slice a k cap, .int .i64 n, .int .i64 m] 26))
  have S2 := Lib.hid (hs.alloc (.cells #[.slice a k cap, .int .i64 n, .int .i64 m] 26))
  have X2 := Lib.hid (Bx.new w2 26 #[.slice a k cap, .int .i64 n, .int .i64 m] _ rfl)
  have HT := Lib.hid ht
  have hsz2 := hg.size
  clear hs ht hd hg D1 Z1 A1
  have D2d := Lib.hid (show Dr w1.heap.size (w2.alloc (.cells #[.slice a k cap, .int .i64 n, .int .i64 m] 26)).drew (w.heap.size + 1) from D2.out.keep (Below.refl _ _).drew)
  obtain ⟨u0, u1, u2⟩ := X2.out.cells3
  go_wp2_with fail
  go_region_held3 (fun w' => w'.cell? ⟨w2.heap.size, 0, none⟩ = some (.slice a k cap) ∧ w'.cell? ⟨w2.heap.size, 1, none⟩ = some (.int .i64 n) ∧ w'.cell? ⟨w2.heap.size, 2, none⟩ = some (.int .i64 m)) (first | (with_reducible exact ⟨u0, u1, u2⟩) | (with_reducible exact CY.out) | (with_reducible exact CW.out _ _ _) | go_keep)
    (first
      | (go_at_call 52; refine (dr_below _ _ 8 _ D2d.out (by decide) (by decide)).mono ?_; rintro e w4 ⟨⟨z, rfl, z0, z1⟩, hd, hg⟩; have X4 := Lib.hid (X2.out.drew.keep hg (by simp; omega)); have CY := Lib.hid X4.out.cells3; have CW := Lib.hid (fun y0 y1 y2 => (X4.out.st3o (q := w.heap.size) (by omega) y0 y1 y2).cells3); have Z4 := Lib.hid (Z2.out.drew.keep hg (by simp)); have A4 := Lib.hid (A2.out.drew.grow hg (fun k hk => by cases hk; omega)); have S4 := Lib.hid ((S2.out.later (Below.refl _ _).drew).kept hg (fun k hk => by cases hk; exact hz1)); obtain ⟨y0, y1, y2⟩ := Z4.out.cells3; obtain ⟨f0, f1, f2⟩ := Z4.out.frozen3; clear hd hg))
  all_goals
    go_wp2
    exact bodyPost_ret (results_log2 Tryd.results21 _ _ w.heap.size _ _ _ rfl (Z4.out.st3 _ _ _).cells3) rfl ⟨⟨a, k, cap, n, m, _, rfl, l, (S4.out.st3 (by omega) _ _ _).segs (fun j hj => by have := HT.out j hj; omega), HT.out⟩, A4.out.st3 (Nat.le_refl _) _ _ _⟩
end Go.Proofs.YtemhhjkmolndbaaDoor
