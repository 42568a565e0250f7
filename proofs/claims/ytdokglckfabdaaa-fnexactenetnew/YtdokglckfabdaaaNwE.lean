/- Networks without messages, of nodes without instances and Leads: the laws' comparison and marks. -/
import Derived.Test.YtdokglckfabdaaaNwM
import Derived.Test.YtdokglckfabdaaaIdL
namespace Go.Proofs.Ytdokglckfabdaaa
open Go.RowKit Go.PlainAid
set_option linter.unusedVariables false

theorem l_eq_node_nil (m n : Int) (w0 w : World) (h : LatI w0 w) : Calls Try.prog 19 #[.agg #[.int .i64 m, .int .i64 n, .slice none 0 0, .slice none 0 0], .agg #[.int .i64 m, .int .i64 n, .slice none 0 0, .slice none 0 0]] w fun e w' => e = .returned (.bool true) ∧ LatI w0 w' :=
  (eq_node_nil m n w).mono fun _ w' hh => ⟨hh.1, h.trans hh.2⟩
set_option maxRecDepth 100000 in
set_option maxHeartbeats 1000000 in
theorem eq_n3 (g g' c c' : Nat) (m n : Nat → Int) (w : World) (h : N3 w g m n) (h' : N3 w g' m n) :
    Calls Try.prog 11 #[.slice (some ⟨g, 0, none⟩) 3 c, .slice (some ⟨g', 0, none⟩) 3 c'] w fun e w' => e = .returned (.bool true) ∧ Below w.heap.size w w' := by
  have H := Lib.hid h
  have H' := Lib.hid h'
  clear h h'
  go_enter Try.func11, Try.ntmps11
  go_wp2
  go_loopw [5] (fun i wr => ∃ k : Nat, k ≤ 3 ∧ i = .int .i64 k ∧ Below w.heap.size w wr) (fun i _ => 3 - (intOf i).toNat)
  case atStart => exact ⟨0, by omega, rfl, Below.refl _ _⟩
  case round =>
    obtain ⟨k, hk, rfl, hb⟩ := hrel
    have HB := Lib.hid hb
    clear hb
    by_cases hlt : k < 3
    · have HL := Lib.hid (fun W (h : LatI wr W) => And.intro ((H.out.after (HB.out.trans (Below.mono h HB.out.size))).cells k hlt).1 ((H'.out.after (HB.out.trans (Below.mono h HB.out.size))).cells k hlt).1)
      have HC := Lib.hid (fun W (h : LatI wr W) => l_eq_node_nil (m k) (n k) wr W h)
      have y1 : (k : Int) < 3 := by omega
      have y0 : (0 : Int) ≤ (k : Int) := by omega
      go_wp2_with fail
      refine wp_region_quiet (C := LatI wr) (by kernel_rfl) (by kernel_rfl) (show LatI wr wr.drew from Below.drew (Below.refl _ _)) ?_
      dsimp only
      repeat (first | go_big_quiet_skip | (go_big_quiet_want; go_big_quiet_op; (first | go_big_quiet_on | (refine ⟨_, fun _ _ => rfl, ?_⟩; go_big_quiet_on) | (refine ⟨.agg #[.int .i64 (m k), .int .i64 (n k), .slice none 0 0, .slice none 0 0], ?_, ?_⟩; intro w' hw'; obtain ⟨⟨e0, e1, e2, e3⟩, i0, i1, i2, i3⟩ := HL.out w' hw'; simp [e0, e1, e2, e3, i0, i1, i2, i3, Result.andThen]; go_big_quiet_on) | (refine ⟨_, fun w' hw' => HC.out w' hw', ?_⟩; go_big_quiet_on))))
      refine wpQuiet_nil ?_
      intro w2 L2
      have HB2 := Lib.hid (HB.out.trans (Below.mono L2 HB.out.size))
      clear L2 HL
      go_wp2
      go_roundw
      case rel => exact ⟨k + 1, by omega, by go_num, HB2.out⟩
      case measure => simp only [intOf]; omega
    · obtain rfl : k = 3 := by omega
      go_wp2
      go_ret
      exact ⟨rfl, HB.out⟩
/-- The marks of the first j nodes. -/
def mkM (s : Int) (m : Nat → Int) (j i : Nat) : Int := if i < j then s + 2 * i else m i
def mkN (s : Int) (n : Nat → Int) (j i : Nat) : Int := if i < j then s + 2 * i + 1 else n i
theorem mkM_step (s : Int) (m : Nat → Int) (j i : Nat) : (if i = j then s + 2 * (j : Int) else mkM s m j i) = mkM s m (j + 1) i := by
  unfold mkM
  by_cases e : i = j
  · subst e; rw [if_pos rfl, if_pos (by omega)]
  · by_cases e2 : i < j
    · rw [if_neg e, if_pos e2, if_pos (by omega)]
    · rw [if_neg e, if_neg e2, if_neg (by omega)]
theorem mkN_step (s : Int) (n : Nat → Int) (j i : Nat) : (if i = j then s + 2 * (j : Int) + 1 else mkN s n j i) = mkN s n (j + 1) i := by
  unfold mkN
  by_cases e : i = j
  · subst e; rw [if_pos rfl, if_pos (by omega)]
  · by_cases e2 : i < j
    · rw [if_neg e, if_pos e2, if_pos (by omega)]
    · rw [if_neg e, if_neg e2, if_neg (by omega)]
theorem mkM_zero (s : Int) (m : Nat → Int) (i : Nat) : m i = mkM s m 0 i := by unfold mkM; rw [if_neg (by omega)]
theorem mkN_zero (s : Int) (n : Nat → Int) (i : Nat) : n i = mkN s n 0 i := by unfold mkN; rw [if_neg (by omega)]
set_option maxRecDepth 100000 in
set_option maxHeartbeats 1000000 in
theorem mark_n3 (g c : Nat) (m n : Nat → Int) (s : Int) (w : World) (h : N3 w g m n) (hs0 : 0 ≤ s) (hs : s ≤ 1099511627776) :
    Calls Try.prog 13 #[.slice (some ⟨g, 0, none⟩) 3 c, .int .i64 s] w fun e w' => e = .returned (.int .i64 (s + 6)) ∧ N3 w' g (mkM s m 3) (mkN s n 3) ∧ w.grownBy w' (some g) := by
  have H := Lib.hid h
  clear h
  go_enter Try.func13, Try.ntmps13
  go_wp2
  go_loopw [1, 5] (fun kv i wr => ∃ k : Nat, k ≤ 3 ∧ i = .int .i64 k ∧ kv = .int .i64 (s + 2 * (k : Int)) ∧ N3 wr g (mkM s m k) (mkN s n k) ∧ w.grownBy wr (some g)) (fun _ i _ => 3 - (intOf i).toNat)
  case atStart => exact ⟨0, by omega, rfl, by simp, H.out.congr (fun j _ => mkM_zero s m j) (fun j _ => mkN_zero s n j), World.grownBy.refl _ _⟩
  case round =>
    obtain ⟨k, hk, rfl, rfl, hn, hb⟩ := hrel
    have HN := Lib.hid hn
    have HB := Lib.hid hb
    clear hb
    by_cases hlt : k < 3
    · obtain ⟨⟨d0, d1, d2, d3⟩, f0, f1⟩ := hn.cells k hlt
      have N2 := Lib.hid (((hn.setM k hlt (s + 2 * (k : Int))).setN k hlt (s + 2 * (k : Int) + 1)).congr (fun j _ => mkM_step s m k j) (fun j _ => mkN_step s n k j))
      have B2 := Lib.hid (HB.out.trans ((grownBy_put wr g (k * 4) (.int .i64 (s + 2 * (k : Int)))).trans (grownBy_put _ g (k * 4 + 1) (.int .i64 (s + 2 * (k : Int) + 1)))))
      have y1 : (k : Int) < 3 := by omega
      have y0 : (0 : Int) ≤ (k : Int) := by omega
      clear hn H HN HB
      go_wp2_with fail
      refine (mark_insts_nil _ _).mono ?_
      rintro e w1 ⟨rfl, rfl⟩
      go_wp2_with fail
      refine (mark_leads_nil _ _).mono ?_
      rintro e w1 ⟨rfl, rfl⟩
      go_wp2
      go_roundw
      case rel => exact ⟨k + 1, by omega, by go_num, by go_num, N2.out, B2.out⟩
      case measure => simp only [intOf]; omega
    · obtain rfl : k = 3 := by omega
      clear hn
      go_wp2
      go_ret
      exact ⟨rfl, HN.out, HB.out⟩
set_option maxRecDepth 100000 in
set_option maxHeartbeats 1000000 in
theorem held_n3 (g c : Nat) (m n : Nat → Int) (s : Int) (w : World) (h : N3 w g (mkM s m 3) (mkN s n 3)) (hs0 : 0 ≤ s) (hs : s ≤ 1099511627776) :
    Calls Try.prog 15 #[.slice (some ⟨g, 0, none⟩) 3 c, .int .i64 s] w fun e w' => e = .returned (.int .i64 (s + 6)) ∧ Below w.heap.size w w' := by
  have H := Lib.hid h
  clear h
  go_enter Try.func15, Try.ntmps15
  go_wp2
  go_loopw [1, 5] (fun kv i wr => ∃ k : Nat, k ≤ 3 ∧ i = .int .i64 k ∧ kv = .int .i64 (s + 2 * (k : Int)) ∧ Below w.heap.size w wr) (fun _ i _ => 3 - (intOf i).toNat)
  case atStart => exact ⟨0, by omega, rfl, by simp, Below.refl _ _⟩
  case round =>
    obtain ⟨k, hk, rfl, rfl, hb⟩ := hrel
    have HB := Lib.hid hb
    clear hb
    by_cases hlt : k < 3
    · obtain ⟨⟨d0, d1, d2, d3⟩, f0, f1⟩ := (H.out.after HB.out).cells k hlt
      rw [show mkM s m 3 k = s + 2 * (k : Int) by unfold mkM; rw [if_pos hlt]] at d0
      rw [show mkN s n 3 k = s + 2 * (k : Int) + 1 by unfold mkN; rw [if_pos hlt]] at d1
      have y1 : (k : Int) < 3 := by omega
      have y0 : (0 : Int) ≤ (k : Int) := by omega
      have hd : decide (s + 2 * (k : Int) + 1 + 1 < 0) = false := dec_f (by omega)
      go_wp2_with fail
      refine (held_insts_nil _ _).mono ?_
      rintro e w1 ⟨rfl, rfl⟩
      go_wp2_with fail
      refine (held_leads_nil _ _).mono ?_
      rintro e w1 ⟨rfl, rfl⟩
      go_wp2
      go_roundw
      case rel => exact ⟨k + 1, by omega, by go_num, by go_num, HB.out⟩
      case measure => simp only [intOf]; omega
    · obtain rfl : k = 3 := by omega
      go_wp2
      go_ret
      exact ⟨rfl, HB.out⟩
set_option maxRecDepth 100000 in
set_option maxHeartbeats 400000 in
theorem mark_msgs_nil (s : Int) (w : World) :
    Calls Try.prog 14 #[.slice none 0 0, .int .i64 s] w fun e w' => e = .returned (.int .i64 s) ∧ w' = w := by
  go_enter Try.func14, Try.ntmps14
  go_wp2
  go_loop [1, 5] (fun kv i => kv = .int .i64 s ∧ i = .int .i64 0) (fun _ _ => 0)
  case atStart => exact ⟨rfl, rfl⟩
  case round =>
    obtain ⟨rfl, rfl⟩ := hrel
    go_wp2
    go_ret
    exact ⟨rfl, rfl⟩
set_option maxRecDepth 100000 in
set_option maxHeartbeats 400000 in
theorem held_msgs_nil (s : Int) (w : World) :
    Calls Try.prog 16 #[.slice none 0 0, .int .i64 s] w fun e w' => e = .returned (.int .i64 s) ∧ w' = w := by
  go_enter Try.func16, Try.ntmps16
  go_wp2
  go_loop [1, 5] (fun kv i => kv = .int .i64 s ∧ i = .int .i64 0) (fun _ _ => 0)
  case atStart => exact ⟨rfl, rfl⟩
  case round =>
    obtain ⟨rfl, rfl⟩ := hrel
    go_wp2
    go_ret
    exact ⟨rfl, rfl⟩
set_option maxHeartbeats 400000 in
theorem eq_msgs_nil (w : World) :
    Calls Try.prog 12 #[.slice none 0 0, .slice none 0 0] w fun e w' => e = .returned (.bool true) ∧ w' = w := by
  go_enter Try.func12, Try.ntmps12
  go_wp2
  go_loop [5] (fun i => i = .int .i64 0) (fun _ => 0)
  case atStart => exact rfl
  case round =>
    obtain rfl := hrel
    go_wp2
    go_ret
    exact ⟨rfl, rfl⟩
theorem cells2n {w : World} {g : Nat} {t : TypeId} {x0 x1 : Value} (h : Bx w g t #[x0, x1]) : w.cell? ⟨g, 0, none⟩ = some x0 ∧ w.cell? ⟨g, 1, none⟩ = some x1 := ⟨h.cell 0 _ rfl, h.cell 1 _ rfl⟩
set_option maxHeartbeats 400000 in
theorem eq_net (g g' c c' : Nat) (m n : Nat → Int) (w : World) (h : N3 w g m n) (h' : N3 w g' m n) :
    Calls Try.prog 6 #[.agg #[.slice (some ⟨g, 0, none⟩) 3 c, .slice none 0 0], .agg #[.slice (some ⟨g', 0, none⟩) 3 c', .slice none 0 0]] w fun e w' => e = .returned (.bool true) ∧ Below w.heap.size w w' := by
  have X := Lib.hid ((Bx.new w 25 #[.slice (some ⟨g, 0, none⟩) 3 c, .slice none 0 0] _ rfl).alloc (.cells #[.slice (some ⟨g', 0, none⟩) 3 c', .slice none 0 0] 25))
  have Y := Lib.hid (Bx.new (w.alloc (.cells #[.slice (some ⟨g, 0, none⟩) 3 c, .slice none 0 0] 25)) 25 #[.slice (some ⟨g', 0, none⟩) 3 c', .slice none 0 0] (w.heap.size + 1) (by simp))
  have A := Lib.hid (((Af.refl w).alloc (.cells #[.slice (some ⟨g, 0, none⟩) 3 c, .slice none 0 0] 25)).alloc (.cells #[.slice (some ⟨g', 0, none⟩) 3 c', .slice none 0 0] 25))
  have H := Lib.hid (h.after A.out)
  have H' := Lib.hid (h'.after A.out)
  clear h h'
  go_enter Try.func6, Try.ntmps6
  go_wp2_with fail
  refine (eq_n3 g g' c c' m n _ H.out H'.out).mono ?_
  rintro e w1 ⟨rfl, bb⟩
  have X := Lib.hid (X.out.after bb)
  have Y := Lib.hid (Y.out.after bb)
  have A := Lib.hid (A.out.after bb)
  clear bb H H'
  obtain ⟨x0, x1⟩ := cells2n X.out
  obtain ⟨z0, z1⟩ := cells2n Y.out
  go_wp2_with fail
  clear x0 x1 z0 z1
  refine (eq_msgs_nil _).mono ?_
  rintro e w2 ⟨rfl, rfl⟩
  go_wp2
  go_ret
  exact ⟨rfl, A.out⟩
set_option maxHeartbeats 400000 in
theorem mark_net (g c : Nat) (m n : Nat → Int) (w : World) (h : N3 w g m n) :
    Calls Try.prog 7 #[.agg #[.slice (some ⟨g, 0, none⟩) 3 c, .slice none 0 0], .int .i64 1] w fun e w' => e = .returned (.int .i64 7) ∧ N3 w' g (mkM 1 m 3) (mkN 1 n 3) ∧ w.grownBy w' (some g) := by
  have X := Lib.hid (Bx.new w 25 #[.slice (some ⟨g, 0, none⟩) 3 c, .slice none 0 0] _ rfl)
  have G := Lib.hid (grown_of ((Af.refl w).alloc (.cells #[.slice (some ⟨g, 0, none⟩) 3 c, .slice none 0 0] 25)) (some g))
  have H := Lib.hid (h.alloc (.cells #[.slice (some ⟨g, 0, none⟩) 3 c, .slice none 0 0] 25))
  have hg := h.lt
  clear h
  go_enter Try.func7, Try.ntmps7
  go_wp2_with fail
  refine (mark_n3 g c m n 1 _ H.out (by omega) (by omega)).mono ?_
  rintro e w1 ⟨rfl, hn, hb⟩
  have N := Lib.hid hn
  have X := Lib.hid (X.out.keep hb (fun e => by cases e; omega))
  have G := Lib.hid (G.out.trans hb)
  clear hn hb H
  obtain ⟨x0, x1⟩ := cells2n X.out
  go_wp2_with fail
  clear x0 x1
  refine (mark_msgs_nil _ _).mono ?_
  rintro e w2 ⟨rfl, rfl⟩
  go_wp2
  go_ret
  exact ⟨rfl, N.out, G.out⟩
set_option maxHeartbeats 400000 in
theorem held_net (g c : Nat) (m n : Nat → Int) (w : World) (h : N3 w g (mkM 1 m 3) (mkN 1 n 3)) :
    Calls Try.prog 8 #[.agg #[.slice (some ⟨g, 0, none⟩) 3 c, .slice none 0 0], .int .i64 1] w fun e w' => e = .returned (.int .i64 7) ∧ Below w.heap.size w w' := by
  have X := Lib.hid (Bx.new w 25 #[.slice (some ⟨g, 0, none⟩) 3 c, .slice none 0 0] _ rfl)
  have A := Lib.hid ((Af.refl w).alloc (.cells #[.slice (some ⟨g, 0, none⟩) 3 c, .slice none 0 0] 25))
  have H := Lib.hid (h.alloc (.cells #[.slice (some ⟨g, 0, none⟩) 3 c, .slice none 0 0] 25))
  clear h
  go_enter Try.func8, Try.ntmps8
  go_wp2_with fail
  refine (held_n3 g c m n 1 _ H.out (by omega) (by omega)).mono ?_
  rintro e w1 ⟨rfl, bb⟩
  have X := Lib.hid (X.out.after bb)
  have A := Lib.hid (A.out.after bb)
  clear bb H
  obtain ⟨x0, x1⟩ := cells2n X.out
  go_wp2_with fail
  clear x0 x1
  refine (held_msgs_nil _ _).mono ?_
  rintro e w2 ⟨rfl, rfl⟩
  go_wp2
  go_ret
  exact ⟨rfl, A.out⟩
end Go.Proofs.Ytdokglckfabdaaa
