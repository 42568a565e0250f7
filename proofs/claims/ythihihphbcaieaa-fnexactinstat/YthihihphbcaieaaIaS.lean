/- InstAt: the model's walk. -/
import Derived.Test.YthihihphbcaieaaIaM
import Derived.Test.YthihihphbcaieaaCpS
namespace Go.Proofs.Ythihihphbcaieaa
open Go.RowKit Go.PlainAid
set_option linter.unusedVariables false

set_option maxRecDepth 100000 in
set_option maxHeartbeats 1000000 in
theorem spec_at (v : Value) (l : List In) (r s : Int) (w : World) (hv : Insts w v l) (hl : SmF l) :
    Calls Try.prog 17 #[v, .agg #[.int .i64 r, .int .i64 s]] w fun e w' => (∃ a n c a' n' c', e = .returned (.agg #[.int .i64 (atX l r s).rep, .int .i64 (atX l r s).slot, .int .i64 (atX l r s).bal, .int .i64 (atX l r s).vbal, .int .i64 (atX l r s).st, .int .i64 (atX l r s).cmd.kind, .int .i64 (atX l r s).cmd.client, .int .i64 (atX l r s).cmd.no, .string (atX l r s).cmd.set, .string (atX l r s).cmd.name, .string (atX l r s).cmd.tag, .int .i64 (atX l r s).cmd.n, .slice a n c, .int .i64 (atX l r s).seq, .slice a' n' c', .bool (atX l r s).same]) ∧ PtO w' w.heap.size w'.heap.size (atX l r s) (.slice a n c) (.slice a' n' c')) ∧ Below w.heap.size w w' := by
  have HSM := Lib.hid hl
  obtain ⟨h1, a, ca, rfl, hca, ha⟩ := hv
  obtain ⟨n, hn⟩ : ∃ n, l.length = n := ⟨_, rfl⟩
  have HN := Lib.hid hn
  rw [hn] at h1 ha hca ⊢
  have HA := Lib.hid ha
  have I0 := Lib.hid ((Bx.new w 36 #[.int .i64 r, .int .i64 s] _ rfl).alloc (.cells #[.int .i64 0, .int .i64 0, .int .i64 0, .int .i64 0, .int .i64 0, .int .i64 0, .int .i64 0, .int .i64 0, .string ⟨#[]⟩, .string ⟨#[]⟩, .string ⟨#[]⟩, .int .i64 0, .slice none 0 0, .int .i64 0, .slice none 0 0, .bool false] 41))
  have Y0 := Lib.hid (Bx.new (w.alloc (.cells #[.int .i64 r, .int .i64 s] 36)) 41 #[.int .i64 0, .int .i64 0, .int .i64 0, .int .i64 0, .int .i64 0, .int .i64 0, .int .i64 0, .int .i64 0, .string ⟨#[]⟩, .string ⟨#[]⟩, .string ⟨#[]⟩, .int .i64 0, .slice none 0 0, .int .i64 0, .slice none 0 0, .bool false] (w.heap.size + 1) (by simp))
  have A0 := Lib.hid (((Af.refl w).alloc (.cells #[.int .i64 r, .int .i64 s] 36)).alloc (.cells #[.int .i64 0, .int .i64 0, .int .i64 0, .int .i64 0, .int .i64 0, .int .i64 0, .int .i64 0, .int .i64 0, .string ⟨#[]⟩, .string ⟨#[]⟩, .string ⟨#[]⟩, .int .i64 0, .slice none 0 0, .int .i64 0, .slice none 0 0, .bool false] 41))
  clear hn ha hca hl
  go_enter Try.func17, Try.ntmps17
  go_wp2
  go_loopw [5] (fun i wr => ∃ k : Nat, k ≤ n ∧ i = .int .i64 k ∧ (∀ j, j < k → ¬ ((nth l j).rep = r ∧ (nth l j).slot = s)) ∧ Bx wr w.heap.size 36 #[.int .i64 r, .int .i64 s] ∧ Bx wr (w.heap.size + 1) 41 #[.int .i64 0, .int .i64 0, .int .i64 0, .int .i64 0, .int .i64 0, .int .i64 0, .int .i64 0, .int .i64 0, .string ⟨#[]⟩, .string ⟨#[]⟩, .string ⟨#[]⟩, .int .i64 0, .slice none 0 0, .int .i64 0, .slice none 0 0, .bool false] ∧ Af w wr) (fun i _ => n - (intOf i).toNat)
  case atStart => exact ⟨0, by omega, rfl, fun j hj => by omega, I0.out, Y0.out, A0.out⟩
  case round =>
    obtain ⟨k, hk, rfl, he, hi, hy, haf⟩ := hrel
    have HE := Lib.hid he
    have I := Lib.hid hi
    have Y := Lib.hid hy
    have A := Lib.hid haf
    clear he hi hy haf I0 Y0 A0
    by_cases hlt : k < n
    · obtain ⟨b, o, rfl, hb, hcx⟩ := HA.out (by omega)
      obtain ⟨u, d, ccx, pp⟩ := hcx k hlt
      have PK := Lib.hid (pp.later A.out)
      have HSX := Lib.hid (HSM.out.2 k (by rw [HN.out]; exact hlt))
      obtain ⟨⟨a1, n1, c1, rfl⟩, a2, n2, c2, rfl⟩ := pp.form
      obtain ⟨q, hq⟩ : ∃ q, nth l k = q := ⟨_, rfl⟩
      have HQ := Lib.hid hq
      rw [hq] at ccx PK HSX
      have HCK := Lib.hid (fun W (h : Af w W) => ccx.below h hb)
      have y1 : (k : Int) < (n : Int) := by omega
      have y0 : (0 : Int) ≤ (k : Int) := by omega
      have HL := Lib.hid (fun W (h : LatI wr W) => And.intro (HCK.out W (A.out.after h)) (And.intro ((I.out.after h).cell 0 _ rfl) ((I.out.after h).cell 1 _ rfl)))
      clear hcx ccx pp hq
      by_cases hr1 : q.rep = r
      · by_cases hr2 : q.slot = s
        · have HX := Lib.hid (show atX l r s = q by rw [atX_hit l r s k (by rw [HN.out]; exact hlt) HE.out (by rw [HQ.out]; exact hr1) (by rw [HQ.out]; exact hr2), HQ.out])
          have hs1 : (q.rep == r) = true := by simpa using hr1
          have hs2 : (q.slot == s) = true := by simpa using hr2
          clear hr1 hr2
          go_wp2_with fail
          refine wp_region_quiet (C := LatI wr) (by kernel_rfl) (by kernel_rfl) (show LatI wr wr.drew from Below.drew (Below.refl _ _)) ?_
          dsimp only
          repeat (first | go_big_quiet_skip | (go_big_quiet_want; go_big_quiet_op; (first | go_big_quiet_on | (refine ⟨_, fun _ _ => rfl, ?_⟩; go_big_quiet_on) | (refine ⟨.agg #[.int .i64 q.rep, .int .i64 q.slot], ?_, ?_⟩; intro w' hw'; obtain ⟨⟨e0, e1, e2, e3, e4, e5, e6, e7, e8, e9, e10, e11, e12, e13, e14, e15⟩, i0, i1⟩ := HL.out w' hw'; simp [e0, e1, Result.andThen]; go_big_quiet_on) | (refine ⟨.agg #[.int .i64 r, .int .i64 s], ?_, ?_⟩; intro w' hw'; obtain ⟨⟨e0, e1, e2, e3, e4, e5, e6, e7, e8, e9, e10, e11, e12, e13, e14, e15⟩, i0, i1⟩ := HL.out w' hw'; simp [i0, i1, Result.andThen]; go_big_quiet_on))))
          refine wpQuiet_nil ?_
          intro w2 L2
          have I2 := Lib.hid (I.out.after L2)
          have Y2 := Lib.hid (Y.out.after L2)
          have A2 := Lib.hid (A.out.after L2)
          have P2 := Lib.hid (PK.out.later L2)
          obtain ⟨m0, m1, m2, m3, m4, m5, m6, m7, m8, m9, m10, m11, m12, m13, m14, m15⟩ := HCK.out w2 A2.out
          clear L2 HL
          go_wp2_with fail
          clear m0 m1 m2 m3 m4 m5 m6 m7 m8 m9 m10 m11 m12 m13 m14 m15 hs1 hs2
          refine (spec_copyI q _ _ _ P2.out HSX.out).mono ?_
          rintro e w3 ⟨⟨a3, n3, c3, a4, n4, c4, rfl, p3⟩, b3⟩
          have Y3 := Lib.hid (Y2.out.after b3)
          have A3 := Lib.hid (A2.out.after b3)
          have P3 := Lib.hid p3
          have hz3 : w.heap.size + 2 ≤ w2.heap.size := by have := Y2.out.lt; omega
          clear b3 p3
          obtain ⟨y0, y1, y2, y3, y4, y5, y6, y7, y8, y9, y10, y11, y12, y13, y14, y15⟩ := cells16 Y3.out
          obtain ⟨g0, g1, g2, g3, g4, g5, g6, g7, g8, g9, g10, g11, g12, g13, g14, g15⟩ := froz16 Y3.out
          go_wp2
          clear y0 y1 y2 y3 y4 y5 y6 y7 y8 y9 y10 y11 y12 y13 y14 y15 g0 g1 g2 g3 g4 g5 g6 g7 g8 g9 g10 g11 g12 g13 g14 g15
          have Gs := setL_grown (w.heap.size + 1) (inA q (.slice a3 n3 c3) (.slice a4 n4 c4)) w3 0
          have Zs := setL_size (w.heap.size + 1) (inA q (.slice a3 n3 c3) (.slice a4 n4 c4)) w3 0
          have F : Bx (setL w3 (w.heap.size + 1) 0 (inA q (.slice a3 n3 c3) (.slice a4 n4 c4))) (w.heap.size + 1) 41 #[.int .i64 q.rep, .int .i64 q.slot, .int .i64 q.bal, .int .i64 q.vbal, .int .i64 q.st, .int .i64 q.cmd.kind, .int .i64 q.cmd.client, .int .i64 q.cmd.no, .string q.cmd.set, .string q.cmd.name, .string q.cmd.tag, .int .i64 q.cmd.n, .slice a3 n3 c3, .int .i64 q.seq, .slice a4 n4 c4, .bool q.same] := by
            have := setL_heap (inA q (.slice a3 n3 c3) (.slice a4 n4 c4)) w3 #[.int .i64 0, .int .i64 0, .int .i64 0, .int .i64 0, .int .i64 0, .int .i64 0, .int .i64 0, .int .i64 0, .string ⟨#[]⟩, .string ⟨#[]⟩, .string ⟨#[]⟩, .int .i64 0, .slice none 0 0, .int .i64 0, .slice none 0 0, .bool false] 0 Y3.out
            rw [updL_eq (inA q (.slice a3 n3 c3) (.slice a4 n4 c4)) #[.int .i64 0, .int .i64 0, .int .i64 0, .int .i64 0, .int .i64 0, .int .i64 0, .int .i64 0, .int .i64 0, .string ⟨#[]⟩, .string ⟨#[]⟩, .string ⟨#[]⟩, .int .i64 0, .slice none 0 0, .int .i64 0, .slice none 0 0, .bool false] 0 (show 0 + 16 ≤ 16 by omega)] at this
            exact this
          have A5 : Af w (setL w3 (w.heap.size + 1) 0 (inA q (.slice a3 n3 c3) (.slice a4 n4 c4))) := A3.out.grow Gs (fun k hk => by cases hk; omega)
          have P5 : PtO (setL w3 (w.heap.size + 1) 0 (inA q (.slice a3 n3 c3) (.slice a4 n4 c4))) w.heap.size (setL w3 (w.heap.size + 1) 0 (inA q (.slice a3 n3 c3) (.slice a4 n4 c4))).heap.size q (.slice a3 n3 c3) (.slice a4 n4 c4) := by
            rw [Zs]
            exact (P3.out.mono (by omega) (Nat.le_refl _)).kept Gs (fun k hk => by have hk' : w.heap.size + 1 = k := Option.some.inj hk; exact ⟨fun e => by have := (P3.out.bu k e).1; omega, fun e => by have := (P3.out.bd k e).1; omega⟩)
          exact bodyPost_ret (results_inst Try.results17 _ _ (w.heap.size + 1) _ _ _ _ _ _ _ _ _ _ _ _ _ _ _ _ rfl (cells16 F)) rfl ⟨⟨_, _, _, _, _, _, by rw [HX.out] <;> rfl, by rw [HX.out]; exact P5⟩, A5⟩
        · have HNE := Lib.hid (show ¬ ((nth l k).rep = r ∧ (nth l k).slot = s) by rw [HQ.out]; exact fun e => hr2 e.2)
          have hs1 : (q.rep == r) = true := by simpa using hr1
          have hs2 : (q.slot == s) = false := ine_no hr2
          clear hr1 hr2
          go_wp2_with fail
          refine wp_region_quiet (C := LatI wr) (by kernel_rfl) (by kernel_rfl) (show LatI wr wr.drew from Below.drew (Below.refl _ _)) ?_
          dsimp only
          repeat (first | go_big_quiet_skip | (go_big_quiet_want; go_big_quiet_op; (first | go_big_quiet_on | (refine ⟨_, fun _ _ => rfl, ?_⟩; go_big_quiet_on) | (refine ⟨.agg #[.int .i64 q.rep, .int .i64 q.slot], ?_, ?_⟩; intro w' hw'; obtain ⟨⟨e0, e1, e2, e3, e4, e5, e6, e7, e8, e9, e10, e11, e12, e13, e14, e15⟩, i0, i1⟩ := HL.out w' hw'; simp [e0, e1, Result.andThen]; go_big_quiet_on) | (refine ⟨.agg #[.int .i64 r, .int .i64 s], ?_, ?_⟩; intro w' hw'; obtain ⟨⟨e0, e1, e2, e3, e4, e5, e6, e7, e8, e9, e10, e11, e12, e13, e14, e15⟩, i0, i1⟩ := HL.out w' hw'; simp [i0, i1, Result.andThen]; go_big_quiet_on))))
          refine wpQuiet_nil ?_
          intro w2 L2
          have I2 := Lib.hid (I.out.after L2)
          have Y2 := Lib.hid (Y.out.after L2)
          have A2 := Lib.hid (A.out.after L2)
          have P2 := Lib.hid (PK.out.later L2)
          obtain ⟨m0, m1, m2, m3, m4, m5, m6, m7, m8, m9, m10, m11, m12, m13, m14, m15⟩ := HCK.out w2 A2.out
          clear L2 HL
          clear m0 m1 m2 m3 m4 m5 m6 m7 m8 m9 m10 m11 m12 m13 m14 m15
          go_wp2
          go_roundw
          case rel =>
            refine ⟨k + 1, by omega, by go_num, fun j hj => ?_, I2.out, Y2.out, A2.out⟩
            by_cases e : j = k
            · subst e; exact HNE.out
            · exact HE.out j (by omega)
          case measure => simp only [intOf]; omega
      · have HNE := Lib.hid (show ¬ ((nth l k).rep = r ∧ (nth l k).slot = s) by rw [HQ.out]; exact fun e => hr1 e.1)
        have hs1 : (q.rep == r) = false := ine_no hr1
        clear hr1
        go_wp2_with fail
        refine wp_region_quiet (C := LatI wr) (by kernel_rfl) (by kernel_rfl) (show LatI wr wr.drew from Below.drew (Below.refl _ _)) ?_
        dsimp only
        repeat (first | go_big_quiet_skip | (go_big_quiet_want; go_big_quiet_op; (first | go_big_quiet_on | (refine ⟨_, fun _ _ => rfl, ?_⟩; go_big_quiet_on) | (refine ⟨.agg #[.int .i64 q.rep, .int .i64 q.slot], ?_, ?_⟩; intro w' hw'; obtain ⟨⟨e0, e1, e2, e3, e4, e5, e6, e7, e8, e9, e10, e11, e12, e13, e14, e15⟩, i0, i1⟩ := HL.out w' hw'; simp [e0, e1, Result.andThen]; go_big_quiet_on) | (refine ⟨.agg #[.int .i64 r, .int .i64 s], ?_, ?_⟩; intro w' hw'; obtain ⟨⟨e0, e1, e2, e3, e4, e5, e6, e7, e8, e9, e10, e11, e12, e13, e14, e15⟩, i0, i1⟩ := HL.out w' hw'; simp [i0, i1, Result.andThen]; go_big_quiet_on))))
        refine wpQuiet_nil ?_
        intro w2 L2
        have I2 := Lib.hid (I.out.after L2)
        have Y2 := Lib.hid (Y.out.after L2)
        have A2 := Lib.hid (A.out.after L2)
        have P2 := Lib.hid (PK.out.later L2)
        obtain ⟨m0, m1, m2, m3, m4, m5, m6, m7, m8, m9, m10, m11, m12, m13, m14, m15⟩ := HCK.out w2 A2.out
        clear L2 HL
        clear m0 m1 m2 m3 m4 m5 m6 m7 m8 m9 m10 m11 m12 m13 m14 m15
        go_wp2
        go_roundw
        case rel =>
          refine ⟨k + 1, by omega, by go_num, fun j hj => ?_, I2.out, Y2.out, A2.out⟩
          by_cases e : j = k
          · subst e; exact HNE.out
          · exact HE.out j (by omega)
        case measure => simp only [intOf]; omega
    · obtain rfl : k = n := by omega
      have HX := Lib.hid (atX_miss l r s (fun j hj => HE.out j (by rw [← HN.out]; exact hj)))
      obtain ⟨y0, y1, y2, y3, y4, y5, y6, y7, y8, y9, y10, y11, y12, y13, y14, y15⟩ := cells16 Y.out
      obtain ⟨g0, g1, g2, g3, g4, g5, g6, g7, g8, g9, g10, g11, g12, g13, g14, g15⟩ := froz16 Y.out
      obtain ⟨i0, i1⟩ := And.intro (I.out.cell 0 _ rfl) (I.out.cell 1 _ rfl)
      go_wp2
      clear y0 y1 y2 y3 y4 y5 y6 y7 y8 y9 y10 y11 y12 y13 y14 y15 g0 g1 g2 g3 g4 g5 g6 g7 g8 g9 g10 g11 g12 g13 g14 g15 i0 i1
      have Gs := setL_grown (w.heap.size + 1) [.int .i64 r, .int .i64 s, .int .i64 (-1), .int .i64 (-1), .int .i64 0, .int .i64 0, .int .i64 0, .int .i64 0, .string ⟨#[]⟩, .string ⟨#[]⟩, .string ⟨#[]⟩, .int .i64 0, .slice none 0 0, .int .i64 0, .slice none 0 0, .bool false] wr 0
      have F : Bx (setL wr (w.heap.size + 1) 0 [.int .i64 r, .int .i64 s, .int .i64 (-1), .int .i64 (-1), .int .i64 0, .int .i64 0, .int .i64 0, .int .i64 0, .string ⟨#[]⟩, .string ⟨#[]⟩, .string ⟨#[]⟩, .int .i64 0, .slice none 0 0, .int .i64 0, .slice none 0 0, .bool false]) (w.heap.size + 1) 41 #[.int .i64 r, .int .i64 s, .int .i64 (-1), .int .i64 (-1), .int .i64 0, .int .i64 0, .int .i64 0, .int .i64 0, .string ⟨#[]⟩, .string ⟨#[]⟩, .string ⟨#[]⟩, .int .i64 0, .slice none 0 0, .int .i64 0, .slice none 0 0, .bool false] := by
        have := setL_heap [.int .i64 r, .int .i64 s, .int .i64 (-1), .int .i64 (-1), .int .i64 0, .int .i64 0, .int .i64 0, .int .i64 0, .string ⟨#[]⟩, .string ⟨#[]⟩, .string ⟨#[]⟩, .int .i64 0, .slice none 0 0, .int .i64 0, .slice none 0 0, .bool false] wr #[.int .i64 0, .int .i64 0, .int .i64 0, .int .i64 0, .int .i64 0, .int .i64 0, .int .i64 0, .int .i64 0, .string ⟨#[]⟩, .string ⟨#[]⟩, .string ⟨#[]⟩, .int .i64 0, .slice none 0 0, .int .i64 0, .slice none 0 0, .bool false] 0 Y.out
        rw [updL_eq [.int .i64 r, .int .i64 s, .int .i64 (-1), .int .i64 (-1), .int .i64 0, .int .i64 0, .int .i64 0, .int .i64 0, .string ⟨#[]⟩, .string ⟨#[]⟩, .string ⟨#[]⟩, .int .i64 0, .slice none 0 0, .int .i64 0, .slice none 0 0, .bool false] #[.int .i64 0, .int .i64 0, .int .i64 0, .int .i64 0, .int .i64 0, .int .i64 0, .int .i64 0, .int .i64 0, .string ⟨#[]⟩, .string ⟨#[]⟩, .string ⟨#[]⟩, .int .i64 0, .slice none 0 0, .int .i64 0, .slice none 0 0, .bool false] 0 (show 0 + 16 ≤ 16 by omega)] at this
        exact this
      have A5 : Af w (setL wr (w.heap.size + 1) 0 [.int .i64 r, .int .i64 s, .int .i64 (-1), .int .i64 (-1), .int .i64 0, .int .i64 0, .int .i64 0, .int .i64 0, .string ⟨#[]⟩, .string ⟨#[]⟩, .string ⟨#[]⟩, .int .i64 0, .slice none 0 0, .int .i64 0, .slice none 0 0, .bool false]) := A.out.grow Gs (fun k hk => by cases hk; omega)
      exact bodyPost_ret (results_inst Try.results17 _ _ (w.heap.size + 1) _ _ _ _ _ _ _ _ _ _ _ _ _ _ _ _ rfl (cells16 F)) rfl ⟨⟨_, _, _, _, _, _, by rw [HX.out] <;> rfl, by rw [HX.out]; exact ⟨⟨growsS_nil _ _, fun j hj => by simp at hj⟩, idOwn_nil _ _ _ _, (fun k hk => by cases hk), (fun k hk => by cases hk), (show Fit (inD r s) from ⟨by show (0 : Nat) ≤ _; omega, by show (0 : Nat) ≤ _; omega, by show (0 : Nat) ≤ _; omega⟩)⟩⟩, A5⟩
end Go.Proofs.Ythihihphbcaieaa
