/- A bundle of texts: ExK, ExH. -/
import Derived.Test.YtckeeadkhopljaaGreatDoorExX
/- The laws' marks on a slice of instances: exact. -/
namespace Go.Proofs.YtckeeadkhopljaaGreatDoor
open Go.RowKit Go.PlainAid
set_option linter.unusedVariables false

set_option maxRecDepth 100000 in
set_option maxHeartbeats 8000000 in
theorem mark_instsX (v : Value) (l : List In) (lo hi : Nat) (w : World) (hv : InOwnX w lo hi v l) (hn : l.length ≤ 1000) (hl : ∀ j, j < l.length → (nth l j).cmd.ch.length ≤ 1048576 ∧ (nth l j).deps.length ≤ 1048576) :
    Calls Tryz.prog 21 #[v, .int .i64 1] w fun e w' => e = .returned (.int .i64 (snL l l.length : Int)) ∧ InOwnX w' lo hi v (mkXs l l.length) ∧ Out lo hi w w' := by
  obtain ⟨a, cap, rfl, hc1, hc2, h3⟩ := hv
  by_cases h0 : 0 < l.length
  case neg =>
    have hl0 : l = [] := List.eq_nil_of_length_eq_zero (by omega)
    subst hl0
    clear h3 hl
    go_enter Tryz.func21, Tryz.ntmps21
    go_wp2
    go_loop [1, 5] (fun kv i => kv = .int .i64 1 ∧ i = .int .i64 0) (fun _ _ => 0)
    case atStart => exact ⟨rfl, rfl⟩
    case round =>
      obtain ⟨rfl, rfl⟩ := hrel
      go_wp2
      go_ret
      exact ⟨by rw [snL_zero]; rfl, inOwnX_nil _ _ _ _ _, Out.refl _ _ _⟩
  obtain ⟨g, o, cur0, U, D, b, rfl, hgl, hrow, hbm, hb0, hbn, hel⟩ := h3 h0
  have HSN := Lib.hid (fun k (hk : k ≤ l.length) => snL_le hl k hk)
  have HL := Lib.hid hl
  have HEL := Lib.hid hel
  have HROW := Lib.hid hrow
  have HBM := Lib.hid hbm
  have HGL := Lib.hid hgl
  obtain ⟨n, hnn⟩ : ∃ n, l.length = n := ⟨_, rfl⟩
  have HN := Lib.hid hnn
  rw [hnn] at hn hc1 hc2 hbn ⊢
  have HBN := Lib.hid (And.intro hb0 hbn)
  clear h3 hl hel hrow hbm hgl hb0 hbn hnn h0
  go_enter Tryz.func21, Tryz.ntmps21
  go_wp2
  go_loopw [1, 5] (fun kv i wr => ∃ (j : Nat) (cur : Array Value), j ≤ n ∧ i = .int .i64 j ∧ kv = .int .i64 (snL l j : Int) ∧ wr.heap[g]? = some (.cells cur 67 (0, 0)) ∧ o + cap * 16 ≤ cur.size ∧ (∀ i, i < n → InBv cur (o + i * 16) (inA (nth (mkXs l j) i) (U i) (D i)) ∧ PtO wr (b i) (b (i + 1)) (nth (mkXs l j) i) (U i) (D i)) ∧ Out lo hi w wr) (fun _ i _ => n - (intOf i).toNat)
  case atStart => exact ⟨0, cur0, by omega, rfl, by rw [snL_zero] <;> rfl, HROW.out, HGL.out.2.2, by rw [mkXs_zero]; exact fun i hi => HEL.out i (by rw [HN.out]; exact hi), Out.refl _ _ _⟩
  case round =>
    clear HROW HEL
    obtain ⟨j, cur, hj, rfl, rfl, hrow, hcs, hel, hch⟩ := hrel
    have HCH := Lib.hid hch
    have HEL := Lib.hid hel
    have HROW := Lib.hid hrow
    clear hch hel hrow
    by_cases hlt : j < n
    · have y1 : (j : Int) < (n : Int) := by omega
      have y0 : (0 : Int) ≤ (j : Int) := by omega
      have hlj := HL.out j (by rw [HN.out]; exact hlt)
      obtain ⟨sn, hsn⟩ : ∃ sn, snL l j = sn := ⟨_, rfl⟩
      have HSJ := Lib.hid hsn
      have hsb := HSN.out j (by rw [HN.out]; omega)
      rw [hsn] at hsb ⊢
      obtain ⟨q, hq⟩ : ∃ q, nth l j = q := ⟨_, rfl⟩
      have HQ := Lib.hid hq
      rw [hq] at hlj
      obtain ⟨e1, e2⟩ := HEL.out j hlt
      rw [mkXs_at l j j (by rw [HN.out]; exact hlt), if_neg (by omega), hq] at e1 e2
      obtain ⟨au, nu, cu, hU⟩ : ∃ a n c, U j = .slice a n c := e2.pts.form.1
      obtain ⟨ad, nd, cd, hD⟩ : ∃ a n c, D j = .slice a n c := e2.pts.form.2
      have HU := Lib.hid hU
      have HD := Lib.hid hD
      have M0 := Lib.hid (show MkE (mkXs l j) U D b g o cap j  [.int .i64 q.rep, .int .i64 q.slot, .int .i64 q.bal, .int .i64 q.vbal, .int .i64 q.st, .int .i64 q.cmd.kind, .int .i64 q.cmd.client, .int .i64 q.cmd.no, .string q.cmd.set, .string q.cmd.name, .string q.cmd.tag, .int .i64 q.cmd.n, .slice au nu cu, .int .i64 q.seq, .slice ad nd cd, .bool q.same] q wr from ⟨cur, HROW.out, hcs, by rw [mkXs_length, HN.out]; exact hc1, by rw [mkXs_length, HN.out]; exact hlt, rfl, by rw [hU, hD] at e1; exact e1, HBM.out, e2, fun i hi _ => HEL.out i (by rw [mkXs_length, HN.out] at hi; exact hi)⟩)
      have hbj1 : lo ≤ b j := by have := mono_of HBM.out (Nat.zero_le j); have := HBN.out.1; omega
      have hbj2 : b (j + 1) ≤ hi := by have := mono_of HBM.out (show j + 1 ≤ n by omega); have := HBN.out.2; omega
      have hbnd : (j : Int) * 4194304 ≤ 4194304000 := by omega
      have b1 : (1 : Int) ≤ (sn : Int) := by omega
      have b2 : (sn : Int) ≤ 4194304001 := by omega
      clear hsn hq e1 e2 HROW HEL hcs hU hD hsb hbnd
      have T8 := Lib.hid (fun W => (by have := mark_textW (sn + 8) W (by omega) (by omega); rw [show ((sn + 8 : Nat) : Int) = (sn : Int) + 1 + 1 + 1 + 1 + 1 + 1 + 1 + 1 by omega] at this; exact this))
      have T9 := Lib.hid (fun W => (by have := mark_textW (sn + 9) W (by omega) (by omega); rw [show ((sn + 9 : Nat) : Int) = (sn : Int) + 1 + 1 + 1 + 1 + 1 + 1 + 1 + 1 + 1 by omega] at this; exact this))
      have T10 := Lib.hid (fun W => (by have := mark_textW (sn + 10) W (by omega) (by omega); rw [show ((sn + 10 : Nat) : Int) = (sn : Int) + 1 + 1 + 1 + 1 + 1 + 1 + 1 + 1 + 1 + 1 by omega] at this; exact this))
      have T12 := Lib.hid (fun W (hW : GrowsS W (b j) (.slice au nu cu) q.cmd.ch) => (by have := mark_strsX (.slice au nu cu) q.cmd.ch (b j) (sn + 12) W hW hlj.1 (by omega) (by omega); rw [show ((sn + 12 : Nat) : Int) = (sn : Int) + 1 + 1 + 1 + 1 + 1 + 1 + 1 + 1 + 1 + 1 + 1 + 1 by omega] at this; exact this))
      obtain ⟨⟨m0, m1, m2, m3, m4, m5, m6, m7, m8, m9, m10, m11, m12, m13, m14, m15⟩, f0, f1, f2, f3, f4, f5, f6, f7, f8, f9, f10, f11, f12, f13, f14, f15⟩ := M0.out.cells
      go_wp2_with fail
      clear m0 m1 m2 m3 m4 m5 m6 m7 m8 m9 m10 m11 m12 m13 m14 m15 f0 f1 f2 f3 f4 f5 f6 f7 f8 f9 f10 f11 f12 f13 f14 f15
      have MA := Lib.hid (show MkE (mkXs l j) U D b g o cap j  [.int .i64 ((sn : Int)), .int .i64 ((sn : Int) + 1), .int .i64 ((sn : Int) + 1 + 1), .int .i64 ((sn : Int) + 1 + 1 + 1), .int .i64 ((sn : Int) + 1 + 1 + 1 + 1), .int .i64 ((sn : Int) + 1 + 1 + 1 + 1 + 1), .int .i64 ((sn : Int) + 1 + 1 + 1 + 1 + 1 + 1), .int .i64 ((sn : Int) + 1 + 1 + 1 + 1 + 1 + 1 + 1), .string q.cmd.set, .string q.cmd.name, .string q.cmd.tag, .int .i64 q.cmd.n, .slice au nu cu, .int .i64 q.seq, .slice ad nd cd, .bool q.same] q _ from ((((((((M0.out.set 0 (by omega) (.int .i64 ((sn : Int)))).set 1 (by omega) (.int .i64 ((sn : Int) + 1))).set 2 (by omega) (.int .i64 ((sn : Int) + 1 + 1))).set 3 (by omega) (.int .i64 ((sn : Int) + 1 + 1 + 1))).set 4 (by omega) (.int .i64 ((sn : Int) + 1 + 1 + 1 + 1))).set 5 (by omega) (.int .i64 ((sn : Int) + 1 + 1 + 1 + 1 + 1))).set 6 (by omega) (.int .i64 ((sn : Int) + 1 + 1 + 1 + 1 + 1 + 1))).set 7 (by omega) (.int .i64 ((sn : Int) + 1 + 1 + 1 + 1 + 1 + 1 + 1))))
      have OA := Lib.hid ((((((((HCH.out.trans (out_grown (grownBy_put _ g (o + j * 16 + 0) (.int .i64 ((sn : Int)))) (fun k hk => by cases hk; exact ⟨HGL.out.1, HGL.out.2.1⟩))).trans (out_grown (grownBy_put _ g (o + j * 16 + 1) (.int .i64 ((sn : Int) + 1))) (fun k hk => by cases hk; exact ⟨HGL.out.1, HGL.out.2.1⟩))).trans (out_grown (grownBy_put _ g (o + j * 16 + 2) (.int .i64 ((sn : Int) + 1 + 1))) (fun k hk => by cases hk; exact ⟨HGL.out.1, HGL.out.2.1⟩))).trans (out_grown (grownBy_put _ g (o + j * 16 + 3) (.int .i64 ((sn : Int) + 1 + 1 + 1))) (fun k hk => by cases hk; exact ⟨HGL.out.1, HGL.out.2.1⟩))).trans (out_grown (grownBy_put _ g (o + j * 16 + 4) (.int .i64 ((sn : Int) + 1 + 1 + 1 + 1))) (fun k hk => by cases hk; exact ⟨HGL.out.1, HGL.out.2.1⟩))).trans (out_grown (grownBy_put _ g (o + j * 16 + 5) (.int .i64 ((sn : Int) + 1 + 1 + 1 + 1 + 1))) (fun k hk => by cases hk; exact ⟨HGL.out.1, HGL.out.2.1⟩))).trans (out_grown (grownBy_put _ g (o + j * 16 + 6) (.int .i64 ((sn : Int) + 1 + 1 + 1 + 1 + 1 + 1))) (fun k hk => by cases hk; exact ⟨HGL.out.1, HGL.out.2.1⟩))).trans (out_grown (grownBy_put _ g (o + j * 16 + 7) (.int .i64 ((sn : Int) + 1 + 1 + 1 + 1 + 1 + 1 + 1))) (fun k hk => by cases hk; exact ⟨HGL.out.1, HGL.out.2.1⟩)))
      refine (T8.out _).mono ?_
      rintro e w2 ⟨rfl, b2'⟩
      have M2 := Lib.hid (MA.out.later b2')
      have O2 := Lib.hid (OA.out.trans (out_below b2'))
      clear b2' MA M0 T8 OA HCH
      obtain ⟨⟨m0, m1, m2, m3, m4, m5, m6, m7, m8, m9, m10, m11, m12, m13, m14, m15⟩, f0, f1, f2, f3, f4, f5, f6, f7, f8, f9, f10, f11, f12, f13, f14, f15⟩ := M2.out.cells
      go_wp2_with fail
      clear m0 m1 m2 m3 m4 m5 m6 m7 m8 m9 m10 m11 m12 m13 m14 m15 f0 f1 f2 f3 f4 f5 f6 f7 f8 f9 f10 f11 f12 f13 f14 f15
      have MA := Lib.hid (show MkE (mkXs l j) U D b g o cap j  [.int .i64 ((sn : Int)), .int .i64 ((sn : Int) + 1), .int .i64 ((sn : Int) + 1 + 1), .int .i64 ((sn : Int) + 1 + 1 + 1), .int .i64 ((sn : Int) + 1 + 1 + 1 + 1), .int .i64 ((sn : Int) + 1 + 1 + 1 + 1 + 1), .int .i64 ((sn : Int) + 1 + 1 + 1 + 1 + 1 + 1), .int .i64 ((sn : Int) + 1 + 1 + 1 + 1 + 1 + 1 + 1), .string (mkT (sn + 8)), .string q.cmd.name, .string q.cmd.tag, .int .i64 q.cmd.n, .slice au nu cu, .int .i64 q.seq, .slice ad nd cd, .bool q.same] q _ from (M2.out.set 8 (by omega) (.string (mkT (sn + 8)))))
      have OA := Lib.hid (O2.out.trans (out_grown (grownBy_put _ g (o + j * 16 + 8) (.string (mkT (sn + 8)))) (fun k hk => by cases hk; exact ⟨HGL.out.1, HGL.out.2.1⟩)))
      refine (T9.out _).mono ?_
      rintro e w3 ⟨rfl, b2'⟩
      have M3 := Lib.hid (MA.out.later b2')
      have O3 := Lib.hid (OA.out.trans (out_below b2'))
      clear b2' MA M2 T9 OA O2
      obtain ⟨⟨m0, m1, m2, m3, m4, m5, m6, m7, m8, m9, m10, m11, m12, m13, m14, m15⟩, f0, f1, f2, f3, f4, f5, f6, f7, f8, f9, f10, f11, f12, f13, f14, f15⟩ := M3.out.cells
      go_wp2_with fail
      clear m0 m1 m2 m3 m4 m5 m6 m7 m8 m9 m10 m11 m12 m13 m14 m15 f0 f1 f2 f3 f4 f5 f6 f7 f8 f9 f10 f11 f12 f13 f14 f15
      have MA := Lib.hid (show MkE (mkXs l j) U D b g o cap j  [.int .i64 ((sn : Int)), .int .i64 ((sn : Int) + 1), .int .i64 ((sn : Int) + 1 + 1), .int .i64 ((sn : Int) + 1 + 1 + 1), .int .i64 ((sn : Int) + 1 + 1 + 1 + 1), .int .i64 ((sn : Int) + 1 + 1 + 1 + 1 + 1), .int .i64 ((sn : Int) + 1 + 1 + 1 + 1 + 1 + 1), .int .i64 ((sn : Int) + 1 + 1 + 1 + 1 + 1 + 1 + 1), .string (mkT (sn + 8)), .string (mkT (sn + 9)), .string q.cmd.tag, .int .i64 q.cmd.n, .slice au nu cu, .int .i64 q.seq, .slice ad nd cd, .bool q.same] q _ from (M3.out.set 9 (by omega) (.string (mkT (sn + 9)))))
      have OA := Lib.hid (O3.out.trans (out_grown (grownBy_put _ g (o + j * 16 + 9) (.string (mkT (sn + 9)))) (fun k hk => by cases hk; exact ⟨HGL.out.1, HGL.out.2.1⟩)))
      refine (T10.out _).mono ?_
      rintro e w4 ⟨rfl, b2'⟩
      have M4 := Lib.hid (MA.out.later b2')
      have O4 := Lib.hid (OA.out.trans (out_below b2'))
      clear b2' MA M3 T10 OA O3
      obtain ⟨⟨m0, m1, m2, m3, m4, m5, m6, m7, m8, m9, m10, m11, m12, m13, m14, m15⟩, f0, f1, f2, f3, f4, f5, f6, f7, f8, f9, f10, f11, f12, f13, f14, f15⟩ := M4.out.cells
      go_wp2_with fail
      clear m0 m1 m2 m3 m4 m5 m6 m7 m8 m9 m10 m11 m12 m13 m14 m15 f0 f1 f2 f3 f4 f5 f6 f7 f8 f9 f10 f11 f12 f13 f14 f15
      have MD := Lib.hid (show MkE (mkXs l j) U D b g o cap j  [.int .i64 ((sn : Int)), .int .i64 ((sn : Int) + 1), .int .i64 ((sn : Int) + 1 + 1), .int .i64 ((sn : Int) + 1 + 1 + 1), .int .i64 ((sn : Int) + 1 + 1 + 1 + 1), .int .i64 ((sn : Int) + 1 + 1 + 1 + 1 + 1), .int .i64 ((sn : Int) + 1 + 1 + 1 + 1 + 1 + 1), .int .i64 ((sn : Int) + 1 + 1 + 1 + 1 + 1 + 1 + 1), .string (mkT (sn + 8)), .string (mkT (sn + 9)), .string (mkT (sn + 10)), .int .i64 ((sn : Int) + 1 + 1 + 1 + 1 + 1 + 1 + 1 + 1 + 1 + 1 + 1), .slice au nu cu, .int .i64 q.seq, .slice ad nd cd, .bool q.same] q _ from ((M4.out.set 10 (by omega) (.string (mkT (sn + 10)))).set 11 (by omega) (.int .i64 ((sn : Int) + 1 + 1 + 1 + 1 + 1 + 1 + 1 + 1 + 1 + 1 + 1))))
      have OD := Lib.hid ((O4.out.trans (out_grown (grownBy_put _ g (o + j * 16 + 10) (.string (mkT (sn + 10)))) (fun k hk => by cases hk; exact ⟨HGL.out.1, HGL.out.2.1⟩))).trans (out_grown (grownBy_put _ g (o + j * 16 + 11) (.int .i64 ((sn : Int) + 1 + 1 + 1 + 1 + 1 + 1 + 1 + 1 + 1 + 1 + 1))) (fun k hk => by cases hk; exact ⟨HGL.out.1, HGL.out.2.1⟩)))
      have hp := MD.out.pts
      rw [HU.out, HD.out] at hp
      have HP := Lib.hid hp
      refine (T12.out _ hp.st.1).mono ?_
      rintro e w5 ⟨rfl, g5, c5⟩
      have M5 := Lib.hid (MD.out.part (x' := ⟨q.rep, q.slot, q.bal, q.vbal, q.st, ⟨q.cmd.kind, q.cmd.client, q.cmd.no, q.cmd.set, q.cmd.name, q.cmd.tag, q.cmd.n, mkLs (sn + 12) q.cmd.ch q.cmd.ch.length⟩, q.seq, q.deps, q.same⟩) _ c5 (fun p hq' => by obtain ⟨cr, hcr⟩ := MD.out.row; exact ⟨fun e => (HP.out.ne_row hcr).1 (by rw [← e]; exact hq'), HP.out.bu p hq'⟩) (by
        rw [HU.out, HD.out]
        exact ⟨⟨g5, mkLs_small _ _ (by have := hlj.1; omega)⟩, HP.out.ids.keepB c5 (fun h0 k hk hd => st_id_apart HP.out.st.1 HP.out.ids h0 k hk hd), HP.out.bu, HP.out.bd, HP.out.fit⟩))
      have O5 := Lib.hid (OD.out.trans (out_grown c5 (fun k hk => by have := HP.out.bu k hk; omega)))
      clear g5 c5 hp HP MD M4 OD O4 T12
      obtain ⟨k5, hk5⟩ : ∃ k5 : Nat, (sn : Int) + 1 + 1 + 1 + 1 + 1 + 1 + 1 + 1 + 1 + 1 + 1 + 1 + (q.cmd.ch.length : Int) = (k5 : Int) := ⟨sn + 12 + q.cmd.ch.length, by omega⟩
      rw [hk5]
      have K5 := Lib.hid (show (k5 : Int) = (sn : Int) + 12 + (q.cmd.ch.length : Int) by omega)
      have k5a : (1 : Int) ≤ (k5 : Int) := by omega
      have k5b : (k5 : Int) ≤ 4195352600 := by have := hlj.1; omega
      clear hk5
      obtain ⟨⟨m0, m1, m2, m3, m4, m5, m6, m7, m8, m9, m10, m11, m12, m13, m14, m15⟩, f0, f1, f2, f3, f4, f5, f6, f7, f8, f9, f10, f11, f12, f13, f14, f15⟩ := M5.out.cells
      go_wp2_with fail
      clear m0 m1 m2 m3 m4 m5 m6 m7 m8 m9 m10 m11 m12 m13 m14 m15 f0 f1 f2 f3 f4 f5 f6 f7 f8 f9 f10 f11 f12 f13 f14 f15
      have ME := Lib.hid (show MkE (mkXs l j) U D b g o cap j  [.int .i64 ((sn : Int)), .int .i64 ((sn : Int) + 1), .int .i64 ((sn : Int) + 1 + 1), .int .i64 ((sn : Int) + 1 + 1 + 1), .int .i64 ((sn : Int) + 1 + 1 + 1 + 1), .int .i64 ((sn : Int) + 1 + 1 + 1 + 1 + 1), .int .i64 ((sn : Int) + 1 + 1 + 1 + 1 + 1 + 1), .int .i64 ((sn : Int) + 1 + 1 + 1 + 1 + 1 + 1 + 1), .string (mkT (sn + 8)), .string (mkT (sn + 9)), .string (mkT (sn + 10)), .int .i64 ((sn : Int) + 1 + 1 + 1 + 1 + 1 + 1 + 1 + 1 + 1 + 1 + 1), .slice au nu cu, .int .i64 (k5 : Int), .slice ad nd cd, .bool q.same] _ _ from (M5.out.set 13 (by omega) (.int .i64 (k5 : Int))))
      have OE := Lib.hid (O5.out.trans (out_grown (grownBy_put _ g (o + j * 16 + 13) (.int .i64 (k5 : Int))) (fun k hk => by cases hk; exact ⟨HGL.out.1, HGL.out.2.1⟩)))
      clear M5 O5
      have hp := ME.out.pts
      rw [HU.out, HD.out] at hp
      have HP := Lib.hid hp
      clear hp
      have HFIN : ∀ (w6 : World), w6.heap.size = w6.heap.size := fun _ => rfl
      by_cases hd0 : 0 < q.deps.length
      · refine (mark_idL _ q.deps (b j) _ _ HP.out.ids (by have := hlj.2; omega) (by omega) (by omega)).mono ?_
        rintro e w6 ⟨rfl, d6, c6⟩
        have M6 := Lib.hid (ME.out.part (x' := ⟨q.rep, q.slot, q.bal, q.vbal, q.st, ⟨q.cmd.kind, q.cmd.client, q.cmd.no, q.cmd.set, q.cmd.name, q.cmd.tag, q.cmd.n, mkLs (sn + 12) q.cmd.ch q.cmd.ch.length⟩, q.seq, mkI ((k5 : Int) + 1) q.deps q.deps.length, q.same⟩) _ c6 (fun p hq' => by obtain ⟨cr, hcr⟩ := ME.out.row; exact ⟨fun e => (HP.out.ne_row hcr).2 hd0 (by rw [← e]; exact hq'), HP.out.bd p hq'⟩) (by
          rw [HU.out, HD.out]
          exact ⟨⟨HP.out.st.1.keepB c6 (fun k hk hu => st_id_apart HP.out.st.1 HP.out.ids hd0 k hu hk), HP.out.st.2⟩, d6, HP.out.bu, HP.out.bd, HP.out.fit⟩))
        have O6 := Lib.hid (OE.out.trans (out_grown c6 (fun k hk => by have := HP.out.bd k hk; omega)))
        clear d6 c6 HP ME OE
        obtain ⟨k6, hk6⟩ : ∃ k6 : Nat, (k5 : Int) + 1 + 2 * (q.deps.length : Int) = (k6 : Int) := ⟨k5 + 1 + 2 * q.deps.length, by omega⟩
        rw [hk6]
        have K6 := Lib.hid (show (k6 : Int) = (sn : Int) + 12 + (q.cmd.ch.length : Int) + 1 + 2 * (q.deps.length : Int) by have := K5.out; omega)
        have k6b : (k6 : Int) ≤ 4197449800 := by have := hlj.2; omega
        clear hk6 hd0
        obtain ⟨⟨m0, m1, m2, m3, m4, m5, m6, m7, m8, m9, m10, m11, m12, m13, m14, m15⟩, f0, f1, f2, f3, f4, f5, f6, f7, f8, f9, f10, f11, f12, f13, f14, f15⟩ := M6.out.cells
        go_wp2
        go_roundw
        case rel =>
          have M7 := (M6.out.set 15 (by omega) (.bool ((k6 : Int).tmod 3 == 0)))
          obtain ⟨cur7, r1, r2, r0, r3, r4, r5, r6, r8, r7⟩ := M7
          refine ⟨j + 1, cur7, by omega, by go_num, ?_, r1, r2, fun i hi => ?_, (O6.out.trans (out_grown (grownBy_put _ g (o + j * 16 + 15) (.bool ((k6 : Int).tmod 3 == 0))) (fun k hk => by cases hk; exact ⟨HGL.out.1, HGL.out.2.1⟩)))⟩
          · have hh : ((snL l (j + 1) : Nat) : Int) = (k6 : Int) + 1 := by
              rw [snL_succ, HSJ.out, HQ.out]
              unfold nmX
              have := K6.out
              omega
            rw [hh]
          · by_cases e : i = j
            · subst e
              rw [mkXs_self l i (by rw [HN.out]; exact hi), HSJ.out, HQ.out]
              refine ⟨?_, ⟨⟨r8.st.1, ?_⟩, ?_, r8.bu, r8.bd, ?_⟩⟩
              · rw [HU.out, HD.out]
                have h5 := K5.out
                have h6 := K6.out
                unfold mkX inA
                rw [← h6, ← h5]
                exact r5
              · exact r8.st.2
              · unfold mkX
                have h5 := K5.out
                dsimp only
                rw [← h5]
                exact r8.ids
              · unfold mkX Fit
                dsimp only
                have a1 := mkT_size (sn + 8)
                have a2 := mkT_size (sn + 9)
                have a3 := mkT_size (sn + 10)
                omega
            · rw [mkXs_ne l j i (by rw [HN.out]; exact hi) e]
              exact r7 i (by rw [mkXs_length, HN.out]; exact hi) e
        case measure => simp only [intOf]; omega
      · have e0 : q.deps = [] := List.eq_nil_of_length_eq_zero (by omega)
        have hn2 : nd = 0 := by
          obtain ⟨_, _, e, _⟩ := HP.out.ids
          simp only [Value.slice.injEq] at e
          have : (q.deps).length = 0 := by omega
          omega
        subst hn2
        refine (mark_id_nil _ _ _ _).mono ?_
        rintro e w6 ⟨rfl, rfl⟩
        have M6 := Lib.hid (show MkE (mkXs l j) U D b g o cap j  [.int .i64 ((sn : Int)), .int .i64 ((sn : Int) + 1), .int .i64 ((sn : Int) + 1 + 1), .int .i64 ((sn : Int) + 1 + 1 + 1), .int .i64 ((sn : Int) + 1 + 1 + 1 + 1), .int .i64 ((sn : Int) + 1 + 1 + 1 + 1 + 1), .int .i64 ((sn : Int) + 1 + 1 + 1 + 1 + 1 + 1), .int .i64 ((sn : Int) + 1 + 1 + 1 + 1 + 1 + 1 + 1), .string (mkT (sn + 8)), .string (mkT (sn + 9)), .string (mkT (sn + 10)), .int .i64 ((sn : Int) + 1 + 1 + 1 + 1 + 1 + 1 + 1 + 1 + 1 + 1 + 1), .slice au nu cu, .int .i64 (k5 : Int), .slice ad 0 cd, .bool q.same] ⟨q.rep, q.slot, q.bal, q.vbal, q.st, ⟨q.cmd.kind, q.cmd.client, q.cmd.no, q.cmd.set, q.cmd.name, q.cmd.tag, q.cmd.n, mkLs (sn + 12) q.cmd.ch q.cmd.ch.length⟩, q.seq, mkI ((k5 : Int) + 1) q.deps q.deps.length, q.same⟩ _ by
          rw [e0] at ME ⊢
          exact ME.out)
        have O6 := OE
        rw [show (k5 : Int) + 1 = (k5 : Int) + 1 + 2 * (q.deps.length : Int) by rw [e0]; simp]
        clear HP ME OE
        obtain ⟨k6, hk6⟩ : ∃ k6 : Nat, (k5 : Int) + 1 + 2 * (q.deps.length : Int) = (k6 : Int) := ⟨k5 + 1 + 2 * q.deps.length, by omega⟩
        rw [hk6]
        have K6 := Lib.hid (show (k6 : Int) = (sn : Int) + 12 + (q.cmd.ch.length : Int) + 1 + 2 * (q.deps.length : Int) by have := K5.out; omega)
        have k6b : (k6 : Int) ≤ 4197449800 := by have := hlj.2; omega
        clear hk6
        obtain ⟨⟨m0, m1, m2, m3, m4, m5, m6, m7, m8, m9, m10, m11, m12, m13, m14, m15⟩, f0, f1, f2, f3, f4, f5, f6, f7, f8, f9, f10, f11, f12, f13, f14, f15⟩ := M6.out.cells
        go_wp2
        go_roundw
        case rel =>
          have M7 := (M6.out.set 15 (by omega) (.bool ((k6 : Int).tmod 3 == 0)))
          obtain ⟨cur7, r1, r2, r0, r3, r4, r5, r6, r8, r7⟩ := M7
          refine ⟨j + 1, cur7, by omega, by go_num, ?_, r1, r2, fun i hi => ?_, (O6.out.trans (out_grown (grownBy_put _ g (o + j * 16 + 15) (.bool ((k6 : Int).tmod 3 == 0))) (fun k hk => by cases hk; exact ⟨HGL.out.1, HGL.out.2.1⟩)))⟩
          · have hh : ((snL l (j + 1) : Nat) : Int) = (k6 : Int) + 1 := by
              rw [snL_succ, HSJ.out, HQ.out]
              unfold nmX
              have := K6.out
              omega
            rw [hh]
          · by_cases e : i = j
            · subst e
              rw [mkXs_self l i (by rw [HN.out]; exact hi), HSJ.out, HQ.out]
              refine ⟨?_, ⟨⟨r8.st.1, ?_⟩, ?_, r8.bu, r8.bd, ?_⟩⟩
              · rw [HU.out, HD.out]
                have h5 := K5.out
                have h6 := K6.out
                unfold mkX inA
                rw [← h6, ← h5]
                exact r5
              · exact r8.st.2
              · unfold mkX
                have h5 := K5.out
                dsimp only
                rw [← h5]
                exact r8.ids
              · unfold mkX Fit
                dsimp only
                have a1 := mkT_size (sn + 8)
                have a2 := mkT_size (sn + 9)
                have a3 := mkT_size (sn + 10)
                omega
            · rw [mkXs_ne l j i (by rw [HN.out]; exact hi) e]
              exact r7 i (by rw [mkXs_length, HN.out]; exact hi) e
        case measure => simp only [intOf]; omega
    · obtain rfl : j = n := by omega
      go_wp2
      go_ret
      exact ⟨rfl, ⟨_, cap, by rw [mkXs_length, HN.out], by rw [mkXs_length, HN.out]; exact hc1, by rw [mkXs_length, HN.out]; exact hc2, fun _ => ⟨g, o, cur, U, D, b, rfl, ⟨HGL.out.1, HGL.out.2.1, hcs⟩, HROW.out, HBM.out, HBN.out.1, by rw [mkXs_length, HN.out]; exact HBN.out.2, fun i hi => by rw [mkXs_length, HN.out] at hi; exact HEL.out i hi⟩⟩, HCH.out⟩
end Go.Proofs.YtckeeadkhopljaaGreatDoor
/- What is held of the marks on a slice of instances. -/
namespace Go.Proofs.YtckeeadkhopljaaGreatDoor
open Go.RowKit Go.PlainAid
set_option linter.unusedVariables false

set_option maxRecDepth 100000 in
set_option maxHeartbeats 8000000 in
theorem held_instsX (v : Value) (l : List In) (w : World) (hv : Insts w v (mkXs l l.length)) (hn : l.length ≤ 1000) (hl : ∀ j, j < l.length → (nth l j).cmd.ch.length ≤ 1048576 ∧ (nth l j).deps.length ≤ 1048576) :
    Calls Tryz.prog 23 #[v, .int .i64 1] w fun e w' => e = .returned (.int .i64 (snL l l.length : Int)) ∧ Below w.heap.size w w' := by
  obtain ⟨k1, a, ca, rfl, hca, ha⟩ := hv
  rw [mkXs_length] at k1 hca ha ⊢
  have HSN := Lib.hid (fun k (hk : k ≤ l.length) => snL_le hl k hk)
  have HL := Lib.hid hl
  obtain ⟨n, hnn⟩ : ∃ n, l.length = n := ⟨_, rfl⟩
  rw [hnn] at k1 hca ha hn ⊢
  have HN := Lib.hid hnn
  have HA := Lib.hid ha
  clear hnn ha hca hl
  go_enter Tryz.func23, Tryz.ntmps23
  go_wp2
  go_loopw [1, 5] (fun kv i wr => ∃ k : Nat, k ≤ n ∧ i = .int .i64 k ∧ kv = .int .i64 (snL l k : Int) ∧ Below w.heap.size w wr) (fun _ i _ => n - (intOf i).toNat)
  case atStart => exact ⟨0, by omega, rfl, by rw [snL_zero] <;> rfl, Below.refl _ _⟩
  case round =>
    obtain ⟨k, hk, rfl, rfl, hb⟩ := hrel
    have HB := Lib.hid hb
    clear hb
    by_cases hlt : k < n
    · obtain ⟨x, o, rfl, hx, hcx⟩ := HA.out (by omega)
      have hxr : x < wr.heap.size := Nat.lt_of_lt_of_le hx HB.out.size
      obtain ⟨u, d, cc, pp⟩ := hcx k hlt
      have hlj := HL.out k (by rw [HN.out]; exact hlt)
      obtain ⟨sn, hsn⟩ : ∃ sn, snL l k = sn := ⟨_, rfl⟩
      have HSJ := Lib.hid hsn
      have hsb := HSN.out k (by rw [HN.out]; omega)
      obtain ⟨q, hq⟩ : ∃ q, nth l k = q := ⟨_, rfl⟩
      have HQ := Lib.hid hq
      rw [mkXs_at l n k (by rw [HN.out]; exact hlt), if_pos hlt, hsn, hq] at cc pp
      rw [hsn] at hsb ⊢
      rw [hq] at hlj
      have hbnd : (k : Int) * 4194304 ≤ 4194304000 := by omega
      obtain ⟨k5, hk5⟩ : ∃ k5 : Nat, (sn : Int) + 12 + (q.cmd.ch.length : Int) = (k5 : Int) := ⟨sn + 12 + q.cmd.ch.length, by omega⟩
      obtain ⟨k6, hk6⟩ : ∃ k6 : Nat, (k5 : Int) + 1 + 2 * (q.deps.length : Int) = (k6 : Int) := ⟨k5 + 1 + 2 * q.deps.length, by omega⟩
      have HC := Lib.hid (fun W (h : Below wr.heap.size wr W) => (show W.cell? ⟨x, o + k * 16, none⟩ = some (.int .i64 ((sn : Int))) ∧ W.cell? ⟨x, o + k * 16 + 1, none⟩ = some (.int .i64 ((sn : Int) + 1)) ∧ W.cell? ⟨x, o + k * 16 + 2, none⟩ = some (.int .i64 ((sn : Int) + 1 + 1)) ∧ W.cell? ⟨x, o + k * 16 + 3, none⟩ = some (.int .i64 ((sn : Int) + 1 + 1 + 1)) ∧ W.cell? ⟨x, o + k * 16 + 4, none⟩ = some (.int .i64 ((sn : Int) + 1 + 1 + 1 + 1)) ∧ W.cell? ⟨x, o + k * 16 + 5, none⟩ = some (.int .i64 ((sn : Int) + 1 + 1 + 1 + 1 + 1)) ∧ W.cell? ⟨x, o + k * 16 + 6, none⟩ = some (.int .i64 ((sn : Int) + 1 + 1 + 1 + 1 + 1 + 1)) ∧ W.cell? ⟨x, o + k * 16 + 7, none⟩ = some (.int .i64 ((sn : Int) + 1 + 1 + 1 + 1 + 1 + 1 + 1)) ∧ W.cell? ⟨x, o + k * 16 + 8, none⟩ = some (.string (mkT (sn + 8))) ∧ W.cell? ⟨x, o + k * 16 + 9, none⟩ = some (.string (mkT (sn + 9))) ∧ W.cell? ⟨x, o + k * 16 + 10, none⟩ = some (.string (mkT (sn + 10))) ∧ W.cell? ⟨x, o + k * 16 + 11, none⟩ = some (.int .i64 ((sn : Int) + 1 + 1 + 1 + 1 + 1 + 1 + 1 + 1 + 1 + 1 + 1)) ∧ W.cell? ⟨x, o + k * 16 + 12, none⟩ = some (u) ∧ W.cell? ⟨x, o + k * 16 + 13, none⟩ = some (.int .i64 (k5 : Int)) ∧ W.cell? ⟨x, o + k * 16 + 14, none⟩ = some (d) ∧ W.cell? ⟨x, o + k * 16 + 15, none⟩ = some (.bool ((k6 : Int).tmod 3 == 0)) from by
        have h9 := (cc.below HB.out hx).below h hxr
        unfold mkX InC at h9
        dsimp only at h9
        rw [hk5, hk6] at h9
        exact h9))
      have PU := Lib.hid (fun W (h : Below wr.heap.size wr W) => (show Strs W u (mkLs (sn + 12) q.cmd.ch q.cmd.ch.length) ∧ Ids W d (mkI ((k5 : Int) + 1) q.deps q.deps.length) from by
        have h9 := (pp.later HB.out).later h
        unfold mkX at h9
        rw [hk5] at h9
        exact ⟨h9.1, h9.2.1⟩))
      obtain ⟨⟨au, nu, cu, rfl⟩, ad, nd, cd, rfl⟩ := pp.form
      have y1 : (k : Int) < (n : Int) := by omega
      have y0 : (0 : Int) ≤ (k : Int) := by omega
      have b1 : (1 : Int) ≤ (sn : Int) := by omega
      have b2 : (sn : Int) ≤ 4194304001 := by omega
      have b5 : (k5 : Int) ≤ 4195352600 := by have := hlj.1; omega
      have b6 : (k6 : Int) ≤ 4197449800 := by have := hlj.2; omega
      have b51 : (1 : Int) ≤ (k5 : Int) := by omega
      have b61 : (1 : Int) ≤ (k6 : Int) := by omega
      have T8 := Lib.hid (fun W => (by have := mark_textW (sn + 8) W (by omega) (by omega); rw [show ((sn + 8 : Nat) : Int) = (sn : Int) + 1 + 1 + 1 + 1 + 1 + 1 + 1 + 1 by omega] at this; exact this))
      have T9 := Lib.hid (fun W => (by have := mark_textW (sn + 9) W (by omega) (by omega); rw [show ((sn + 9 : Nat) : Int) = (sn : Int) + 1 + 1 + 1 + 1 + 1 + 1 + 1 + 1 + 1 by omega] at this; exact this))
      have T10 := Lib.hid (fun W => (by have := mark_textW (sn + 10) W (by omega) (by omega); rw [show ((sn + 10 : Nat) : Int) = (sn : Int) + 1 + 1 + 1 + 1 + 1 + 1 + 1 + 1 + 1 + 1 by omega] at this; exact this))
      have T12 := Lib.hid (fun W (hW : Strs W (.slice au nu cu) (mkLs (sn + 12) q.cmd.ch q.cmd.ch.length)) => (by have := held_strsX (.slice au nu cu) q.cmd.ch (sn + 12) W hW hlj.1 (by omega) (by omega); rw [show ((sn + 12 : Nat) : Int) = (sn : Int) + 1 + 1 + 1 + 1 + 1 + 1 + 1 + 1 + 1 + 1 + 1 + 1 by omega, show (sn : Int) + 1 + 1 + 1 + 1 + 1 + 1 + 1 + 1 + 1 + 1 + 1 + 1 + (q.cmd.ch.length : Int) = (k5 : Int) by omega] at this; exact this))
      have T14 := Lib.hid (fun W (hW : Ids W (.slice ad nd cd) (mkI ((k5 : Int) + 1) q.deps q.deps.length)) => (by have := held_idL (.slice ad nd cd) q.deps ((k5 : Int) + 1) W hW (by have := hlj.2; omega) (by omega) (by omega); rw [hk6] at this; exact this))
      have K6 := Lib.hid (show ((snL l (k + 1) : Nat) : Int) = (k6 : Int) + 1 by
        rw [snL_succ, hsn, hq]
        unfold nmX
        omega)
      clear hcx cc pp hsn hq hsb hbnd hk5 hk6 hlj
      obtain ⟨c0, c1, c2, c3, c4, c5, c6, c7, c8, c9, c10, c11, c12, c13, c14, c15⟩ := HC.out wr (Below.refl _ _)
      go_wp2_with fail
      go_region_held3 (fun w' => w'.cell? ⟨x, o + k * 16 + 8, none⟩ = some (.string (mkT (sn + 8)))) (first | (with_reducible exact c8) | (with_reducible exact CY.out) | go_keep)
        (first | (go_at_call 46; refine (T8.out _).mono ?_; rintro e w2 ⟨rfl, hb⟩; have L2 := Lib.hid (show Below wr.heap.size wr w2 from (Below.refl _ _).drew.trans hb); have CY := Lib.hid (HC.out w2 L2.out).2.2.2.2.2.2.2.2.1; clear hb))
      clear c0 c1 c2 c3 c4 c5 c6 c7 c8 c9 c10 c11 c12 c13 c14 c15 CY
      obtain ⟨c0, c1, c2, c3, c4, c5, c6, c7, c8, c9, c10, c11, c12, c13, c14, c15⟩ := HC.out w2 L2.out
      go_wp2_with fail
      go_region_held3 (fun w' => w'.cell? ⟨x, o + k * 16 + 9, none⟩ = some (.string (mkT (sn + 9)))) (first | (with_reducible exact c9) | (with_reducible exact CY.out) | go_keep)
        (first | (go_at_call 46; refine (T9.out _).mono ?_; rintro e w3 ⟨rfl, hb⟩; have L3 := Lib.hid (show Below wr.heap.size wr w3 from (Below.drew L2.out).trans (hb.mono (Below.size (Below.drew L2.out)))); have CY := Lib.hid (HC.out w3 L3.out).2.2.2.2.2.2.2.2.2.1; clear hb))
      clear c0 c1 c2 c3 c4 c5 c6 c7 c8 c9 c10 c11 c12 c13 c14 c15 CY
      obtain ⟨c0, c1, c2, c3, c4, c5, c6, c7, c8, c9, c10, c11, c12, c13, c14, c15⟩ := HC.out w3 L3.out
      go_wp2_with fail
      go_region_held3 (fun w' => w'.cell? ⟨x, o + k * 16 + 10, none⟩ = some (.string (mkT (sn + 10)))) (first | (with_reducible exact c10) | (with_reducible exact CY.out) | go_keep)
        (first | (go_at_call 46; refine (T10.out _).mono ?_; rintro e w4 ⟨rfl, hb⟩; have L4 := Lib.hid (show Below wr.heap.size wr w4 from (Below.drew L3.out).trans (hb.mono (Below.size (Below.drew L3.out)))); have CY := Lib.hid (HC.out w4 L4.out).2.2.2.2.2.2.2.2.2.2.1; clear hb))
      clear c0 c1 c2 c3 c4 c5 c6 c7 c8 c9 c10 c11 c12 c13 c14 c15 CY
      obtain ⟨c0, c1, c2, c3, c4, c5, c6, c7, c8, c9, c10, c11, c12, c13, c14, c15⟩ := HC.out w4 L4.out
      go_wp2_with fail
      clear c0 c1 c2 c3 c4 c5 c6 c7 c8 c9 c10 c11 c12 c13 c14 c15
      refine (T12.out _ (PU.out _ L4.out).1).mono ?_
      rintro e w5 ⟨rfl, hb⟩
      have L5 := Lib.hid (show Below wr.heap.size wr w5 from L4.out.trans (hb.mono (Below.size L4.out)))
      have hd5 : decide ((k5 : Int) < 0) = false := decide_eq_false (by omega)
      clear hb
      obtain ⟨c0, c1, c2, c3, c4, c5, c6, c7, c8, c9, c10, c11, c12, c13, c14, c15⟩ := HC.out w5 L5.out
      go_wp2_with fail
      clear c0 c1 c2 c3 c4 c5 c6 c7 c8 c9 c10 c11 c12 c13 c14 c15 hd5
      refine (T14.out _ (PU.out _ L5.out).2).mono ?_
      rintro e w6 ⟨rfl, hb⟩
      have L6 := Lib.hid (show Below wr.heap.size wr w6 from L5.out.trans (hb.mono (Below.size L5.out)))
      have hd6 : decide ((k6 : Int) < 0) = false := decide_eq_false (by omega)
      have HB6 := Lib.hid (HB.out.trans (L6.out.mono HB.out.size))
      clear hb
      obtain ⟨c0, c1, c2, c3, c4, c5, c6, c7, c8, c9, c10, c11, c12, c13, c14, c15⟩ := HC.out w6 L6.out
      go_wp2
      go_roundw
      case rel => exact ⟨k + 1, by omega, by go_num, by rw [K6.out], HB6.out⟩
      case measure => simp only [intOf]; omega
    · obtain rfl : k = n := by omega
      go_wp2
      go_ret
      exact ⟨rfl, HB.out⟩
end Go.Proofs.YtckeeadkhopljaaGreatDoor
