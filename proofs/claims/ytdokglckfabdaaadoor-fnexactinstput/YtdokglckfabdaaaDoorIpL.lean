/- A bundle of texts: InRl, ExK, ExH, QTake, QMix, IpLaw. -/
import Derived.Test.YtdokglckfabdaaaDoorInR
import Derived.Test.YtdokglckfabdaaaDoorExM
import Derived.Test.YtdokglckfabdaaaDoorRows
import Derived.WalkKit
import Derived.OrdersHeld
import Derived.StillTail
import Derived.Test.YtdokglckfabdaaaDoorIpN
import Derived.Test.YtdokglckfabdaaaDoorInWr
/- A whole instance of the laws' own type is loaded in one step. -/
namespace Go.Proofs.YtdokglckfabdaaaDoor
open Go.RowKit Go.PlainAid
set_option linter.unusedVariables false

theorem Tryd.sizeLInsR : (Tryd.prog.info? 30).map (·.size) = some 16 := by kernel_rfl
theorem load_linst_pre (d : Option Tmp) (p : Operand) (ty : TypeId) (pos : String) (af : Array Edge) (gd : Option (Tmp × Bool)) (a : Act) (w : World) (K : Act → World → Prop) (Q : Exit → Act → World → Prop)
    (hx : a.eval p = .pointer (some ⟨blkI (a.eval p), 0, none⟩)) (hr : rowPI 30 w (blkI (a.eval p))) :
    Oper.wp Tryd.prog ⟨d, .load 30 p, ty, pos, af, gd⟩ a w K Q = K (a.put d (.agg (rowCI w (blkI (a.eval p))))) w := by
  obtain ⟨c, ho, hz⟩ := hr
  generalize hvx : a.eval p = vx at hx ho ⊢
  generalize blkI vx = g at hx ho ⊢
  subst hx
  have hc : rowCI w g = c := by unfold rowCI; rw [ho]
  rw [hc]
  unfold Oper.wp execOp
  simp only [hvx, Instr.loadAt, Instr.sureAddr, Sem.run_bind, Sem.run_pure, Result.andThen_ok, run_loadVar_row w g 30 30 c (0, 0) _ ho Tryd.underlying30 rfl (by rw [Tryd.sizeLInsR, hz])]
  rfl
theorem exec_load_linst {d : Option Tmp} {p : Operand} {ty : TypeId} {pos : String} {af : Array Edge} {gd : Option (Tmp × Bool)} {a : Act} {w : World} {g : Nat} {c : Array Value} (hx : a.eval p = .pointer (some ⟨g, 0, none⟩)) (h : Bx w g 30 c) (hz : c.size = 16) :
    (execOp a.eval ⟨d, .load 30 p, ty, pos, af, gd⟩).run Tryd.prog w = .ok (.value (.agg c)) w := by
  unfold execOp
  simp only [hx, Instr.loadAt, Instr.sureAddr, Sem.run_bind, Sem.run_pure, Result.andThen_ok, run_loadVar_row w g 30 30 c (0, 0) _ h Tryd.underlying30 rfl (by rw [Tryd.sizeLInsR, hz])]
end Go.Proofs.YtdokglckfabdaaaDoor
/- The laws' marks on a slice of instances: exact. -/
namespace Go.Proofs.YtdokglckfabdaaaDoor
open Go.RowKit Go.PlainAid
set_option linter.unusedVariables false

set_option maxRecDepth 100000 in
set_option maxHeartbeats 8000000 in
theorem mark_instsX (v : Value) (l : List In) (lo hi : Nat) (w : World) (hv : InOwnX w lo hi v l) (hn : l.length ≤ 1000) (hl : ∀ j, j < l.length → (nth l j).cmd.ch.length ≤ 1048576 ∧ (nth l j).deps.length ≤ 1048576) :
    Calls Tryd.prog 12 #[v, .int .i64 1] w fun e w' => e = .returned (.int .i64 (snL l l.length : Int)) ∧ InOwnX w' lo hi v (mkXs l l.length) ∧ Out lo hi w w' := by
  obtain ⟨a, cap, rfl, hc1, hc2, h3⟩ := hv
  by_cases h0 : 0 < l.length
  case neg =>
    have hl0 : l = [] := List.eq_nil_of_length_eq_zero (by omega)
    subst hl0
    clear h3 hl
    go_enter Tryd.func12, Tryd.ntmps12
    go_wp2
    go_loop [1, 5] (fun kv i => kv = .int .i64 1 ∧ i = .int .i64 0) (fun _ _ => 0)
    case atStart => exact ⟨rfl, rfl⟩
    case round =>
      obtain ⟨rfl, rfl⟩ := hrel
      go_wp2
      go_ret
      exact ⟨by rw [snL_zero]; rfl, inOwnX_nil _ _ _ _ _, Out.refl _ _ _⟩
  obtain ⟨g, o, cur0, U, D, b, rfl, hgl, hrow, hbm, hb0, hbn, hel⟩ := h3 h0
  have HSN := Lib.hid (fun k (hk : k ≤ l.length) => snL_le hl k hk)
  have HL := Lib.hid hl
  have HEL := Lib.hid hel
  have HROW := Lib.hid hrow
  have HBM := Lib.hid hbm
  have HGL := Lib.hid hgl
  obtain ⟨n, hnn⟩ : ∃ n, l.length = n := ⟨_, rfl⟩
  have HN := Lib.hid hnn
  rw [hnn] at hn hc1 hc2 hbn ⊢
  have HBN := Lib.hid (And.intro hb0 hbn)
  clear h3 hl hel hrow hbm hgl hb0 hbn hnn h0
  go_enter Tryd.func12, Tryd.ntmps12
  go_wp2
  go_loopw [1, 5] (fun kv i wr => ∃ (j : Nat) (cur : Array Value), j ≤ n ∧ i = .int .i64 j ∧ kv = .int .i64 (snL l j : Int) ∧ wr.heap[g]? = some (.cells cur 40 (0, 0)) ∧ o + cap * 16 ≤ cur.size ∧ (∀ i, i < n → InBv cur (o + i * 16) (inA (nth (mkXs l j) i) (U i) (D i)) ∧ PtO wr (b i) (b (i + 1)) (nth (mkXs l j) i) (U i) (D i)) ∧ Out lo hi w wr) (fun _ i _ => n - (intOf i).toNat)
  case atStart => exact ⟨0, cur0, by omega, rfl, by rw [snL_zero] <;> rfl, HROW.out, HGL.out.2.2, by rw [mkXs_zero]; exact fun i hi => HEL.out i (by rw [HN.out]; exact hi), Out.refl _ _ _⟩
  case round =>
    clear HROW HEL
    obtain ⟨j, cur, hj, rfl, rfl, hrow, hcs, hel, hch⟩ := hrel
    have HCH := Lib.hid hch
    have HEL := Lib.hid hel
    have HROW := Lib.hid hrow
    clear hch hel hrow
    by_cases hlt : j < n
    · have y1 : (j : Int) < (n : Int) := by omega
      have y0 : (0 : Int) ≤ (j : Int) := by omega
      have hlj := HL.out j (by rw [HN.out]; exact hlt)
      obtain ⟨sn, hsn⟩ : ∃ sn, snL l j = sn := ⟨_, rfl⟩
      have HSJ := Lib.hid hsn
      have hsb := HSN.out j (by rw [HN.out]; omega)
      rw [hsn] at hsb ⊢
      obtain ⟨q, hq⟩ : ∃ q, nth l j = q := ⟨_, rfl⟩
      have HQ := Lib.hid hq
      rw [hq] at hlj
      obtain ⟨e1, e2⟩ := HEL.out j hlt
      rw [mkXs_at l j j (by rw [HN.out]; exact hlt), if_neg (by omega), hq] at e1 e2
      obtain ⟨au, nu, cu, hU⟩ : ∃ a n c, U j = .slice a n c := e2.pts.form.1
      obtain ⟨ad, nd, cd, hD⟩ : ∃ a n c, D j = .slice a n c := e2.pts.form.2
      have HU := Lib.hid hU
      have HD := Lib.hid hD
      have M0 := Lib.hid (show MkE (mkXs l j) U D b g o cap j  [.int .i64 q.rep, .int .i64 q.slot, .int .i64 q.bal, .int .i64 q.vbal, .int .i64 q.st, .int .i64 q.cmd.kind, .int .i64 q.cmd.client, .int .i64 q.cmd.no, .string q.cmd.set, .string q.cmd.name, .string q.cmd.tag, .int .i64 q.cmd.n, .slice au nu cu, .int .i64 q.seq, .slice ad nd cd, .bool q.same] q wr from ⟨cur, HROW.out, hcs, by rw [mkXs_length, HN.out]; exact hc1, by rw [mkXs_length, HN.out]; exact hlt, rfl, by rw [hU, hD] at e1; exact e1, HBM.out, e2, fun i hi _ => HEL.out i (by rw [mkXs_length, HN.out] at hi; exact hi)⟩)
      have hbj1 : lo ≤ b j := by have := mono_of HBM.out (Nat.zero_le j); have := HBN.out.1; omega
      have hbj2 : b (j + 1) ≤ hi := by have := mono_of HBM.out (show j + 1 ≤ n by omega); have := HBN.out.2; omega
      have hbnd : (j : Int) * 4194304 ≤ 4194304000 := by omega
      have b1 : (1 : Int) ≤ (sn : Int) := by omega
      have b2 : (sn : Int) ≤ 4194304001 := by omega
      clear hsn hq e1 e2 HROW HEL hcs hU hD hsb hbnd
      have T8 := Lib.hid (fun W => (by have := mark_textW (sn + 8) W (by omega) (by omega); rw [show ((sn + 8 : Nat) : Int) = (sn : Int) + 1 + 1 + 1 + 1 + 1 + 1 + 1 + 1 by omega] at this; exact this))
      have T9 := Lib.hid (fun W => (by have := mark_textW (sn + 9) W (by omega) (by omega); rw [show ((sn + 9 : Nat) : Int) = (sn : Int) + 1 + 1 + 1 + 1 + 1 + 1 + 1 + 1 + 1 by omega] at this; exact this))
      have T10 := Lib.hid (fun W => (by have := mark_textW (sn + 10) W (by omega) (by omega); rw [show ((sn + 10 : Nat) : Int) = (sn : Int) + 1 + 1 + 1 + 1 + 1 + 1 + 1 + 1 + 1 + 1 by omega] at this; exact this))
      have T12 := Lib.hid (fun W (hW : GrowsS W (b j) (.slice au nu cu) q.cmd.ch) => (by have := mark_strsX (.slice au nu cu) q.cmd.ch (b j) (sn + 12) W hW hlj.1 (by omega) (by omega); rw [show ((sn + 12 : Nat) : Int) = (sn : Int) + 1 + 1 + 1 + 1 + 1 + 1 + 1 + 1 + 1 + 1 + 1 + 1 by omega] at this; exact this))
      obtain ⟨⟨m0, m1, m2, m3, m4, m5, m6, m7, m8, m9, m10, m11, m12, m13, m14, m15⟩, f0, f1, f2, f3, f4, f5, f6, f7, f8, f9, f10, f11, f12, f13, f14, f15⟩ := M0.out.cells
      go_wp2_with fail
      clear m0 m1 m2 m3 m4 m5 m6 m7 m8 m9 m10 m11 m12 m13 m14 m15 f0 f1 f2 f3 f4 f5 f6 f7 f8 f9 f10 f11 f12 f13 f14 f15
      have MA := Lib.hid (show MkE (mkXs l j) U D b g o cap j  [.int .i64 ((sn : Int)), .int .i64 ((sn : Int) + 1), .int .i64 ((sn : Int) + 1 + 1), .int .i64 ((sn : Int) + 1 + 1 + 1), .int .i64 ((sn : Int) + 1 + 1 + 1 + 1), .int .i64 ((sn : Int) + 1 + 1 + 1 + 1 + 1), .int .i64 ((sn : Int) + 1 + 1 + 1 + 1 + 1 + 1), .int .i64 ((sn : Int) + 1 + 1 + 1 + 1 + 1 + 1 + 1), .string q.cmd.set, .string q.cmd.name, .string q.cmd.tag, .int .i64 q.cmd.n, .slice au nu cu, .int .i64 q.seq, .slice ad nd cd, .bool q.same] q _ from ((((((((M0.out.set 0 (by omega) (.int .i64 ((sn : Int)))).set 1 (by omega) (.int .i64 ((sn : Int) + 1))).set 2 (by omega) (.int .i64 ((sn : Int) + 1 + 1))).set 3 (by omega) (.int .i64 ((sn : Int) + 1 + 1 + 1))).set 4 (by omega) (.int .i64 ((sn : Int) + 1 + 1 + 1 + 1))).set 5 (by omega) (.int .i64 ((sn : Int) + 1 + 1 + 1 + 1 + 1))).set 6 (by omega) (.int .i64 ((sn : Int) + 1 + 1 + 1 + 1 + 1 + 1))).set 7 (by omega) (.int .i64 ((sn : Int) + 1 + 1 + 1 + 1 + 1 + 1 + 1))))
      have OA := Lib.hid ((((((((HCH.out.trans (out_grown (grownBy_put _ g (o + j * 16 + 0) (.int .i64 ((sn : Int)))) (fun k hk => by cases hk; exact ⟨HGL.out.1, HGL.out.2.1⟩))).trans (out_grown (grownBy_put _ g (o + j * 16 + 1) (.int .i64 ((sn : Int) + 1))) (fun k hk => by cases hk; exact ⟨HGL.out.1, HGL.out.2.1⟩))).trans (out_grown (grownBy_put _ g (o + j * 16 + 2) (.int .i64 ((sn : Int) + 1 + 1))) (fun k hk => by cases hk; exact ⟨HGL.out.1, HGL.out.2.1⟩))).trans (out_grown (grownBy_put _ g (o + j * 16 + 3) (.int .i64 ((sn : Int) + 1 + 1 + 1))) (fun k hk => by cases hk; exact ⟨HGL.out.1, HGL.out.2.1⟩))).trans (out_grown (grownBy_put _ g (o + j * 16 + 4) (.int .i64 ((sn : Int) + 1 + 1 + 1 + 1))) (fun k hk => by cases hk; exact ⟨HGL.out.1, HGL.out.2.1⟩))).trans (out_grown (grownBy_put _ g (o + j * 16 + 5) (.int .i64 ((sn : Int) + 1 + 1 + 1 + 1 + 1))) (fun k hk => by cases hk; exact ⟨HGL.out.1, HGL.out.2.1⟩))).trans (out_grown (grownBy_put _ g (o + j * 16 + 6) (.int .i64 ((sn : Int) + 1 + 1 + 1 + 1 + 1 + 1))) (fun k hk => by cases hk; exact ⟨HGL.out.1, HGL.out.2.1⟩))).trans (out_grown (grownBy_put _ g (o + j * 16 + 7) (.int .i64 ((sn : Int) + 1 + 1 + 1 + 1 + 1 + 1 + 1))) (fun k hk => by cases hk; exact ⟨HGL.out.1, HGL.out.2.1⟩)))
      refine (T8.out _).mono ?_
      rintro e w2 ⟨rfl, b2'⟩
      have M2 := Lib.hid (MA.out.later b2')
      have O2 := Lib.hid (OA.out.trans (out_below b2'))
      clear b2' MA M0 T8 OA HCH
      obtain ⟨⟨m0, m1, m2, m3, m4, m5, m6, m7, m8, m9, m10, m11, m12, m13, m14, m15⟩, f0, f1, f2, f3, f4, f5, f6, f7, f8, f9, f10, f11, f12, f13, f14, f15⟩ := M2.out.cells
      go_wp2_with fail
      clear m0 m1 m2 m3 m4 m5 m6 m7 m8 m9 m10 m11 m12 m13 m14 m15 f0 f1 f2 f3 f4 f5 f6 f7 f8 f9 f10 f11 f12 f13 f14 f15
      have MA := Lib.hid (show MkE (mkXs l j) U D b g o cap j  [.int .i64 ((sn : Int)), .int .i64 ((sn : Int) + 1), .int .i64 ((sn : Int) + 1 + 1), .int .i64 ((sn : Int) + 1 + 1 + 1), .int .i64 ((sn : Int) + 1 + 1 + 1 + 1), .int .i64 ((sn : Int) + 1 + 1 + 1 + 1 + 1), .int .i64 ((sn : Int) + 1 + 1 + 1 + 1 + 1 + 1), .int .i64 ((sn : Int) + 1 + 1 + 1 + 1 + 1 + 1 + 1), .string (mkT (sn + 8)), .string q.cmd.name, .string q.cmd.tag, .int .i64 q.cmd.n, .slice au nu cu, .int .i64 q.seq, .slice ad nd cd, .bool q.same] q _ from (M2.out.set 8 (by omega) (.string (mkT (sn + 8)))))
      have OA := Lib.hid (O2.out.trans (out_grown (grownBy_put _ g (o + j * 16 + 8) (.string (mkT (sn + 8)))) (fun k hk => by cases hk; exact ⟨HGL.out.1, HGL.out.2.1⟩)))
      refine (T9.out _).mono ?_
      rintro e w3 ⟨rfl, b2'⟩
      have M3 := Lib.hid (MA.out.later b2')
      have O3 := Lib.hid (OA.out.trans (out_below b2'))
      clear b2' MA M2 T9 OA O2
      obtain ⟨⟨m0, m1, m2, m3, m4, m5, m6, m7, m8, m9, m10, m11, m12, m13, m14, m15⟩, f0, f1, f2, f3, f4, f5, f6, f7, f8, f9, f10, f11, f12, f13, f14, f15⟩ := M3.out.cells
      go_wp2_with fail
      clear m0 m1 m2 m3 m4 m5 m6 m7 m8 m9 m10 m11 m12 m13 m14 m15 f0 f1 f2 f3 f4 f5 f6 f7 f8 f9 f10 f11 f12 f13 f14 f15
      have MA := Lib.hid (show MkE (mkXs l j) U D b g o cap j  [.int .i64 ((sn : Int)), .int .i64 ((sn : Int) + 1), .int .i64 ((sn : Int) + 1 + 1), .int .i64 ((sn : Int) + 1 + 1 + 1), .int .i64 ((sn : Int) + 1 + 1 + 1 + 1), .int .i64 ((sn : Int) + 1 + 1 + 1 + 1 + 1), .int .i64 ((sn : Int) + 1 + 1 + 1 + 1 + 1 + 1), .int .i64 ((sn : Int) + 1 + 1 + 1 + 1 + 1 + 1 + 1), .string (mkT (sn + 8)), .string (mkT (sn + 9)), .string q.cmd.tag, .int .i64 q.cmd.n, .slice au nu cu, .int .i64 q.seq, .slice ad nd cd, .bool q.same] q _ from (M3.out.set 9 (by omega) (.string (mkT (sn + 9)))))
      have OA := Lib.hid (O3.out.trans (out_grown (grownBy_put _ g (o + j * 16 + 9) (.string (mkT (sn + 9)))) (fun k hk => by cases hk; exact ⟨HGL.out.1, HGL.out.2.1⟩)))
      refine (T10.out _).mono ?_
      rintro e w4 ⟨rfl, b2'⟩
      have M4 := Lib.hid (MA.out.later b2')
      have O4 := Lib.hid (OA.out.trans (out_below b2'))
      clear b2' MA M3 T10 OA O3
      obtain ⟨⟨m0, m1, m2, m3, m4, m5, m6, m7, m8, m9, m10, m11, m12, m13, m14, m15⟩, f0, f1, f2, f3, f4, f5, f6, f7, f8, f9, f10, f11, f12, f13, f14, f15⟩ := M4.out.cells
      go_wp2_with fail
      clear m0 m1 m2 m3 m4 m5 m6 m7 m8 m9 m10 m11 m12 m13 m14 m15 f0 f1 f2 f3 f4 f5 f6 f7 f8 f9 f10 f11 f12 f13 f14 f15
      have MD := Lib.hid (show MkE (mkXs l j) U D b g o cap j  [.int .i64 ((sn : Int)), .int .i64 ((sn : Int) + 1), .int .i64 ((sn : Int) + 1 + 1), .int .i64 ((sn : Int) + 1 + 1 + 1), .int .i64 ((sn : Int) + 1 + 1 + 1 + 1), .int .i64 ((sn : Int) + 1 + 1 + 1 + 1 + 1), .int .i64 ((sn : Int) + 1 + 1 + 1 + 1 + 1 + 1), .int .i64 ((sn : Int) + 1 + 1 + 1 + 1 + 1 + 1 + 1), .string (mkT (sn + 8)), .string (mkT (sn + 9)), .string (mkT (sn + 10)), .int .i64 ((sn : Int) + 1 + 1 + 1 + 1 + 1 + 1 + 1 + 1 + 1 + 1 + 1), .slice au nu cu, .int .i64 q.seq, .slice ad nd cd, .bool q.same] q _ from ((M4.out.set 10 (by omega) (.string (mkT (sn + 10)))).set 11 (by omega) (.int .i64 ((sn : Int) + 1 + 1 + 1 + 1 + 1 + 1 + 1 + 1 + 1 + 1 + 1))))
      have OD := Lib.hid ((O4.out.trans (out_grown (grownBy_put _ g (o + j * 16 + 10) (.string (mkT (sn + 10)))) (fun k hk => by cases hk; exact ⟨HGL.out.1, HGL.out.2.1⟩))).trans (out_grown (grownBy_put _ g (o + j * 16 + 11) (.int .i64 ((sn : Int) + 1 + 1 + 1 + 1 + 1 + 1 + 1 + 1 + 1 + 1 + 1))) (fun k hk => by cases hk; exact ⟨HGL.out.1, HGL.out.2.1⟩)))
      have hp := MD.out.pts
      rw [HU.out, HD.out] at hp
      have HP := Lib.hid hp
      refine (T12.out _ hp.st.1).mono ?_
      rintro e w5 ⟨rfl, g5, c5⟩
      have M5 := Lib.hid (MD.out.part (x' := ⟨q.rep, q.slot, q.bal, q.vbal, q.st, ⟨q.cmd.kind, q.cmd.client, q.cmd.no, q.cmd.set, q.cmd.name, q.cmd.tag, q.cmd.n, mkLs (sn + 12) q.cmd.ch q.cmd.ch.length⟩, q.seq, q.deps, q.same⟩) _ c5 (fun p hq' => by obtain ⟨cr, hcr⟩ := MD.out.row; exact ⟨fun e => (HP.out.ne_row hcr).1 (by rw [← e]; exact hq'), HP.out.bu p hq'⟩) (by
        rw [HU.out, HD.out]
        exact ⟨⟨g5, mkLs_small _ _ (by have := hlj.1; omega)⟩, HP.out.ids.keepB c5 (fun h0 k hk hd => st_id_apart HP.out.st.1 HP.out.ids h0 k hk hd), HP.out.bu, HP.out.bd, HP.out.fit⟩))
      have O5 := Lib.hid (OD.out.trans (out_grown c5 (fun k hk => by have := HP.out.bu k hk; omega)))
      clear g5 c5 hp HP MD M4 OD O4 T12
      obtain ⟨k5, hk5⟩ : ∃ k5 : Nat, (sn : Int) + 1 + 1 + 1 + 1 + 1 + 1 + 1 + 1 + 1 + 1 + 1 + 1 + (q.cmd.ch.length : Int) = (k5 : Int) := ⟨sn + 12 + q.cmd.ch.length, by omega⟩
      rw [hk5]
      have K5 := Lib.hid (show (k5 : Int) = (sn : Int) + 12 + (q.cmd.ch.length : Int) by omega)
      have k5a : (1 : Int) ≤ (k5 : Int) := by omega
      have k5b : (k5 : Int) ≤ 4195352600 := by have := hlj.1; omega
      clear hk5
      obtain ⟨⟨m0, m1, m2, m3, m4, m5, m6, m7, m8, m9, m10, m11, m12, m13, m14, m15⟩, f0, f1, f2, f3, f4, f5, f6, f7, f8, f9, f10, f11, f12, f13, f14, f15⟩ := M5.out.cells
      go_wp2_with fail
      clear m0 m1 m2 m3 m4 m5 m6 m7 m8 m9 m10 m11 m12 m13 m14 m15 f0 f1 f2 f3 f4 f5 f6 f7 f8 f9 f10 f11 f12 f13 f14 f15
      have ME := Lib.hid (show MkE (mkXs l j) U D b g o cap j  [.int .i64 ((sn : Int)), .int .i64 ((sn : Int) + 1), .int .i64 ((sn : Int) + 1 + 1), .int .i64 ((sn : Int) + 1 + 1 + 1), .int .i64 ((sn : Int) + 1 + 1 + 1 + 1), .int .i64 ((sn : Int) + 1 + 1 + 1 + 1 + 1), .int .i64 ((sn : Int) + 1 + 1 + 1 + 1 + 1 + 1), .int .i64 ((sn : Int) + 1 + 1 + 1 + 1 + 1 + 1 + 1), .string (mkT (sn + 8)), .string (mkT (sn + 9)), .string (mkT (sn + 10)), .int .i64 ((sn : Int) + 1 + 1 + 1 + 1 + 1 + 1 + 1 + 1 + 1 + 1 + 1), .slice au nu cu, .int .i64 (k5 : Int), .slice ad nd cd, .bool q.same] _ _ from (M5.out.set 13 (by omega) (.int .i64 (k5 : Int))))
      have OE := Lib.hid (O5.out.trans (out_grown (grownBy_put _ g (o + j * 16 + 13) (.int .i64 (k5 : Int))) (fun k hk => by cases hk; exact ⟨HGL.out.1, HGL.out.2.1⟩)))
      clear M5 O5
      have hp := ME.out.pts
      rw [HU.out, HD.out] at hp
      have HP := Lib.hid hp
      clear hp
      have HFIN : ∀ (w6 : World), w6.heap.size = w6.heap.size := fun _ => rfl
      by_cases hd0 : 0 < q.deps.length
      · refine (mark_idL _ q.deps (b j) _ _ HP.out.ids (by have := hlj.2; omega) (by omega) (by omega)).mono ?_
        rintro e w6 ⟨rfl, d6, c6⟩
        have M6 := Lib.hid (ME.out.part (x' := ⟨q.rep, q.slot, q.bal, q.vbal, q.st, ⟨q.cmd.kind, q.cmd.client, q.cmd.no, q.cmd.set, q.cmd.name, q.cmd.tag, q.cmd.n, mkLs (sn + 12) q.cmd.ch q.cmd.ch.length⟩, q.seq, mkI ((k5 : Int) + 1) q.deps q.deps.length, q.same⟩) _ c6 (fun p hq' => by obtain ⟨cr, hcr⟩ := ME.out.row; exact ⟨fun e => (HP.out.ne_row hcr).2 hd0 (by rw [← e]; exact hq'), HP.out.bd p hq'⟩) (by
          rw [HU.out, HD.out]
          exact ⟨⟨HP.out.st.1.keepB c6 (fun k hk hu => st_id_apart HP.out.st.1 HP.out.ids hd0 k hu hk), HP.out.st.2⟩, d6, HP.out.bu, HP.out.bd, HP.out.fit⟩))
        have O6 := Lib.hid (OE.out.trans (out_grown c6 (fun k hk => by have := HP.out.bd k hk; omega)))
        clear d6 c6 HP ME OE
        obtain ⟨k6, hk6⟩ : ∃ k6 : Nat, (k5 : Int) + 1 + 2 * (q.deps.length : Int) = (k6 : Int) := ⟨k5 + 1 + 2 * q.deps.length, by omega⟩
        rw [hk6]
        have K6 := Lib.hid (show (k6 : Int) = (sn : Int) + 12 + (q.cmd.ch.length : Int) + 1 + 2 * (q.deps.length : Int) by have := K5.out; omega)
        have k6b : (k6 : Int) ≤ 4197449800 := by have := hlj.2; omega
        clear hk6 hd0
        obtain ⟨⟨m0, m1, m2, m3, m4, m5, m6, m7, m8, m9, m10, m11, m12, m13, m14, m15⟩, f0, f1, f2, f3, f4, f5, f6, f7, f8, f9, f10, f11, f12, f13, f14, f15⟩ := M6.out.cells
        go_wp2
        go_roundw
        case rel =>
          have M7 := (M6.out.set 15 (by omega) (.bool ((k6 : Int).tmod 3 == 0)))
          obtain ⟨cur7, r1, r2, r0, r3, r4, r5, r6, r8, r7⟩ := M7
          refine ⟨j + 1, cur7, by omega, by go_num, ?_, r1, r2, fun i hi => ?_, (O6.out.trans (out_grown (grownBy_put _ g (o + j * 16 + 15) (.bool ((k6 : Int).tmod 3 == 0))) (fun k hk => by cases hk; exact ⟨HGL.out.1, HGL.out.2.1⟩)))⟩
          · have hh : ((snL l (j + 1) : Nat) : Int) = (k6 : Int) + 1 := by
              rw [snL_succ, HSJ.out, HQ.out]
              unfold nmX
              have := K6.out
              omega
            rw [hh]
          · by_cases e : i = j
            · subst e
              rw [mkXs_self l i (by rw [HN.out]; exact hi), HSJ.out, HQ.out]
              refine ⟨?_, ⟨⟨r8.st.1, ?_⟩, ?_, r8.bu, r8.bd, ?_⟩⟩
              · rw [HU.out, HD.out]
                have h5 := K5.out
                have h6 := K6.out
                unfold mkX inA
                rw [← h6, ← h5]
                exact r5
              · exact r8.st.2
              · unfold mkX
                have h5 := K5.out
                dsimp only
                rw [← h5]
                exact r8.ids
              · unfold mkX Fit
                dsimp only
                have a1 := mkT_size (sn + 8)
                have a2 := mkT_size (sn + 9)
                have a3 := mkT_size (sn + 10)
                omega
            · rw [mkXs_ne l j i (by rw [HN.out]; exact hi) e]
              exact r7 i (by rw [mkXs_length, HN.out]; exact hi) e
        case measure => simp only [intOf]; omega
      · have e0 : q.deps = [] := List.eq_nil_of_length_eq_zero (by omega)
        have hn2 : nd = 0 := by
          obtain ⟨_, _, e, _⟩ := HP.out.ids
          simp only [Value.slice.injEq] at e
          have : (q.deps).length = 0 := by omega
          omega
        subst hn2
        refine (mark_id_nil _ _ _ _).mono ?_
        rintro e w6 ⟨rfl, rfl⟩
        have M6 := Lib.hid (show MkE (mkXs l j) U D b g o cap j  [.int .i64 ((sn : Int)), .int .i64 ((sn : Int) + 1), .int .i64 ((sn : Int) + 1 + 1), .int .i64 ((sn : Int) + 1 + 1 + 1), .int .i64 ((sn : Int) + 1 + 1 + 1 + 1), .int .i64 ((sn : Int) + 1 + 1 + 1 + 1 + 1), .int .i64 ((sn : Int) + 1 + 1 + 1 + 1 + 1 + 1), .int .i64 ((sn : Int) + 1 + 1 + 1 + 1 + 1 + 1 + 1), .string (mkT (sn + 8)), .string (mkT (sn + 9)), .string (mkT (sn + 10)), .int .i64 ((sn : Int) + 1 + 1 + 1 + 1 + 1 + 1 + 1 + 1 + 1 + 1 + 1), .slice au nu cu, .int .i64 (k5 : Int), .slice ad 0 cd, .bool q.same] ⟨q.rep, q.slot, q.bal, q.vbal, q.st, ⟨q.cmd.kind, q.cmd.client, q.cmd.no, q.cmd.set, q.cmd.name, q.cmd.tag, q.cmd.n, mkLs (sn + 12) q.cmd.ch q.cmd.ch.length⟩, q.seq, mkI ((k5 : Int) + 1) q.deps q.deps.length, q.same⟩ _ by
          rw [e0] at ME ⊢
          exact ME.out)
        have O6 := OE
        rw [show (k5 : Int) + 1 = (k5 : Int) + 1 + 2 * (q.deps.length : Int) by rw [e0]; simp]
        clear HP ME OE
        obtain ⟨k6, hk6⟩ : ∃ k6 : Nat, (k5 : Int) + 1 + 2 * (q.deps.length : Int) = (k6 : Int) := ⟨k5 + 1 + 2 * q.deps.length, by omega⟩
        rw [hk6]
        have K6 := Lib.hid (show (k6 : Int) = (sn : Int) + 12 + (q.cmd.ch.length : Int) + 1 + 2 * (q.deps.length : Int) by have := K5.out; omega)
        have k6b : (k6 : Int) ≤ 4197449800 := by have := hlj.2; omega
        clear hk6
        obtain ⟨⟨m0, m1, m2, m3, m4, m5, m6, m7, m8, m9, m10, m11, m12, m13, m14, m15⟩, f0, f1, f2, f3, f4, f5, f6, f7, f8, f9, f10, f11, f12, f13, f14, f15⟩ := M6.out.cells
        go_wp2
        go_roundw
        case rel =>
          have M7 := (M6.out.set 15 (by omega) (.bool ((k6 : Int).tmod 3 == 0)))
          obtain ⟨cur7, r1, r2, r0, r3, r4, r5, r6, r8, r7⟩ := M7
          refine ⟨j + 1, cur7, by omega, by go_num, ?_, r1, r2, fun i hi => ?_, (O6.out.trans (out_grown (grownBy_put _ g (o + j * 16 + 15) (.bool ((k6 : Int).tmod 3 == 0))) (fun k hk => by cases hk; exact ⟨HGL.out.1, HGL.out.2.1⟩)))⟩
          · have hh : ((snL l (j + 1) : Nat) : Int) = (k6 : Int) + 1 := by
              rw [snL_succ, HSJ.out, HQ.out]
              unfold nmX
              have := K6.out
              omega
            rw [hh]
          · by_cases e : i = j
            · subst e
              rw [mkXs_self l i (by rw [HN.out]; exact hi), HSJ.out, HQ.out]
              refine ⟨?_, ⟨⟨r8.st.1, ?_⟩, ?_, r8.bu, r8.bd, ?_⟩⟩
              · rw [HU.out, HD.out]
                have h5 := K5.out
                have h6 := K6.out
                unfold mkX inA
                rw [← h6, ← h5]
                exact r5
              · exact r8.st.2
              · unfold mkX
                have h5 := K5.out
                dsimp only
                rw [← h5]
                exact r8.ids
              · unfold mkX Fit
                dsimp only
                have a1 := mkT_size (sn + 8)
                have a2 := mkT_size (sn + 9)
                have a3 := mkT_size (sn + 10)
                omega
            · rw [mkXs_ne l j i (by rw [HN.out]; exact hi) e]
              exact r7 i (by rw [mkXs_length, HN.out]; exact hi) e
        case measure => simp only [intOf]; omega
    · obtain rfl : j = n := by omega
      go_wp2
      go_ret
      exact ⟨rfl, ⟨_, cap, by rw [mkXs_length, HN.out], by rw [mkXs_length, HN.out]; exact hc1, by rw [mkXs_length, HN.out]; exact hc2, fun _ => ⟨g, o, cur, U, D, b, rfl, ⟨HGL.out.1, HGL.out.2.1, hcs⟩, HROW.out, HBM.out, HBN.out.1, by rw [mkXs_length, HN.out]; exact HBN.out.2, fun i hi => by rw [mkXs_length, HN.out] at hi; exact HEL.out i hi⟩⟩, HCH.out⟩
end Go.Proofs.YtdokglckfabdaaaDoor
/- What is held of the marks on a slice of instances. -/
namespace Go.Proofs.YtdokglckfabdaaaDoor
open Go.RowKit Go.PlainAid
set_option linter.unusedVariables false

set_option maxRecDepth 100000 in
set_option maxHeartbeats 8000000 in
theorem held_instsX (v : Value) (l : List In) (w : World) (hv : Insts w v (mkXs l l.length)) (hn : l.length ≤ 1000) (hl : ∀ j, j < l.length → (nth l j).cmd.ch.length ≤ 1048576 ∧ (nth l j).deps.length ≤ 1048576) :
    Calls Tryd.prog 14 #[v, .int .i64 1] w fun e w' => e = .returned (.int .i64 (snL l l.length : Int)) ∧ Below w.heap.size w w' := by
  obtain ⟨k1, a, ca, rfl, hca, ha⟩ := hv
  rw [mkXs_length] at k1 hca ha ⊢
  have HSN := Lib.hid (fun k (hk : k ≤ l.length) => snL_le hl k hk)
  have HL := Lib.hid hl
  obtain ⟨n, hnn⟩ : ∃ n, l.length = n := ⟨_, rfl⟩
  rw [hnn] at k1 hca ha hn ⊢
  have HN := Lib.hid hnn
  have HA := Lib.hid ha
  clear hnn ha hca hl
  go_enter Tryd.func14, Tryd.ntmps14
  go_wp2
  go_loopw [1, 5] (fun kv i wr => ∃ k : Nat, k ≤ n ∧ i = .int .i64 k ∧ kv = .int .i64 (snL l k : Int) ∧ Below w.heap.size w wr) (fun _ i _ => n - (intOf i).toNat)
  case atStart => exact ⟨0, by omega, rfl, by rw [snL_zero] <;> rfl, Below.refl _ _⟩
  case round =>
    obtain ⟨k, hk, rfl, rfl, hb⟩ := hrel
    have HB := Lib.hid hb
    clear hb
    by_cases hlt : k < n
    · obtain ⟨x, o, rfl, hx, hcx⟩ := HA.out (by omega)
      have hxr : x < wr.heap.size := Nat.lt_of_lt_of_le hx HB.out.size
      obtain ⟨u, d, cc, pp⟩ := hcx k hlt
      have hlj := HL.out k (by rw [HN.out]; exact hlt)
      obtain ⟨sn, hsn⟩ : ∃ sn, snL l k = sn := ⟨_, rfl⟩
      have HSJ := Lib.hid hsn
      have hsb := HSN.out k (by rw [HN.out]; omega)
      obtain ⟨q, hq⟩ : ∃ q, nth l k = q := ⟨_, rfl⟩
      have HQ := Lib.hid hq
      rw [mkXs_at l n k (by rw [HN.out]; exact hlt), if_pos hlt, hsn, hq] at cc pp
      rw [hsn] at hsb ⊢
      rw [hq] at hlj
      have hbnd : (k : Int) * 4194304 ≤ 4194304000 := by omega
      obtain ⟨k5, hk5⟩ : ∃ k5 : Nat, (sn : Int) + 12 + (q.cmd.ch.length : Int) = (k5 : Int) := ⟨sn + 12 + q.cmd.ch.length, by omega⟩
      obtain ⟨k6, hk6⟩ : ∃ k6 : Nat, (k5 : Int) + 1 + 2 * (q.deps.length : Int) = (k6 : Int) := ⟨k5 + 1 + 2 * q.deps.length, by omega⟩
      have HC := Lib.hid (fun W (h : Below wr.heap.size wr W) => (show W.cell? ⟨x, o + k * 16, none⟩ = some (.int .i64 ((sn : Int))) ∧ W.cell? ⟨x, o + k * 16 + 1, none⟩ = some (.int .i64 ((sn : Int) + 1)) ∧ W.cell? ⟨x, o + k * 16 + 2, none⟩ = some (.int .i64 ((sn : Int) + 1 + 1)) ∧ W.cell? ⟨x, o + k * 16 + 3, none⟩ = some (.int .i64 ((sn : Int) + 1 + 1 + 1)) ∧ W.cell? ⟨x, o + k * 16 + 4, none⟩ = some (.int .i64 ((sn : Int) + 1 + 1 + 1 + 1)) ∧ W.cell? ⟨x, o + k * 16 + 5, none⟩ = some (.int .i64 ((sn : Int) + 1 + 1 + 1 + 1 + 1)) ∧ W.cell? ⟨x, o + k * 16 + 6, none⟩ = some (.int .i64 ((sn : Int) + 1 + 1 + 1 + 1 + 1 + 1)) ∧ W.cell? ⟨x, o + k * 16 + 7, none⟩ = some (.int .i64 ((sn : Int) + 1 + 1 + 1 + 1 + 1 + 1 + 1)) ∧ W.cell? ⟨x, o + k * 16 + 8, none⟩ = some (.string (mkT (sn + 8))) ∧ W.cell? ⟨x, o + k * 16 + 9, none⟩ = some (.string (mkT (sn + 9))) ∧ W.cell? ⟨x, o + k * 16 + 10, none⟩ = some (.string (mkT (sn + 10))) ∧ W.cell? ⟨x, o + k * 16 + 11, none⟩ = some (.int .i64 ((sn : Int) + 1 + 1 + 1 + 1 + 1 + 1 + 1 + 1 + 1 + 1 + 1)) ∧ W.cell? ⟨x, o + k * 16 + 12, none⟩ = some (u) ∧ W.cell? ⟨x, o + k * 16 + 13, none⟩ = some (.int .i64 (k5 : Int)) ∧ W.cell? ⟨x, o + k * 16 + 14, none⟩ = some (d) ∧ W.cell? ⟨x, o + k * 16 + 15, none⟩ = some (.bool ((k6 : Int).tmod 3 == 0)) from by
        have h9 := (cc.below HB.out hx).below h hxr
        unfold mkX InC at h9
        dsimp only at h9
        rw [hk5, hk6] at h9
        exact h9))
      have PU := Lib.hid (fun W (h : Below wr.heap.size wr W) => (show Strs W u (mkLs (sn + 12) q.cmd.ch q.cmd.ch.length) ∧ Ids W d (mkI ((k5 : Int) + 1) q.deps q.deps.length) from by
        have h9 := (pp.later HB.out).later h
        unfold mkX at h9
        rw [hk5] at h9
        exact ⟨h9.1, h9.2.1⟩))
      obtain ⟨⟨au, nu, cu, rfl⟩, ad, nd, cd, rfl⟩ := pp.form
      have y1 : (k : Int) < (n : Int) := by omega
      have y0 : (0 : Int) ≤ (k : Int) := by omega
      have b1 : (1 : Int) ≤ (sn : Int) := by omega
      have b2 : (sn : Int) ≤ 4194304001 := by omega
      have b5 : (k5 : Int) ≤ 4195352600 := by have := hlj.1; omega
      have b6 : (k6 : Int) ≤ 4197449800 := by have := hlj.2; omega
      have b51 : (1 : Int) ≤ (k5 : Int) := by omega
      have b61 : (1 : Int) ≤ (k6 : Int) := by omega
      have T8 := Lib.hid (fun W => (by have := mark_textW (sn + 8) W (by omega) (by omega); rw [show ((sn + 8 : Nat) : Int) = (sn : Int) + 1 + 1 + 1 + 1 + 1 + 1 + 1 + 1 by omega] at this; exact this))
      have T9 := Lib.hid (fun W => (by have := mark_textW (sn + 9) W (by omega) (by omega); rw [show ((sn + 9 : Nat) : Int) = (sn : Int) + 1 + 1 + 1 + 1 + 1 + 1 + 1 + 1 + 1 by omega] at this; exact this))
      have T10 := Lib.hid (fun W => (by have := mark_textW (sn + 10) W (by omega) (by omega); rw [show ((sn + 10 : Nat) : Int) = (sn : Int) + 1 + 1 + 1 + 1 + 1 + 1 + 1 + 1 + 1 + 1 by omega] at this; exact this))
      have T12 := Lib.hid (fun W (hW : Strs W (.slice au nu cu) (mkLs (sn + 12) q.cmd.ch q.cmd.ch.length)) => (by have := held_strsX (.slice au nu cu) q.cmd.ch (sn + 12) W hW hlj.1 (by omega) (by omega); rw [show ((sn + 12 : Nat) : Int) = (sn : Int) + 1 + 1 + 1 + 1 + 1 + 1 + 1 + 1 + 1 + 1 + 1 + 1 by omega, show (sn : Int) + 1 + 1 + 1 + 1 + 1 + 1 + 1 + 1 + 1 + 1 + 1 + 1 + (q.cmd.ch.length : Int) = (k5 : Int) by omega] at this; exact this))
      have T14 := Lib.hid (fun W (hW : Ids W (.slice ad nd cd) (mkI ((k5 : Int) + 1) q.deps q.deps.length)) => (by have := held_idL (.slice ad nd cd) q.deps ((k5 : Int) + 1) W hW (by have := hlj.2; omega) (by omega) (by omega); rw [hk6] at this; exact this))
      have K6 := Lib.hid (show ((snL l (k + 1) : Nat) : Int) = (k6 : Int) + 1 by
        rw [snL_succ, hsn, hq]
        unfold nmX
        omega)
      clear hcx cc pp hsn hq hsb hbnd hk5 hk6 hlj
      obtain ⟨c0, c1, c2, c3, c4, c5, c6, c7, c8, c9, c10, c11, c12, c13, c14, c15⟩ := HC.out wr (Below.refl _ _)
      go_wp2_with fail
      go_region_held3 (fun w' => w'.cell? ⟨x, o + k * 16 + 8, none⟩ = some (.string (mkT (sn + 8)))) (first | (with_reducible exact c8) | (with_reducible exact CY.out) | go_keep)
        (first | (go_at_call 31; refine (T8.out _).mono ?_; rintro e w2 ⟨rfl, hb⟩; have L2 := Lib.hid (show Below wr.heap.size wr w2 from (Below.refl _ _).drew.trans hb); have CY := Lib.hid (HC.out w2 L2.out).2.2.2.2.2.2.2.2.1; clear hb))
      clear c0 c1 c2 c3 c4 c5 c6 c7 c8 c9 c10 c11 c12 c13 c14 c15 CY
      obtain ⟨c0, c1, c2, c3, c4, c5, c6, c7, c8, c9, c10, c11, c12, c13, c14, c15⟩ := HC.out w2 L2.out
      go_wp2_with fail
      go_region_held3 (fun w' => w'.cell? ⟨x, o + k * 16 + 9, none⟩ = some (.string (mkT (sn + 9)))) (first | (with_reducible exact c9) | (with_reducible exact CY.out) | go_keep)
        (first | (go_at_call 31; refine (T9.out _).mono ?_; rintro e w3 ⟨rfl, hb⟩; have L3 := Lib.hid (show Below wr.heap.size wr w3 from (Below.drew L2.out).trans (hb.mono (Below.size (Below.drew L2.out)))); have CY := Lib.hid (HC.out w3 L3.out).2.2.2.2.2.2.2.2.2.1; clear hb))
      clear c0 c1 c2 c3 c4 c5 c6 c7 c8 c9 c10 c11 c12 c13 c14 c15 CY
      obtain ⟨c0, c1, c2, c3, c4, c5, c6, c7, c8, c9, c10, c11, c12, c13, c14, c15⟩ := HC.out w3 L3.out
      go_wp2_with fail
      go_region_held3 (fun w' => w'.cell? ⟨x, o + k * 16 + 10, none⟩ = some (.string (mkT (sn + 10)))) (first | (with_reducible exact c10) | (with_reducible exact CY.out) | go_keep)
        (first | (go_at_call 31; refine (T10.out _).mono ?_; rintro e w4 ⟨rfl, hb⟩; have L4 := Lib.hid (show Below wr.heap.size wr w4 from (Below.drew L3.out).trans (hb.mono (Below.size (Below.drew L3.out)))); have CY := Lib.hid (HC.out w4 L4.out).2.2.2.2.2.2.2.2.2.2.1; clear hb))
      clear c0 c1 c2 c3 c4 c5 c6 c7 c8 c9 c10 c11 c12 c13 c14 c15 CY
      obtain ⟨c0, c1, c2, c3, c4, c5, c6, c7, c8, c9, c10, c11, c12, c13, c14, c15⟩ := HC.out w4 L4.out
      go_wp2_with fail
      clear c0 c1 c2 c3 c4 c5 c6 c7 c8 c9 c10 c11 c12 c13 c14 c15
      refine (T12.out _ (PU.out _ L4.out).1).mono ?_
      rintro e w5 ⟨rfl, hb⟩
      have L5 := Lib.hid (show Below wr.heap.size wr w5 from L4.out.trans (hb.mono (Below.size L4.out)))
      have hd5 : decide ((k5 : Int) < 0) = false := decide_eq_false (by omega)
      clear hb
      obtain ⟨c0, c1, c2, c3, c4, c5, c6, c7, c8, c9, c10, c11, c12, c13, c14, c15⟩ := HC.out w5 L5.out
      go_wp2_with fail
      clear c0 c1 c2 c3 c4 c5 c6 c7 c8 c9 c10 c11 c12 c13 c14 c15 hd5
      refine (T14.out _ (PU.out _ L5.out).2).mono ?_
      rintro e w6 ⟨rfl, hb⟩
      have L6 := Lib.hid (show Below wr.heap.size wr w6 from L5.out.trans (hb.mono (Below.size L5.out)))
      have hd6 : decide ((k6 : Int) < 0) = false := decide_eq_false (by omega)
      have HB6 := Lib.hid (HB.out.trans (L6.out.mono HB.out.size))
      clear hb
      obtain ⟨c0, c1, c2, c3, c4, c5, c6, c7, c8, c9, c10, c11, c12, c13, c14, c15⟩ := HC.out w6 L6.out
      go_wp2
      go_roundw
      case rel => exact ⟨k + 1, by omega, by go_num, by rw [K6.out], HB6.out⟩
      case measure => simp only [intOf]; omega
    · obtain rfl : k = n := by omega
      go_wp2
      go_ret
      exact ⟨rfl, HB.out⟩
end Go.Proofs.YtdokglckfabdaaaDoor
/- A region that draws its order: what only reads is taken first; S is held up to the operations that wait for all of that. -/
namespace Go.Proofs.YtdokglckfabdaaaDoor
open Go.RowKit
set_option linter.unusedVariables false
section
variable {P : Program} {ops : Array Oper} {Q : Exit → Act → World → Prop} {md : Region.Mode} {S : World → Prop} {T : Nat → Bool}
/-- Whatever order is picked; S holds behind each operation outside T. -/
def wpAnyT (P : Program) (md : Region.Mode) (ops : Array Oper) (Q : Exit → Act → World → Prop) (S : World → Prop) (T : Nat → Bool) : Nat → Array Bool → Act → World → Prop
  | 0, listed, a, w => Region.ready md ops listed = [] ∧ Q .normal a w
  | f + 1, listed, a, w => (Region.ready md ops listed = [] → Q .normal a w) ∧ ∀ i ∈ Region.ready md ops listed, wpOp P ops Q i (fun a' w' => (T i = false → S w') ∧ wpAnyT P md ops Q S T f (listed.setIfInBounds i true) a' w') a w
theorem wpAny_of_T : ∀ (f : Nat) (listed : Array Bool) (a : Act) (w : World), wpAnyT P md ops Q S T f listed a w → wpAny P md ops Q f listed a w
  | 0, _, _, _, h => h
  | f + 1, _, _, _, h => ⟨h.1, fun i hi => wpOp_mono (fun a' w' h' => wpAny_of_T f _ a' w' h'.2) (h.2 i hi)⟩
theorem wpAnyT_first {i : Nat} {oi : Oper} {v : Value} (hi : ops[i]? = some oi) (hsel : ∀ (j : Nat) (o : Oper) cs b, ops[j]? = some o → o.op ≠ .select cs b)
    (hQ : ∀ c a w, Q (.panic c) (a.put oi.dst v) w → Q (.panic c) a w) (hT : ∀ j oj, ops[j]? = some oj → T j = true → ∃ e ∈ oj.after, Region.binds md e = true ∧ e.on = i) (f : Nat) :
    ∀ (listed : Array Bool) (a : Act) (w : World), (∀ j oj, ops[j]? = some oj → j ≠ i → listed.getD j true = false → (∀ e ∈ oj.after, Region.binds md e = true → e.on ≠ i) → oi.apart ops oj = true) →
      i ∈ Region.ready md ops listed → YieldsIf P ops S oi v a → S w → wpAnyT P md ops Q S T f (listed.setIfInBounds i true) (a.put oi.dst v) w → wpAnyT P md ops Q S T (f + 1) listed a w := by
  induction f with
  | zero =>
    intro listed a w _ hr hy hS H
    refine ⟨fun h => absurd hr (by rw [h]; exact List.not_mem_nil), fun j hj => ?_⟩
    by_cases hji : j = i
    · subst hji; exact hy.wpOp hi hS ⟨fun _ => hS, H⟩
    · have := ready_mono hj hji
      rw [H.1] at this
      cases this
  | succ f ih =>
    intro listed a w hfree hr hy hS H
    refine ⟨fun h => absurd hr (by rw [h]; exact List.not_mem_nil), fun j hj => ?_⟩
    by_cases hji : j = i
    · subst hji; exact hy.wpOp hi hS ⟨fun _ => hS, H⟩
    · have h1 := H.2 j (ready_mono hj hji)
      obtain ⟨hjun, oj, hoj, hall⟩ := mem_ready.1 hj
      have hun : listed.getD i false = false := getD_both (mem_ready.1 hr).1
      have hnot : ∀ e ∈ oj.after, Region.binds md e = true → e.on ≠ i := fun e he hb heq => by
        have h2 := hall e he hb
        rw [heq, hun] at h2
        cases h2
      have htj : T j = false := by
        cases ht : T j with
        | false => rfl
        | true =>
          obtain ⟨e, he, hb, ho⟩ := hT j oj hoj ht
          exact absurd ho (hnot e he hb)
      have h2 := wpOp_putIf hoj (hfree j oj hoj hji hjun hnot) (fun cs b => hsel i oi cs b hi) (fun cs b => hsel j oj cs b hoj) hQ hy h1
      refine wpOp_mono (fun a' w' h3 => ⟨h3.2.1, ih (listed.setIfInBounds j true) a' w' (fun k ok hk hki hu hno => hfree k ok hk hki ?_ hno) (ready_mono hr (Ne.symm hji)) h3.1 (h3.2.1 htj) ?_⟩) h2
      · by_cases hjk : j = k
        · subst hjk; exact hjun
        · rw [getD_set_ne true hjk] at hu; exact hu
      · rw [Array.setIfInBounds_comm _ _ hji]
        exact h3.2.2
/-- In this very order. -/
def wpSeqT (P : Program) (ops : Array Oper) (Q : Exit → Act → World → Prop) (S : World → Prop) (T : Nat → Bool) : List Nat → Act → World → Prop
  | [], a, w => Q .normal a w
  | k :: r, a, w => wpOp P ops Q k (fun a' w' => (T k = false → S w') ∧ wpSeqT P ops Q S T r a' w') a w
def seqI (md : Region.Mode) (ops : Array Oper) : List Nat → Array Bool → Bool
  | [], listed => (Region.ready md ops listed).isEmpty
  | k :: r, listed => decide (Region.ready md ops listed = [k]) && seqI md ops r (listed.setIfInBounds k true)
theorem wpAnyT_of_seq : ∀ (r : List Nat) (listed : Array Bool) (a : Act) (w : World), seqI md ops r listed = true → wpSeqT P ops Q S T r a w → wpAnyT P md ops Q S T r.length listed a w
  | [], listed, a, w, hB, h => ⟨by simpa [seqI] using hB, h⟩
  | k :: r, listed, a, w, hB, h => by
    simp only [seqI, Bool.and_eq_true, decide_eq_true_eq] at hB
    refine ⟨fun h0 => absurd hB.1 (by rw [h0]; simp), fun i hi => ?_⟩
    rw [hB.1] at hi
    obtain rfl : i = k := by simpa using hi
    exact wpOp_mono (fun a' w' h' => ⟨h'.1, wpAnyT_of_seq r _ a' w' hB.2 h'.2⟩) h
def takeB (md : Region.Mode) (ops : Array Oper) (T : Nat → Bool) (r : List Nat) : List Nat → Array Bool → Bool
  | [], listed => seqI md ops r listed
  | k :: t, listed => (Region.ready md ops listed).contains k && Region.free md ops listed k && ((List.range ops.size).all fun j => !T j || Region.waitsFor md ops j k) && takeB md ops T r t (listed.setIfInBounds k true)
def wpTakes (P : Program) (ops : Array Oper) (Q : Exit → Act → World → Prop) (S : World → Prop) (T : Nat → Bool) (r : List Nat) : List Nat → Act → World → Prop
  | [], a, w => wpSeqT P ops Q S T r a w
  | k :: t, a, w => ∃ o v, ops[k]? = some o ∧ YieldsIf P ops S o v a ∧ wpTakes P ops Q S T r t (a.put o.dst v) w
theorem wpAnyT_takes {r : List Nat} (hsel : Region.noSelect ops = true) (hQ : ∀ c (a : Act) d v w, Q (.panic c) (a.put d v) w → Q (.panic c) a w) :
    ∀ (t : List Nat) (listed : Array Bool) (a : Act) (w : World), takeB md ops T r t listed = true → S w → wpTakes P ops Q S T r t a w → wpAnyT P md ops Q S T (t.length + r.length) listed a w
  | [], listed, a, w, hB, _, h => by rw [List.length_nil, Nat.zero_add]; exact wpAnyT_of_seq r listed a w hB h
  | k :: t, listed, a, w, hB, hS, h => by
    obtain ⟨o, v, ho, hy, hr⟩ := h
    simp only [takeB, Bool.and_eq_true] at hB
    obtain ⟨⟨⟨h1, h2⟩, h3⟩, h4⟩ := hB
    rw [List.length_cons, Nat.add_right_comm]
    refine wpAnyT_first ho (Region.noSelect_spec hsel) (fun c a w => hQ c a _ _ w) (fun j oj hj ht => ?_) _ listed a w (Region.free_spec ho h2) (by simpa using h1) hy hS (wpAnyT_takes hsel hQ t _ _ w h4 hS hr)
    have hjl : j < ops.size := (Array.getElem?_eq_some_iff.1 hj).1
    have h5 := List.all_eq_true.1 h3 j (List.mem_range.2 hjl)
    rw [ht] at h5
    obtain ⟨o', ho', e, he, hb, hon⟩ := Region.waitsFor_spec (show Region.waitsFor md ops j k = true by simpa using h5)
    rw [hj] at ho'
    cases ho'
    exact ⟨e, he, hb, hon⟩
theorem wp_region_takes {id : Nat} {a : Act} {w : World} (t r : List Nat) (hm : P.follows .mixedOrders = true) (hsel : Region.noSelect ops = true) (hlen : t.length + r.length = ops.size) (hB : takeB .any ops T r t (Array.replicate ops.size false) = true)
    (hQ : ∀ c (a : Act) d v w, Q (.panic c) (a.put d v) w → Q (.panic c) a w) (hS : S w.drew) (h : wpTakes P ops Q S T r t a w.drew) : (Code.region id ops true).wp P Q a w := by
  have H := wpAny_of_T _ _ _ _ (wpAnyT_takes hsel hQ t _ a w.drew hB hS h)
  rw [hlen] at H
  exact wp_region_any hm H
theorem op_then {o : Oper} {a : Act} {w : World} {K K2 : Act → World → Prop} (h : o.wp P a w K (Exit.then K2 Q)) : o.wp P a w K Q := by
  unfold Oper.wp at *
  generalize (execOp a.eval o).run P w = r at *
  cases r with
  | ok n w' =>
    cases n <;> simp only [Oper.upon] at h ⊢ <;>
      first
        | exact h
        | exact Calls.mono h (fun e w'' he => by cases e <;> exact he)
  | halt x w' => cases x <;> simp only [Oper.upon] at h ⊢ <;> exact h
theorem wpSeqT_step {k : Nat} {r : List Nat} {o : Oper} {a : Act} {w : World} (hk : ops[k]? = some o) (h : wpList P ops (Exit.then (fun a' w' => (T k = false → S w') ∧ wpSeqT P ops Q S T r a' w') Q) [o] a w) : wpSeqT P ops Q S T (k :: r) a w := by
  unfold wpSeqT wpOp
  unfold wpList at h
  simp only [hk]
  split
  · rename_i hw
    rw [if_pos hw] at h
    exact h.imp op_then id
  · rename_i hw
    rw [if_neg hw] at h
    exact h
theorem wpTakes_step {k : Nat} {r t : List Nat} {o : Oper} {v : Value} {a : Act} {w : World} (hk : ops[k]? = some o) (hg : Region.wanted o (yielded ops a.tmps) = true) (hv : ∀ w, S w → (execOp a.eval o).run P w = .ok (.value v) w) (h : wpTakes P ops Q S T r t (a.put o.dst v) w) : wpTakes P ops Q S T r (k :: t) a w :=
  ⟨o, v, hk, .inl ⟨hg, hv⟩, h⟩
end
end Go.Proofs.YtdokglckfabdaaaDoor
/- A region that draws its order: what only reads is taken wherever it is ready; all else in its one order. -/
namespace Go.Proofs.YtdokglckfabdaaaDoor
open Go.RowKit
set_option linter.unusedVariables false
section
variable {P : Program} {ops : Array Oper} {Q : Exit → Act → World → Prop} {md : Region.Mode} {S : World → Prop}
def mixB (md : Region.Mode) (ops : Array Oper) : List (Bool × Nat) → Array Bool → Bool
  | [], listed => (Region.ready md ops listed).isEmpty
  | (true, k) :: r, listed => (Region.ready md ops listed).contains k && Region.free md ops listed k && mixB md ops r (listed.setIfInBounds k true)
  | (false, k) :: r, listed => decide (Region.ready md ops listed = [k]) && mixB md ops r (listed.setIfInBounds k true)
def wpMix (P : Program) (ops : Array Oper) (Q : Exit → Act → World → Prop) (S : World → Prop) : List (Bool × Nat) → Act → World → Prop
  | [], a, w => Q .normal a w
  | (true, k) :: r, a, w => ∃ o v, ops[k]? = some o ∧ YieldsIf P ops S o v a ∧ wpMix P ops Q S r (a.put o.dst v) w
  | (false, k) :: r, a, w => wpOp P ops Q k (fun a' w' => S w' ∧ wpMix P ops Q S r a' w') a w
theorem wpAnyT_mix (hsel : Region.noSelect ops = true) (hQ : ∀ c (a : Act) d v w, Q (.panic c) (a.put d v) w → Q (.panic c) a w) :
    ∀ (t : List (Bool × Nat)) (listed : Array Bool) (a : Act) (w : World), mixB md ops t listed = true → S w → wpMix P ops Q S t a w → wpAnyT P md ops Q S (fun _ => false) t.length listed a w
  | [], listed, a, w, hB, _, h => ⟨by simpa [mixB] using hB, h⟩
  | (true, k) :: t, listed, a, w, hB, hS, h => by
    obtain ⟨o, v, ho, hy, hr⟩ := h
    simp only [mixB, Bool.and_eq_true] at hB
    obtain ⟨⟨h1, h2⟩, h4⟩ := hB
    exact wpAnyT_first ho (Region.noSelect_spec hsel) (fun c a w => hQ c a _ _ w) (fun j oj hj ht => by cases ht) _ listed a w (Region.free_spec ho h2) (by simpa using h1) hy hS (wpAnyT_mix hsel hQ t _ _ w h4 hS hr)
  | (false, k) :: t, listed, a, w, hB, hS, h => by
    simp only [mixB, Bool.and_eq_true, decide_eq_true_eq] at hB
    refine ⟨fun h0 => absurd hB.1 (by rw [h0]; simp), fun i hi => ?_⟩
    rw [hB.1] at hi
    obtain rfl : i = k := by simpa using hi
    exact wpOp_mono (fun a' w' h' => ⟨fun _ => h'.1, wpAnyT_mix hsel hQ t _ a' w' hB.2 h'.1 h'.2⟩) h
theorem wp_region_mix {id : Nat} {a : Act} {w : World} (t : List (Bool × Nat)) (hm : P.follows .mixedOrders = true) (hsel : Region.noSelect ops = true) (hlen : t.length = ops.size) (hB : mixB .any ops t (Array.replicate ops.size false) = true)
    (hQ : ∀ c (a : Act) d v w, Q (.panic c) (a.put d v) w → Q (.panic c) a w) (hS : S w.drew) (h : wpMix P ops Q S t a w.drew) : (Code.region id ops true).wp P Q a w := by
  have H := wpAny_of_T _ _ _ _ (wpAnyT_mix hsel hQ t _ a w.drew hB hS h)
  rw [hlen] at H
  exact wp_region_any hm H
theorem wpMix_take {k : Nat} {t : List (Bool × Nat)} {o : Oper} {v : Value} {a : Act} {w : World} (hk : ops[k]? = some o) (hg : Region.wanted o (yielded ops a.tmps) = true) (hv : ∀ w, S w → (execOp a.eval o).run P w = .ok (.value v) w) (h : wpMix P ops Q S t (a.put o.dst v) w) : wpMix P ops Q S ((true, k) :: t) a w :=
  ⟨o, v, hk, .inl ⟨hg, hv⟩, h⟩
theorem wpMix_step {k : Nat} {r : List (Bool × Nat)} {o : Oper} {a : Act} {w : World} (hk : ops[k]? = some o) (h : wpList P ops (Exit.then (fun a' w' => S w' ∧ wpMix P ops Q S r a' w') Q) [o] a w) : wpMix P ops Q S ((false, k) :: r) a w := by
  unfold wpMix wpOp
  unfold wpList at h
  simp only [hk]
  split
  · rename_i hw
    rw [if_pos hw] at h
    exact h.imp op_then id
  · rename_i hw
    rw [if_neg hw] at h
    exact h
end
end Go.Proofs.YtdokglckfabdaaaDoor
/- The law over InstPut and its model: it returns true. -/
namespace Go.Proofs.YtdokglckfabdaaaDoor
open Go.RowKit Go.PlainAid
set_option linter.unusedVariables false

attribute [local go_sem] blkI_eq aggI_eq okAI_mk World.setRow_alloc_new
attribute [local go_sem ↓] load_inst_pre store_inst_pre load_linst_pre
set_option maxRecDepth 100000 in
set_option maxHeartbeats 8000000 in
theorem law_instPut (v : Value) (l : List In) (x : In) (xu xd : Value) (a0 : Addr) (w : World) (hv : Insts w v l) (hp : Pts w x xu xd) (hS : Sent w a0) :
    Calls Tryd.prog 3 #[v, .agg #[.int .i64 x.rep, .int .i64 x.slot, .int .i64 x.bal, .int .i64 x.vbal, .int .i64 x.st, .int .i64 x.cmd.kind, .int .i64 x.cmd.client, .int .i64 x.cmd.no, .string x.cmd.set, .string x.cmd.name, .string x.cmd.tag, .int .i64 x.cmd.n, xu, .int .i64 x.seq, xd, .bool x.same]] w fun e w' => e = .returned (.bool true) ∧ Below w.heap.size w w' := by
  obtain ⟨va, vn, vc, hve⟩ := hv.form
  subst hve
  obtain ⟨⟨x1, x2, x3, rfl⟩, x4, x5, x6, rfl⟩ := hp.form
  have VH := Lib.hid hv
  have PX := Lib.hid hp
  have HS := Lib.hid hS
  have IB := Lib.hid (Bx.new w 30 #[.int .i64 x.rep, .int .i64 x.slot, .int .i64 x.bal, .int .i64 x.vbal, .int .i64 x.st, .int .i64 x.cmd.kind, .int .i64 x.cmd.client, .int .i64 x.cmd.no, .string x.cmd.set, .string x.cmd.name, .string x.cmd.tag, .int .i64 x.cmd.n, .slice x1 x2 x3, .int .i64 x.seq, .slice x4 x5 x6, .bool x.same] _ rfl)
  have AF := Lib.hid ((Af.refl w).alloc (.cells #[.int .i64 x.rep, .int .i64 x.slot, .int .i64 x.bal, .int .i64 x.vbal, .int .i64 x.st, .int .i64 x.cmd.kind, .int .i64 x.cmd.client, .int .i64 x.cmd.no, .string x.cmd.set, .string x.cmd.name, .string x.cmd.tag, .int .i64 x.cmd.n, .slice x1 x2 x3, .int .i64 x.seq, .slice x4 x5 x6, .bool x.same] 30))
  clear hv hp hS
  go_enter Tryd.func3, Tryd.ntmps3
  go_wp2_with fail
  refine (sz_instsF _ l _ (VH.out.later AF.out)).mono ?_
  rintro e w1 ⟨hsz, bb⟩
  have IB := Lib.hid (IB.out.after bb)
  have AF := Lib.hid (AF.out.after bb)
  clear bb
  rcases hsz with rfl | ⟨q, rfl, q0, q1, sm⟩
  · go_wp2
    go_ret
    exact ⟨rfl, AF.out⟩
  have SF := Lib.hid sm
  have SM := Lib.hid sm.sm
  have hd : decide (q < 0) = false := dec_f (by omega)
  clear sm
  obtain ⟨rl1, rl2⟩ := IB.out.rowI rfl
  go_wp2_with fail
  clear rl1 rl2
  refine (sz_instF x _ _ q _ (PX.out.later AF.out) q0 q1).mono ?_
  rintro e w2 ⟨hsz, bb⟩
  have IB := Lib.hid (IB.out.after bb)
  have AF := Lib.hid (AF.out.after bb)
  clear bb hd
  rcases hsz with rfl | ⟨r, rfl, r0, r1, sx⟩
  · go_wp2
    go_ret
    exact ⟨rfl, AF.out⟩
  have SX := Lib.hid (show SmlX x from sx)
  have SXN := Lib.hid (show x.cmd.ch.length ≤ 1048576 ∧ x.deps.length ≤ 1048576 from ⟨sx.1.1.1, sx.2⟩)
  have hd : decide (r < 0) = false := dec_f (by omega)
  clear sx q1 r1
  have PZ := Lib.hid (putX_small SF.out SX.out)
  have CI := Lib.hid (fun (u : Value) (y z : Value) W (hW : Insts W u l) (hP : Pts W x y z) (hT : Sent W a0) => impl_instPut u l x y z a0 W hW hP hT SF.out SX.out)
  have CS := Lib.hid (fun (u : Value) (y z : Value) W (hW : Insts W u l) (hP : Pts W x y z) => spec_instPut u l x y z W hW hP SF.out SX.out)
  obtain ⟨L, hL⟩ : ∃ L, putX l x = L := ⟨_, rfl⟩
  rw [hL] at PZ CI CS
  clear hL
  have ZL := Lib.hid (show ∀ j, j < L.length → (nth L j).cmd.ch.length ≤ 1048576 ∧ (nth L j).deps.length ≤ 1048576 from fun j hj => PZ.out.1.sm.2 j hj)
  have ZN := Lib.hid (show L.length ≤ 1000 from PZ.out.2)
  go_wp2_with fail
  have IB := Lib.hid (IB.out.after (Below.refl _ _).drew); have AF := Lib.hid (AF.out.after (Below.refl _ _).drew)
  refine wp_region_noPanic ?_
  refine wp_region_mix (S := fun w' => Bx w' w.heap.size 30 #[.int .i64 x.rep, .int .i64 x.slot, .int .i64 x.bal, .int .i64 x.vbal, .int .i64 x.st, .int .i64 x.cmd.kind, .int .i64 x.cmd.client, .int .i64 x.cmd.no, .string x.cmd.set, .string x.cmd.name, .string x.cmd.tag, .int .i64 x.cmd.n, .slice x1 x2 x3, .int .i64 x.seq, .slice x4 x5 x6, .bool x.same]) [(true, 0), (true, 2), (false, 1), (false, 3), (false, 4), (false, 5)] (by kernel_rfl) (by kernel_rfl) (by kernel_rfl) (by kernel_rfl) (fun _ _ _ _ _ h => h) IB.out ?_
  (refine wpMix_take (v := ?_) rfl rfl ?_ ?_; rotate_left; (intro w' hS'; (try dsimp only at hS'); go_simp; (try with_reducible rfl)); simp only [List.getElem_toArray, List.getElem_cons_zero, Act.put, List.setIfInBounds_toArray, List.set_cons_zero, List.set_cons_succ])
  (refine wpMix_take (v := .agg #[.int .i64 x.rep, .int .i64 x.slot, .int .i64 x.bal, .int .i64 x.vbal, .int .i64 x.st, .int .i64 x.cmd.kind, .int .i64 x.cmd.client, .int .i64 x.cmd.no, .string x.cmd.set, .string x.cmd.name, .string x.cmd.tag, .int .i64 x.cmd.n, .slice x1 x2 x3, .int .i64 x.seq, .slice x4 x5 x6, .bool x.same]) rfl rfl (fun w' hS' => exec_load_linst rfl hS' rfl) ?_; simp only [List.getElem_toArray, List.getElem_cons_succ, List.getElem_cons_zero, Act.put, List.setIfInBounds_toArray, List.set_cons_zero, List.set_cons_succ])
  refine wpMix_step rfl ?_
  go_wp2_with fail
  refine (to_insts _ l _ (VH.out.later AF.out) SM.out).mono ?_
  rintro e w3 ⟨u_w3, rfl, o_w3, bb, _⟩
  obtain ⟨a_w3, n_w3, c_w3, rfl⟩ := o_w3.form
  have IB := Lib.hid (IB.out.after bb); have AF := Lib.hid (AF.out.after bb)
  have T0 := Lib.hid o_w3.insts
  clear bb o_w3
  go_wp2
  refine ⟨IB.out, ?_⟩
  refine wpMix_step rfl ?_
  go_wp2_with fail
  refine (to_inst x _ _ _ (PX.out.later AF.out) SXN.out.1 SXN.out.2).mono ?_
  rintro e w4 ⟨⟨a1_w4, n1_w4, c1_w4, a2_w4, n2_w4, c2_w4, rfl, p_w4⟩, bb⟩
  have IB := Lib.hid (IB.out.after bb); have AF := Lib.hid (AF.out.after bb); have T0 := Lib.hid (T0.out.later bb)
  have T1 := Lib.hid p_w4.pts
  clear bb p_w4
  go_wp2
  refine ⟨IB.out, ?_⟩
  refine wpMix_step rfl ?_
  go_wp2_with fail
  refine (CS.out _ _ _ _ T0.out T1.out).mono ?_
  rintro e w5 ⟨⟨u5, rfl, o5⟩, bb⟩
  obtain ⟨aS, nS, cS, rfl⟩ := o5.form
  have IB := Lib.hid (IB.out.after bb); have AF := Lib.hid (AF.out.after bb)
  have hz4 := bb.size
  have SS := Lib.hid o5
  have IBL := Lib.hid (show w.heap.size < w5.heap.size by have := IB.out.lt; omega)
  clear bb o5 T0 T1
  go_wp2
  refine ⟨IB.out, ?_⟩
  refine wpMix_step rfl ?_
  go_wp2
  refine ⟨IB.out, ?_⟩
  unfold wpMix
  refine NoPanic.normal ?_
  clear hd
  go_wp2_with fail
  refine (to_insts _ l _ (VH.out.later AF.out) SM.out).mono ?_
  rintro e w6 ⟨u_w6, rfl, o_w6, bb, _⟩
  obtain ⟨a_w6, n_w6, c_w6, rfl⟩ := o_w6.form
  have IB := Lib.hid (IB.out.after bb); have AF := Lib.hid (AF.out.after bb); have SS := Lib.hid (SS.out.later bb)
  have X0 := Lib.hid o_w6; have hz6 := bb.size
  clear bb o_w6
  obtain ⟨rl1, rl2⟩ := IB.out.rowI rfl
  go_wp2_with fail
  clear rl1 rl2
  refine (to_inst x _ _ _ (PX.out.later AF.out) SXN.out.1 SXN.out.2).mono ?_
  rintro e w7 ⟨⟨a1_w7, n1_w7, c1_w7, a2_w7, n2_w7, c2_w7, rfl, p_w7⟩, bb⟩
  have IB := Lib.hid (IB.out.after bb); have AF := Lib.hid (AF.out.after bb); have SS := Lib.hid (SS.out.later bb); have X0 := Lib.hid (X0.out.later bb)
  have CX := Lib.hid p_w7; have hz7 := bb.size
  clear bb p_w7
  have hzn := rowPI_new w7
  have XB := Lib.hid (Bx.new w7 40 #[.int .i64 x.rep, .int .i64 x.slot, .int .i64 x.bal, .int .i64 x.vbal, .int .i64 x.st, .int .i64 x.cmd.kind, .int .i64 x.cmd.client, .int .i64 x.cmd.no, .string x.cmd.set, .string x.cmd.name, .string x.cmd.tag, .int .i64 x.cmd.n, .slice a1_w7 n1_w7 c1_w7, .int .i64 x.seq, .slice a2_w7 n2_w7 c2_w7, .bool x.same] _ rfl)
  have IB := Lib.hid (IB.out.after ((Below.refl _ _).alloc (Nat.le_refl _) (.cells #[.int .i64 x.rep, .int .i64 x.slot, .int .i64 x.bal, .int .i64 x.vbal, .int .i64 x.st, .int .i64 x.cmd.kind, .int .i64 x.cmd.client, .int .i64 x.cmd.no, .string x.cmd.set, .string x.cmd.name, .string x.cmd.tag, .int .i64 x.cmd.n, .slice a1_w7 n1_w7 c1_w7, .int .i64 x.seq, .slice a2_w7 n2_w7 c2_w7, .bool x.same] 40))); have AF := Lib.hid (AF.out.after ((Below.refl _ _).alloc (Nat.le_refl _) (.cells #[.int .i64 x.rep, .int .i64 x.slot, .int .i64 x.bal, .int .i64 x.vbal, .int .i64 x.st, .int .i64 x.cmd.kind, .int .i64 x.cmd.client, .int .i64 x.cmd.no, .string x.cmd.set, .string x.cmd.name, .string x.cmd.tag, .int .i64 x.cmd.n, .slice a1_w7 n1_w7 c1_w7, .int .i64 x.seq, .slice a2_w7 n2_w7 c2_w7, .bool x.same] 40))); have SS := Lib.hid (SS.out.later ((Below.refl _ _).alloc (Nat.le_refl _) (.cells #[.int .i64 x.rep, .int .i64 x.slot, .int .i64 x.bal, .int .i64 x.vbal, .int .i64 x.st, .int .i64 x.cmd.kind, .int .i64 x.cmd.client, .int .i64 x.cmd.no, .string x.cmd.set, .string x.cmd.name, .string x.cmd.tag, .int .i64 x.cmd.n, .slice a1_w7 n1_w7 c1_w7, .int .i64 x.seq, .slice a2_w7 n2_w7 c2_w7, .bool x.same] 40))); have X0 := Lib.hid (X0.out.later ((Below.refl _ _).alloc (Nat.le_refl _) (.cells #[.int .i64 x.rep, .int .i64 x.slot, .int .i64 x.bal, .int .i64 x.vbal, .int .i64 x.st, .int .i64 x.cmd.kind, .int .i64 x.cmd.client, .int .i64 x.cmd.no, .string x.cmd.set, .string x.cmd.name, .string x.cmd.tag, .int .i64 x.cmd.n, .slice a1_w7 n1_w7 c1_w7, .int .i64 x.seq, .slice a2_w7 n2_w7 c2_w7, .bool x.same] 40))); have CX := Lib.hid (CX.out.later ((Below.refl _ _).alloc (Nat.le_refl _) (.cells #[.int .i64 x.rep, .int .i64 x.slot, .int .i64 x.bal, .int .i64 x.vbal, .int .i64 x.st, .int .i64 x.cmd.kind, .int .i64 x.cmd.client, .int .i64 x.cmd.no, .string x.cmd.set, .string x.cmd.name, .string x.cmd.tag, .int .i64 x.cmd.n, .slice a1_w7 n1_w7 c1_w7, .int .i64 x.seq, .slice a2_w7 n2_w7 c2_w7, .bool x.same] 40)))
  obtain ⟨rx1, rx2⟩ := XB.out.rowI rfl
  go_wp2_with fail
  clear rx1 rx2 hzn
  refine (CI.out _ _ _ _ X0.out.insts CX.out.pts (HS.out.later AF.out)).mono ?_
  rintro e w8 ⟨⟨u8, rfl, o8⟩, bb⟩
  obtain ⟨aG, nG, cG, rfl⟩ := o8.form
  have IB := Lib.hid (IB.out.after bb); have AF := Lib.hid (AF.out.after bb); have SS := Lib.hid (SS.out.later bb); have X0 := Lib.hid (X0.out.later bb); have CX := Lib.hid (CX.out.later bb); have XB := Lib.hid (XB.out.after bb)
  have hz8 := bb.size
  simp only [World.size_alloc] at o8 hz8
  have GG := Lib.hid o8
  clear bb o8
  have HZ := Lib.hid (Nat.le_refl w8.heap.size)
  go_wp2_with fail
  refine (eq_insts_same _ _ L _ GG.out.insts SS.out.insts).mono ?_
  rintro e w9 ⟨rfl, bb⟩
  have IB := Lib.hid (IB.out.after bb); have AF := Lib.hid (AF.out.after bb); have SS := Lib.hid (SS.out.later bb); have X0 := Lib.hid (X0.out.later bb); have CX := Lib.hid (CX.out.later bb); have XB := Lib.hid (XB.out.after bb); have GG := Lib.hid (GG.out.later bb); have HZ := Lib.hid (Nat.le_trans HZ.out (Below.size (bb)))
  clear bb
  go_wp2_with fail
  refine (to_insts _ l _ (VH.out.later AF.out) SM.out).mono ?_
  rintro e w10 ⟨u_w10, rfl, o_w10, bb, _⟩
  obtain ⟨a_w10, n_w10, c_w10, rfl⟩ := o_w10.form
  have IB := Lib.hid (IB.out.after bb); have AF := Lib.hid (AF.out.after bb); have SS := Lib.hid (SS.out.later bb); have X0 := Lib.hid (X0.out.later bb); have CX := Lib.hid (CX.out.later bb); have XB := Lib.hid (XB.out.after bb); have GG := Lib.hid (GG.out.later bb); have HZ := Lib.hid (Nat.le_trans HZ.out (Below.size (bb)))
  have T2 := Lib.hid o_w10.insts
  clear bb o_w10
  go_wp2_with fail
  refine (eq_insts_same _ _ l _ X0.out.insts T2.out).mono ?_
  rintro e w11 ⟨rfl, bb⟩
  have IB := Lib.hid (IB.out.after bb); have AF := Lib.hid (AF.out.after bb); have SS := Lib.hid (SS.out.later bb); have X0 := Lib.hid (X0.out.later bb); have CX := Lib.hid (CX.out.later bb); have XB := Lib.hid (XB.out.after bb); have GG := Lib.hid (GG.out.later bb); have HZ := Lib.hid (Nat.le_trans HZ.out (Below.size (bb)))
  clear bb T2
  go_wp2_with fail
  have IB := Lib.hid (IB.out.after (Below.refl _ _).drew); have AF := Lib.hid (AF.out.after (Below.refl _ _).drew); have SS := Lib.hid (SS.out.later (Below.refl _ _).drew); have X0 := Lib.hid (X0.out.later (Below.refl _ _).drew); have CX := Lib.hid (CX.out.later (Below.refl _ _).drew); have XB := Lib.hid (XB.out.after (Below.refl _ _).drew); have GG := Lib.hid (GG.out.later (Below.refl _ _).drew)
  have HZ := Lib.hid (show w8.heap.size ≤ (World.drew _).heap.size from HZ.out)
  refine wp_region_noPanic ?_
  refine wp_region_mix (S := fun w' => Bx w' w7.heap.size 40 #[.int .i64 x.rep, .int .i64 x.slot, .int .i64 x.bal, .int .i64 x.vbal, .int .i64 x.st, .int .i64 x.cmd.kind, .int .i64 x.cmd.client, .int .i64 x.cmd.no, .string x.cmd.set, .string x.cmd.name, .string x.cmd.tag, .int .i64 x.cmd.n, .slice a1_w7 n1_w7 c1_w7, .int .i64 x.seq, .slice a2_w7 n2_w7 c2_w7, .bool x.same] ∧ Bx w' w.heap.size 30 #[.int .i64 x.rep, .int .i64 x.slot, .int .i64 x.bal, .int .i64 x.vbal, .int .i64 x.st, .int .i64 x.cmd.kind, .int .i64 x.cmd.client, .int .i64 x.cmd.no, .string x.cmd.set, .string x.cmd.name, .string x.cmd.tag, .int .i64 x.cmd.n, .slice x1 x2 x3, .int .i64 x.seq, .slice x4 x5 x6, .bool x.same]) [(true, 0), (true, 1), (false, 2), (false, 3), (true, 4)] (by kernel_rfl) (by kernel_rfl) (by kernel_rfl) (by kernel_rfl) (fun _ _ _ _ _ h => h) ⟨XB.out, IB.out⟩ ?_
  (refine wpMix_take (v := .agg #[.int .i64 x.rep, .int .i64 x.slot, .int .i64 x.bal, .int .i64 x.vbal, .int .i64 x.st, .int .i64 x.cmd.kind, .int .i64 x.cmd.client, .int .i64 x.cmd.no, .string x.cmd.set, .string x.cmd.name, .string x.cmd.tag, .int .i64 x.cmd.n, .slice a1_w7 n1_w7 c1_w7, .int .i64 x.seq, .slice a2_w7 n2_w7 c2_w7, .bool x.same]) rfl rfl (fun w' hS' => exec_load_inst rfl hS'.1 rfl) ?_; simp only [List.getElem_toArray, List.getElem_cons_zero, Act.put, List.setIfInBounds_toArray, List.set_cons_zero, List.set_cons_succ])
  (refine wpMix_take (v := .agg #[.int .i64 x.rep, .int .i64 x.slot, .int .i64 x.bal, .int .i64 x.vbal, .int .i64 x.st, .int .i64 x.cmd.kind, .int .i64 x.cmd.client, .int .i64 x.cmd.no, .string x.cmd.set, .string x.cmd.name, .string x.cmd.tag, .int .i64 x.cmd.n, .slice x1 x2 x3, .int .i64 x.seq, .slice x4 x5 x6, .bool x.same]) rfl rfl (fun w' hS' => exec_load_linst rfl hS'.2 rfl) ?_; simp only [List.getElem_toArray, List.getElem_cons_succ, List.getElem_cons_zero, Act.put, List.setIfInBounds_toArray, List.set_cons_zero, List.set_cons_succ])
  refine wpMix_step rfl ?_
  go_wp2_with fail
  refine (to_inst x _ _ _ (PX.out.later AF.out) SXN.out.1 SXN.out.2).mono ?_
  rintro e w12 ⟨⟨a1_w12, n1_w12, c1_w12, a2_w12, n2_w12, c2_w12, rfl, p_w12⟩, bb⟩
  have IB := Lib.hid (IB.out.after bb); have AF := Lib.hid (AF.out.after bb); have SS := Lib.hid (SS.out.later bb); have X0 := Lib.hid (X0.out.later bb); have CX := Lib.hid (CX.out.later bb); have XB := Lib.hid (XB.out.after bb); have GG := Lib.hid (GG.out.later bb); have HZ := Lib.hid (Nat.le_trans HZ.out (Below.size (bb)))
  have T1 := Lib.hid p_w12.pts
  clear bb p_w12
  go_wp2
  refine ⟨⟨XB.out, IB.out⟩, ?_⟩
  refine wpMix_step rfl ?_
  go_wp2_with fail
  refine (eq_inst_yes x _ _ _ _ _ CX.out.pts T1.out).mono ?_
  rintro e w13 ⟨rfl, bb⟩
  have IB := Lib.hid (IB.out.after bb); have AF := Lib.hid (AF.out.after bb); have SS := Lib.hid (SS.out.later bb); have X0 := Lib.hid (X0.out.later bb); have CX := Lib.hid (CX.out.later bb); have XB := Lib.hid (XB.out.after bb); have GG := Lib.hid (GG.out.later bb); have HZ := Lib.hid (Nat.le_trans HZ.out (Below.size (bb)))
  clear bb T1
  go_wp2
  refine ⟨⟨XB.out, IB.out⟩, ?_⟩
  (refine wpMix_take (v := ?_) rfl rfl ?_ ?_; rotate_left; (intro w' hS'; (try dsimp only at hS'); go_simp; (try with_reducible rfl)); simp only [List.getElem_toArray, List.getElem_cons_succ, List.getElem_cons_zero, Act.put, List.setIfInBounds_toArray, List.set_cons_zero, List.set_cons_succ])
  unfold wpMix
  refine NoPanic.normal ?_
  go_wp2_with fail
  refine (mark_instsW _ l.length w5.heap.size w6.heap.size _ (X0.out.wr SM.out) SM.out.1).mono ?_
  rintro e w14 ⟨z, rfl, z1, z2, cg⟩
  have oc := cg.toOut
  have hiw := IB.out.lt; have hxw := XB.out.lt
  have hz2 : z ≤ 8796093022208 := by have := SM.out.1; omega
  have hs0 : w.heap.size < w5.heap.size := IBL.out
  have hz13 := HZ.out
  have IB := Lib.hid (IB.out.outr oc (.inl (by omega)))
  have AF := Lib.hid (AF.out.outr oc (by omega))
  have SS := Lib.hid (SS.out.outr oc (by omega) (.inl (by omega)))
  have CX := Lib.hid (CX.out.outr oc (by omega) (.inr (by omega)))
  have XB := Lib.hid (XB.out.outr oc (.inr (by omega)))
  have GG := Lib.hid (GG.out.outr oc (by omega) (.inr (by omega)))
  have HZ := Lib.hid (Nat.le_trans HZ.out oc.size)
  have hz14 := HZ.out
  clear oc cg X0 z2
  obtain ⟨rx1, rx2⟩ := XB.out.rowI rfl
  go_wp2_with fail
  clear rx1 rx2
  refine (mark_instV x _ _ _ _ z _ CX.out SXN.out.1 SXN.out.2 z1 hz2).mono ?_
  rintro e w15 ⟨⟨zz, rfl, zz1⟩, oc⟩
  have IB := Lib.hid (IB.out.outr oc (.inl (by omega)))
  have AF := Lib.hid (AF.out.outr oc (by omega))
  have SS := Lib.hid (SS.out.outr oc (by omega) (.inl (by omega)))
  have GG := Lib.hid (GG.out.outr oc (by omega) (.inr (by omega)))
  have HZ := Lib.hid (Nat.le_trans HZ.out oc.size)
  clear oc CX XB z1 hz2
  have dk : decide (zz < 0) = false := dec_f (by omega)
  go_wp2_with fail
  refine (eq_insts_same _ _ L _ GG.out.insts SS.out.insts).mono ?_
  rintro e w16 ⟨rfl, bb⟩
  have IB := Lib.hid (IB.out.after bb); have AF := Lib.hid (AF.out.after bb); have SS := Lib.hid (SS.out.later bb); have GG := Lib.hid (GG.out.later bb); have HZ := Lib.hid (Nat.le_trans HZ.out (Below.size (bb)))
  clear bb dk
  go_wp2_with fail
  refine (mark_instsX _ L _ _ _ GG.out ZN.out ZL.out).mono ?_
  rintro e w17 ⟨rfl, mm, oc⟩
  have hz16 := HZ.out
  have IB := Lib.hid (IB.out.outr oc (.inl (by omega)))
  have AF := Lib.hid (AF.out.outr oc (by omega))
  have SS := Lib.hid (SS.out.outr oc (by omega) (.inl (by omega)))
  have MM := Lib.hid mm
  have HZ := Lib.hid (Nat.le_trans HZ.out oc.size)
  clear oc mm GG
  have hsn := (snL_le ZL.out L.length (Nat.le_refl _)).1
  obtain ⟨mk, hmk⟩ : ∃ mk : Int, ((snL L L.length : Nat) : Int) = mk := ⟨_, rfl⟩
  have HM := Lib.hid hmk
  have dm : decide (mk < 0) = false := dec_f (by omega)
  rw [hmk]
  clear hmk hsn
  go_wp2_with fail
  refine (held_instsX _ L _ MM.out.insts ZN.out ZL.out).mono ?_
  rintro e w18 ⟨rfl, bb⟩
  rw [HM.out]
  have IB := Lib.hid (IB.out.after bb); have AF := Lib.hid (AF.out.after bb); have SS := Lib.hid (SS.out.later bb); have HZ := Lib.hid (Nat.le_trans HZ.out (Below.size (bb))); have MM := Lib.hid (MM.out.later bb)
  clear bb
  go_wp2_with fail
  have IB := Lib.hid (IB.out.after (Below.refl _ _).drew); have AF := Lib.hid (AF.out.after (Below.refl _ _).drew); have SS := Lib.hid (SS.out.later (Below.refl _ _).drew); have MM := Lib.hid (MM.out.later (Below.refl _ _).drew)
  have HZ := Lib.hid (show w8.heap.size ≤ (World.drew _).heap.size from HZ.out)
  refine wp_region_noPanic ?_
  refine wp_region_mix (S := fun w' => Bx w' w.heap.size 30 #[.int .i64 x.rep, .int .i64 x.slot, .int .i64 x.bal, .int .i64 x.vbal, .int .i64 x.st, .int .i64 x.cmd.kind, .int .i64 x.cmd.client, .int .i64 x.cmd.no, .string x.cmd.set, .string x.cmd.name, .string x.cmd.tag, .int .i64 x.cmd.n, .slice x1 x2 x3, .int .i64 x.seq, .slice x4 x5 x6, .bool x.same]) [(true, 0), (true, 2), (false, 1), (false, 3), (false, 4), (false, 5)] (by kernel_rfl) (by kernel_rfl) (by kernel_rfl) (by kernel_rfl) (fun _ _ _ _ _ h => h) IB.out ?_
  (refine wpMix_take (v := ?_) rfl rfl ?_ ?_; rotate_left; (intro w' hS'; (try dsimp only at hS'); go_simp; (try with_reducible rfl)); simp only [List.getElem_toArray, List.getElem_cons_zero, Act.put, List.setIfInBounds_toArray, List.set_cons_zero, List.set_cons_succ])
  (refine wpMix_take (v := .agg #[.int .i64 x.rep, .int .i64 x.slot, .int .i64 x.bal, .int .i64 x.vbal, .int .i64 x.st, .int .i64 x.cmd.kind, .int .i64 x.cmd.client, .int .i64 x.cmd.no, .string x.cmd.set, .string x.cmd.name, .string x.cmd.tag, .int .i64 x.cmd.n, .slice x1 x2 x3, .int .i64 x.seq, .slice x4 x5 x6, .bool x.same]) rfl rfl (fun w' hS' => exec_load_linst rfl hS' rfl) ?_; simp only [List.getElem_toArray, List.getElem_cons_succ, List.getElem_cons_zero, Act.put, List.setIfInBounds_toArray, List.set_cons_zero, List.set_cons_succ])
  refine wpMix_step rfl ?_
  go_wp2_with fail
  refine (to_insts _ l _ (VH.out.later AF.out) SM.out).mono ?_
  rintro e w19 ⟨u_w19, rfl, o_w19, bb, _⟩
  obtain ⟨a_w19, n_w19, c_w19, rfl⟩ := o_w19.form
  have IB := Lib.hid (IB.out.after bb); have AF := Lib.hid (AF.out.after bb); have SS := Lib.hid (SS.out.later bb); have HZ := Lib.hid (Nat.le_trans HZ.out (Below.size (bb))); have MM := Lib.hid (MM.out.later bb)
  have T0 := Lib.hid o_w19.insts
  clear bb o_w19
  go_wp2
  refine ⟨IB.out, ?_⟩
  refine wpMix_step rfl ?_
  go_wp2_with fail
  refine (to_inst x _ _ _ (PX.out.later AF.out) SXN.out.1 SXN.out.2).mono ?_
  rintro e w20 ⟨⟨a1_w20, n1_w20, c1_w20, a2_w20, n2_w20, c2_w20, rfl, p_w20⟩, bb⟩
  have IB := Lib.hid (IB.out.after bb); have AF := Lib.hid (AF.out.after bb); have SS := Lib.hid (SS.out.later bb); have HZ := Lib.hid (Nat.le_trans HZ.out (Below.size (bb))); have MM := Lib.hid (MM.out.later bb); have T0 := Lib.hid (T0.out.later bb)
  have T1 := Lib.hid p_w20.pts
  clear bb p_w20
  go_wp2
  refine ⟨IB.out, ?_⟩
  refine wpMix_step rfl ?_
  go_wp2_with fail
  refine (CI.out _ _ _ _ T0.out T1.out (HS.out.later AF.out)).mono ?_
  rintro e w21 ⟨⟨u21, rfl, o21⟩, bb⟩
  obtain ⟨aH, nH, cH, rfl⟩ := o21.form
  have IB := Lib.hid (IB.out.after bb); have AF := Lib.hid (AF.out.after bb); have SS := Lib.hid (SS.out.later bb); have HZ := Lib.hid (Nat.le_trans HZ.out (Below.size (bb))); have MM := Lib.hid (MM.out.later bb)
  have HH := Lib.hid o21.insts
  clear bb o21 T0 T1
  go_wp2
  refine ⟨IB.out, ?_⟩
  refine wpMix_step rfl ?_
  go_wp2
  refine ⟨IB.out, ?_⟩
  unfold wpMix
  refine NoPanic.normal ?_
  go_wp2_with fail
  refine (eq_insts_same _ _ L _ HH.out SS.out.insts).mono ?_
  rintro e w22 ⟨rfl, bb⟩
  have IB := Lib.hid (IB.out.after bb); have AF := Lib.hid (AF.out.after bb); have SS := Lib.hid (SS.out.later bb); have HZ := Lib.hid (Nat.le_trans HZ.out (Below.size (bb))); have MM := Lib.hid (MM.out.later bb)
  clear bb HH
  go_wp2_with fail
  refine (held_instsX _ L _ MM.out.insts ZN.out ZL.out).mono ?_
  rintro e w23 ⟨rfl, bb⟩
  rw [HM.out]
  have IB := Lib.hid (IB.out.after bb); have AF := Lib.hid (AF.out.after bb); have SS := Lib.hid (SS.out.later bb); have HZ := Lib.hid (Nat.le_trans HZ.out (Below.size (bb))); have MM := Lib.hid (MM.out.later bb)
  clear bb
  go_wp2
  go_ret
  exact ⟨rfl, AF.out⟩
end Go.Proofs.YtdokglckfabdaaaDoor
