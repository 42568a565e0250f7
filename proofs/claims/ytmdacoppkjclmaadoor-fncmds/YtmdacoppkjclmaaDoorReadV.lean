/- The model's ReadCmd where all fields stand there. -/
import Derived.Test.YtmdacoppkjclmaaDoorReadU
namespace Go.Proofs.YtmdacoppkjclmaaDoor
open Go.RowKit Go.PlainAid
set_option linter.unusedVariables false

/-- The string s is read whole: the place and the number of its chunks. -/
theorem whole_place (s : ByteArray) (h : wholeB s = true) : (s4 s).2 ≠ none ∧ ∃ (r : ByteArray) (m q : Nat), (s8 s).2 = some r ∧ (s8 s).1 = (m : Int) ∧ m ≤ 4 ∧ r.size = 8 * m ∧ q + 8 * m = s.size ∧ posI s (s8 s).2 = (q : Int) ∧ (s9 s).1 = (oI (some r) m).1 ∧ ∀ k, k < m → s.extract (q + 8 * k) (q + 8 * k + 8) = (oB 8 (oI (some r) k).2).1 := by
  obtain ⟨h4, r, e8, hr⟩ := whole_parts s h
  refine ⟨(fun e => by rw [no4 s e] at h; cases h), r, (s8 s).1.toNat, s.size - r.size, e8, (Int.toNat_of_nonneg (oN_nonneg (s7 s).2)).symm, by omega, hr, ?_, by rw [e8]; rfl, ?_, ?_⟩
  · have := suf8 s
    rw [e8] at this
    have := this.1
    omega
  · unfold s9
    rw [if_neg (by omega), e8]
  · intro k hk
    have hsu := suf8 s
    rw [e8] at hsu
    obtain ⟨z1, z2⟩ := hsu
    have hs8 : (r.extract (8 * k) r.size).size = r.size - 8 * k := ext_size r _ _ (Nat.le_refl _)
    rw [oI_rest r k (by omega), oB_ok _ _ (by omega)]
    show _ = (r.extract (8 * k) r.size).extract 0 8
    rw [ext_ext r _ _ _ _ (Nat.le_refl _) (by omega)]
    conv => rhs; rw [z2]
    rw [ext_ext s _ _ _ _ (Nat.le_refl _) (by omega)]
    congr 1 <;> omega

set_option maxRecDepth 100000 in
set_option maxHeartbeats 8000000 in
theorem spec_read_yes (s : ByteArray) (w : World) (hs : s.size ≤ 1048576) (hyes : wholeB s = true) :
    Calls Tryd.prog 13 #[.string s] w fun e w' => (∃ va vn vcap, e = .returned (.tuple #[.agg #[.int .i64 (readC s).kind, .int .i64 (readC s).client, .int .i64 (readC s).no, .string (readC s).set, .string (readC s).name, .string (readC s).tag, .int .i64 (readC s).n, .slice va vn vcap], .bool (goodB s)]) ∧ GrowsS w' (w.heap.size + 1) (.slice va vn vcap) (readC s).ch) ∧ Below w.heap.size w w' := by
  have HY := Lib.hid hyes
  obtain ⟨h4, r, m, q, h8, hm, hm4, hr, hq, hpos, h9, hch⟩ := whole_place s hyes
  have HM := Lib.hid hm
  have HR := Lib.hid hr
  have HP := Lib.hid hpos
  have H9 := Lib.hid h9
  have HCH := Lib.hid hch
  have H8 := Lib.hid h8
  have H4 := Lib.hid h4
  clear hyes h4 h8 hm hr hpos h9 hch
  go_enter Tryd.func13, Tryd.ntmps13
  go_wp2_with fail
  refine (vars4 s _ hs).mono ?_
  rintro e w1 ⟨⟨lv, rfl, ⟨la, lm, lc, rfl⟩, hl⟩, hb⟩
  have B0 := Lib.hid ((Box.new w 26 #[.int .i64 0, .int .i64 0, .int .i64 0, .string ⟨#[]⟩, .string ⟨#[]⟩, .string ⟨#[]⟩, .int .i64 0, .slice none 0 0] w.heap.size rfl).after hb)
  have HW := Lib.hid (((Aft.refl w).alloc _).after hb)
  have hp4 := posI_pos s _ H4.out
  have HL := Lib.hid (hl H4.out)
  clear hl hb
  go_wp2_with fail
  refine (take5 s _ hs (suf4 s)).mono ?_
  rintro e w2 ⟨rfl, hb⟩
  have B0' := Lib.hid (B0.out.after hb)
  have HL' := Lib.hid (HL.out.later hb)
  have HW' := Lib.hid (HW.out.after hb)
  clear hb B0 HL HW
  have B0 := Lib.hid B0'.out
  have HL := Lib.hid HL'.out
  have HW := Lib.hid HW'.out
  clear B0' HL' HW'
  clear hp4
  go_wp2_with fail
  refine (take6 s _ hs (suf_T _ _ (suf4 s))).mono ?_
  rintro e w3 ⟨rfl, hb⟩
  have B0' := Lib.hid (B0.out.after hb)
  have HL' := Lib.hid (HL.out.later hb)
  have HW' := Lib.hid (HW.out.after hb)
  clear hb B0 HL HW
  have B0 := Lib.hid B0'.out
  have HL := Lib.hid HL'.out
  have HW := Lib.hid HW'.out
  clear B0' HL' HW'
  go_wp2_with fail
  refine (take7 s _ hs (suf_T _ _ (suf_T _ _ (suf4 s)))).mono ?_
  rintro e w4 ⟨rfl, hb⟩
  have B0' := Lib.hid (B0.out.after hb)
  have HL' := Lib.hid (HL.out.later hb)
  have HW' := Lib.hid (HW.out.after hb)
  clear hb B0 HL HW
  have B0 := Lib.hid B0'.out
  have HL := Lib.hid HL'.out
  have HW := Lib.hid HW'.out
  clear B0' HL' HW'
  go_wp2_with fail
  refine (vars8 s _ hs (suf7 s)).mono ?_
  rintro e w5 ⟨⟨nv, rfl, ⟨na, nm, nc, rfl⟩, hn⟩, hb⟩
  have HN := Lib.hid (hn (by rw [H8.out]; simp))
  have B0' := Lib.hid (B0.out.after hb)
  have HL' := Lib.hid (HL.out.later hb)
  have HW' := Lib.hid (HW.out.after hb)
  clear hb B0 HL HW
  have B0 := Lib.hid B0'.out
  have HL := Lib.hid HL'.out
  have HW := Lib.hid HW'.out
  clear B0' HL' HW'
  clear hn
  obtain ⟨gn, ncap, en, hgn, hcn⟩ := HN.out.cell (by simp)
  simp only [Value.slice.injEq] at en
  obtain ⟨rfl, rfl, rfl⟩ := en
  have cn0 := hcn 0 _ rfl
  rw [HM.out] at cn0
  obtain ⟨gl, lcap, el, hgl, hcl⟩ := HL.out.cell (by simp)
  simp only [Value.slice.injEq] at el
  obtain ⟨rfl, rfl, rfl⟩ := el
  have k0 := hcl 0 _ rfl
  have k1 := hcl 1 _ rfl
  have k2 := hcl 2 _ rfl
  have k3 := hcl 3 _ rfl
  have CN := Lib.hid cn0
  have B0l := B0.out.lt
  clear hcn hcl HN HL
  rw [HP.out]
  have t1 : decide ((4 : Int) < (m : Int)) = false := by simp; omega
  have t2 : (((s.size : Nat) : Int) != (q : Int) + 8 * (m : Int)) = false := by simp; omega
  go_wp2_with fail
  go_region_held3 (fun w' => w'.cell? ⟨gl, 0, none⟩ = some (.int .i64 (s1 s).1) ∧ w'.cell? ⟨gl, 1, none⟩ = some (.int .i64 (s2 s).1) ∧ w'.cell? ⟨gl, 2, none⟩ = some (.int .i64 (s3 s).1) ∧ w'.cell? ⟨gl, 3, none⟩ = some (.int .i64 (s4 s).1)) (go_keep) (first | fail)
  clear k0 k1 k2 k3 t1 t2
  have hsz5 := HW.out.size
  have BZ := Lib.hid B0.out
  have hG0 : w.heap.size < w5.heap.size := B0l
  clear B0l
  go_wp2
  go_loopw [11] (fun i wr => ∃ (k : Nat) (va : Option Addr) (vn vc : Nat), k ≤ m ∧ i = .int .i64 k ∧ Box wr w5.heap.size 26 #[.int .i64 (s1 s).1, .int .i64 (s2 s).1, .int .i64 (s3 s).1, .string (s5 s).1, .string (s6 s).1, .string (s7 s).1, .int .i64 (s4 s).1, .slice va vn vc] ∧ GrowsS wr (w5.heap.size + 1) (.slice va vn vc) (oI (some r) k).1 ∧ Box wr w.heap.size 26 #[.int .i64 0, .int .i64 0, .int .i64 0, .string ⟨#[]⟩, .string ⟨#[]⟩, .string ⟨#[]⟩, .int .i64 0, .slice none 0 0] ∧ wr.cell? ⟨gn, 0, none⟩ = some (.int .i64 (m : Int)) ∧ Aft w wr) (fun i _ => m - (intOf i).toNat)
  case atStart =>
    refine ⟨0, none, 0, 0, by omega, rfl, (Box.new w5 26 _ _ rfl).drew, growsS_nil _ _, (BZ.out.alloc _).drew, ?_, (HW.out.alloc _).drew⟩
    rw [Below.cell (w := w5) (B := w5.heap.size) (((Below.refl _ _).alloc (Nat.le_refl _) _).drew) (p := ⟨gn, 0, none⟩) hgn]
    exact CN.out
  case round =>
    clear BZ HW CN B0
    obtain ⟨k, va, vn, vc, hk, rfl, hbc, hv, hbz, hcg, haf⟩ := hrel
    have BC := Lib.hid hbc
    have HV := Lib.hid hv
    have BZ := Lib.hid hbz
    have CG := Lib.hid hcg
    have HW := Lib.hid haf
    have hwl := hbc.lt
    clear hbc hv hbz haf
    by_cases hlt : k < m
    · have c7 := BC.out.cell 7 _ rfl
      have f7 := BC.out.frozen 7
      have y1 : IntKind.i64.wrap (8 * (k : Int)) = 8 * (k : Int) := IntWalk.i64_in _ (by omega)
      obtain ⟨p, hp⟩ : ∃ p, q + 8 * k = p := ⟨_, rfl⟩
      have y2 : IntKind.i64.wrap ((q : Int) + 8 * (k : Int)) = (p : Int) := by rw [IntWalk.i64_in _ (by omega)]; omega
      have y3 : IntKind.i64.wrap ((p : Int) + 8) = (p : Int) + 8 := IntWalk.i64_in _ (by omega)
      have y4 : (p : Int) + 8 ≤ (s.size : Int) := by omega
      have y5 : (0 : Int) ≤ (p : Int) + 8 := by omega
      have y6 : (p : Int) ≤ (p : Int) + 8 := by omega
      have y7 : ((p : Int) + 8).toNat = p + 8 := by omega
      have HPP := Lib.hid hp
      clear hp
      have hgc : ∀ row, row = Value.ownBlock (.slice va vn vc) → some w5.heap.size ≠ row := fun row hr e => by
        have := (World.ownsRow.lt HV.out w5.heap.size (by rw [← hr, e])).1
        omega
      have hlen : (oI (some r) k).1.length ≤ 1000 := by rw [oI_length]; omega
      go_wp2
      go_region_law (first | (refine step_append_str rfl (.tmp 88) (.tmp 100) rfl (w5.heap.size + 1) (.slice va vn vc) (oI (some r) k).1 (s.extract p (p + 8)) (by simp [Act.eval]) (HV.out.alloc _).drew wr.heap.size 1 (by simp [Act.eval]) (by simp) hlen (by simp; omega) ?_; intro v' w' hv' hg'; obtain ⟨va', vn', vc', rfl⟩ := hv'.form; have BK := Lib.hid (((BC.out.alloc _).drew).keep hg' (hgc _ rfl)); have c7' := BK.out.cell 7 _ rfl; have f7' := BK.out.frozen 7))
      all_goals
        go_wp2
        have hBel : Below w5.heap.size wr (w'.setCell ⟨w5.heap.size, 7, none⟩ (.slice va' vn' vc')) := (((((Below.refl _ _).alloc (Nat.le_of_lt hwl) _).drew).trans ((below_of_grown ((HV.out.alloc _).drew) (by simp; omega) hg').mono (by omega)))).setCell (Nat.le_refl _) _
        have HBL := Lib.hid hBel
        clear hBel
        go_roundw
        case rel =>
          refine ⟨k + 1, va', vn', vc', by omega, by go_num, BK.out.setTo 7 _ _ rfl, ?_, BZ.out.later HBL.out hG0, ?_, Below.trans HW.out (HBL.out.mono (by omega))⟩
          · show GrowsS _ _ _ ((oI (some r) k).1 ++ [(oB 8 (oI (some r) k).2).1])
            rw [← HCH.out k hlt, HPP.out]
            exact hv'.kept (setG _ _ _ _) (by omega)
          · rw [HBL.out.cell (p := ⟨gn, 0, none⟩) hgn]
            exact CG.out
        case measure => simp only [intOf]; omega
    · obtain rfl : k = m := by omega
      have hvs : GrowsS wr (w5.heap.size + 1) (.slice va vn vc) (rawC s).ch := by
        show GrowsS _ _ _ (s9 s).1
        rw [H9.out]
        exact HV.out
      have KA := Lib.hid (show Has wr w5.heap.size 26 (rawC s) (.slice va vn vc) from ⟨BC.out, hvs.strs (fun j hj => Nat.le_trans (Nat.le_of_eq (raw_chunk s HY.out j hj)) (by decide))⟩)
      have KV := Lib.hid (hvs.mono (base' := w.heap.size + 1) (by omega))
      have HGS := Lib.hid (good_show s HY.out)
      obtain ⟨z1, z2, z3⟩ := raw_sizes s HY.out
      have Z1 : (rawC s).set.size ≤ 9223372036854775807 := by omega
      have Z2 : (rawC s).name.size ≤ 9223372036854775807 := by omega
      have Z3 : (rawC s).tag.size ≤ 9223372036854775807 := by omega
      clear hvs z1 z2 z3 BC HV HCH HM HR HP H9 H8 H4
      generalize hcc : rawC s = c at *
      have HCC := Lib.hid hcc
      clear hcc
      obtain ⟨b0, b1, b2, b3, b4, b5, b6, b7⟩ := KA.out.cells
      go_wp2_with fail
      clear b0 b1 b2 b3 b4 b5 b6 b7
      refine (spec_show c _ _ KA.out.2 Z1 Z2 Z3).mono ?_
      rintro e w7 ⟨rfl, hb⟩
      have KA7 := Lib.hid (KA.out.after hb)
      have KV7 := Lib.hid (KV.out.later hb)
      have BZ7 := Lib.hid (BZ.out.after hb)
      have HW7 := Lib.hid (HW.out.after hb)
      clear hb KA KV BZ HW CG hcg
      have e0 := BZ7.out.frozen 0
      have e1 := BZ7.out.frozen 1
      have e2 := BZ7.out.frozen 2
      have e3 := BZ7.out.frozen 3
      have e4 := BZ7.out.frozen 4
      have e5 := BZ7.out.frozen 5
      have e6 := BZ7.out.frozen 6
      have e7 := BZ7.out.frozen 7
      obtain ⟨x0, x1, x2, x3, x4, x5, x6, x7⟩ := BZ7.out.cells8
      have l0 := BZ7.out.lt
      by_cases hgd : showS c = s
      · have HGD := Lib.hid (show goodB s = true by rw [HGS.out]; exact decide_eq_true hgd)
        have hteq : ((showS c).toList == s.toList) = true := by rw [hgd]; simp
        clear hgd
        obtain ⟨b0, b1, b2, b3, b4, b5, b6, b7⟩ := KA7.out.cells
        go_wp2
        refine bodyPost_ret (results_cmd2 Tryd.results13 _ _ w.heap.size _ _ _ _ _ _ _ _ _ rfl rfl (BZ7.out.set8cells _ _ _ _ _ _ _ _)) rfl ⟨⟨va, vn, vc, ?_, ?_⟩, ?_⟩
        · have e1 : readC s = c := by unfold readC; rw [HGD.out, if_pos rfl, HCC.out]
          rw [e1, HGD.out]
          rfl
        · have e1 : readC s = c := by unfold readC; rw [HGD.out, if_pos rfl, HCC.out]
          rw [e1]
          exact KV7.out.set8 _ (by omega) _ _ _ _ _ _ _ _
        · exact HW7.out.set8 _ (Nat.le_refl _) _ _ _ _ _ _ _ _
      · have HGD := Lib.hid (show goodB s = false by rw [HGS.out]; exact decide_eq_false hgd)
        have hteq := ne_list hgd
        clear hgd
        go_wp2
        refine bodyPost_ret (results_cmd2 Tryd.results13 _ _ w.heap.size _ _ _ _ _ _ _ _ _ rfl rfl (BZ7.out.set8cells _ _ _ _ _ _ _ _)) rfl ⟨⟨none, 0, 0, ?_, ?_⟩, ?_⟩
        · have e1 : readC s = zeroC := by unfold readC; rw [HGD.out]; rfl
          rw [e1, HGD.out]
          rfl
        · have e1 : readC s = zeroC := by unfold readC; rw [HGD.out]; rfl
          rw [e1]
          exact growsS_nil _ _
        · exact HW7.out.set8 _ (Nat.le_refl _) _ _ _ _ _ _ _ _
theorem spec_read (s : ByteArray) (w : World) (hs : s.size ≤ 1048576) :
    Calls Tryd.prog 13 #[.string s] w fun e w' => (∃ va vn vcap, e = .returned (.tuple #[.agg #[.int .i64 (readC s).kind, .int .i64 (readC s).client, .int .i64 (readC s).no, .string (readC s).set, .string (readC s).name, .string (readC s).tag, .int .i64 (readC s).n, .slice va vn vcap], .bool (goodB s)]) ∧ GrowsS w' (w.heap.size + 1) (.slice va vn vcap) (readC s).ch) ∧ Below w.heap.size w w' := by
  cases h : wholeB s
  · exact spec_read_no s w hs h
  · exact spec_read_yes s w hs h
end Go.Proofs.YtmdacoppkjclmaaDoor
