/- The model's LogRead, by one contract. -/
import Derived.Test.YtmnglcidklckgaaDoorRdL
import Derived.Test.YtmnglcidklckgaaDoorLogS
import Derived.Test.YtmnglcidklckgaaDoorUnfS
import Derived.Deep.AppendLies
namespace Go.Proofs.YtmnglcidklckgaaDoor
open Go.RowKit Go.PlainAid
set_option linter.unusedVariables false

/-- out = append(out, x): the row stays where it lies, or is new. -/
theorem wp_append_lies {w : World} {ops : Array Oper} {rest : List Oper} {o : Oper} {a : Act} {Q : Exit → Act → World → Prop} (hgd : o.guard = none) (s x : Operand)
    (ho : o.op = .call { callee := .builtin .append, args := #[s, x], argTypes := #[28, 28] }) (base : Nat) (v : Value) (l : List ByteArray) (t : ByteArray) (hs : a.eval s = v) (hown : GrowsS w base v l)
    (h c : Nat) (hx : a.eval x = .slice (some ⟨h, 0, none⟩) 1 c) (hX : w.cell? ⟨h, 0, none⟩ = some (.string t)) (hlen : l.length ≤ 1048576) (hbase : base ≤ w.heap.size)
    (hK : ∀ g cap w', GrowsS w' base (.slice (some ⟨g, 0, none⟩) (l.length + 1) cap) (l ++ [t]) → w.grownBy w' v.ownBlock → (v.ownBlock = some g ∨ g = w.heap.size) → wpList Tryd.prog ops Q rest (a.put o.dst (.slice (some ⟨g, 0, none⟩) (l.length + 1) cap)) w') : wpList Tryd.prog ops Q (o :: rest) a w := by
  obtain ⟨i0, hi, hz0, hz1, hz2⟩ := info_parts Tryd.info9
  refine wpList_append_lies w hgd s x 28 ho base 9 i0 (.string ByteArray.empty) 1 16 Tryd.underlying28 hi hz0 hz1 hz2 rfl (by decide) v l.length (strV l) hs hown ⟨h, 0, none⟩ 1 c [.string t] hx (by simp) ?_ (by intro u hu; simp at hu; subst hu; rfl) (by decide) (by unfold maxLen; omega) (by omega) hbase w.heap.size rfl ?_
  · intro j u hj
    match j, hj with
    | 0, hj => simp at hj; subst hj; simpa [Addr.add] using hX
    | j + 1, hj => simp at hj
  · intro g cap w' h1 h2 h3 _
    refine hK g cap w' ?_ h2 h3
    unfold GrowsS
    rw [List.length_append]
    simpa [strV] using h1
theorem growsS_cell {w : World} {base : Nat} {v : Value} {l : List ByteArray} (h : GrowsS w base v l) (j : Nat) (hj : j < l.length) : ∃ g cap, v = .slice (some ⟨g, 0, none⟩) l.length cap ∧ l.length ≤ cap ∧ base ≤ g ∧ g < w.heap.size ∧ w.cell? ⟨g, j, none⟩ = some (.string (el l j)) := by
  obtain ⟨h1, ⟨rfl, h2⟩ | ⟨g, cap, cur, rfl, hb, hg, hc, hm, hs, ht⟩⟩ := h
  · omega
  · refine ⟨g, cap, rfl, hc, hb, (Array.getElem?_eq_some_iff.1 hg).1, ?_⟩
    rw [cell_of_row w g j cur _ (0, 0) hg]
    have e : (strV l)[j]? = some (.string (el l j)) := by
      unfold strV
      rw [List.getElem?_map, el_get l j hj]
      rfl
    rw [← ht, List.getElem?_take, if_pos (by omega)] at e
    simpa using e

set_option maxRecDepth 100000 in
set_option maxHeartbeats 2000000 in
theorem spec_logRead (v : Value) (l : List Sg) (n m : Int) (w : World) (hv : Segs w v l) (ht : ∀ j, j < l.length → (sT l j).size ≤ 1048576) :
    Calls Tryd.prog 28 #[.agg #[v, .int .i64 n, .int .i64 m]] w fun e w' => ∃ u, e = .returned u ∧ GrowsS w' w.heap.size u (rdR l n m) ∧ Below w.heap.size w w' := by
  obtain ⟨a, k0, cap0, hve⟩ := hv.form
  have hk0 : l.length = k0 := by
    obtain ⟨_, _, a', c', e', _⟩ := hv
    rw [hve] at e'
    simp only [Value.slice.injEq] at e'
    exact e'.2.1.symm
  have hl63 := hv.len
  subst hve
  have X0 := Lib.hid ((Bx.new w 26 #[.slice a k0 cap0, .int .i64 n, .int .i64 m] _ rfl).alloc (.cells #[] 9))
  have A0 := Lib.hid (((Af.refl w).alloc (.cells #[.slice a k0 cap0, .int .i64 n, .int .i64 m] 26)).alloc (.cells #[] 9))
  have hG : GrowsS ((w.alloc (.cells #[.slice a k0 cap0, .int .i64 n, .int .i64 m] 26)).alloc (.cells #[] 9)) (w.heap.size + 1) (.slice (some ⟨w.heap.size + 1, 0, none⟩) 0 0) [] := by
    have h := World.ownsRow_made (base := w.heap.size + 1) (e := 9) (size := 1) (w.alloc (.cells #[.slice a k0 cap0, .int .i64 n, .int .i64 m] 26)) #[] 0 (by simp) (Nat.zero_le _) rfl
    simpa [GrowsS, strV] using h
  have HG := Lib.hid hG
  have HV := Lib.hid hv
  have HT := Lib.hid ht
  have HK := Lib.hid hk0
  clear hv ht hG
  cases hok : okB l n m with
  | false =>
    have HR := Lib.hid (rdR_no l n m hok)
    have HO := Lib.hid hok
    obtain ⟨x0, x1, x2⟩ := X0.out.cells3
    rw [hk0] at hl63
    clear hok hk0
    by_cases h0 : k0 = 0
    · subst h0
      go_enter Tryd.func28, Tryd.ntmps28
      go_wp2
      refine wp_loop_rounds 1 ?_
      rw [rounds_succ]
      go_wp2
      go_ret
      exact ⟨_, rfl, by rw [HR.out]; exact HG.out.mono (by omega), A0.out⟩
    · have h0i : (0 : Int) < (k0 : Int) := by omega
      go_enter Tryd.func28, Tryd.ntmps28
      go_wp2
      refine wp_loop_rounds 1 ?_
      rw [rounds_succ]
      go_wp2_with fail
      refine (spec_logOk _ l n m _ (HV.out.later A0.out) HT.out).mono ?_
      rintro e w2 ⟨rfl, hb⟩
      rw [HO.out]
      have A2 := Lib.hid (A0.out.after hb)
      have G2 := Lib.hid (HG.out.later hb)
      clear hb
      go_wp2
      go_ret
      exact ⟨_, rfl, by rw [HR.out]; exact G2.out.mono (by omega), A2.out⟩
  | true =>
    have HR := Lib.hid (rdR_ok l n m hok)
    have HO := Lib.hid hok
    obtain ⟨l1, l6⟩ := okB_len hok
    obtain ⟨n1, n2, m1, m2⟩ := okB_n hok
    obtain ⟨b, o, cap, hve, hcap, hbw, _, _⟩ := HV.out.at0 0 (by omega)
    simp only [Value.slice.injEq] at hve
    obtain ⟨rfl, hkk, rfl⟩ := hve
    rw [hk0] at l1 l6 hcap
    have i6 : (k0 : Int) ≤ 6 := by omega
    clear hok hk0 hkk hl63
    go_enter Tryd.func28, Tryd.ntmps28
    go_wp2
    go_loopw [3, 4] (fun ov i wr => ∃ k : Nat, k ≤ k0 ∧ i = .int .i64 k ∧ GrowsS wr (w.heap.size + 1) ov (rdA l m k) ∧ Bx wr w.heap.size 26 #[.slice (some ⟨b, o, none⟩) k0 cap0, .int .i64 n, .int .i64 m] ∧ Af w wr) (fun _ i _ => k0 - (intOf i).toNat)
    case atStart => exact ⟨0, by omega, rfl, HG.out, X0.out, A0.out⟩
    case round =>
      clear X0 A0 HG
      obtain ⟨k, hk, rfl, hgv, hx, ha⟩ := hrel
      have G0 := Lib.hid hgv
      have X0 := Lib.hid hx
      have A0 := Lib.hid ha
      obtain ⟨x0, x1, x2⟩ := hx.cells3
      have sz0 := hx.lt
      clear hgv hx ha
      have y0 : (0 : Int) ≤ (k : Int) := by omega
      by_cases hlt : k < k0
      · have y1 : (k : Int) < (k0 : Int) := by omega
        go_wp2_with fail
        clear x0 x1 x2
        refine (spec_logOk _ l n m _ (HV.out.later A0.out) HT.out).mono ?_
        rintro e w2 ⟨rfl, hb⟩
        rw [HO.out]
        have G2 := Lib.hid (G0.out.later hb)
        have X2 := Lib.hid (X0.out.after hb)
        have A2 := Lib.hid (A0.out.after hb)
        obtain ⟨b', o', cap', ev, _, _, c0, c1⟩ := (HV.out.later A2.out).at0 k (by rw [HK.out]; exact hlt)
        simp only [Value.slice.injEq, Option.some.injEq, Addr.mk.injEq] at ev
        obtain ⟨⟨rfl, rfl, _⟩, hkk, rfl⟩ := ev
        obtain ⟨x0, x1, x2⟩ := X2.out.cells3
        have htk := HT.out k (by rw [HK.out]; exact hlt)
        clear hb G0 X0 A0 hkk c0
        go_wp2_with fail
        clear x0 x1 x2 c1
        refine (spec_unframe _ _ htk).mono ?_
        rintro e w3 ⟨rv, rfl, hrv, hb⟩
        have G3 := Lib.hid (G2.out.later hb)
        have X3 := Lib.hid (X2.out.after hb)
        have A3 := Lib.hid (A2.out.after hb)
        obtain ⟨ra, rc, rfl⟩ := growsS_len hrv
        rw [fL_length]
        have V3 := Lib.hid hrv
        have hov3 : ∀ g, u3.ownBlock = some g → g < w2.heap.size := fun g hgg => (World.ownsRow.lt G2.out g hgg).2
        have hrb0 : ∀ g, Value.ownBlock (.slice ra (fL (sT l k) (nF (sT l k))).length rc) = some g → w2.heap.size ≤ g ∧ g < w3.heap.size := fun g hgg => World.ownsRow.lt hrv g hgg
        have hfk := okB_F HO.out k (by rw [HK.out]; exact hlt)
        have hnt5 := nF_le5 (sT l k)
        have hlen0 := rdA_len l m k
        have hA2 := atN_mono l k l.length (by rw [HK.out]; omega)
        have hAn : n = atN l l.length := ((okB_iff l n m).1 HO.out).2.2.2.2.2.2.1
        have hf0 := (okB_F HO.out 0 (by rw [HK.out]; omega)).2.1
        have hl0 : (rdA l m k).length ≤ 1000 := by omega
        have HSU := Lib.hid (rdA_succ l m k)
        rw [fL_length] at hrb0
        rw [hfk.1.symm] at HSU
        have hc1 : 1 ≤ sF l k := hfk.2.1
        have hc2 : sF l k ≤ 1000 := by have := hfk.2.2; omega
        obtain ⟨nt, hnt⟩ : ∃ nt, nF (sT l k) = nt := ⟨_, rfl⟩
        have HNT := Lib.hid hnt
        rw [hnt] at hnt5 hrb0 HSU V3 ⊢
        have nt6 : (nt : Int) ≤ 209716 := by omega
        have HRB := Lib.hid hrb0
        have HOV := Lib.hid hov3
        have V3' := Lib.hid (show GrowsS w3 w2.heap.size (.slice ra nt rc) (fL (sT l k) nt) by have h := V3.out; rw [fL_length] at h; exact h)
        have sz2 := X2.out.lt
        have sz3 := hb.size
        clear hb hrv V3 hrb0 hov3 hfk hlen0 hA2 hAn hf0 hnt G2 X2 A2
        go_wp2
        go_loopw [3, 7] (fun ov j wq => ∃ q : Nat, q ≤ nt ∧ j = .int .i64 q ∧ GrowsS wq (w.heap.size + 1) ov (rdA l m k ++ (fL (sT l k) q).drop (rdD m (sF l k))) ∧ GrowsS wq w2.heap.size (.slice ra nt rc) (fL (sT l k) nt) ∧ (∀ g, ov.ownBlock = some g → Value.ownBlock (.slice ra nt rc) ≠ some g) ∧ Bx wq w.heap.size 26 #[.slice (some ⟨b, o, none⟩) k0 cap0, .int .i64 n, .int .i64 m] ∧ Af w wq ∧ w3.heap.size ≤ wq.heap.size) (fun _ j _ => nt - (intOf j).toNat)
        case atStart => exact ⟨0, by omega, rfl, by have h := G3.out; simpa [fL] using h, V3'.out, fun g hg1 hg2 => by have h1 := HOV.out g hg1; have h2 := HRB.out g hg2; omega, X3.out, A3.out, Nat.le_refl _⟩
        case round =>
          clear G3 X3 A3 V3' HOV
          obtain ⟨q, hq, rfl, hgo, hgr, hdis, hx, ha, hsq⟩ := hrel
          have GO := Lib.hid hgo
          have GR := Lib.hid hgr
          have DI := Lib.hid hdis
          have XQ := Lib.hid hx
          have AQ := Lib.hid ha
          obtain ⟨x0, x1, x2⟩ := hx.cells3
          have z0 : (0 : Int) ≤ (q : Int) := by omega
          clear hgo hgr hdis hx ha
          by_cases hqt : q < nt
          · have z1 : (q : Int) < (nt : Int) := by omega
            obtain ⟨rg, rcap, rev, hrc, hrb1, hrb2, rcell⟩ := growsS_cell GR.out q (by rw [fL_length]; exact hqt)
            simp only [Value.slice.injEq] at rev
            obtain ⟨rfl, hrl, rfl⟩ := rev
            clear hrl
            rw [fL_length] at hrc
            obtain ⟨b', o', cap', ev, _, _, c0, c1⟩ := (HV.out.later AQ.out).at0 k (by rw [HK.out]; exact hlt)
            simp only [Value.slice.injEq, Option.some.injEq, Addr.mk.injEq] at ev
            obtain ⟨⟨rfl, rfl, _⟩, hkk, rfl⟩ := ev
            have hel : el (fL (sT l k) nt) q = frC (fS (sT l k) q) := fL_el _ _ _ hqt
            rw [hel] at rcell
            have hfs := fL_succ (sT l k) q
            have HFS := Lib.hid hfs
            have hfl : (fL (sT l k) q).length = q := fL_length _ _
            have HFL := Lib.hid hfl
            clear hkk hel hfs hfl c1
            by_cases hgt : m < sF l k + (q : Int)
            · have hds := drop_snoc_in (fL (sT l k) q) (frC (fS (sT l k) q)) (rdD m (sF l k)) (by rw [HFL.out]; exact (rdD_le _ _ _).2 hgt)
              have HDS := Lib.hid hds
              have hll : (rdA l m k ++ (fL (sT l k) q).drop (rdD m (sF l k))).length ≤ 300000 := by rw [List.length_append, List.length_drop, HFL.out]; omega
              clear hds
              go_wp2
              go_quiet (fail)
              have HC1 := Lib.hid (show ((wr.drewN nq).alloc (.cells #[.string (frC (fS (sT l k) q))] 9)).cell? ⟨wr.heap.size, 0, none⟩ = some (.string (frC (fS (sT l k) q))) from (Bx.new (wr.drewN nq) 9 #[.string (frC (fS (sT l k) q))] wr.heap.size rfl).cell 0 _ rfl)
              go_wp2_with (at_builtin; go_loud (refine wp_append_lies rfl (.tmp 47) (.tmp 52) rfl (w.heap.size + 1) _ _ (frC (fS (sT l k) q)) rfl (GrowsS.alloc (show GrowsS (wr.drewN nq) (w.heap.size + 1) _ _ from GO.out) _) wr.heap.size 1 rfl HC1.out (by omega) (by simp; omega) ?_; intro g cap w' hv' hg' hlie))
              go_roundw
              case rel =>
                have hne : Value.ownBlock (.slice (some ⟨rg, 0, none⟩) nt rc) ≠ u3.ownBlock := fun e => DI.out rg e.symm rfl
                have hbl : ∀ b, u3.ownBlock = some b → w.heap.size + 1 ≤ b := fun b hb => (World.ownsRow.lt GO.out b hb).1
                have hgd : g ≠ rg := by
                  rcases hlie with h | h
                  · intro e
                    exact DI.out g h (by rw [e]; rfl)
                  · have h2 : g = wr.heap.size + 1 := by simpa using h
                    omega
                refine ⟨q + 1, by omega, by go_num, ?_, World.ownsRow.kept (GrowsS.alloc (show GrowsS (wr.drewN nq) w2.heap.size _ _ from GR.out) (.cells #[.string (frC (fS (sT l k) q))] 9)) hg' (.inr hne), fun g' h1 h2 => ?_, ((XQ.out.drewN nq).alloc (.cells #[.string (frC (fS (sT l k) q))] 9)).keep hg' (fun e => by have := hbl _ e.symm; omega), ((AQ.out.drewN nq).alloc (.cells #[.string (frC (fS (sT l k) q))] 9)).grow hg' (fun k hk => by have := hbl _ hk; omega), Nat.le_trans hsq (by have := hg'.size; simp at this; omega)⟩
                · rw [HFS.out, HDS.out, ← List.append_assoc]
                  have h := hv'
                  rw [List.length_append, List.length_drop] at h
                  exact h
                · simp only [Value.ownBlock, Option.some.injEq] at h1 h2
                  omega
              case measure => simp only [intOf]; omega
            · have hds := drop_snoc_out (fL (sT l k) q) (frC (fS (sT l k) q)) (rdD m (sF l k)) (by rw [HFL.out]; have := mt (rdD_le m (sF l k) q).1 hgt; omega)
              have HDS := Lib.hid hds
              have dgt : decide (m < sF l k + (q : Int)) = false := decide_eq_false hgt
              clear hds
              go_wp2
              go_quiet (fail)
              go_wp2
              go_roundw
              case rel => exact ⟨q + 1, by omega, by go_num, by rw [HFS.out, HDS.out]; exact GO.out, GR.out, DI.out, XQ.out.drewN nq, AQ.out.drewN nq, hsq⟩
              case measure => simp only [intOf]; omega
          · obtain rfl : q = nt := by omega
            have dq : decide ((q : Int) < (q : Int)) = false := by simp
            go_wp2
            go_roundw
            case rel => exact ⟨k + 1, by omega, by go_num, by rw [HSU.out]; exact GO.out, XQ.out, AQ.out⟩
            case measure => simp only [intOf]; omega
      · obtain rfl : k = k0 := by omega
        have dk : decide ((k : Int) < (k : Int)) = false := by simp
        go_wp2
        go_ret
        exact ⟨_, rfl, by rw [HR.out, HK.out]; exact G0.out.mono (by omega), A0.out⟩
end Go.Proofs.YtmnglcidklckgaaDoor
