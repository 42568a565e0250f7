import Derived.Test.YtemhhjkmolndbaaDoorSpCopy
import Derived.Test.YtemhhjkmolndbaaDoorLogR
import Derived.Test.YtemhhjkmolndbaaDoorLogS
import Derived.Test.YtemhhjkmolndbaaDoorRows
import Derived.WalkKit
import Derived.StillTail
import Derived.BigQuiet
import Derived.Test.YtemhhjkmolndbaaDoorChk
import Derived.Test.YtemhhjkmolndbaaDoorUnfS
/- The model's LogMark, by one contract. -/
namespace Go.Proofs.YtemhhjkmolndbaaDoor
open Go.RowKit Go.PlainAid
set_option linter.unusedVariables false

set_option maxRecDepth 100000 in
set_option maxHeartbeats 1000000 in
theorem spec_mark (v : Value) (l : List Sg) (n m k : Int) (w : World) (hv : Segs w v l) (ht : ∀ j, j < l.length → (sT l j).size ≤ 1048576) :
    Calls Tryd.prog 22 #[.agg #[v, .int .i64 n, .int .i64 m], .int .i64 k] w fun e w' => RetLog w.heap.size (markR l n m k) e w' ∧ Below w.heap.size w w' := by
  obtain ⟨a, k0, cap0, hve⟩ := hv.form
  subst hve
  have V0 := Lib.hid ((hv.alloc (.cells #[.slice a k0 cap0, .int .i64 n, .int .i64 m] 26)).alloc (.cells #[.slice none 0 0, .int .i64 0, .int .i64 0] 26))
  have X0 := Lib.hid ((Bx.new w 26 #[.slice a k0 cap0, .int .i64 n, .int .i64 m] _ rfl).alloc (.cells #[.slice none 0 0, .int .i64 0, .int .i64 0] 26))
  have Z0 := Lib.hid (Bx.new (w.alloc (.cells #[.slice a k0 cap0, .int .i64 n, .int .i64 m] 26)) 26 #[.slice none 0 0, .int .i64 0, .int .i64 0] (w.heap.size + 1) (by simp))
  have A0 := Lib.hid (((Af.refl w).alloc (.cells #[.slice a k0 cap0, .int .i64 n, .int .i64 m] 26)).alloc (.cells #[.slice none 0 0, .int .i64 0, .int .i64 0] 26))
  have HT := Lib.hid ht
  clear hv ht
  go_enter Tryd.func22, Tryd.ntmps22
  go_wp2_with fail
  refine (spec_logOk _ l n m _ V0.out HT.out).mono ?_
  rintro e w2 ⟨rfl, hb⟩
  have V2 := Lib.hid (V0.out.later hb)
  have X2 := Lib.hid (X0.out.after hb)
  have Z2 := Lib.hid (Z0.out.after hb)
  have A2 := Lib.hid (A0.out.after hb)
  have s2 := A2.out.size
  have z2 := Z2.out.lt
  clear hb V0 X0 Z0 A0
  cases hok : okB l n m with
  | false =>
    have HM := Lib.hid (markR_no l n m k hok)
    obtain ⟨y0, y1, y2⟩ := Z2.out.cells3
    obtain ⟨f0, f1, f2⟩ := Z2.out.frozen3
    clear hok
    go_wp2
    exact bodyPost_ret (results_log2 Tryd.results22 _ _ (w.heap.size + 1) _ _ _ rfl (Z2.out.st3 _ _ _).cells3) rfl ⟨by rw [HM.out]; exact ⟨none, 0, 0, rfl, segOwn_nil _ _ _ _, .inr rfl⟩, A2.out.st3 (by omega) _ _ _⟩
  | true =>
    obtain ⟨l1, l6⟩ := okB_len hok
    obtain ⟨n1, n2, m1, m2⟩ := okB_n hok
    have HF := Lib.hid (fun j hj => (okB_F hok j hj).2)
    have HM1 := Lib.hid (markR_in l n m k hok)
    have HM2 := Lib.hid (markR_out l n m k hok)
    have HL := Lib.hid (And.intro l1 l6)
    obtain ⟨x0, x1, x2⟩ := X2.out.cells3
    clear hok l1 l6
    go_wp2_with fail
    clear x0 x1 x2
    refine (spec_copy _ l n m _ V2.out HL.out.1 (by have := HL.out.2; omega)).mono ?_
    rintro e w3 ⟨u, rfl, hr, hb⟩
    obtain ⟨g, cap, rfl, hbg, hgw, hcap⟩ := hr.form HL.out.1
    have X3 := Lib.hid (X2.out.after hb)
    have Z3 := Lib.hid (Z2.out.after hb)
    have A3 := Lib.hid (A2.out.after hb)
    have R3 := Lib.hid hr
    clear hr hb X2 Z2 A2 V2
    have s3 := A3.out.size
    have z3 := Z3.out.lt
    by_cases hr : m ≤ k ∧ k ≤ n - 1
    · obtain ⟨r1, r2⟩ := hr
      have HM := Lib.hid (HM1.out ⟨r1, r2⟩)
      have d1 : decide (k < m) = false := decide_eq_false (by omega)
      have d2 : k < n := by omega
      have R4 := Lib.hid (R3.out.alloc (.cells #[.slice (some ⟨g, 0, none⟩) l.length cap, .int .i64 n, .int .i64 k] 26))
      have Z4 := Lib.hid (Z3.out.alloc (.cells #[.slice (some ⟨g, 0, none⟩) l.length cap, .int .i64 n, .int .i64 k] 26))
      have A4 := Lib.hid (A3.out.alloc (.cells #[.slice (some ⟨g, 0, none⟩) l.length cap, .int .i64 n, .int .i64 k] 26))
      obtain ⟨x0, x1, x2⟩ := (X3.out.alloc (.cells #[.slice (some ⟨g, 0, none⟩) l.length cap, .int .i64 n, .int .i64 m] 26)).cells3
      go_wp2_with fail
      clear x0 x1 x2
      refine (spec_trim _ w2.heap.size l n k _ R4.out.own (by simp; omega) HL.out.1 (by have := HL.out.2; omega) (fun j hj => by have := HF.out j hj; omega)).mono ?_
      rintro e w5 ⟨a5, c5, cap5, rfl, ho, hb⟩
      have Z5 := Lib.hid (Z4.out.after hb)
      have A5 := Lib.hid (A4.out.after hb)
      have O5 := Lib.hid ho
      obtain ⟨y0, y1, y2⟩ := Z5.out.cells3
      obtain ⟨f0, f1, f2⟩ := Z5.out.frozen3
      clear ho hb
      go_wp2
      exact bodyPost_ret (results_log2 Tryd.results22 _ _ (w.heap.size + 1) _ _ _ rfl (Z5.out.st3 _ _ _).cells3) rfl ⟨by rw [HM.out]; exact ⟨_, _, _, rfl, (O5.out.st3 (by omega) _ _ _).mono (by omega), .inl (by simp only [List.length_drop]; have := dN_lt l k HL.out.1; omega)⟩, A5.out.st3 (by omega) _ _ _⟩
    · have HM := Lib.hid (HM2.out hr)
      obtain ⟨x0, x1, x2⟩ := (X3.out.alloc (.cells #[.slice (some ⟨g, 0, none⟩) l.length cap, .int .i64 n, .int .i64 m] 26)).cells3
      obtain ⟨y0, y1, y2⟩ := Z3.out.cells3
      obtain ⟨f0, f1, f2⟩ := Z3.out.frozen3
      by_cases hkm : k < m
      · clear hr
        go_wp2
        exact bodyPost_ret (results_log2 Tryd.results22 _ _ (w.heap.size + 1) _ _ _ rfl ((Z3.out.st3 _ _ _).alloc _).cells3) rfl ⟨by rw [HM.out]; exact ⟨_, _, _, rfl, (((R3.out.st3 (by omega) _ _ _).alloc _).mono (by omega)).own, .inl HL.out.1⟩, (A3.out.st3 (by omega) _ _ _).alloc _⟩
      · have d1 : decide (k < m) = false := decide_eq_false (by omega)
        have d2 : n ≤ k := by omega
        clear hr hkm
        go_wp2
        exact bodyPost_ret (results_log2 Tryd.results22 _ _ (w.heap.size + 1) _ _ _ rfl ((Z3.out.st3 _ _ _).alloc _).cells3) rfl ⟨by rw [HM.out]; exact ⟨_, _, _, rfl, (((R3.out.st3 (by omega) _ _ _).alloc _).mono (by omega)).own, .inl HL.out.1⟩, (A3.out.st3 (by omega) _ _ _).alloc _⟩
end Go.Proofs.YtemhhjkmolndbaaDoor
/- A region that reads till its end and then writes. -/
namespace Go.Proofs.YtemhhjkmolndbaaDoor
open Go.RowKit
set_option linter.unusedVariables false
/-! ### a region whose operations read, up to a forced tail -/
section
variable {P : Program} {ops : Array Oper} {w : World}
theorem still_of_quiet {o : Oper} {a : Act} {K : Act → Prop} (h : o.quiet P a (fun w' => w' = w) K) : o.still P a w K := by
  obtain ⟨v, h1, h2⟩ := h
  have h3 := h1 w rfl
  unfold Oper.quietAt at h3
  unfold Oper.still
  generalize (execOp a.eval o).run P w = r at *
  cases r with
  | ok n w' =>
    cases n <;> simp only [Oper.quietUpon] at h3 <;> simp only [Oper.stillUpon]
    case value u => exact ⟨h3.1, by rw [h3.2]; exact h2⟩
    case skip => exact ⟨h3.1, by rw [← h3.2]; exact h2⟩
    case enter f args => exact ⟨h3.1, v, h3.2, h2⟩
  | halt x w' => simp only [Oper.quietUpon] at h3
theorem wpStill_of_quiet {Q : Act → Prop} : ∀ (l : List Oper) (a : Act), wpQuiet P ops (fun w' => w' = w) Q l a → wpStill P ops w Q l a
  | [], a, h => h
  | o :: rest, a, h => by
    unfold wpQuiet at h
    unfold wpStill
    split
    · rename_i hw
      rw [if_pos hw] at h
      exact still_of_quiet (Oper.quiet_mono (fun a' h' => wpStill_of_quiet rest a' h') h)
    · rename_i hw
      rw [if_neg hw] at h
      exact wpStill_of_quiet rest _ h
theorem wp_region_quiet_tail {id : Nat} {Q : Exit → Act → World → Prop} {a : Act} {w : World} {l : List Oper} (n : Nat) (hm : P.follows .mixedOrders = true) (hB : Region.lexTailB .any l.toArray n = true)
    (h : wpQuiet P l.toArray (fun w' => w' = w.drew) (fun a' => wpList P l.toArray Q (l.drop n) a' w.drew) (l.take n) a) : (Code.region id l.toArray true).wp P Q a w :=
  wp_region_still_tail n hm hB (wpStill_of_quiet _ _ h)
end
end Go.Proofs.YtemhhjkmolndbaaDoor
/- The model's LogAdd, by one contract. -/
namespace Go.Proofs.YtemhhjkmolndbaaDoor
open Go.RowKit Go.PlainAid
set_option linter.unusedVariables false

set_option maxRecDepth 100000 in
set_option maxHeartbeats 2000000 in
theorem spec_add (v : Value) (l : List Sg) (n m : Int) (s : ByteArray) (w : World) (hv : Segs w v l) (ht : ∀ j, j < l.length → (sT l j).size ≤ 1048576) (hs : s.size ≤ 1048576) :
    Calls Tryd.prog 87 #[.agg #[v, .int .i64 n, .int .i64 m], .string s] w fun e w' => RetLog w.heap.size (addR l n m s) e w' ∧ Below w.heap.size w w' := by
  obtain ⟨a, k0, cap0, hve⟩ := hv.form
  subst hve
  have V0 := Lib.hid ((hv.alloc (.cells #[.slice a k0 cap0, .int .i64 n, .int .i64 m] 26)).alloc (.cells #[.slice none 0 0, .int .i64 0, .int .i64 0] 26))
  have X0 := Lib.hid ((Bx.new w 26 #[.slice a k0 cap0, .int .i64 n, .int .i64 m] _ rfl).alloc (.cells #[.slice none 0 0, .int .i64 0, .int .i64 0] 26))
  have Z0 := Lib.hid (Bx.new (w.alloc (.cells #[.slice a k0 cap0, .int .i64 n, .int .i64 m] 26)) 26 #[.slice none 0 0, .int .i64 0, .int .i64 0] (w.heap.size + 1) (by simp))
  have A0 := Lib.hid (((Af.refl w).alloc (.cells #[.slice a k0 cap0, .int .i64 n, .int .i64 m] 26)).alloc (.cells #[.slice none 0 0, .int .i64 0, .int .i64 0] 26))
  have HT := Lib.hid ht
  have HV := Lib.hid hv
  have HS := Lib.hid hs
  clear hv ht hs
  go_enter Tryd.func87, Tryd.ntmps87
  go_wp2_with fail
  refine (spec_logOk _ l n m _ V0.out HT.out).mono ?_
  rintro e w2 ⟨rfl, hb⟩
  have V2 := Lib.hid (V0.out.later hb)
  have X2 := Lib.hid (X0.out.after hb)
  have Z2 := Lib.hid (Z0.out.after hb)
  have A2 := Lib.hid (A0.out.after hb)
  have s2 := A2.out.size
  have z2 := Z2.out.lt
  clear hb V0 X0 Z0 A0
  cases hok : okB l n m with
  | false =>
    have HM := Lib.hid (addR_no l n m s hok)
    obtain ⟨y0, y1, y2⟩ := Z2.out.cells3
    obtain ⟨f0, f1, f2⟩ := Z2.out.frozen3
    clear hok
    go_wp2
    exact bodyPost_ret (results_log2 Tryd.results87 _ _ (w.heap.size + 1) _ _ _ rfl (Z2.out.st3 _ _ _).cells3) rfl ⟨by rw [HM.out]; exact ⟨none, 0, 0, rfl, segOwn_nil _ _ _ _, .inr rfl⟩, A2.out.st3 (by omega) _ _ _⟩
  | true =>
    have HO := Lib.hid hok
    obtain ⟨n1, n2, m1, m2⟩ := okB_n hok
    obtain ⟨e, he⟩ : ∃ e, l.length = e + 1 := ⟨l.length - 1, by have := (okB_len hok).1; omega⟩
    have HE := Lib.hid he
    obtain ⟨x0, x1, x2⟩ := X2.out.cells3
    clear he hok
    go_wp2_with fail
    clear x0 x1 x2
    refine (spec_copy _ l n m _ V2.out (by have := HE.out; omega) (by have := okB_len HO.out; omega)).mono ?_
    rintro e' w3 ⟨u, rfl, hr, hb⟩
    obtain ⟨g, cap, rfl, hbg, hgw, hcap⟩ := hr.form (by have := HE.out; omega)
    have R3' := Lib.hid (hr.alloc (.cells #[.slice (some ⟨g, 0, none⟩) l.length cap, .int .i64 n, .int .i64 m] 26))
    have Y3' := Lib.hid (Bx.new w3 26 #[.slice (some ⟨g, 0, none⟩) l.length cap, .int .i64 n, .int .i64 m] _ rfl)
    have Z3' := Lib.hid ((Z2.out.after hb).alloc (.cells #[.slice (some ⟨g, 0, none⟩) l.length cap, .int .i64 n, .int .i64 m] 26))
    have A3' := Lib.hid ((A2.out.after hb).alloc (.cells #[.slice (some ⟨g, 0, none⟩) l.length cap, .int .i64 n, .int .i64 m] 26))
    have X3' := Lib.hid ((X2.out.after hb).alloc (.cells #[.slice (some ⟨g, 0, none⟩) l.length cap, .int .i64 n, .int .i64 m] 26))
    have s3 := (A2.out.after hb).size
    clear hr hb V2 X2 Z2 A2
    go_wp2_with fail
    refine (spec_frame s _ HS.out).mono ?_
    rintro e' W3 ⟨rfl, hb⟩
    have R3 := Lib.hid (R3'.out.later hb)
    have Y3 := Lib.hid (Y3'.out.after hb)
    have Z3 := Lib.hid (Z3'.out.after hb)
    have A3 := Lib.hid (A3'.out.after hb)
    have X3 := Lib.hid (X3'.out.after hb)
    have hgw3 : g < W3.heap.size := by have := hb.size; simp at this; omega
    have hG3 : w3.heap.size < W3.heap.size := by have := hb.size; simp at this; omega
    clear hb R3' Y3' Z3' A3' X3'
    obtain ⟨GG, hGG⟩ : ∃ G, w3.heap.size = G := ⟨_, rfl⟩
    rw [hGG] at Y3 hG3 hgw s3 ⊢
    clear hGG
    obtain ⟨x0, x1, x2⟩ := X3.out.cells3
    by_cases hrej : 200 < s.size ∨ n = 1000
    · have HM := Lib.hid (addR_rej l n m s HO.out hrej)
      by_cases hbig : 200 < s.size
      · rw [frameS_big s hbig]
        obtain ⟨j0, j1, j2⟩ := Y3.out.cells3
        obtain ⟨y0, y1, y2⟩ := Z3.out.cells3
        obtain ⟨f0, f1, f2⟩ := Z3.out.frozen3
        clear hrej
        go_wp2
        exact bodyPost_ret (results_log2 Tryd.results87 _ _ (w.heap.size + 1) _ _ _ rfl (Z3.out.st3 _ _ _).cells3) rfl ⟨by rw [HM.out]; exact ⟨_, _, _, rfl, ((R3.out.st3 (by omega) _ _ _).mono (by omega)).own, .inl (by show 0 < l.length; have := HE.out; omega)⟩, A3.out.st3 (by omega) _ _ _⟩
      · have hs2 : s.size ≤ 200 := by omega
        have hn2 : n = 1000 := by omega
        have hfp := frameS_pos s hs2
        have b1 := isEmpty_no (t := frameS s) (by omega)
        generalize frameS s = fr at *
        have b2 : (1000 : Int) ≤ n := by omega
        obtain ⟨j0, j1, j2⟩ := Y3.out.cells3
        obtain ⟨y0, y1, y2⟩ := Z3.out.cells3
        obtain ⟨f0, f1, f2⟩ := Z3.out.frozen3
        clear hrej hn2
        go_wp2
        exact bodyPost_ret (results_log2 Tryd.results87 _ _ (w.heap.size + 1) _ _ _ rfl (Z3.out.st3 _ _ _).cells3) rfl ⟨by rw [HM.out]; exact ⟨_, _, _, rfl, ((R3.out.st3 (by omega) _ _ _).mono (by omega)).own, .inl (by show 0 < l.length; have := HE.out; omega)⟩, A3.out.st3 (by omega) _ _ _⟩
    · have hs2 : s.size ≤ 200 := by omega
      have hn2 : n < 1000 := by omega
      have HSP := Lib.hid hs2
      have hfp := frameS_pos s hs2
      have hfl := frameS_le s
      have HR := Lib.hid hrej
      obtain ⟨fr, hfr⟩ : ∃ fr, frameS s = fr := ⟨_, rfl⟩
      rw [hfr] at hfp hfl ⊢
      have HFR := Lib.hid hfr
      have b1 := isEmpty_no (t := fr) (by omega)
      have b2 : decide ((1000 : Int) ≤ n) = false := decide_eq_false (by omega)
      obtain ⟨r1, r2, q1, q2⟩ := R3.out.cell e (by have := HE.out; omega)
      have hte := HT.out e (by have := HE.out; omega)
      obtain ⟨t, htt⟩ : ∃ t, sT l e = t := ⟨_, rfl⟩
      rw [htt] at r2 hte
      have HTE := Lib.hid htt
      have l6 := (okB_len HO.out).2
      rw [HE.out] at hcap Y3 l6 ⊢
      have e6 : (e : Int) ≤ 5 := by omega
      have e0 : (0 : Int) ≤ (e : Int) := by omega
      have t6 : (t.size : Int) ≤ 1048576 := by omega
      have f6 : (fr.size : Int) ≤ 211 := by omega
      have ie : (e : Int) < ((e + 1 : Nat) : Int) := by omega
      have ie2 : (e : Int) < (e : Int) + 1 := by omega
      clear htt hfr hrej hs2
      by_cases hc : t.size = 0 ∨ t.size + fr.size ≤ 60
      · by_cases ht0 : t.size = 0
        · have HM := Lib.hid (addR_in l n m s e HO.out HE.out HR.out (by rw [HTE.out, HFR.out]; exact hc))
          obtain ⟨HAI1, HAI2⟩ := add_in HO.out HE.out hn2 HSP.out (by rw [HTE.out, HFR.out]; exact hc)
          rw [HTE.out, HFR.out] at HM HAI1 HAI2
          have O4 := Lib.hid (show SegOwn (W3.setCell ⟨g, e * 2 + 1, none⟩ (.string (t ++ fr))).drew w2.heap.size (.slice (some ⟨g, 0, none⟩) (e + 1) cap) (l.set e ⟨sF l e, t ++ fr⟩) by
            have h := (R3.out.setT e (t ++ fr) (by have := HE.out; omega)).later (Below.refl _ _).drew
            rw [HE.out] at h
            exact h)
          have Y4 := Lib.hid (Y3.out.set_other ⟨g, e * 2 + 1, none⟩ (.string (t ++ fr)) (by simp; omega)).drew
          have Z4 := Lib.hid (Z3.out.set_other ⟨g, e * 2 + 1, none⟩ (.string (t ++ fr)) (by simp; omega)).drew
          have A4 := Lib.hid (A3.out.set (p := ⟨g, e * 2 + 1, none⟩) (by simp; omega) (.string (t ++ fr))).drew
          have YS := Lib.hid (show (W3.setCell ⟨g, e * 2 + 1, none⟩ (.string (t ++ fr))).drew.cell? ⟨GG, 0, none⟩ = some (.slice (some ⟨g, 0, none⟩) (e + 1) cap) from Y4.out.cell 0 _ rfl)
          have YS1 := Lib.hid (show (W3.drew.setCell ⟨g, e * 2 + 1, none⟩ (.string (t ++ fr))).cell? ⟨GG, 0, none⟩ = some (.slice (some ⟨g, 0, none⟩) (e + 1) cap) from Y4.out.cell 0 _ rfl)
          have T1 := Lib.hid (show (W3.setCell ⟨g, e * 2 + 1, none⟩ (.string (t ++ fr))).drew.cell? ⟨g, e * 2 + 1, none⟩ = some (.string (t ++ fr)) from (by
            have h := (O4.out.cell0 e (by rw [List.length_set]; have := HE.out; omega)).2.1
            rw [sT_set _ _ _ _ (by have := HE.out; omega), if_pos rfl] at h
            exact h))
          obtain ⟨y0, y1, y2⟩ := Y3.out.cells3
          have hadd := fun W => run_string_add_sum (P := Tryd.prog) W t fr (by omega)
          have b3 := isEmpty_yes ht0
          clear hc
          go_wp2_with fail
          refine wp_region_quiet_tail 13 (by kernel_rfl) (by kernel_rfl) ?_
          simp only [List.take_succ_cons, List.take_zero, List.drop_succ_cons, List.drop_zero]
          repeat (first | go_big_quiet_step (fail))
          refine wpQuiet_nil ?_
          go_upto_region 11 with fail
          generalize (W3.setCell ⟨g, e * 2 + 1, none⟩ (.string (t ++ fr))).drew = W4 at O4 Y4 Z4 A4 ⊢
          clear YS YS1 T1 y0 y1 y2 hadd
          have hF' : ∀ j, j < l.length → 1 ≤ sF (l.set e ⟨sF l e, t ++ fr⟩) j ∧ sF (l.set e ⟨sF l e, t ++ fr⟩) j ≤ 2000 := fun j hj => by
            have h := okB_F HO.out j hj
            rw [sF_set _ _ _ _ (by have := HE.out; omega)]
            split
            · next ee => subst ee; dsimp only; omega
            · omega
          have hT' : ∀ j, j < l.length → (sT (l.set e ⟨sF l e, t ++ fr⟩) j).size ≤ 1048576 := fun j hj => by
            have h := HT.out j hj
            rw [sT_set _ _ _ _ (by have := HE.out; omega)]
            split
            · dsimp only; rw [ByteArray.size_append]; omega
            · omega
          have hl' : (l.set e ⟨sF l e, t ++ fr⟩).length = e + 1 := by rw [List.length_set]; exact HE.out
          rw [HE.out] at hF' hT'
          generalize l.set e ⟨sF l e, t ++ fr⟩ = l' at *
          have HF' := Lib.hid hF'
          have HT' := Lib.hid hT'
          have HL' := Lib.hid hl'
          have AI1 := Lib.hid HAI1
          have AI2 := Lib.hid HAI2
          clear hF' hT' hl' HAI1 HAI2
          have Y5 := Lib.hid (Y4.out.set 1 (.int .i64 (n + 1)))
          have Z5 := Lib.hid (Z4.out.set_other ⟨GG, 1, none⟩ (.int .i64 (n + 1)) (by simp; omega))
          have A5 := Lib.hid (A4.out.set (p := ⟨GG, 1, none⟩) (by simp; omega) (.int .i64 (n + 1)))
          have O5 := Lib.hid (O4.out.keepB (grownBy_set _ GG 1 (.int .i64 (n + 1))) (fun b hb => by cases hb; exact (ob_ne (by omega)).symm))
          have sz5 : w2.heap.size ≤ (W4.setCell ⟨GG, 1, none⟩ (.int .i64 (n + 1))).heap.size := by have := Y4.out.lt; simp; omega
          obtain ⟨y0, y1, y2⟩ := Y4.out.cells3
          obtain ⟨f0, f1, f2⟩ := Y4.out.frozen3
          obtain ⟨u0, u1, u2⟩ := Y5.out.cells3
          go_wp2_with fail
          clear y0 y1 y2 f0 f1 f2 u0 u1 u2
          refine (spec_trim _ w2.heap.size l' (n + 1) m _ O5.out sz5 (by have := HL'.out; omega) (by have := HL'.out; omega) (fun j hj => HF'.out j (by rw [HL'.out] at hj; exact hj))).mono ?_
          rintro e' w6 ⟨a6, c6, cap6, rfl, ho, hb⟩
          rw [AI2.out, List.drop_zero] at ho
          have O6 := Lib.hid (ho.alloc (.cells #[.slice a6 c6 cap6, .int .i64 (n + 1), .int .i64 m] 26))
          have Z6 := Lib.hid ((Z5.out.after hb).alloc (.cells #[.slice a6 c6 cap6, .int .i64 (n + 1), .int .i64 m] 26))
          have A6 := Lib.hid ((A5.out.after hb).alloc (.cells #[.slice a6 c6 cap6, .int .i64 (n + 1), .int .i64 m] 26))
          have Y6 := Lib.hid (Bx.new w6 26 #[.slice a6 c6 cap6, .int .i64 (n + 1), .int .i64 m] _ rfl)
          clear ho hb O4 Y4 Z4 A4 O5 Y5 Z5 A5
          go_wp2_with fail
          refine (spec_logOk _ l' (n + 1) m _ (O6.out.segs (fun j hj => by have := HT'.out j (by rw [HL'.out] at hj; exact hj); omega)) (fun j hj => HT'.out j (by rw [HL'.out] at hj; exact hj))).mono ?_
          rintro e' w7 ⟨rfl, hb⟩
          rw [AI1.out]
          have O7 := Lib.hid (O6.out.later hb)
          have Z7 := Lib.hid (Z6.out.after hb)
          have A7 := Lib.hid (A6.out.after hb)
          have Y7 := Lib.hid (Y6.out.after hb)
          obtain ⟨y0, y1, y2⟩ := Y7.out.cells3
          obtain ⟨z0, z1, z3⟩ := Z7.out.cells3
          obtain ⟨f0, f1, f2⟩ := Z7.out.frozen3
          clear hb O6 Z6 A6 Y6
          go_wp2
          exact bodyPost_ret (results_log2 Tryd.results87 _ _ (w.heap.size + 1) _ _ _ rfl (Z7.out.st3 _ _ _).cells3) rfl ⟨by rw [HM.out]; exact ⟨_, _, _, rfl, (O7.out.st3 (by omega) _ _ _).mono (by omega), .inl (by show 0 < l'.length; have := HL'.out; omega)⟩, A7.out.st3 (by omega) _ _ _⟩
        · have HM := Lib.hid (addR_in l n m s e HO.out HE.out HR.out (by rw [HTE.out, HFR.out]; exact hc))
          obtain ⟨HAI1, HAI2⟩ := add_in HO.out HE.out hn2 HSP.out (by rw [HTE.out, HFR.out]; exact hc)
          rw [HTE.out, HFR.out] at HM HAI1 HAI2
          have O4 := Lib.hid (show SegOwn (W3.setCell ⟨g, e * 2 + 1, none⟩ (.string (t ++ fr))).drew w2.heap.size (.slice (some ⟨g, 0, none⟩) (e + 1) cap) (l.set e ⟨sF l e, t ++ fr⟩) by
            have h := (R3.out.setT e (t ++ fr) (by have := HE.out; omega)).later (Below.refl _ _).drew
            rw [HE.out] at h
            exact h)
          have Y4 := Lib.hid (Y3.out.set_other ⟨g, e * 2 + 1, none⟩ (.string (t ++ fr)) (by simp; omega)).drew
          have Z4 := Lib.hid (Z3.out.set_other ⟨g, e * 2 + 1, none⟩ (.string (t ++ fr)) (by simp; omega)).drew
          have A4 := Lib.hid (A3.out.set (p := ⟨g, e * 2 + 1, none⟩) (by simp; omega) (.string (t ++ fr))).drew
          have YS := Lib.hid (show (W3.setCell ⟨g, e * 2 + 1, none⟩ (.string (t ++ fr))).drew.cell? ⟨GG, 0, none⟩ = some (.slice (some ⟨g, 0, none⟩) (e + 1) cap) from Y4.out.cell 0 _ rfl)
          have YS1 := Lib.hid (show (W3.drew.setCell ⟨g, e * 2 + 1, none⟩ (.string (t ++ fr))).cell? ⟨GG, 0, none⟩ = some (.slice (some ⟨g, 0, none⟩) (e + 1) cap) from Y4.out.cell 0 _ rfl)
          have T1 := Lib.hid (show (W3.setCell ⟨g, e * 2 + 1, none⟩ (.string (t ++ fr))).drew.cell? ⟨g, e * 2 + 1, none⟩ = some (.string (t ++ fr)) from (by
            have h := (O4.out.cell0 e (by rw [List.length_set]; have := HE.out; omega)).2.1
            rw [sT_set _ _ _ _ (by have := HE.out; omega), if_pos rfl] at h
            exact h))
          obtain ⟨y0, y1, y2⟩ := Y3.out.cells3
          have hadd := fun W => run_string_add_sum (P := Tryd.prog) W t fr (by omega)
          have b3 := isEmpty_no ht0
          have b4 : (t.size : Int) + (fr.size : Int) ≤ 60 := by omega
          clear hc
          go_wp2_with fail
          refine wp_region_quiet_tail 13 (by kernel_rfl) (by kernel_rfl) ?_
          simp only [List.take_succ_cons, List.take_zero, List.drop_succ_cons, List.drop_zero]
          repeat (first | go_big_quiet_step (fail))
          refine wpQuiet_nil ?_
          go_upto_region 11 with fail
          generalize (W3.setCell ⟨g, e * 2 + 1, none⟩ (.string (t ++ fr))).drew = W4 at O4 Y4 Z4 A4 ⊢
          clear YS YS1 T1 y0 y1 y2 hadd
          have hF' : ∀ j, j < l.length → 1 ≤ sF (l.set e ⟨sF l e, t ++ fr⟩) j ∧ sF (l.set e ⟨sF l e, t ++ fr⟩) j ≤ 2000 := fun j hj => by
            have h := okB_F HO.out j hj
            rw [sF_set _ _ _ _ (by have := HE.out; omega)]
            split
            · next ee => subst ee; dsimp only; omega
            · omega
          have hT' : ∀ j, j < l.length → (sT (l.set e ⟨sF l e, t ++ fr⟩) j).size ≤ 1048576 := fun j hj => by
            have h := HT.out j hj
            rw [sT_set _ _ _ _ (by have := HE.out; omega)]
            split
            · dsimp only; rw [ByteArray.size_append]; omega
            · omega
          have hl' : (l.set e ⟨sF l e, t ++ fr⟩).length = e + 1 := by rw [List.length_set]; exact HE.out
          rw [HE.out] at hF' hT'
          generalize l.set e ⟨sF l e, t ++ fr⟩ = l' at *
          have HF' := Lib.hid hF'
          have HT' := Lib.hid hT'
          have HL' := Lib.hid hl'
          have AI1 := Lib.hid HAI1
          have AI2 := Lib.hid HAI2
          clear hF' hT' hl' HAI1 HAI2
          have Y5 := Lib.hid (Y4.out.set 1 (.int .i64 (n + 1)))
          have Z5 := Lib.hid (Z4.out.set_other ⟨GG, 1, none⟩ (.int .i64 (n + 1)) (by simp; omega))
          have A5 := Lib.hid (A4.out.set (p := ⟨GG, 1, none⟩) (by simp; omega) (.int .i64 (n + 1)))
          have O5 := Lib.hid (O4.out.keepB (grownBy_set _ GG 1 (.int .i64 (n + 1))) (fun b hb => by cases hb; exact (ob_ne (by omega)).symm))
          have sz5 : w2.heap.size ≤ (W4.setCell ⟨GG, 1, none⟩ (.int .i64 (n + 1))).heap.size := by have := Y4.out.lt; simp; omega
          obtain ⟨y0, y1, y2⟩ := Y4.out.cells3
          obtain ⟨f0, f1, f2⟩ := Y4.out.frozen3
          obtain ⟨u0, u1, u2⟩ := Y5.out.cells3
          go_wp2_with fail
          clear y0 y1 y2 f0 f1 f2 u0 u1 u2
          refine (spec_trim _ w2.heap.size l' (n + 1) m _ O5.out sz5 (by have := HL'.out; omega) (by have := HL'.out; omega) (fun j hj => HF'.out j (by rw [HL'.out] at hj; exact hj))).mono ?_
          rintro e' w6 ⟨a6, c6, cap6, rfl, ho, hb⟩
          rw [AI2.out, List.drop_zero] at ho
          have O6 := Lib.hid (ho.alloc (.cells #[.slice a6 c6 cap6, .int .i64 (n + 1), .int .i64 m] 26))
          have Z6 := Lib.hid ((Z5.out.after hb).alloc (.cells #[.slice a6 c6 cap6, .int .i64 (n + 1), .int .i64 m] 26))
          have A6 := Lib.hid ((A5.out.after hb).alloc (.cells #[.slice a6 c6 cap6, .int .i64 (n + 1), .int .i64 m] 26))
          have Y6 := Lib.hid (Bx.new w6 26 #[.slice a6 c6 cap6, .int .i64 (n + 1), .int .i64 m] _ rfl)
          clear ho hb O4 Y4 Z4 A4 O5 Y5 Z5 A5
          go_wp2_with fail
          refine (spec_logOk _ l' (n + 1) m _ (O6.out.segs (fun j hj => by have := HT'.out j (by rw [HL'.out] at hj; exact hj); omega)) (fun j hj => HT'.out j (by rw [HL'.out] at hj; exact hj))).mono ?_
          rintro e' w7 ⟨rfl, hb⟩
          rw [AI1.out]
          have O7 := Lib.hid (O6.out.later hb)
          have Z7 := Lib.hid (Z6.out.after hb)
          have A7 := Lib.hid (A6.out.after hb)
          have Y7 := Lib.hid (Y6.out.after hb)
          obtain ⟨y0, y1, y2⟩ := Y7.out.cells3
          obtain ⟨z0, z1, z3⟩ := Z7.out.cells3
          obtain ⟨f0, f1, f2⟩ := Z7.out.frozen3
          clear hb O6 Z6 A6 Y6
          go_wp2
          exact bodyPost_ret (results_log2 Tryd.results87 _ _ (w.heap.size + 1) _ _ _ rfl (Z7.out.st3 _ _ _).cells3) rfl ⟨by rw [HM.out]; exact ⟨_, _, _, rfl, (O7.out.st3 (by omega) _ _ _).mono (by omega), .inl (by show 0 < l'.length; have := HL'.out; omega)⟩, A7.out.st3 (by omega) _ _ _⟩
      · have ht0 : t.size ≠ 0 := fun h => hc (.inl h)
        have b3 := isEmpty_no ht0
        have b4 : decide ((t.size : Int) + (fr.size : Int) ≤ 60) = false := decide_eq_false (by omega)
        have HN := Lib.hid (fun h6 => addR_new l n m s e HO.out HE.out HR.out (by rw [HTE.out, HFR.out]; exact hc) h6)
        have HFU := Lib.hid (fun h6 => addR_full l n m s e HO.out HE.out HR.out (by rw [HTE.out, HFR.out]; exact hc) h6)
        have HAN := Lib.hid (add_new (s := s) HO.out HE.out hn2 HSP.out (by rw [HTE.out]; exact ht0))
        have HSZ := Lib.hid (add_sizes l n s HT.out)
        rw [HFR.out] at HN HFU HAN HSZ
        have RA := Lib.hid (show SegRow (W3.alloc (.cells #[.int .i64 n, .string fr] 63)) w2.heap.size (.slice (some ⟨g, 0, none⟩) (e + 1) cap) l by
          have h := R3.out.alloc (.cells #[.int .i64 n, .string fr] 63)
          rw [HE.out] at h
          exact h)
        have hX : ∀ j, j < [Sg.mk n fr].length → (W3.alloc (.cells #[.int .i64 n, .string fr] 63)).cell? ⟨W3.heap.size, 0 + j * 2, none⟩ = some (.int .i64 (sF [Sg.mk n fr] j)) ∧ (W3.alloc (.cells #[.int .i64 n, .string fr] 63)).cell? ⟨W3.heap.size, 0 + j * 2 + 1, none⟩ = some (.string (sT [Sg.mk n fr] j)) := fun j hj => by
          obtain rfl : j = 0 := by simpa using hj
          have hb := Bx.new W3 63 #[.int .i64 n, .string fr] _ rfl
          rw [sF_of (x := Sg.mk n fr) rfl, sT_of (x := Sg.mk n fr) rfl]
          exact ⟨hb.cell 0 _ rfl, hb.cell 1 _ rfl⟩
        have HX := Lib.hid hX
        have YA := Lib.hid (Y3.out.alloc (.cells #[.int .i64 n, .string fr] 63))
        have ZA := Lib.hid (Z3.out.alloc (.cells #[.int .i64 n, .string fr] 63))
        have XA := Lib.hid (X3.out.alloc (.cells #[.int .i64 n, .string fr] 63))
        have AA := Lib.hid (A3.out.alloc (.cells #[.int .i64 n, .string fr] 63))
        obtain ⟨y0, y1, y2⟩ := Y3.out.cells3
        obtain ⟨p0, p1, p2⟩ := YA.out.cells3
        have s33 := A3.out.size
        have sz3 := Y3.out.lt
        clear hc hX
        go_wp2_with (at_builtin; go_loud (refine wp_append_segs rfl (.tmp 64) (.tmp 69) rfl w2.heap.size _ l [Sg.mk n fr] rfl RA.out W3.heap.size 0 1 rfl HX.out (by have := HE.out; simp; omega) (by simp; omega) ?_; intro v' w4 hv4 hg4; obtain ⟨l2, hl2⟩ : ∃ l2, l ++ [Sg.mk n fr] = l2 := ⟨_, rfl⟩; rw [hl2] at hv4; have HL2 := Lib.hid hl2; have hlen2 : l2.length = e + 2 := (by rw [← hl2, List.length_append, HE.out]; rfl); have HLEN := Lib.hid hlen2; obtain ⟨g4, cap4, rfl, hbg4, hgw4, hcap4⟩ := hv4.form (by omega); have Y4 := Lib.hid (YA.out.keep hg4 (ob_ne (by omega))); have Z4 := Lib.hid (ZA.out.keep hg4 (ob_ne (by omega))); have X4 := Lib.hid (XA.out.keep hg4 (ob_ne (by omega))); have A4 := Lib.hid (AA.out.grow hg4 (ob_le (by omega))); have R4 := Lib.hid hv4; obtain ⟨c0, c1, c2⟩ := Y4.out.cells3; obtain ⟨k0', k1', k2'⟩ := Y4.out.frozen3; have hne4 := row_ne hv4 (by omega) Y4.out; have Y4s := Lib.hid (Y4.out.set 0 (.slice (some ⟨g4, 0, none⟩) l2.length cap4)); obtain ⟨c3, c4, c5⟩ := Y4s.out.cells3; obtain ⟨k3', k4', k5'⟩ := Y4s.out.frozen3; have Y5 := Lib.hid (Y4s.out.set 1 (.int .i64 (n + 1))); obtain ⟨c6', c7, c8⟩ := Y5.out.cells3; clear hl2 hlen2 hv4 hg4 y0 y1 y2 p0 p1 p2))
        clear c0 c1 c2 c3 c4 c5 k0' k1' k2' k3' k4' k5' c6' c7 c8
        have O5 := Lib.hid ((R4.out.own.keepB (grownBy_set w4 GG 0 (.slice (some ⟨g4, 0, none⟩) l2.length cap4)) (fun b hb => by cases hb; exact (ob_ne (Ne.symm hne4)).symm)).keepB (grownBy_set _ GG 1 (.int .i64 (n + 1))) (fun b hb => by cases hb; exact (ob_ne (Ne.symm hne4)).symm))
        have Z5 := Lib.hid ((Z4.out.set_other ⟨GG, 0, none⟩ (.slice (some ⟨g4, 0, none⟩) l2.length cap4) (by simp; omega)).set_other ⟨GG, 1, none⟩ (.int .i64 (n + 1)) (by simp; omega))
        have X5 := Lib.hid ((X4.out.set_other ⟨GG, 0, none⟩ (.slice (some ⟨g4, 0, none⟩) l2.length cap4) (by simp; omega)).set_other ⟨GG, 1, none⟩ (.int .i64 (n + 1)) (by simp; omega))
        have A5 := Lib.hid ((A4.out.set (p := ⟨GG, 0, none⟩) (by simp; omega) (.slice (some ⟨g4, 0, none⟩) l2.length cap4)).set (p := ⟨GG, 1, none⟩) (by simp; omega) (.int .i64 (n + 1)))
        refine (spec_trim _ w2.heap.size l2 (n + 1) m _ O5.out (by simp; omega) (by have := HLEN.out; omega) (by have := HLEN.out; omega) (fun j hj => ?hF)).mono ?_
        case hF =>
          rw [HLEN.out] at hj
          rw [← HL2.out]
          by_cases hje : j < l.length
          · rw [sF_left _ _ _ hje]
            have := okB_F HO.out j hje
            omega
          · have hjl : j = l.length := by have := HE.out; omega
            rw [hjl, sF_snoc]
            exact ⟨n1, by show n ≤ 2000; omega⟩
        rintro e' w6 ⟨a6, c6, cap6, rfl, ho, hb⟩
        have hdl := dN_lt l2 m (by have := HLEN.out; omega)
        rw [HL2.out] at HN HFU HAN HSZ
        obtain ⟨d, hd⟩ : ∃ d, dN l2 m = d := ⟨_, rfl⟩
        rw [hd] at hdl HN HFU HAN ho
        have HSZ2 := Lib.hid (HSZ.out d)
        have hq1 : 0 < (l2.drop d).length := by rw [List.length_drop]; omega
        generalize l2.drop d = ly at *
        have O6 := Lib.hid (ho.alloc (.cells #[.slice a6 c6 cap6, .int .i64 (n + 1), .int .i64 m] 26))
        have Z6 := Lib.hid ((Z5.out.after hb).alloc (.cells #[.slice a6 c6 cap6, .int .i64 (n + 1), .int .i64 m] 26))
        have X6 := Lib.hid ((X5.out.after hb).alloc (.cells #[.slice a6 c6 cap6, .int .i64 (n + 1), .int .i64 m] 26))
        have A6 := Lib.hid ((A5.out.after hb).alloc (.cells #[.slice a6 c6 cap6, .int .i64 (n + 1), .int .i64 m] 26))
        have Y6 := Lib.hid (Bx.new w6 26 #[.slice a6 c6 cap6, .int .i64 (n + 1), .int .i64 m] _ rfl)
        clear ho hb hd hdl Y4 Y4s Y5 Z4 Z5 X4 X5 A4 A5 R4 O5 HSZ
        go_wp2_with fail
        refine (spec_logOk _ ly (n + 1) m _ (O6.out.segs (fun j hj => by have := HSZ2.out j hj; omega)) HSZ2.out).mono ?_
        rintro e' w7 ⟨rfl, hb⟩
        rw [HAN.out]
        have O7 := Lib.hid (O6.out.later hb)
        have Z7 := Lib.hid (Z6.out.after hb)
        have X7 := Lib.hid (X6.out.after hb)
        have A7 := Lib.hid (A6.out.after hb)
        have Y7 := Lib.hid (Y6.out.after hb)
        have hz7 := Z7.out.lt
        have ha7 := A7.out.size
        obtain ⟨y0, y1, y2⟩ := Y7.out.cells3
        obtain ⟨x0, x1, x2⟩ := X7.out.cells3
        clear hb O6 Z6 X6 A6 Y6
        by_cases h6 : ly.length ≤ 6
        · have HM := Lib.hid (HN.out h6)
          rw [decide_eq_true h6]
          obtain ⟨z0, z1, z3⟩ := Z7.out.cells3
          obtain ⟨f0, f1, f2⟩ := Z7.out.frozen3
          go_wp2
          exact bodyPost_ret (results_log2 Tryd.results87 _ _ (w.heap.size + 1) _ _ _ rfl (Z7.out.st3 _ _ _).cells3) rfl ⟨by rw [HM.out]; exact ⟨_, _, _, rfl, (O7.out.st3 (by omega) _ _ _).mono (by omega), .inl hq1⟩, A7.out.st3 (by omega) _ _ _⟩
        · have HM := Lib.hid (HFU.out h6)
          rw [decide_eq_false h6]
          go_wp2_with fail
          clear x0 x1 x2 y0 y1 y2
          refine (spec_copy _ l n m _ (HV.out.later A7.out) (by have := HE.out; omega) (by have := okB_len HO.out; omega)).mono ?_
          rintro e' w8 ⟨u, rfl, hr, hb⟩
          obtain ⟨g8, cap8, rfl, hbg8, hgw8, hcap8⟩ := hr.form (by have := HE.out; omega)
          have R8 := Lib.hid hr
          have Z8 := Lib.hid (Z7.out.after hb)
          have A8 := Lib.hid (A7.out.after hb)
          obtain ⟨z0, z1, z3⟩ := Z8.out.cells3
          obtain ⟨f0, f1, f2⟩ := Z8.out.frozen3
          clear hr hb
          go_wp2
          exact bodyPost_ret (results_log2 Tryd.results87 _ _ (w.heap.size + 1) _ _ _ rfl (Z8.out.st3 _ _ _).cells3) rfl ⟨by rw [HM.out]; exact ⟨_, _, _, rfl, ((R8.out.st3 (by omega) _ _ _).mono (by omega)).own, .inl (by show 0 < l.length; have := HE.out; omega)⟩, A8.out.st3 (by omega) _ _ _⟩
end Go.Proofs.YtemhhjkmolndbaaDoor
/- The model's LogCut, by one contract. -/
namespace Go.Proofs.YtemhhjkmolndbaaDoor
open Go.RowKit Go.PlainAid
set_option linter.unusedVariables false

set_option maxRecDepth 100000 in
set_option maxHeartbeats 2000000 in
theorem spec_cut (v : Value) (l : List Sg) (n m k : Int) (w : World) (hv : Segs w v l) (ht : ∀ j, j < l.length → (sT l j).size ≤ 1048576) :
    Calls Tryd.prog 86 #[.agg #[v, .int .i64 n, .int .i64 m], .int .i64 k] w fun e w' => RetLog w.heap.size (cutR l n m k) e w' ∧ Below w.heap.size w w' := by
  obtain ⟨a, k0, cap0, hve⟩ := hv.form
  subst hve
  have V0 := Lib.hid ((hv.alloc (.cells #[.slice a k0 cap0, .int .i64 n, .int .i64 m] 26)).alloc (.cells #[.slice none 0 0, .int .i64 0, .int .i64 0] 26))
  have X0 := Lib.hid ((Bx.new w 26 #[.slice a k0 cap0, .int .i64 n, .int .i64 m] _ rfl).alloc (.cells #[.slice none 0 0, .int .i64 0, .int .i64 0] 26))
  have Z0 := Lib.hid (Bx.new (w.alloc (.cells #[.slice a k0 cap0, .int .i64 n, .int .i64 m] 26)) 26 #[.slice none 0 0, .int .i64 0, .int .i64 0] (w.heap.size + 1) (by simp))
  have A0 := Lib.hid (((Af.refl w).alloc (.cells #[.slice a k0 cap0, .int .i64 n, .int .i64 m] 26)).alloc (.cells #[.slice none 0 0, .int .i64 0, .int .i64 0] 26))
  have HT := Lib.hid ht
  clear hv ht
  go_enter Tryd.func86, Tryd.ntmps86
  go_wp2_with fail
  refine (spec_logOk _ l n m _ V0.out HT.out).mono ?_
  rintro e w2 ⟨rfl, hb⟩
  have V2 := Lib.hid (V0.out.later hb)
  have X2 := Lib.hid (X0.out.after hb)
  have Z2 := Lib.hid (Z0.out.after hb)
  have A2 := Lib.hid (A0.out.after hb)
  have s2 := A2.out.size
  have z2 := Z2.out.lt
  clear hb V0 X0 Z0 A0
  cases hok : okB l n m with
  | false =>
    have HM := Lib.hid (cutR_no l n m k hok)
    obtain ⟨y0, y1, y2⟩ := Z2.out.cells3
    obtain ⟨f0, f1, f2⟩ := Z2.out.frozen3
    clear hok
    go_wp2
    exact bodyPost_ret (results_log2 Tryd.results86 _ _ (w.heap.size + 1) _ _ _ rfl (Z2.out.st3 _ _ _).cells3) rfl ⟨by rw [HM.out]; exact ⟨none, 0, 0, rfl, segOwn_nil _ _ _ _, .inr rfl⟩, A2.out.st3 (by omega) _ _ _⟩
  | true =>
    obtain ⟨l1, l6⟩ := okB_len hok
    obtain ⟨n1, n2, m1, m2⟩ := okB_n hok
    obtain ⟨e, he⟩ : ∃ e, l.length = e + 1 := ⟨l.length - 1, by omega⟩
    obtain ⟨q1, q2, q3, q4⟩ := okB_last hok e he
    have hte := HT.out e (by omega)
    obtain ⟨t, hteq⟩ : ∃ t, sT l e = t := ⟨_, rfl⟩
    obtain ⟨f, hfeq⟩ : ∃ f, sF l e = f := ⟨_, rfl⟩
    rw [hteq] at q1 q2 q3 hte
    rw [hfeq] at q1 q4
    obtain ⟨x, hx⟩ : ∃ x, cutX t (kC k t.size) = x := ⟨_, rfl⟩
    have HM := Lib.hid (cutR_ok l n m k e t x f hok he hteq hfeq hx)
    obtain ⟨c1, c2, c3, c4⟩ := cutX_facts t (kC k t.size) (kC_le _ _)
    have hkc := kC_le k t.size
    rw [hx] at c1 c2 c3 c4
    have hnx := nF_le5 x
    have hnt := nF_le5 t
    have HTE := Lib.hid hteq
    have HFE := Lib.hid hfeq
    have HE := Lib.hid he
    have e6 : (e : Int) ≤ 5 := by omega
    have e0 : (0 : Int) ≤ (e : Int) := by omega
    have t6 : (t.size : Int) ≤ 1048576 := by omega
    have HQ2 := Lib.hid q2
    have HX := Lib.hid hx
    have HQ1 := Lib.hid q1
    have F1 : 1 ≤ f := q4
    have F2 : f ≤ 1000 := by omega
    obtain ⟨x0, x1, x2⟩ := X2.out.cells3
    clear hok l1 l6 he hteq hfeq q2 q3 q4 hx c1 c3 q1
    go_wp2_with fail
    clear x0 x1 x2
    refine (spec_copy _ l n m _ V2.out (by have := HE.out; omega) (by have := HE.out; omega)).mono ?_
    rintro e' w3 ⟨u, rfl, hr, hb⟩
    obtain ⟨g, cap, rfl, hbg, hgw, hcap⟩ := hr.form (by have := HE.out; omega)
    have X3 := Lib.hid (X2.out.after hb)
    have Z3 := Lib.hid (Z2.out.after hb)
    have A3 := Lib.hid (A2.out.after hb)
    have R3 := Lib.hid hr
    have s3 := A3.out.size
    have z3 := Z3.out.lt
    clear hr hb X2 Z2 A2 V2
    rw [HE.out] at hcap ⊢
    have hcl := (R3.out.alloc (.cells #[.slice (some ⟨g, 0, none⟩) (e + 1) cap, .int .i64 n, .int .i64 m] 26)).cell e (by have := HE.out; omega)
    rw [HTE.out, HFE.out] at hcl
    obtain ⟨r1, r2, _, _⟩ := hcl
    have Y3 := Lib.hid (Bx.new w3 26 #[.slice (some ⟨g, 0, none⟩) (e + 1) cap, .int .i64 n, .int .i64 m] _ rfl)
    obtain ⟨x0, x1, x2⟩ := (X3.out.alloc (.cells #[.slice (some ⟨g, 0, none⟩) (e + 1) cap, .int .i64 n, .int .i64 m] 26)).cells3
    by_cases hbig : (t.size : Int) ≤ k
    · have hxt : x = t := by rw [← HX.out, show kC k t.size = t.size by unfold kC; omega]; exact cutX_all t HQ2.out
      subst hxt
      have d1 : decide (k < 0) = false := decide_eq_false (by omega)
      have d2 : decide (k < (x.size : Int)) = false := decide_eq_false (by omega)
      have hself : l.set e ⟨f, x⟩ = l := by rw [← HFE.out, ← HTE.out]; exact sg_self l e (by have := HE.out; omega)
      rw [hself, ← HQ1.out, Int.min_eq_left m2] at HM
      have d3 : decide (n ≤ m) = false := decide_eq_false (by omega)
      obtain ⟨y0, y1, y2⟩ := Z3.out.cells3
      obtain ⟨f0, f1, f2⟩ := Z3.out.frozen3
      clear hself c2 c4 hkc
      go_wp2
      exact bodyPost_ret (results_log2 Tryd.results86 _ _ (w.heap.size + 1) _ _ _ rfl ((Z3.out.st3 _ _ _).alloc _).cells3) rfl ⟨by rw [HM.out]; exact ⟨_, _, _, rfl, by have h := (((R3.out.st3 (q := w.heap.size + 1) (by omega) (.slice (some ⟨g, 0, none⟩) (e + 1) cap) (.int .i64 n) (.int .i64 m)).alloc (.cells #[.slice (some ⟨g, 0, none⟩) (e + 1) cap, .int .i64 n, .int .i64 m] 26)).mono (base' := w.heap.size) (by omega)).own; rw [HE.out] at h; exact h, .inl (by show 0 < l.length; have := HE.out; omega)⟩, (A3.out.st3 (by omega) _ _ _).alloc _⟩
    by_cases hneg : k < 0
    · by_cases hts : t.size = 0
      · have hxt : x = t := by rw [← HX.out, show kC k t.size = t.size by unfold kC; omega]; exact cutX_all t HQ2.out
        subst hxt
        have d2 : decide ((0 : Int) < (x.size : Int)) = false := decide_eq_false (by omega)
        have hself : l.set e ⟨f, x⟩ = l := by rw [← HFE.out, ← HTE.out]; exact sg_self l e (by have := HE.out; omega)
        rw [hself, ← HQ1.out, Int.min_eq_left m2] at HM
        have d3 : decide (n ≤ m) = false := decide_eq_false (by omega)
        obtain ⟨y0, y1, y2⟩ := Z3.out.cells3
        obtain ⟨f0, f1, f2⟩ := Z3.out.frozen3
        clear hself c2 c4 hkc
        go_wp2
        exact bodyPost_ret (results_log2 Tryd.results86 _ _ (w.heap.size + 1) _ _ _ rfl ((Z3.out.st3 _ _ _).alloc _).cells3) rfl ⟨by rw [HM.out]; exact ⟨_, _, _, rfl, by have h := (((R3.out.st3 (q := w.heap.size + 1) (by omega) (.slice (some ⟨g, 0, none⟩) (e + 1) cap) (.int .i64 n) (.int .i64 m)).alloc (.cells #[.slice (some ⟨g, 0, none⟩) (e + 1) cap, .int .i64 n, .int .i64 m] 26)).mono (base' := w.heap.size) (by omega)).own; rw [HE.out] at h; exact h, .inl (by show 0 < l.length; have := HE.out; omega)⟩, (A3.out.st3 (by omega) _ _ _).alloc _⟩
      have htp : (0 : Int) < (t.size : Int) := by omega
      have HXE := Lib.hid (show t.extract 0 (fP (ByteArray.empty) (nF (ByteArray.empty))) = x by rw [← HX.out, cutX_eq, show kC k t.size = 0 by unfold kC; omega, ext_zero]; rfl)
      have HNX := Lib.hid (show nF x = nF (ByteArray.empty) by rw [c2, show kC k t.size = 0 by unfold kC; omega, ext_zero]; rfl)
      clear hbig c2
      go_wp2_with fail
      clear x0 x1 x2
      refine (spec_unframe (ByteArray.empty) _ (by decide)).mono ?_
      rintro e' w4 ⟨vv, rfl, hgs, hb⟩
      obtain ⟨va, vc, rfl⟩ := growsS_len hgs
      have hxe : t.extract 0 (fP (ByteArray.empty) (nF (ByteArray.empty))) = x := HXE.out
      have hpb := fP_le (ByteArray.empty)
      have hz0 : (ByteArray.empty).size = 0 := rfl
      have O4' := Lib.hid ((R3.out.alloc (.cells #[.slice (some ⟨g, 0, none⟩) (e + 1) cap, .int .i64 n, .int .i64 m] 26)).own.later hb)
      have Y4' := Lib.hid (Y3.out.after hb)
      have Z4' := Lib.hid ((Z3.out.alloc (.cells #[.slice (some ⟨g, 0, none⟩) (e + 1) cap, .int .i64 n, .int .i64 m] 26)).after hb)
      have A4' := Lib.hid ((A3.out.alloc (.cells #[.slice (some ⟨g, 0, none⟩) (e + 1) cap, .int .i64 n, .int .i64 m] 26)).after hb)
      have hcl := O4'.out.cell0 e (by have := HE.out; omega)
      rw [HTE.out, HFE.out] at hcl
      obtain ⟨_, r2', _, r4'⟩ := hcl
      clear hb hgs R3 Y3 Z3 A3 r1 r2
      obtain ⟨P, hP⟩ : ∃ P, fP (ByteArray.empty) (nF (ByteArray.empty)) = P := ⟨_, rfl⟩
      rw [hP] at hxe hpb ⊢
      rw [fL_length, ← HNX.out]
      obtain ⟨nn, hnn⟩ : ∃ nn, nF x = nn := ⟨_, rfl⟩
      have HNN := Lib.hid hnn
      rw [hnn] at hnx ⊢
      have n6 : (nn : Int) ≤ 209716 := by omega
      clear hnn
      have p0 : (P : Int) ≤ (t.size : Int) := by omega
      have p1 : (0 : Int) ≤ (P : Int) := by omega
      have O4 := Lib.hid (show SegOwn (w4.setCell ⟨g, e * 2 + 1, none⟩ (.string x)).drew w2.heap.size (.slice (some ⟨g, 0, none⟩) (e + 1) cap) (l.set e ⟨f, x⟩) by
        have h := (O4'.out.setT e x (by have := HE.out; omega)).later (Below.refl _ _).drew
        rw [Nat.zero_add, HFE.out, HE.out] at h
        exact h)
      have Y4 := Lib.hid (Y4'.out.set_other ⟨g, e * 2 + 1, none⟩ (.string x) (by simp; omega)).drew
      have Z4 := Lib.hid (Z4'.out.set_other ⟨g, e * 2 + 1, none⟩ (.string x) (by simp; omega)).drew
      have A4 := Lib.hid (A4'.out.set (p := ⟨g, e * 2 + 1, none⟩) (by simp; omega) (.string x)).drew
      obtain ⟨y0, y1, y2⟩ := Y4'.out.cells3
      have YS := Lib.hid (show (w4.setCell ⟨g, e * 2 + 1, none⟩ (.string x)).drew.cell? ⟨w3.heap.size, 0, none⟩ = some (.slice (some ⟨g, 0, none⟩) (e + 1) cap) from Y4.out.cell 0 _ rfl)
      have YS1 := Lib.hid (show (w4.drew.setCell ⟨g, e * 2 + 1, none⟩ (.string x)).cell? ⟨w3.heap.size, 0, none⟩ = some (.slice (some ⟨g, 0, none⟩) (e + 1) cap) from Y4.out.cell 0 _ rfl)
      have YS2 := YS1
      rw [← hxe] at YS2
      have ie : (e : Int) < ((e + 1 : Nat) : Int) := by omega
      have ie2 : (e : Int) < (e : Int) + 1 := by omega
      clear hP
      go_wp2_with fail
      go_region_held3 (fun w' => w'.cell? ⟨w3.heap.size, 0, none⟩ = some (.slice (some ⟨g, 0, none⟩) (e + 1) cap)) (first | (with_reducible exact y0) | (with_reducible exact YS.out) | (with_reducible exact YS1.out) | (with_reducible exact YS2.out) | go_keep) (fail)
      generalize (w4.setCell ⟨g, e * 2 + 1, none⟩ (.string x)).drew = W4 at O4 Y4 Z4 A4 ⊢
      clear O4' Y4' Z4' A4' YS YS1 YS2 y0 y1 y2 r2' r4'
      have hcl := O4.out.cell0 e (by rw [List.length_set]; have := HE.out; omega)
      rw [sF_set _ _ _ _ (by have := HE.out; omega), if_pos rfl] at hcl
      obtain ⟨r1, _, _, _⟩ := hcl
      have Y5 := Lib.hid (Y4.out.set 1 (.int .i64 (f + nn)))
      have Z5 := Lib.hid (Z4.out.set_other ⟨w3.heap.size, 1, none⟩ (.int .i64 (f + nn)) (by simp; omega))
      have A5 := Lib.hid (A4.out.set (p := ⟨w3.heap.size, 1, none⟩) (by simp; omega) (.int .i64 (f + nn)))
      have O5 := Lib.hid (O4.out.keepB (grownBy_set _ w3.heap.size 1 (.int .i64 (f + nn))) (fun b hb => by cases hb; exact (ob_ne (by omega)).symm))
      obtain ⟨y0, y1, y2⟩ := Y4.out.cells3
      obtain ⟨g0, g1, g2⟩ := Y4.out.frozen3
      obtain ⟨u0, u1, u2⟩ := Y5.out.cells3
      obtain ⟨v0, v1, v2⟩ := Y5.out.frozen3
      rw [HNN.out] at HM
      by_cases hmn : f + nn ≤ m
      · rw [Int.min_eq_right (show f + (nn : Int) - 1 ≤ m by omega)] at HM
        have Y6 := Lib.hid (Y5.out.set 2 (.int .i64 (f + nn - 1)))
        have Z6 := Lib.hid (Z5.out.set_other ⟨w3.heap.size, 2, none⟩ (.int .i64 (f + nn - 1)) (by simp; omega))
        have A6 := Lib.hid (A5.out.set (p := ⟨w3.heap.size, 2, none⟩) (by simp; omega) (.int .i64 (f + nn - 1)))
        have O6 := Lib.hid (O5.out.keepB (grownBy_set _ w3.heap.size 2 (.int .i64 (f + nn - 1))) (fun b hb => by cases hb; exact (ob_ne (by omega)).symm))
        obtain ⟨j0', j1', j2'⟩ := Y6.out.cells3
        obtain ⟨z0, z1, z2'⟩ := Z6.out.cells3
        obtain ⟨f0, f1, f2⟩ := Z6.out.frozen3
        clear O4 Y4 Z4 A4 O5 Z5 A5
        go_wp2
        exact bodyPost_ret (results_log2 Tryd.results86 _ _ (w.heap.size + 1) _ _ _ rfl (Z6.out.st3 _ _ _).cells3) rfl ⟨by rw [HM.out]; exact ⟨_, _, _, rfl, (O6.out.st3 (by omega) _ _ _).mono (by omega), .inl (by simp only [List.length_set]; have := HE.out; omega)⟩, A6.out.st3 (by omega) _ _ _⟩
      · rw [Int.min_eq_left (show m ≤ f + (nn : Int) - 1 by omega)] at HM
        have dmn : decide (f + (nn : Int) ≤ m) = false := decide_eq_false hmn
        obtain ⟨z0, z1, z2'⟩ := Z5.out.cells3
        obtain ⟨f0, f1, f2⟩ := Z5.out.frozen3
        clear O4 Y4 Z4 A4
        go_wp2
        exact bodyPost_ret (results_log2 Tryd.results86 _ _ (w.heap.size + 1) _ _ _ rfl (Z5.out.st3 _ _ _).cells3) rfl ⟨by rw [HM.out]; exact ⟨_, _, _, rfl, (O5.out.st3 (by omega) _ _ _).mono (by omega), .inl (by simp only [List.length_set]; have := HE.out; omega)⟩, A5.out.st3 (by omega) _ _ _⟩
    · obtain ⟨j, rfl⟩ : ∃ j : Nat, k = j := ⟨k.toNat, by omega⟩
      have hjt : (j : Int) < (t.size : Int) := by omega
      have j0 : (0 : Int) ≤ (j : Int) := by omega
      have d1 : decide ((j : Int) < 0) = false := decide_eq_false (by omega)
      have HXE := Lib.hid (show t.extract 0 (fP (t.extract 0 j) (nF (t.extract 0 j))) = x by rw [← HX.out, cutX_eq, show kC (j : Int) t.size = j by unfold kC; omega])
      have HNX := Lib.hid (show nF x = nF (t.extract 0 j) by rw [c2, show kC (j : Int) t.size = j by unfold kC; omega])
      clear hbig hneg c2
      go_wp2_with fail
      clear x0 x1 x2
      refine (spec_unframe (t.extract 0 j) _ (by rw [ext0_size _ _ (by omega)]; omega)).mono ?_
      rintro e' w4 ⟨vv, rfl, hgs, hb⟩
      obtain ⟨va, vc, rfl⟩ := growsS_len hgs
      have hxe : t.extract 0 (fP (t.extract 0 j) (nF (t.extract 0 j))) = x := HXE.out
      have hpb := fP_le (t.extract 0 j)
      rw [ext0_size _ _ (by omega)] at hpb
      have O4' := Lib.hid ((R3.out.alloc (.cells #[.slice (some ⟨g, 0, none⟩) (e + 1) cap, .int .i64 n, .int .i64 m] 26)).own.later hb)
      have Y4' := Lib.hid (Y3.out.after hb)
      have Z4' := Lib.hid ((Z3.out.alloc (.cells #[.slice (some ⟨g, 0, none⟩) (e + 1) cap, .int .i64 n, .int .i64 m] 26)).after hb)
      have A4' := Lib.hid ((A3.out.alloc (.cells #[.slice (some ⟨g, 0, none⟩) (e + 1) cap, .int .i64 n, .int .i64 m] 26)).after hb)
      have hcl := O4'.out.cell0 e (by have := HE.out; omega)
      rw [HTE.out, HFE.out] at hcl
      obtain ⟨_, r2', _, r4'⟩ := hcl
      clear hb hgs R3 Y3 Z3 A3 r1 r2
      obtain ⟨P, hP⟩ : ∃ P, fP (t.extract 0 j) (nF (t.extract 0 j)) = P := ⟨_, rfl⟩
      rw [hP] at hxe hpb ⊢
      rw [fL_length, ← HNX.out]
      obtain ⟨nn, hnn⟩ : ∃ nn, nF x = nn := ⟨_, rfl⟩
      have HNN := Lib.hid hnn
      rw [hnn] at hnx ⊢
      have n6 : (nn : Int) ≤ 209716 := by omega
      clear hnn
      have p0 : (P : Int) ≤ (t.size : Int) := by omega
      have p1 : (0 : Int) ≤ (P : Int) := by omega
      have O4 := Lib.hid (show SegOwn (w4.setCell ⟨g, e * 2 + 1, none⟩ (.string x)).drew w2.heap.size (.slice (some ⟨g, 0, none⟩) (e + 1) cap) (l.set e ⟨f, x⟩) by
        have h := (O4'.out.setT e x (by have := HE.out; omega)).later (Below.refl _ _).drew
        rw [Nat.zero_add, HFE.out, HE.out] at h
        exact h)
      have Y4 := Lib.hid (Y4'.out.set_other ⟨g, e * 2 + 1, none⟩ (.string x) (by simp; omega)).drew
      have Z4 := Lib.hid (Z4'.out.set_other ⟨g, e * 2 + 1, none⟩ (.string x) (by simp; omega)).drew
      have A4 := Lib.hid (A4'.out.set (p := ⟨g, e * 2 + 1, none⟩) (by simp; omega) (.string x)).drew
      obtain ⟨y0, y1, y2⟩ := Y4'.out.cells3
      have YS := Lib.hid (show (w4.setCell ⟨g, e * 2 + 1, none⟩ (.string x)).drew.cell? ⟨w3.heap.size, 0, none⟩ = some (.slice (some ⟨g, 0, none⟩) (e + 1) cap) from Y4.out.cell 0 _ rfl)
      have YS1 := Lib.hid (show (w4.drew.setCell ⟨g, e * 2 + 1, none⟩ (.string x)).cell? ⟨w3.heap.size, 0, none⟩ = some (.slice (some ⟨g, 0, none⟩) (e + 1) cap) from Y4.out.cell 0 _ rfl)
      have YS2 := YS1
      rw [← hxe] at YS2
      have ie : (e : Int) < ((e + 1 : Nat) : Int) := by omega
      have ie2 : (e : Int) < (e : Int) + 1 := by omega
      clear hP
      go_wp2_with fail
      go_region_held3 (fun w' => w'.cell? ⟨w3.heap.size, 0, none⟩ = some (.slice (some ⟨g, 0, none⟩) (e + 1) cap)) (first | (with_reducible exact y0) | (with_reducible exact YS.out) | (with_reducible exact YS1.out) | (with_reducible exact YS2.out) | go_keep) (fail)
      generalize (w4.setCell ⟨g, e * 2 + 1, none⟩ (.string x)).drew = W4 at O4 Y4 Z4 A4 ⊢
      clear O4' Y4' Z4' A4' YS YS1 YS2 y0 y1 y2 r2' r4'
      have hcl := O4.out.cell0 e (by rw [List.length_set]; have := HE.out; omega)
      rw [sF_set _ _ _ _ (by have := HE.out; omega), if_pos rfl] at hcl
      obtain ⟨r1, _, _, _⟩ := hcl
      have Y5 := Lib.hid (Y4.out.set 1 (.int .i64 (f + nn)))
      have Z5 := Lib.hid (Z4.out.set_other ⟨w3.heap.size, 1, none⟩ (.int .i64 (f + nn)) (by simp; omega))
      have A5 := Lib.hid (A4.out.set (p := ⟨w3.heap.size, 1, none⟩) (by simp; omega) (.int .i64 (f + nn)))
      have O5 := Lib.hid (O4.out.keepB (grownBy_set _ w3.heap.size 1 (.int .i64 (f + nn))) (fun b hb => by cases hb; exact (ob_ne (by omega)).symm))
      obtain ⟨y0, y1, y2⟩ := Y4.out.cells3
      obtain ⟨g0, g1, g2⟩ := Y4.out.frozen3
      obtain ⟨u0, u1, u2⟩ := Y5.out.cells3
      obtain ⟨v0, v1, v2⟩ := Y5.out.frozen3
      rw [HNN.out] at HM
      by_cases hmn : f + nn ≤ m
      · rw [Int.min_eq_right (show f + (nn : Int) - 1 ≤ m by omega)] at HM
        have Y6 := Lib.hid (Y5.out.set 2 (.int .i64 (f + nn - 1)))
        have Z6 := Lib.hid (Z5.out.set_other ⟨w3.heap.size, 2, none⟩ (.int .i64 (f + nn - 1)) (by simp; omega))
        have A6 := Lib.hid (A5.out.set (p := ⟨w3.heap.size, 2, none⟩) (by simp; omega) (.int .i64 (f + nn - 1)))
        have O6 := Lib.hid (O5.out.keepB (grownBy_set _ w3.heap.size 2 (.int .i64 (f + nn - 1))) (fun b hb => by cases hb; exact (ob_ne (by omega)).symm))
        obtain ⟨j0', j1', j2'⟩ := Y6.out.cells3
        obtain ⟨z0, z1, z2'⟩ := Z6.out.cells3
        obtain ⟨f0, f1, f2⟩ := Z6.out.frozen3
        clear O4 Y4 Z4 A4 O5 Z5 A5
        go_wp2
        exact bodyPost_ret (results_log2 Tryd.results86 _ _ (w.heap.size + 1) _ _ _ rfl (Z6.out.st3 _ _ _).cells3) rfl ⟨by rw [HM.out]; exact ⟨_, _, _, rfl, (O6.out.st3 (by omega) _ _ _).mono (by omega), .inl (by simp only [List.length_set]; have := HE.out; omega)⟩, A6.out.st3 (by omega) _ _ _⟩
      · rw [Int.min_eq_left (show m ≤ f + (nn : Int) - 1 by omega)] at HM
        have dmn : decide (f + (nn : Int) ≤ m) = false := decide_eq_false hmn
        obtain ⟨z0, z1, z2'⟩ := Z5.out.cells3
        obtain ⟨f0, f1, f2⟩ := Z5.out.frozen3
        clear O4 Y4 Z4 A4
        go_wp2
        exact bodyPost_ret (results_log2 Tryd.results86 _ _ (w.heap.size + 1) _ _ _ rfl (Z5.out.st3 _ _ _).cells3) rfl ⟨by rw [HM.out]; exact ⟨_, _, _, rfl, (O5.out.st3 (by omega) _ _ _).mono (by omega), .inl (by simp only [List.length_set]; have := HE.out; omega)⟩, A5.out.st3 (by omega) _ _ _⟩
end Go.Proofs.YtemhhjkmolndbaaDoor
