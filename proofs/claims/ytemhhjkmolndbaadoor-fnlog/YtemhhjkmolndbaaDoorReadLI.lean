/- LogRead, by one contract. -/
import Derived.Test.YtemhhjkmolndbaaDoorRdL
import Derived.Test.YtemhhjkmolndbaaDoorChk
import Derived.Test.YtemhhjkmolndbaaDoorUnfI
import Derived.Deep.AppendLies
namespace Go.Proofs.YtemhhjkmolndbaaDoor
open Go.RowKit Go.Shelf Go.PlainAid
set_option linter.unusedVariables false
attribute [local go_sem] Oper.semAt_some

/-- append inside a fence: the row stays where it lies, or is new. -/
theorem wpIn_append_lies {F : Fence} {n : Nat} {P : Program} (w : World) {ops : Array Oper} {rest : List Oper} {o : Oper} {a : Act} {Q : Exit → Act → World → Prop}
    (hg : o.guard = none) (s x : Operand) (t : TypeId) (hop : o.op = Op.call { callee := Callee.builtin Builtin.append, args := #[s, x], argTypes := #[t, t] })
    (base : Nat) (e : TypeId) (i : TypeInfo) (z : Value) (size bytes : Nat) (h1 : P.underlying t = some (.slice e)) (h2 : P.info? e = some i) (h3 : i.zero = some z) (h4 : i.size = size) (h5 : i.bytes = bytes) (h6 : z.cells.size = size) (h7 : 0 < size)
    (v : Value) (k : Nat) (xs : List Value) (hs : a.eval s = v) (hown : w.ownsRow base e size v k xs) (ad : Addr) (m c : Nat) (news : List Value) (hx : a.eval x = .slice (some ad) m c) (hn : news.length = m * size)
    (hc : ∀ j u, news[j]? = some u → w.cell? (ad.add j) = some u) (h1c : ∀ u ∈ news, u.oneCell' = true) (hm : 0 < m) (b1 : k + m ≤ maxLen) (b2 : (k + m) * bytes ≤ 140737488355328) (b3 : base ≤ w.heap.size)
    (hK : ∀ g cap w', w'.ownsRow base e size (.slice (some ⟨g, 0, none⟩) (k + m) cap) (k + m) (xs ++ news) → w.grownBy w' v.ownBlock → (v.ownBlock = some g ∨ g = w.heap.size) → g < w'.heap.size → wpListIn F n P ops Q rest (a.put o.dst (.slice (some ⟨g, 0, none⟩) (k + m) cap)) w') :
    wpListIn F n P ops Q (o :: rest) a w := by
  refine wpListIn_plain hg fun K hK' => ?_
  obtain ⟨g, cap, w', hrun, r1, r2, r3, r4⟩ := run_append_lies (P := P) w t o.type base e i z size bytes h1 h2 h3 h4 h5 h6 h7 v k xs hown ad m c news hn hc h1c hm b1 b2 b3 w.heap.size rfl
  unfold Oper.wpIn
  refine ⟨?_, ?_⟩
  · simp [Oper.about, hop, resolve, Target.leads, Sem.run_pure]
  · rw [Oper.semAt_plain F _ _ (by rw [hop]; intro c hc'; cases hc')]
    simp [execOp, hop, resolve, invoke, builtin, hs, hx, hrun, Result.andThen]
    exact hK' _ _ (hK g cap w' r1 r2 r3 r4)

/-- A mark among the deferred calls. -/
def mkD (D : Nat) : Deferred := { target := .collected D, args := #[] }
theorem leaves_marks {F : Fence} {n : Nat} {P : Program} {fn : Func} {tmps : Array Value} {R : Ending → World → Prop} (base : Nat) (Φ : World → Prop)
    (hΦ : ∀ W D, Φ W → base ≤ D → W.heap[D]? = some (.deferred (some [])) → Φ (W.putObj D (.deferred none))) (hend : ∀ W, Φ W → LeavesIn F n P fn tmps R [] .returning W) :
    ∀ (Ds : List Nat) (W : World), Φ W → (∀ D ∈ Ds, base ≤ D ∧ W.heap[D]? = some (.deferred (some []))) → Ds.Nodup → LeavesInM F n P fn tmps R (Ds.map mkD) .returning W
  | [], W, h, _, _ => hend W h
  | D :: Ds, W, h, hd, hn => by
    have hD := hd D (List.mem_cons_self ..)
    have hn' := List.nodup_cons.1 hn
    refine ⟨by simp, .inl ⟨D, _, rfl, run_takeDeferred hD.2, ?_⟩⟩
    refine leaves_marks base Φ hΦ hend Ds _ (hΦ W D h hD.1 hD.2) (fun D' hD' => ?_) hn'.2
    have := hd D' (List.mem_cons_of_mem _ hD')
    refine ⟨this.1, ?_⟩
    rw [World.putObj_heap_other (fun e => hn'.1 (by rw [← e]; exact hD'))]
    exact this.2

/-- What stands while the records are collected. -/
def RJ (P0 : Nat) (w2 : World) (Ds : List Nat) (Bn S0 : Nat) (lst : List ByteArray) (num : Int) (W : World) : Prop :=
  (∃ v, Boxed W P0 28 v ∧ W.ownsRow (P0 + 2) 9 1 v lst.length (strV lst) ∧ v.ownBlock ≠ some Bn) ∧ (((Boxed W (P0 + 1) 3 (.int .i64 num) ∧ Below P0 w2 W) ∧ S0 ≤ W.heap.size) ∧ ∀ D ∈ Ds, W.heap[D]? = some (.deferred (some [])))
theorem rj_skip {P0 Bn S0 : Nat} {w2 W : World} {Ds : List Nat} {lst : List ByteArray} {num : Int} (h : RJ P0 w2 Ds Bn S0 lst num W) (hB : P0 + 2 ≤ Bn) (z : Int) :
    RJ P0 w2 Ds Bn S0 lst z (W.setCell ⟨P0 + 1, 0, none⟩ (.int .i64 z)) ∧ KeepsOthers W (W.setCell ⟨P0 + 1, 0, none⟩ (.int .i64 z)) ∧ Below P0 W (W.setCell ⟨P0 + 1, 0, none⟩ (.int .i64 z)) ∧ (W.setCell ⟨P0 + 1, 0, none⟩ (.int .i64 z)).heap[Bn]? = W.heap[Bn]? := by
  obtain ⟨⟨v, hv, hr, hne⟩, ⟨⟨h5, hb⟩, hs⟩, hd⟩ := h
  have hg := grownBy_setCell' W (P0 + 1) (.int .i64 z)
  have hko := KeepsOthers.setCell W ⟨P0 + 1, 0, none⟩ (.int .i64 z)
  have hbl : Below P0 W (W.setCell ⟨P0 + 1, 0, none⟩ (.int .i64 z)) := (Below.refl P0 W).setCell (p := ⟨P0 + 1, 0, none⟩) (Nat.le_succ _) _
  have hnb : v.ownBlock ≠ some (P0 + 1) := fun e => by have := (World.ownsRow.lt hr _ e).1; omega
  refine ⟨⟨⟨v, hv.kept hg (by simp), hr.kept hg (.inr hnb), hne⟩, ⟨⟨h5.set _, hb.trans hbl⟩, Nat.le_trans hs hg.size⟩, fun D hD => hko.same D _ (hd D hD) rfl⟩, hko, hbl, heap_setCell_other W ⟨P0 + 1, 0, none⟩ Bn _ (by simp; omega)⟩
theorem rj_app {P0 Bn S0 g cap : Nat} {w2 W w1 : World} {Ds : List Nat} {lst lst2 : List ByteArray} {num : Int} {v : Value} {tmp : Obj} (hv : Boxed W P0 28 v) (hr : W.ownsRow (P0 + 2) 9 1 v lst.length (strV lst)) (hne : v.ownBlock ≠ some Bn)
    (h5 : Boxed W (P0 + 1) 3 (.int .i64 num)) (hb : Below P0 w2 W) (hs : S0 ≤ W.heap.size) (hd : ∀ D ∈ Ds, W.heap[D]? = some (.deferred (some []))) (hB : P0 + 2 ≤ Bn) (hB2 : Bn < S0)
    (hown' : w1.ownsRow (P0 + 2) 9 1 (.slice (some ⟨g, 0, none⟩) lst2.length cap) lst2.length (strV lst2)) (hgrow : (W.alloc tmp).grownBy w1 v.ownBlock) (hlie : v.ownBlock = some g ∨ g = (W.alloc tmp).heap.size) :
    Boxed w1 P0 28 v ∧ RJ P0 w2 Ds Bn S0 lst2 num (w1.setCell ⟨P0, 0, none⟩ (.slice (some ⟨g, 0, none⟩) lst2.length cap)) ∧ KeepsOthers W (w1.setCell ⟨P0, 0, none⟩ (.slice (some ⟨g, 0, none⟩) lst2.length cap)) ∧ Below P0 W (w1.setCell ⟨P0, 0, none⟩ (.slice (some ⟨g, 0, none⟩) lst2.length cap)) ∧ (w1.setCell ⟨P0, 0, none⟩ (.slice (some ⟨g, 0, none⟩) lst2.length cap)).heap[Bn]? = W.heap[Bn]? := by
  have hra := World.ownsRow.alloc hr tmp
  have hge : P0 + 2 ≤ W.heap.size := by omega
  have hb1 : Below (P0 + 2) W w1 := ((Below.refl _ W).alloc hge tmp).trans (below_of_grown (show GrowsS (W.alloc tmp) (P0 + 2) v lst from hra) (by simp; omega) hgrow)
  have hv1 : Boxed w1 P0 28 v := (hb1.block P0 (by omega)).trans hv
  have h51 : Boxed w1 (P0 + 1) 3 (.int .i64 num) := (hb1.block (P0 + 1) (by omega)).trans h5
  have hg := grownBy_setCell' w1 P0 (.slice (some ⟨g, 0, none⟩) lst2.length cap)
  have hgP : P0 + 2 ≤ g := (World.ownsRow.lt hown' g rfl).1
  have hkA : KeepsOthers W w1 := (KeepsOthers.alloc W tmp).trans (KeepsOthers.of_grownBy hgrow fun j o ej hj => by
    rcases hra.2 with ⟨rfl, _⟩ | ⟨g', cap', cur, rfl, _, hgb, _⟩
    · simp [Value.ownBlock] at ej
    · obtain rfl : g' = j := by simpa [Value.ownBlock] using ej
      rw [hgb] at hj; cases hj; rfl)
  have hko := hkA.trans (KeepsOthers.setCell w1 ⟨P0, 0, none⟩ (.slice (some ⟨g, 0, none⟩) lst2.length cap))
  have hbl : Below P0 W (w1.setCell ⟨P0, 0, none⟩ (.slice (some ⟨g, 0, none⟩) lst2.length cap)) := (hb1.mono (show P0 ≤ P0 + 2 by omega)).setCell (p := ⟨P0, 0, none⟩) (Nat.le_refl _) _
  have hgBn : g ≠ Bn := by
    rcases hlie with h | h
    · intro e; exact hne (by rw [h, e])
    · simp at h; omega
  refine ⟨hv1, ⟨⟨_, hv1.set _, hown'.kept hg (.inr (by simp [Value.ownBlock]; omega)), by simp [Value.ownBlock]; exact hgBn⟩, ⟨⟨h51.kept hg (by simp), hb.trans hbl⟩, Nat.le_trans hs (Nat.le_trans hb1.size hg.size)⟩, fun D hD => hko.same D _ (hd D hD) rfl⟩, hko, hbl, ?_⟩
  rw [heap_setCell_other w1 ⟨P0, 0, none⟩ Bn _ (by simp; omega), hgrow.block Bn (by simp; omega) (fun e => hne e.symm), Below.heap_alloc W tmp Bn (by omega)]

set_option maxRecDepth 100000 in
set_option maxHeartbeats 2000000 in
theorem impl_logRead (v : Value) (l : List Sg) (n m : Int) (w : World) (hv : Segs w v l) (ht : ∀ j, j < l.length → (sT l j).size ≤ 1048576) (hT : TabC w) (hg : ErrT w) :
    Calls Tryd.prog 19 #[.agg #[v, .int .i64 n, .int .i64 m]] w fun e w' => ∃ u, e = .returned u ∧ GrowsS w' w.heap.size u (rdR l n m) ∧ Below w.heap.size w w' := by
  obtain ⟨a, k0', cap0, hve⟩ := hv.form
  subst hve
  have V0 := Lib.hid (hv.alloc (.cells #[.slice a k0' cap0, .int .i64 n, .int .i64 m] 26))
  have X0 := Lib.hid (Bx.new w 26 #[.slice a k0' cap0, .int .i64 n, .int .i64 m] _ rfl)
  have A0 := Lib.hid ((Af.refl w).alloc (.cells #[.slice a k0' cap0, .int .i64 n, .int .i64 m] 26))
  have HT := Lib.hid ht
  have HTA := Lib.hid hT
  have HV := Lib.hid hv
  refine (callsIn_wide (n := 4)).1 ?_
  refine callsIn_of_wp_marks Tryd.func19 rfl trivial ?_ rfl
  simp only [Tryd.ntmps19, List.size_toArray, List.length_cons, List.length_nil, Nat.reduceAdd, Nat.reduceSub, Array.replicate_succ, Array.replicate_zero, List.push_toArray, List.append_toArray, List.nil_append, List.cons_append]
  have HLO := Lib.hid (impl_logOk _ l n m _ V0.out ht (hT.later A0.out (Nat.le_refl _)) (hg.later A0.out))
  clear hv ht hT hg
  gi_wp2_with fail
  refine ⟨trivial, (callsIn_wide.2 HLO.out).mono ?_⟩
  rintro e w2 ⟨rfl, hb⟩
  have X2 := Lib.hid (X0.out.after hb)
  have A2 := Lib.hid (A0.out.after hb)
  clear hb HLO X0 A0 V0
  cases hok : okB l n m with
  | false =>
    have HR := Lib.hid (rdR_no l n m hok)
    clear hok
    gi_wp2
    refine ⟨_, results_tmp rfl _ _ _, .slice none 0 0, rfl, by rw [HR.out]; exact World.ownsRow_nil _ _ _ _, A2.out⟩
  | true =>
    have HR := Lib.hid (rdR_ok l n m hok)
    have HO := Lib.hid hok
    obtain ⟨l1, l6⟩ := okB_len hok
    obtain ⟨n1, n2, m1, m2⟩ := okB_n hok
    obtain ⟨b, o, cap, hve, hcap, hbw, c0, c1⟩ := HV.out.at0 0 (by omega)
    simp only [Value.slice.injEq] at hve
    obtain ⟨rfl, hk0, rfl⟩ := hve
    rw [Nat.zero_mul, Nat.add_zero] at c0
    have f0 := (okB_F hok 0 (by omega)).2
    have hPw : w.heap.size < w2.heap.size := X2.out.lt
    have d0 : (w2.alloc (.cells #[.slice none 0 0] 28)).cell? ⟨b, o, none⟩ = some (.int .i64 (sF l 0)) := by
      rw [World.cell?_alloc_lt _ _ ⟨b, o, none⟩ (by show b < w2.heap.size; omega), A2.out.cell (p := ⟨b, o, none⟩) hbw]; exact c0
    obtain ⟨x0, x1, x2⟩ := (X2.out.alloc (.cells #[.slice none 0 0] 28)).cells3
    obtain ⟨y0, y1, y2⟩ := ((X2.out.alloc (.cells #[.slice none 0 0] 28)).alloc (.cells #[.int .i64 (sF l 0)] 3)).cells3
    have p0 : 0 < k0' := by omega
    have i6 : (k0' : Int) ≤ 6 := by omega
    have HK := Lib.hid hk0
    clear hok hk0 l1 l6 c0 c1
    gi_wp2
    have hJ0 : RJ w2.heap.size w2 [] (w2.heap.size + 2) (w2.heap.size + 2) (rdA l m 0) (atN l 0) ((w2.alloc (.cells #[.slice none 0 0] 28)).alloc (.cells #[.int .i64 (sF l 0)] 3)) := by
      have b1 := (Boxed.new w2 28 (.slice none 0 0)).alloc (.cells #[.int .i64 (sF l 0)] 3)
      have b2 := Boxed.new (w2.alloc (.cells #[.slice none 0 0] 28)) 3 (.int .i64 (sF l 0))
      rw [World.size_alloc] at b2
      exact ⟨⟨_, b1, World.ownsRow_nil _ _ _ _, by simp [Value.ownBlock]⟩, ⟨⟨b2, ((Below.refl _ w2).alloc (Nat.le_refl _) _).alloc (by simp) _⟩, by simp⟩, fun D hD => by simp at hD⟩
    refine wpIn_loop (fun a' wr => ∃ (k : Nat) (Ds : List Nat) (u6 u20 u21 u22 u23 u24 u25 u38 : Value), k ≤ k0' ∧ a' = { tmps := #[.agg #[.slice (some ⟨b, o, none⟩) k0' cap0, .int .i64 n, .int .i64 m], .pointer (some ⟨w.heap.size, 0, none⟩), .slice none 0 0, .pointer (some ⟨w2.heap.size, 0, none⟩), .pointer (some ⟨w2.heap.size + 1, 0, none⟩), undef, u6, undef, .agg #[.slice (some ⟨b, o, none⟩) k0' cap0, .int .i64 n, .int .i64 m], .bool true, .bool false, .pointer (some ⟨w.heap.size, 0, none⟩), .slice (some ⟨b, o, none⟩) k0' cap0, .pointer (some ⟨b, o, none⟩), .pointer (some ⟨b, o, none⟩), .int .i64 (sF l 0), .pointer (some ⟨w.heap.size, 0, none⟩), .slice (some ⟨b, o, none⟩) k0' cap0, .int .i64 (k0' : Nat), .int .i64 (k : Nat), u20, u21, u22, u23, u24, u25, undef, undef, undef, undef, undef, undef, undef, undef, undef, undef, undef, undef, u38, undef], defers := Ds.map mkD } ∧ RJ w2.heap.size w2 Ds wr.heap.size (w2.heap.size + 2) (rdA l m k) (atN l k) wr ∧ (∀ D ∈ Ds, w2.heap.size + 2 ≤ D) ∧ Ds.Nodup) (fun a' _ => k0' - (intOf (a'.tmps.getD 19 undef)).toNat) ?_ ?_
    · refine ⟨0, [], undef, undef, undef, undef, undef, undef, undef, undef, by omega, rfl, ?_, fun D hD => by simp at hD, List.nodup_nil⟩
      simpa using hJ0
    · rintro a' wr ⟨k, Ds, u6, u20, u21, u22, u23, u24, u25, u38, hk, rfl, hJ, hD, hN⟩
      clear d0 x0 x1 x2 y0 y1 y2 hJ0
      have HD := Lib.hid hD
      have HN := Lib.hid hN
      have HJ := Lib.hid hJ
      have hAf2 : Af w2 wr := hJ.2.1.1.2
      have hAf : Af w wr := A2.out.trans hAf2
      have HAF := Lib.hid hAf
      have hwr : w2.heap.size + 2 ≤ wr.heap.size := hJ.2.1.2
      clear hD hN hJ hAf2 hAf
      by_cases hlt : k < k0'
      · obtain ⟨b', o', cap', ev, _, _, c0, c1⟩ := (HV.out.later HAF.out).at0 k (by rw [← HK.out]; exact hlt)
        simp only [Value.slice.injEq, Option.some.injEq, Addr.mk.injEq] at ev
        obtain ⟨⟨rfl, rfl, _⟩, hkk, rfl⟩ := ev
        clear hkk
        have htk := HT.out k (by rw [← HK.out]; exact hlt)
        have y1 : (k : Int) < (k0' : Int) := by omega
        have y0 : (0 : Int) ≤ (k : Int) := by omega
        gi_wp2_with (refine ⟨trivial, ?_⟩; gi_at_call 48; refine (frames_c _ (sT l k) _).mono ?_; rintro e w' ⟨rfl, rfl⟩)
        have bS := Boxed.new (wr.alloc (.cells #[.int .i64 (sF l k), .string (sT l k)] 63)) 9 (.string (sT l k))
        rw [World.size_alloc] at bS
        have hsz : ((wr.alloc (.cells #[.int .i64 (sF l k), .string (sT l k)] 63)).alloc (.cells #[.string (sT l k)] 9)).heap.size = wr.heap.size + 2 := by simp
        have hbW : Below wr.heap.size wr ((wr.alloc (.cells #[.int .i64 (sF l k), .string (sT l k)] 63)).alloc (.cells #[.string (sT l k)] 9)) := ((Below.refl _ wr).alloc (Nat.le_refl _) _).alloc (by simp) _
        have hTW : TabC ((wr.alloc (.cells #[.int .i64 (sF l k), .string (sT l k)] 63)).alloc (.cells #[.string (sT l k)] 9)) := HTA.out.later (HAF.out.after hbW) (Nat.le_refl _)
        have hJW : RJ w2.heap.size w2 Ds (wr.heap.size + 1) (wr.heap.size + 2) (rdA l m k) (atN l k) ((wr.alloc (.cells #[.int .i64 (sF l k), .string (sT l k)] 63)).alloc (.cells #[.string (sT l k)] 9)) := by
          obtain ⟨⟨v, hv, hr, _⟩, ⟨⟨h5, hb⟩, hs⟩, hd⟩ := HJ.out
          refine ⟨⟨v, (hv.alloc _).alloc _, (hr.alloc _).alloc _, fun e => ?_⟩, ⟨⟨(h5.alloc _).alloc _, hb.trans (hbW.mono (by omega))⟩, by simp⟩, fun D hD => ?_⟩
          · have := (World.ownsRow.lt hr _ e).2
            omega
          · rw [hbW.block D (Array.getElem?_eq_some_iff.1 (hd D hD)).1]
            exact hd D hD
        have hDlt : ∀ D ∈ Ds, D < wr.heap.size := fun D hD => (Array.getElem?_eq_some_iff.1 (HJ.out.2.2 D hD)).1
        generalize hW0 : (wr.alloc (.cells #[.int .i64 (sF l k), .string (sT l k)] 63)).alloc (.cells #[.string (sT l k)] 9) = W0 at *
        clear hW0
        have hnF := nF_le5 (sT l k)
        have hA1 := atN_mono l 0 k (by omega)
        have hA2 := atN_mono l k l.length (by rw [← HK.out]; omega)
        have hA0 : atN l 0 = sF l 0 := rfl
        have hAn : n = atN l l.length := ((okB_iff l n m).1 HO.out).2.2.2.2.2.2.1
        have hlen0 := rdA_len l m k
        have hc1 : 1 ≤ atN l k := by omega
        have hc2 : atN l k ≤ 1000 := by omega
        have hl0 : (rdA l m k).length ≤ 1000 := by omega
        clear hA1 hA2 hA0 hAn hlen0
        obtain ⟨i0, hi, hz0, hz1, hz2⟩ := info_parts Tryd.info9
        refine wpIn_rangeFunc_ownG rfl (by decide) (gf := 81) (lb := #[.pointer (some ⟨wr.heap.size + 1, 0, none⟩)]) rfl trivial (enters_of Tryd.func81 (by kernel_rfl) rfl)
          (frames_stops _ (by decide) (wr.heap.size + 1) w2.heap.size (sT l k) htk W0 (by omega) bS.cell hTW (Nat.lt_of_lt_of_le HTA.out.lt (by omega))) (fun h k => ⟨h.1.trans k.1, k.2.trans h.2⟩)
          (fun W l o o' hl h hc hw => ⟨belowK_b (w := W0) (by omega) W l o o' hl h hc hw, World.putObj_heap_other (by omega)⟩) (Below.refl _ _) (fun _ => rfl)
          (fun (pre : List (ByteArray × Int)) W => RJ w2.heap.size w2 Ds (wr.heap.size + 1) (wr.heap.size + 2) (rdA l m k ++ (pre.map Prod.fst).drop (rdD m (atN l k))) (atN l k + (pre.length : Int)) W)
          (fun _ _ _ => False)
          (OwnFrom.and (Own.from (holdsRow_own (w2.heap.size + 2) w2.heap.size 28 9 1 (fun pre : List (ByteArray × Int) => (rdA l m k ++ (pre.map Prod.fst).drop (rdD m (atN l k))).length) (fun pre => strV (rdA l m k ++ (pre.map Prod.fst).drop (rdD m (atN l k)))) (fun _ v => v.ownBlock ≠ some (wr.heap.size + 1))) _)
            (OwnFrom.and (OwnFrom.and (OwnFrom.and (fun s A B row hs hg hr => hs.kept hg (fun e => by have := (hr _ e.symm).1; omega)) (ownFrom_below (Nat.le_refl _) (by omega))) (fun _ _ _ _ hs hg _ => Nat.le_trans hs hg.size))
              (fun s A B row hs hg hr D hD => by rw [hg.block D (Array.getElem?_eq_some_iff.1 (hs D hD)).1 (fun e => by have h1 := (hr _ e.symm).1; have h2 := hDlt D hD; omega)]; exact hs D hD)))
          (fun _ _ _ _ _ hs _ _ => hs)
          (by simpa using hJW)
          (fun x => { tmps := #[.agg #[.slice (some ⟨b, o, none⟩) k0' cap0, .int .i64 n, .int .i64 m], .pointer (some ⟨w.heap.size, 0, none⟩), .slice none 0 0, .pointer (some ⟨w2.heap.size, 0, none⟩), .pointer (some ⟨w2.heap.size + 1, 0, none⟩), undef, .pointer (some ⟨wr.heap.size, 0, none⟩), .string x.1, .agg #[.slice (some ⟨b, o, none⟩) k0' cap0, .int .i64 n, .int .i64 m], .bool true, .bool false, .pointer (some ⟨w.heap.size, 0, none⟩), .slice (some ⟨b, o, none⟩) k0' cap0, .pointer (some ⟨b, o, none⟩), .pointer (some ⟨b, o, none⟩), .int .i64 (sF l 0), .pointer (some ⟨w.heap.size, 0, none⟩), .slice (some ⟨b, o, none⟩) k0' cap0, .int .i64 (k0' : Nat), .int .i64 (k : Nat), .bool true, .pointer (some ⟨b, o + k * 2, none⟩), .agg #[.int .i64 (sF l k), .string (sT l k)], .pointer (some ⟨wr.heap.size, 1, none⟩), .string (sT l k), .func (.func 81) #[] #[.pointer (some ⟨wr.heap.size + 1, 0, none⟩)], .string x.1, .int .i64 x.2, undef, undef, undef, undef, undef, undef, undef, undef, undef, undef, u38, undef], defers := [] }) ?assign ?body ?done ?stop
        case assign =>
          intro l x W K hK
          gi_wp2
          exact hK
        case body =>
          rintro lo pre x W hJb hlt2
          have HJB := Lib.hid hJb
          obtain ⟨⟨v, hv, hr, hne⟩, ⟨⟨h5, hb⟩, hs⟩, hd⟩ := hJb
          obtain ⟨_, _, q2⟩ := (X2.out.later hb hPw).cells3
          have c3 := h5.cell
          have e3 := h5.frozen
          have hcv := hv.cell
          have pl6 : (pre.length : Int) ≤ 209716 := by omega
          have hlm : (pre.map Prod.fst).length = pre.length := List.length_map ..
          have hpost : ∀ lst2 W2, lst2 = rdA l m k ++ ((pre ++ [x]).map Prod.fst).drop (rdD m (atN l k)) → RJ w2.heap.size w2 Ds (wr.heap.size + 1) (wr.heap.size + 2) lst2 (atN l k + (pre.length : Int) + 1) W2 → RJ w2.heap.size w2 Ds (wr.heap.size + 1) (wr.heap.size + 2) (rdA l m k ++ ((pre ++ [x]).map Prod.fst).drop (rdD m (atN l k))) (atN l k + ((pre ++ [x]).length : Int)) W2 := fun lst2 W2 e h => by
            rw [e] at h
            rw [List.length_append]
            simpa [Int.add_assoc] using h
          have HPO := Lib.hid hpost
          clear hpost
          obtain ⟨c, hcc⟩ : ∃ c, atN l k = c := ⟨_, rfl⟩
          by_cases hgt : m < atN l k + (pre.length : Int)
          · have hdr := drop_snoc_in (pre.map Prod.fst) x.1 (rdD m (atN l k)) (by rw [hlm]; exact (rdD_le _ _ _).2 hgt)
            have hlst2 : rdA l m k ++ (pre.map Prod.fst).drop (rdD m (atN l k)) ++ [x.1] = rdA l m k ++ ((pre ++ [x]).map Prod.fst).drop (rdD m (atN l k)) := by
              rw [List.map_append, List.map_cons, List.map_nil, hdr, List.append_assoc]
            have hll : (rdA l m k ++ (pre.map Prod.fst).drop (rdD m (atN l k))).length ≤ 300000 := by
              rw [List.length_append, List.length_drop, hlm]; omega
            have HL2 := Lib.hid hlst2
            clear hdr hlst2 hlm
            generalize rdA l m k ++ (pre.map Prod.fst).drop (rdD m (atN l k)) = lst at *
            rw [hcc] at hgt c3 hc1 hc2 HPO HL2 HJB h5 ⊢
            have hd1 : (0 : Int) ≤ (pre.length : Int) := by omega
            have hl1 : (lst ++ [x.1]).length = lst.length + 1 := by simp
            have HL1 := Lib.hid hl1
            clear hl1
            gi_wp2_with (gi_at_builtin; refine wpIn_append_lies _ rfl _ _ 28 rfl (w2.heap.size + 2) 9 i0 (.string ByteArray.empty) 1 16 Tryd.underlying28 hi hz0 hz1 hz2 rfl (by decide) _ _ _ rfl (hr.alloc _) ⟨W.heap.size, 0, none⟩ 1 1 [.string x.1] rfl rfl (cell_one_new _ _ _) (by simp [Value.oneCell']) (by decide) (by unfold maxLen; omega) (by omega) (by simp; omega) ?_; intro g cap w1 hown' hgrow hlie hgw; obtain ⟨k1, k2, k3, k4, k5⟩ := rj_app (lst2 := lst ++ [x.1]) (g := g) (cap := cap) hv hr hne h5 hb hs hd (by omega) (by omega) (by rw [HL1.out]; simpa [strV] using hown') hgrow hlie; rw [HL1.out] at k2 k3 k4 k5; have q1 := k1.cell; have q3 := k1.frozen; have q4 := k2.2.1.1.1.cell; have q5 := k2.2.1.1.1.frozen)
            obtain ⟨j1, j2, j3, j4⟩ := rj_skip k2 (by omega) (c + (pre.length : Int) + 1)
            exact ⟨(k3.trans j2).from _, ⟨k4.trans j3, j4.trans k5⟩, HPO.out _ _ HL2.out j1⟩
          · have hdr := drop_snoc_out (pre.map Prod.fst) x.1 (rdD m (atN l k)) (by rw [hlm]; have := mt (rdD_le m (atN l k) pre.length).1 hgt; omega)
            have hlst2 : rdA l m k ++ (pre.map Prod.fst).drop (rdD m (atN l k)) = rdA l m k ++ ((pre ++ [x]).map Prod.fst).drop (rdD m (atN l k)) := by
              rw [List.map_append, List.map_cons, List.map_nil, hdr]
            have HL2 := Lib.hid hlst2
            clear hdr hlst2 hlm
            generalize rdA l m k ++ (pre.map Prod.fst).drop (rdD m (atN l k)) = lst at *
            rw [hcc] at hgt c3 hc1 hc2 HPO HL2 HJB h5 ⊢
            have hd1 : (0 : Int) ≤ (pre.length : Int) := by omega
            have dgt : decide (m < c + (pre.length : Int)) = false := decide_eq_false hgt
            gi_wp2
            obtain ⟨j1, j2, j3, j4⟩ := rj_skip HJB.out (by omega) (c + (pre.length : Int) + 1)
            exact ⟨j2.from _, ⟨j3, j4⟩, HPO.out _ _ HL2.out j1⟩
        case done =>
          rintro D ys W hDW rfl hJD hKD
          have HJD := Lib.hid hJD
          have hWs : wr.heap.size + 2 ≤ W.heap.size := hJD.2.1.2
          clear hJD
          gi_wp2
          refine ⟨⟨k + 1, D :: Ds, _, _, _, _, _, _, _, _, by omega, rfl, ?_, ?_, ?_⟩, ?_⟩
          · obtain ⟨⟨v, hv, hr, _⟩, ⟨⟨h5, hb⟩, hs⟩, hd⟩ := HJD.out
            rw [fX_fst, ← rdA_succ] at hr
            rw [fX_length, ← atN_succ] at h5
            refine ⟨⟨v, hv, hr, fun e => ?_⟩, ⟨⟨h5, hb⟩, by omega⟩, fun D' hD' => ?_⟩
            · have := (World.ownsRow.lt hr _ e).2
              omega
            · rcases List.mem_cons.1 hD' with rfl | h
              · exact hKD
              · exact hd D' h
          · intro D' hD'
            rcases List.mem_cons.1 hD' with rfl | h
            · omega
            · exact HD.out D' h
          · refine List.nodup_cons.2 ⟨fun h => ?_, HN.out⟩
            have := hDlt D h
            omega
          · show k0' - ((k : Int) + 1).toNat < k0' - (k : Int).toNat
            omega
        case stop =>
          rintro D c pre W _ _ h _
          exact h.elim
      · obtain rfl : k = k0' := by omega
        obtain ⟨⟨v, hv, hr, _⟩, ⟨⟨h5, hb⟩, hs⟩, hd⟩ := HJ.out
        have hc := hv.cell
        have HRW := Lib.hid hr
        have HBW := Lib.hid hb
        have HDD := Lib.hid hd
        clear hv hr h5 hb hd
        gi_wp2
        refine leaves_marks (w2.heap.size + 2) (fun W => GrowsS W (w2.heap.size + 2) v (rdA l m k) ∧ Below w2.heap.size w2 W) (fun W D h hD hh => ⟨ownsRow_putObj h.1 (.deferred none) hh rfl, h.2.trans (belowK_b (w := w2) (Nat.le_refl _) W D _ _ (by omega) hh rfl rfl)⟩) (fun W h => ?_) Ds wr ⟨HRW.out, HBW.out⟩ (fun D hD => ⟨HD.out D hD, HDD.out D hD⟩) HN.out
        refine ⟨_, results_tmp rfl _ _ _, v, rfl, ?_, A2.out.trans h.2⟩
        rw [HR.out, ← HK.out]
        exact GrowsS.mono h.1 (by omega)
end Go.Proofs.YtemhhjkmolndbaaDoor
