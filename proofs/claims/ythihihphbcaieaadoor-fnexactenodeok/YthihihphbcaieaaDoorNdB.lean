/- A bundle of texts: NdVi, NdVj, NdLaw. -/
import Derived.Test.YthihihphbcaieaaDoorNdW
import Derived.Test.YthihihphbcaieaaDoorLdV
import Derived.Test.YthihihphbcaieaaDoorInLi
import Derived.Test.YthihihphbcaieaaDoorNdTo
import Derived.Test.YthihihphbcaieaaDoorNdVs
/- When a node is valid: the program's looks through its lists. -/
namespace Go.Proofs.YthihihphbcaieaaDoor
open Go.RowKit Go.PlainAid
set_option linter.unusedVariables false

set_option maxHeartbeats 400000 in
theorem impl_tooEarly (me next r s : Int) (au av : Option Addr) (nu cu nv cv : Nat) (w : World) :
    Calls Tryd.prog 154 #[.agg #[.int .i64 me, .int .i64 next, .slice au nu cu, .slice av nv cv], .agg #[.int .i64 r, .int .i64 s]] w fun e w' => e = .returned (.bool (earlyB me next r s)) ∧ Below w.heap.size w w' := by
  have A0 := Lib.hid (((Af.refl w).alloc (.cells #[.int .i64 me, .int .i64 next, .slice au nu cu, .slice av nv cv] 101)).alloc (.cells #[.int .i64 r, .int .i64 s] 40))
  rw [earlyB_eq]
  cases h1 : (r == me)
  · go_enter Tryd.func154, Tryd.ntmps154
    go_wp2
    go_ret
    exact ⟨rfl, A0.out⟩
  · go_enter Tryd.func154, Tryd.ntmps154
    go_wp2
    go_ret
    exact ⟨rfl, A0.out⟩
set_option maxHeartbeats 400000 in
theorem impl_instEarly (me next : Int) (x : In) (u d : Value) (au av : Option Addr) (nu cu nv cv : Nat) (w : World) (h : Pts w x u d) :
    Calls Tryd.prog 126 #[.agg #[.int .i64 me, .int .i64 next, .slice au nu cu, .slice av nv cv], .agg #[.int .i64 x.rep, .int .i64 x.slot, .int .i64 x.bal, .int .i64 x.vbal, .int .i64 x.st, .int .i64 x.cmd.kind, .int .i64 x.cmd.client, .int .i64 x.cmd.no, .string x.cmd.set, .string x.cmd.name, .string x.cmd.tag, .int .i64 x.cmd.n, u, .int .i64 x.seq, d, .bool x.same]] w fun e w' => e = .returned (.bool (earlyB me next x.rep x.slot)) ∧ Below w.heap.size w w' := by
  obtain ⟨⟨a1, n1, c1, rfl⟩, a2, n2, c2, rfl⟩ := h.form
  have A0 := Lib.hid (((Af.refl w).alloc (.cells #[.int .i64 me, .int .i64 next, .slice au nu cu, .slice av nv cv] 101)).alloc (.cells #[.int .i64 x.rep, .int .i64 x.slot, .int .i64 x.bal, .int .i64 x.vbal, .int .i64 x.st, .int .i64 x.cmd.kind, .int .i64 x.cmd.client, .int .i64 x.cmd.no, .string x.cmd.set, .string x.cmd.name, .string x.cmd.tag, .int .i64 x.cmd.n, .slice a1 n1 c1, .int .i64 x.seq, .slice a2 n2 c2, .bool x.same] 52))
  clear h
  go_enter Tryd.func126, Tryd.ntmps126
  go_wp2_with fail
  refine (impl_tooEarly me next x.rep x.slot au av nu cu nv cv _).mono ?_
  rintro e w1 ⟨rfl, bb⟩
  have A1 := Lib.hid (A0.out.after bb)
  clear bb A0
  go_wp2
  go_ret
  exact ⟨rfl, A1.out⟩
set_option maxRecDepth 100000 in
set_option maxHeartbeats 2000000 in
theorem impl_idxEarly (me next : Int) (v : Value) (l : List In) (au av : Option Addr) (nu cu nv cv : Nat) (w : World) (hv : Insts w v l) :
    Calls Tryd.prog 153 #[v, .func (.func 126) #[.agg #[.int .i64 me, .int .i64 next, .slice au nu cu, .slice av nv cv]] #[]] w fun e w' => (∃ z : Int, e = .returned (.int .i64 z) ∧ decide (0 ≤ z) = !noneB me next l) ∧ Below w.heap.size w w' := by
  obtain ⟨h1, a, ca, rfl, hca, ha⟩ := hv
  generalize hn : l.length = n at h1 ha hca
  have HN := Lib.hid hn
  have HA := Lib.hid ha
  clear hn ha hca
  go_enter Tryd.func153, Tryd.ntmps153
  go_wp2
  go_loopw [8] (fun i wr => ∃ k : Nat, k ≤ n ∧ i = .int .i64 k ∧ (∀ j, j < k → earlyB me next (nth l j).rep (nth l j).slot = false) ∧ Below w.heap.size w wr) (fun i _ => n - (intOf i).toNat)
  case atStart => exact ⟨0, by omega, rfl, fun j hj => by omega, Below.refl _ _⟩
  case round =>
    obtain ⟨k, hk, rfl, he, hbw⟩ := hrel
    have HE := Lib.hid he
    have HBW := Lib.hid hbw
    clear he hbw
    by_cases hlt : k < n
    · obtain ⟨x, o, rfl, hx, hcx⟩ := HA.out (by omega)
      obtain ⟨u, d, cc, pp⟩ := hcx k hlt
      obtain ⟨m0, m1, m2, m3, m4, m5, m6, m7, m8, m9, m10, m11, m12, m13, m14, m15⟩ := cc.below HBW.out hx
      have PK := Lib.hid (pp.later HBW.out)
      obtain ⟨⟨a1, n1, c1, rfl⟩, a2, n2, c2, rfl⟩ := pp.form
      obtain ⟨q, hq⟩ : ∃ q, nth l k = q := ⟨_, rfl⟩
      have HQ := Lib.hid hq
      rw [hq] at PK m0 m1 m2 m3 m4 m5 m6 m7 m8 m9 m10 m11 m13 m15
      have y1 : (k : Int) < (n : Int) := by omega
      have y0 : (0 : Int) ≤ (k : Int) := by omega
      clear hcx cc pp hq
      go_wp2_with fail
      clear m0 m1 m2 m3 m4 m5 m6 m7 m8 m9 m10 m11 m12 m13 m14 m15
      refine (impl_instEarly me next q _ _ au av nu cu nv cv _ PK.out).mono ?_
      rintro e w2 ⟨rfl, bb⟩
      have HB2 := Lib.hid (HBW.out.trans (bb.mono HBW.out.size))
      clear bb
      cases he : earlyB me next q.rep q.slot
      · have HK := Lib.hid (show earlyB me next (nth l k).rep (nth l k).slot = false by rw [HQ.out, he])
        go_wp2
        go_roundw
        case rel =>
          refine ⟨k + 1, by omega, by go_num, fun j hj => ?_, HB2.out⟩
          by_cases e : j = k
          · subst e; exact HK.out
          · exact HE.out j (by omega)
        case measure => simp only [intOf]; omega
      · have HK := Lib.hid (noneB_no me next l k (by rw [HN.out]; exact hlt) (by rw [HQ.out, he]))
        go_wp2
        go_ret
        exact ⟨⟨_, rfl, by rw [HK.out]; exact dec_t (by omega)⟩, HB2.out⟩
    · obtain rfl : k = n := by omega
      go_wp2
      go_ret
      exact ⟨⟨_, rfl, by rw [noneB_yes me next l (fun j hj => HE.out j (by rw [← HN.out]; exact hj))]; rfl⟩, HBW.out⟩
set_option maxHeartbeats 400000 in
theorem impl_anyEarly (me next : Int) (v : Value) (l : List In) (au av : Option Addr) (nu cu nv cv : Nat) (w : World) (hv : Insts w v l) :
    Calls Tryd.prog 125 #[v, .func (.func 126) #[.agg #[.int .i64 me, .int .i64 next, .slice au nu cu, .slice av nv cv]] #[]] w fun e w' => e = .returned (.bool (!noneB me next l)) ∧ Below w.heap.size w w' := by
  have HV := Lib.hid hv
  obtain ⟨a, n, c, rfl⟩ := hv.form
  clear hv
  go_enter Tryd.func125, Tryd.ntmps125
  go_wp2_with fail
  refine (impl_idxEarly me next _ l au av nu cu nv cv _ HV.out).mono ?_
  rintro e w2 ⟨⟨z, rfl, hz⟩, b2⟩
  have A2 := Lib.hid b2
  have HZ := Lib.hid hz
  clear b2 hz
  go_wp2
  go_ret
  exact ⟨by rw [← HZ.out]; rfl, A2.out⟩
/-! ### the Leads -/
set_option maxHeartbeats 400000 in
theorem impl_sameId (x y : Ld) (d f d' f' : Value) (w : World) (h : LPts w x d f) (h' : LPts w y d' f') :
    Calls Tryd.prog 157 #[.agg #[.int .i64 x.rep, .int .i64 x.slot, .int .i64 x.bal, .int .i64 x.ph, .int .i64 x.seq, d, f, .bool x.same], .agg #[.int .i64 y.rep, .int .i64 y.slot, .int .i64 y.bal, .int .i64 y.ph, .int .i64 y.seq, d', f', .bool y.same]] w fun e w' => e = .returned (.bool (decide (x.rep = y.rep ∧ x.slot = y.slot))) ∧ Below w.heap.size w w' := by
  obtain ⟨⟨a1, n1, c1, rfl⟩, a2, n2, c2, rfl⟩ := h.form
  obtain ⟨⟨a3, n3, c3, rfl⟩, a4, n4, c4, rfl⟩ := h'.form
  have A := Lib.hid (((Af.refl w).alloc (.cells #[.int .i64 x.rep, .int .i64 x.slot, .int .i64 x.bal, .int .i64 x.ph, .int .i64 x.seq, .slice a1 n1 c1, .slice a2 n2 c2, .bool x.same] 148)).alloc (.cells #[.int .i64 y.rep, .int .i64 y.slot, .int .i64 y.bal, .int .i64 y.ph, .int .i64 y.seq, .slice a3 n3 c3, .slice a4 n4 c4, .bool y.same] 148))
  clear h h'
  by_cases h1 : x.rep = y.rep
  · by_cases h2 : x.slot = y.slot
    · rw [dec_t ⟨h1, h2⟩]
      have hs1 : (x.rep == y.rep) = true := by simpa using h1
      have hs2 : (x.slot == y.slot) = true := by simpa using h2
      clear h1 h2
      go_enter Tryd.func157, Tryd.ntmps157
      go_wp2
      go_ret
      exact ⟨rfl, A.out⟩
    · rw [dec_f (fun e => h2 e.2)]
      have hs1 : (x.rep == y.rep) = true := by simpa using h1
      have hs2 : (x.slot == y.slot) = false := ine_no h2
      clear h1 h2
      go_enter Tryd.func157, Tryd.ntmps157
      go_wp2
      go_ret
      exact ⟨rfl, A.out⟩
  · rw [dec_f (fun e => h1 e.1)]
    have hs1 : (x.rep == y.rep) = false := ine_no h1
    clear h1
    go_enter Tryd.func157, Tryd.ntmps157
    go_wp2
    go_ret
    exact ⟨rfl, A.out⟩
/-- One of the first k has x's Id. -/
@[irreducible] def hasL (l : List Ld) (k : Nat) (x : Ld) : Bool := (List.range k).any (fun j => decide (x.rep = (nthL l j).rep ∧ x.slot = (nthL l j).slot))
theorem hasL_yes (l : List Ld) (k : Nat) (x : Ld) (j : Nat) (hj : j < k) (h : x.rep = (nthL l j).rep ∧ x.slot = (nthL l j).slot) : hasL l k x = true := by
  unfold hasL
  rw [List.any_eq_true]
  exact ⟨j, by simpa using hj, decide_eq_true h⟩
theorem hasL_no (l : List Ld) (k : Nat) (x : Ld) (h : ∀ j, j < k → ¬ (x.rep = (nthL l j).rep ∧ x.slot = (nthL l j).slot)) : hasL l k x = false := by
  unfold hasL
  rw [List.any_eq_false]
  intro j hj
  simp only [decide_eq_true_eq]
  exact h j (by simpa using hj)
theorem hasL_dup (l : List Ld) (k : Nat) : hasL l k (nthL l k) = dupB l k := by
  cases h : dupB l k
  · exact hasL_no l k _ (fun j hj e => by rw [dupB_yes l k j hj ⟨e.1.symm, e.2.symm⟩] at h; cases h)
  · obtain ⟨j, hj, e1, e2⟩ := (dupB_iff l k).1 h
    exact hasL_yes l k _ j hj ⟨e1.symm, e2.symm⟩
set_option maxRecDepth 100000 in
set_option maxHeartbeats 2000000 in
theorem impl_idxLead (v : Value) (l : List Ld) (m : Nat) (x : Ld) (d f : Value) (w : World) (h : Leads w v l) (hm : m ≤ l.length) (hx : LPts w x d f) (a : Option Addr) (cap : Nat) (hv : ∃ c, v = .slice a l.length c) (hcm : m ≤ cap) :
    Calls Tryd.prog 181 #[.slice a m cap, .func (.func 157) #[.agg #[.int .i64 x.rep, .int .i64 x.slot, .int .i64 x.bal, .int .i64 x.ph, .int .i64 x.seq, d, f, .bool x.same]] #[]] w fun e w' => (∃ z : Int, e = .returned (.int .i64 z) ∧ decide (0 ≤ z) = hasL l m x) ∧ Below w.heap.size w w' := by
  obtain ⟨h1, a', ca, hve, hca, ha⟩ := h
  obtain ⟨c0, hv⟩ := hv
  rw [hve] at hv
  simp only [Value.slice.injEq] at hv
  obtain ⟨rfl, _, _⟩ := hv
  have HA := Lib.hid ha
  have HX := Lib.hid hx
  obtain ⟨⟨x1, x2, x3, rfl⟩, x4, x5, x6, rfl⟩ := hx.form
  have hml : m ≤ 9223372036854775807 := by omega
  clear ha hca hx hve
  go_enter Tryd.func181, Tryd.ntmps181
  go_wp2
  go_loopw [8] (fun i wr => ∃ k : Nat, k ≤ m ∧ i = .int .i64 k ∧ (∀ j, j < k → ¬ (x.rep = (nthL l j).rep ∧ x.slot = (nthL l j).slot)) ∧ Below w.heap.size w wr) (fun i _ => m - (intOf i).toNat)
  case atStart => exact ⟨0, by omega, rfl, fun j hj => by omega, Below.refl _ _⟩
  case round =>
    obtain ⟨k, hk, rfl, he, hbw⟩ := hrel
    have HE := Lib.hid he
    have HBW := Lib.hid hbw
    clear he hbw
    by_cases hlt : k < m
    · obtain ⟨b, o, rfl, hb, hcx⟩ := HA.out (by omega)
      obtain ⟨d', f', cc, pp⟩ := hcx k (by omega)
      obtain ⟨m0, m1, m2, m3, m4, m5, m6, m7⟩ := cc.below HBW.out hb
      have PK := Lib.hid (pp.later HBW.out)
      obtain ⟨⟨a1, n1, c1, rfl⟩, a2, n2, c2, rfl⟩ := pp.form
      obtain ⟨q, hq⟩ : ∃ q, nthL l k = q := ⟨_, rfl⟩
      have HQ := Lib.hid hq
      rw [hq] at PK m0 m1 m2 m3 m4 m7
      have y1 : (k : Int) < (m : Int) := by omega
      have y0 : (0 : Int) ≤ (k : Int) := by omega
      clear hcx cc pp hq
      go_wp2_with fail
      clear m0 m1 m2 m3 m4 m5 m6 m7
      refine (impl_sameId x q _ _ _ _ _ (HX.out.later HBW.out) PK.out).mono ?_
      rintro e w2 ⟨rfl, bb⟩
      have HB2 := Lib.hid (HBW.out.trans (bb.mono HBW.out.size))
      clear bb
      cases he : decide (x.rep = q.rep ∧ x.slot = q.slot)
      · have HK := Lib.hid (show ¬ (x.rep = (nthL l k).rep ∧ x.slot = (nthL l k).slot) by rw [HQ.out]; exact of_decide_eq_false he)
        clear he
        go_wp2
        go_roundw
        case rel =>
          refine ⟨k + 1, by omega, by go_num, fun j hj => ?_, HB2.out⟩
          by_cases e : j = k
          · subst e; exact HK.out
          · exact HE.out j (by omega)
        case measure => simp only [intOf]; omega
      · have HK := Lib.hid (hasL_yes l m x k hlt (by rw [HQ.out]; exact of_decide_eq_true he))
        clear he
        go_wp2
        go_ret
        exact ⟨⟨_, rfl, by rw [HK.out]; exact dec_t (by omega)⟩, HB2.out⟩
    · obtain rfl : k = m := by omega
      go_wp2
      go_ret
      exact ⟨⟨_, rfl, by rw [hasL_no l k x HE.out]; rfl⟩, HBW.out⟩
set_option maxHeartbeats 400000 in
theorem impl_anyLead (v : Value) (l : List Ld) (m : Nat) (x : Ld) (d f : Value) (w : World) (h : Leads w v l) (hm : m ≤ l.length) (hx : LPts w x d f) (a : Option Addr) (cap : Nat) (hv : ∃ c, v = .slice a l.length c) (hcm : m ≤ cap) :
    Calls Tryd.prog 156 #[.slice a m cap, .func (.func 157) #[.agg #[.int .i64 x.rep, .int .i64 x.slot, .int .i64 x.bal, .int .i64 x.ph, .int .i64 x.seq, d, f, .bool x.same]] #[]] w fun e w' => e = .returned (.bool (hasL l m x)) ∧ Below w.heap.size w w' := by
  have HI := Lib.hid (impl_idxLead v l m x d f w h hm hx a cap hv hcm)
  obtain ⟨⟨x1, x2, x3, rfl⟩, x4, x5, x6, rfl⟩ := hx.form
  clear h hx hv
  go_enter Tryd.func156, Tryd.ntmps156
  go_wp2_with fail
  refine HI.out.mono ?_
  rintro e w2 ⟨⟨z, rfl, hz⟩, b2⟩
  have A2 := Lib.hid b2
  have HZ := Lib.hid hz
  clear b2 hz
  go_wp2
  go_ret
  exact ⟨by rw [← HZ.out]; rfl, A2.out⟩
end Go.Proofs.YthihihphbcaieaaDoor
/- When a node is valid: the program's walk. -/
namespace Go.Proofs.YthihihphbcaieaaDoor
open Go.RowKit Go.PlainAid
set_option linter.unusedVariables false

theorem l_impl_lead (x : Ld) (d f : Value) (b : Bool) (e : ldB x = b) (w0 w : World) (hp : LPts w0 x d f) (h : LatI w0 w) : Calls Tryd.prog 155 #[.agg #[.int .i64 x.rep, .int .i64 x.slot, .int .i64 x.bal, .int .i64 x.ph, .int .i64 x.seq, d, f, .bool x.same]] w fun e w' => e = .returned (.bool b) ∧ LatI w0 w' :=
  (impl_lead x d f w (hp.later h)).mono fun _ w' hh => ⟨e ▸ hh.1, h.trans hh.2⟩
theorem l_impl_anyLead (v : Value) (l : List Ld) (m : Nat) (x : Ld) (d f : Value) (b : Bool) (e : hasL l m x = b) (w0 w : World) (hp : Leads w0 v l) (hm : m ≤ l.length) (hx : LPts w0 x d f) (a : Option Addr) (cap : Nat) (hv : ∃ c, v = .slice a l.length c) (hcm : m ≤ cap) (h : LatI w0 w) :
    Calls Tryd.prog 156 #[.slice a m cap, .func (.func 157) #[.agg #[.int .i64 x.rep, .int .i64 x.slot, .int .i64 x.bal, .int .i64 x.ph, .int .i64 x.seq, d, f, .bool x.same]] #[]] w fun e w' => e = .returned (.bool b) ∧ LatI w0 w' :=
  (impl_anyLead v l m x d f w (hp.later h) hm (hx.later h) a cap hv hcm).mono fun _ w' hh => ⟨e ▸ hh.1, h.trans hh.2⟩
set_option maxRecDepth 100000 in
set_option maxHeartbeats 4000000 in
theorem impl_leadsOk (v : Value) (l : List Ld) (w : World) (hv : Leads w v l) :
    Calls Tryd.prog 127 #[v] w fun e w' => e = .returned (.bool (ldsB l)) ∧ Below w.heap.size w w' := by
  have HV := Lib.hid hv
  obtain ⟨h1, a, ca, rfl, hca, ha⟩ := hv
  obtain ⟨n, hn⟩ : ∃ n, l.length = n := ⟨_, rfl⟩
  have HN := Lib.hid hn
  rw [hn] at h1 hca ha HV ⊢
  have HA := Lib.hid ha
  clear hn ha
  by_cases h8 : n ≤ 8
  case neg =>
    have HX := Lib.hid (ldsB_big l (by rw [HN.out]; omega))
    have hd : decide (8 < (n : Int)) = true := dec_t (by omega)
    go_enter Tryd.func127, Tryd.ntmps127
    go_wp2
    go_ret
    exact ⟨by rw [HX.out]; rfl, Below.refl _ _⟩
  have hd : decide (8 < (n : Int)) = false := dec_f (by omega)
  go_enter Tryd.func127, Tryd.ntmps127
  go_wp2
  clear hd
  go_loopw [10] (fun i wr => ∃ k : Nat, k ≤ n ∧ i = .int .i64 k ∧ (∀ j, j < k → ldsAt l j = true) ∧ Af w wr) (fun i _ => n - (intOf i).toNat)
  case atStart => exact ⟨0, by omega, rfl, fun j hj => by omega, Af.refl w⟩
  case round =>
    obtain ⟨k, hk, rfl, he, haf⟩ := hrel
    have HE := Lib.hid he
    have A := Lib.hid haf
    clear he haf
    by_cases hlt : k < n
    · obtain ⟨b, o, rfl, hb, hcx⟩ := HA.out (by omega)
      obtain ⟨d, f, cc, pp⟩ := hcx k hlt
      obtain ⟨m0, m1, m2, m3, m4, m5, m6, m7⟩ := cc.below A.out hb
      have PK := pp.later A.out
      obtain ⟨⟨a3, n3, c3, rfl⟩, a4, n4, c4, rfl⟩ := pp.form
      obtain ⟨q, hq⟩ : ∃ q, nthL l k = q := ⟨_, rfl⟩
      have HQ := Lib.hid hq
      rw [hq] at PK m0 m1 m2 m3 m4 m7
      have PZ := Lib.hid (PK.alloc (.cells #[.int .i64 q.rep, .int .i64 q.slot, .int .i64 q.bal, .int .i64 q.ph, .int .i64 q.seq, .slice a3 n3 c3, .slice a4 n4 c4, .bool q.same] 148))
      have LZ := Lib.hid ((HV.out.later A.out).alloc (.cells #[.int .i64 q.rep, .int .i64 q.slot, .int .i64 q.bal, .int .i64 q.ph, .int .i64 q.seq, .slice a3 n3 c3, .slice a4 n4 c4, .bool q.same] 148))
      have AZ := Lib.hid (A.out.alloc (.cells #[.int .i64 q.rep, .int .i64 q.slot, .int .i64 q.bal, .int .i64 q.ph, .int .i64 q.seq, .slice a3 n3 c3, .slice a4 n4 c4, .bool q.same] 148))
      have Z := Lib.hid (Bx.new wr 148 #[.int .i64 q.rep, .int .i64 q.slot, .int .i64 q.bal, .int .i64 q.ph, .int .i64 q.seq, .slice a3 n3 c3, .slice a4 n4 c4, .bool q.same] _ rfl)
      have y1 : (k : Int) < (n : Int) := by omega
      have y0 : (0 : Int) ≤ (k : Int) := by omega
      have y5 : (k : Int) ≤ (ca : Int) := by omega
      clear hcx cc pp PK
      cases hld : ldB q
      · clear hq
        have HK := Lib.hid (show ldsAt l k = false by rw [ldsAt_eq, HQ.out, hld]; rfl)
        have HC1 := Lib.hid (fun W (h : LatI (wr.alloc (.cells #[.int .i64 q.rep, .int .i64 q.slot, .int .i64 q.bal, .int .i64 q.ph, .int .i64 q.seq, .slice a3 n3 c3, .slice a4 n4 c4, .bool q.same] 148)) W) => l_impl_lead q _ _ _ hld (wr.alloc (.cells #[.int .i64 q.rep, .int .i64 q.slot, .int .i64 q.bal, .int .i64 q.ph, .int .i64 q.seq, .slice a3 n3 c3, .slice a4 n4 c4, .bool q.same] 148)) W PZ.out h)
        clear hld
        go_wp2_with fail
        clear m0 m1 m2 m3 m4 m5 m6 m7
        have HL := Lib.hid (fun W (h : LatI (wr.alloc (.cells #[.int .i64 q.rep, .int .i64 q.slot, .int .i64 q.bal, .int .i64 q.ph, .int .i64 q.seq, .slice a3 n3 c3, .slice a4 n4 c4, .bool q.same] 148)) W) => (Z.out.after h).c8L)
        refine wp_region_quiet (C := LatI (wr.alloc (.cells #[.int .i64 q.rep, .int .i64 q.slot, .int .i64 q.bal, .int .i64 q.ph, .int .i64 q.seq, .slice a3 n3 c3, .slice a4 n4 c4, .bool q.same] 148))) (by kernel_rfl) (by kernel_rfl) (show LatI (wr.alloc (.cells #[.int .i64 q.rep, .int .i64 q.slot, .int .i64 q.bal, .int .i64 q.ph, .int .i64 q.seq, .slice a3 n3 c3, .slice a4 n4 c4, .bool q.same] 148)) (wr.alloc (.cells #[.int .i64 q.rep, .int .i64 q.slot, .int .i64 q.bal, .int .i64 q.ph, .int .i64 q.seq, .slice a3 n3 c3, .slice a4 n4 c4, .bool q.same] 148)).drew from Below.drew (Below.refl _ _)) ?_
        dsimp only
        repeat (first | go_big_quiet_skip | (go_big_quiet_want; go_big_quiet_op; (first | go_big_quiet_on | (refine ⟨_, fun _ _ => rfl, ?_⟩; go_big_quiet_on) | (refine ⟨.agg #[.int .i64 q.rep, .int .i64 q.slot, .int .i64 q.bal, .int .i64 q.ph, .int .i64 q.seq, .slice a3 n3 c3, .slice a4 n4 c4, .bool q.same], ?_, ?_⟩; intro w' hw'; obtain ⟨e0, e1, e2, e3, e4, e5, e6, e7⟩ := HL.out w' hw'; simp [e0, e1, e2, e3, e4, e5, e6, e7, Result.andThen]; go_big_quiet_on) | (refine ⟨_, fun w' hw' => HC1.out w' hw', ?_⟩; go_big_quiet_on))))
        refine wpQuiet_nil ?_
        intro w2 L2
        have A2 := Lib.hid (AZ.out.after L2)
        clear L2 HL
        go_wp2
        go_ret
        exact ⟨by rw [ldsB_no l k (by rw [HN.out]; exact hlt) HK.out]; rfl, A2.out⟩
      · cases hdu : dupB l k
        · have hdq : hasL l k q = false := by rw [← hq, hasL_dup, hdu]
          clear hq
          have HK := Lib.hid (show ldsAt l k = true by rw [ldsAt_eq, HQ.out, hld, hdu]; rfl)
          have HC1 := Lib.hid (fun W (h : LatI (wr.alloc (.cells #[.int .i64 q.rep, .int .i64 q.slot, .int .i64 q.bal, .int .i64 q.ph, .int .i64 q.seq, .slice a3 n3 c3, .slice a4 n4 c4, .bool q.same] 148)) W) => l_impl_lead q _ _ _ hld (wr.alloc (.cells #[.int .i64 q.rep, .int .i64 q.slot, .int .i64 q.bal, .int .i64 q.ph, .int .i64 q.seq, .slice a3 n3 c3, .slice a4 n4 c4, .bool q.same] 148)) W PZ.out h)
          have HC2 := Lib.hid (fun W (h : LatI (wr.alloc (.cells #[.int .i64 q.rep, .int .i64 q.slot, .int .i64 q.bal, .int .i64 q.ph, .int .i64 q.seq, .slice a3 n3 c3, .slice a4 n4 c4, .bool q.same] 148)) W) => l_impl_anyLead _ l k q _ _ _ hdq (wr.alloc (.cells #[.int .i64 q.rep, .int .i64 q.slot, .int .i64 q.bal, .int .i64 q.ph, .int .i64 q.seq, .slice a3 n3 c3, .slice a4 n4 c4, .bool q.same] 148)) W LZ.out (by rw [HN.out]; omega) PZ.out (some ⟨b, o, none⟩) ca ⟨ca, by rw [HN.out]⟩ (by omega) h)
          clear hld hdu hdq
          go_wp2_with fail
          clear m0 m1 m2 m3 m4 m5 m6 m7
          have HL := Lib.hid (fun W (h : LatI (wr.alloc (.cells #[.int .i64 q.rep, .int .i64 q.slot, .int .i64 q.bal, .int .i64 q.ph, .int .i64 q.seq, .slice a3 n3 c3, .slice a4 n4 c4, .bool q.same] 148)) W) => (Z.out.after h).c8L)
          refine wp_region_quiet (C := LatI (wr.alloc (.cells #[.int .i64 q.rep, .int .i64 q.slot, .int .i64 q.bal, .int .i64 q.ph, .int .i64 q.seq, .slice a3 n3 c3, .slice a4 n4 c4, .bool q.same] 148))) (by kernel_rfl) (by kernel_rfl) (show LatI (wr.alloc (.cells #[.int .i64 q.rep, .int .i64 q.slot, .int .i64 q.bal, .int .i64 q.ph, .int .i64 q.seq, .slice a3 n3 c3, .slice a4 n4 c4, .bool q.same] 148)) (wr.alloc (.cells #[.int .i64 q.rep, .int .i64 q.slot, .int .i64 q.bal, .int .i64 q.ph, .int .i64 q.seq, .slice a3 n3 c3, .slice a4 n4 c4, .bool q.same] 148)).drew from Below.drew (Below.refl _ _)) ?_
          dsimp only
          repeat (first | go_big_quiet_skip | (go_big_quiet_want; go_big_quiet_op; (first | go_big_quiet_on | (refine ⟨_, fun _ _ => rfl, ?_⟩; go_big_quiet_on) | (refine ⟨.agg #[.int .i64 q.rep, .int .i64 q.slot, .int .i64 q.bal, .int .i64 q.ph, .int .i64 q.seq, .slice a3 n3 c3, .slice a4 n4 c4, .bool q.same], ?_, ?_⟩; intro w' hw'; obtain ⟨e0, e1, e2, e3, e4, e5, e6, e7⟩ := HL.out w' hw'; simp [e0, e1, e2, e3, e4, e5, e6, e7, Result.andThen]; go_big_quiet_on) | (refine ⟨_, fun w' hw' => HC1.out w' hw', ?_⟩; go_big_quiet_on) | (refine ⟨_, fun w' hw' => HC2.out w' hw', ?_⟩; go_big_quiet_on))))
          refine wpQuiet_nil ?_
          intro w2 L2
          have A2 := Lib.hid (AZ.out.after L2)
          clear L2 HL
          go_wp2
          go_roundw
          case rel =>
            refine ⟨k + 1, by omega, by go_num, fun j hj => ?_, A2.out⟩
            by_cases e : j = k
            · subst e; exact HK.out
            · exact HE.out j (by omega)
          case measure => simp only [intOf]; omega
        · have hdq : hasL l k q = true := by rw [← hq, hasL_dup, hdu]
          clear hq
          have HK := Lib.hid (show ldsAt l k = false by rw [ldsAt_eq, HQ.out, hld, hdu]; rfl)
          have HC1 := Lib.hid (fun W (h : LatI (wr.alloc (.cells #[.int .i64 q.rep, .int .i64 q.slot, .int .i64 q.bal, .int .i64 q.ph, .int .i64 q.seq, .slice a3 n3 c3, .slice a4 n4 c4, .bool q.same] 148)) W) => l_impl_lead q _ _ _ hld (wr.alloc (.cells #[.int .i64 q.rep, .int .i64 q.slot, .int .i64 q.bal, .int .i64 q.ph, .int .i64 q.seq, .slice a3 n3 c3, .slice a4 n4 c4, .bool q.same] 148)) W PZ.out h)
          have HC2 := Lib.hid (fun W (h : LatI (wr.alloc (.cells #[.int .i64 q.rep, .int .i64 q.slot, .int .i64 q.bal, .int .i64 q.ph, .int .i64 q.seq, .slice a3 n3 c3, .slice a4 n4 c4, .bool q.same] 148)) W) => l_impl_anyLead _ l k q _ _ _ hdq (wr.alloc (.cells #[.int .i64 q.rep, .int .i64 q.slot, .int .i64 q.bal, .int .i64 q.ph, .int .i64 q.seq, .slice a3 n3 c3, .slice a4 n4 c4, .bool q.same] 148)) W LZ.out (by rw [HN.out]; omega) PZ.out (some ⟨b, o, none⟩) ca ⟨ca, by rw [HN.out]⟩ (by omega) h)
          clear hld hdu hdq
          go_wp2_with fail
          clear m0 m1 m2 m3 m4 m5 m6 m7
          have HL := Lib.hid (fun W (h : LatI (wr.alloc (.cells #[.int .i64 q.rep, .int .i64 q.slot, .int .i64 q.bal, .int .i64 q.ph, .int .i64 q.seq, .slice a3 n3 c3, .slice a4 n4 c4, .bool q.same] 148)) W) => (Z.out.after h).c8L)
          refine wp_region_quiet (C := LatI (wr.alloc (.cells #[.int .i64 q.rep, .int .i64 q.slot, .int .i64 q.bal, .int .i64 q.ph, .int .i64 q.seq, .slice a3 n3 c3, .slice a4 n4 c4, .bool q.same] 148))) (by kernel_rfl) (by kernel_rfl) (show LatI (wr.alloc (.cells #[.int .i64 q.rep, .int .i64 q.slot, .int .i64 q.bal, .int .i64 q.ph, .int .i64 q.seq, .slice a3 n3 c3, .slice a4 n4 c4, .bool q.same] 148)) (wr.alloc (.cells #[.int .i64 q.rep, .int .i64 q.slot, .int .i64 q.bal, .int .i64 q.ph, .int .i64 q.seq, .slice a3 n3 c3, .slice a4 n4 c4, .bool q.same] 148)).drew from Below.drew (Below.refl _ _)) ?_
          dsimp only
          repeat (first | go_big_quiet_skip | (go_big_quiet_want; go_big_quiet_op; (first | go_big_quiet_on | (refine ⟨_, fun _ _ => rfl, ?_⟩; go_big_quiet_on) | (refine ⟨.agg #[.int .i64 q.rep, .int .i64 q.slot, .int .i64 q.bal, .int .i64 q.ph, .int .i64 q.seq, .slice a3 n3 c3, .slice a4 n4 c4, .bool q.same], ?_, ?_⟩; intro w' hw'; obtain ⟨e0, e1, e2, e3, e4, e5, e6, e7⟩ := HL.out w' hw'; simp [e0, e1, e2, e3, e4, e5, e6, e7, Result.andThen]; go_big_quiet_on) | (refine ⟨_, fun w' hw' => HC1.out w' hw', ?_⟩; go_big_quiet_on) | (refine ⟨_, fun w' hw' => HC2.out w' hw', ?_⟩; go_big_quiet_on))))
          refine wpQuiet_nil ?_
          intro w2 L2
          have A2 := Lib.hid (AZ.out.after L2)
          clear L2 HL
          go_wp2
          go_ret
          exact ⟨by rw [ldsB_no l k (by rw [HN.out]; exact hlt) HK.out]; rfl, A2.out⟩
    · obtain rfl : k = n := by omega
      have HX := Lib.hid (ldsB_yes l (by rw [HN.out]; omega) (fun j hj => HE.out j (by rw [← HN.out]; exact hj)))
      go_wp2
      go_ret
      exact ⟨by rw [HX.out]; rfl, A.out⟩
set_option maxRecDepth 100000 in
set_option maxHeartbeats 2000000 in
theorem impl_nodeOk (x : Nd) (u v : Value) (a : Addr) (w : World) (h : NdP w x u v) (hS : Sent w a) :
    Calls Tryd.prog 63 #[.agg #[.int .i64 x.me, .int .i64 x.next, u, v]] w fun e w' => e = .returned (.bool (nodeB x)) ∧ Below w.heap.size w w' := by
  obtain ⟨⟨a1, n1, c1, rfl⟩, a2, n2, c2, rfl⟩ := h.form
  have PH := Lib.hid h
  have HS := Lib.hid hS
  have X0 := Lib.hid (Bx.new w 101 #[.int .i64 x.me, .int .i64 x.next, .slice a1 n1 c1, .slice a2 n2 c2] _ rfl)
  have A0 := Lib.hid ((Af.refl w).alloc (.cells #[.int .i64 x.me, .int .i64 x.next, .slice a1 n1 c1, .slice a2 n2 c2] 101))
  clear h hS
  go_enter Tryd.func63, Tryd.ntmps63
  go_wp2_with fail
  refine (impl_rep x.me _).mono ?_
  rintro e w1 ⟨rfl, rfl⟩
  cases q0 : iv x.me 0 2
  · have HF := Lib.hid (show nodeB x = false by rw [nodeB_eq]; simp [q0])
    go_wp2
    go_ret
    exact ⟨by rw [HF.out]; rfl, A0.out⟩
  obtain ⟨x0, x1, x2, x3⟩ := cells4 X0.out
  go_wp2_with fail
  clear x0 x1 x2 x3
  refine (idin_i x.next 1 7 _).mono ?_
  rintro e w1 ⟨rfl, rfl⟩
  cases q1 : iv x.next 1 7
  · have HF := Lib.hid (show nodeB x = false by rw [nodeB_eq]; simp [q0, q1])
    go_wp2
    go_ret
    exact ⟨by rw [HF.out]; rfl, A0.out⟩
  obtain ⟨x0, x1, x2, x3⟩ := cells4 X0.out
  go_wp2_with fail
  clear x0 x1 x2 x3
  refine (impl_insts _ x.insts a _ (PH.out.later A0.out).1 (HS.out.later A0.out)).mono ?_
  rintro e w1 ⟨rfl, bb⟩
  have X1 := Lib.hid (X0.out.after bb)
  have A1 := Lib.hid (A0.out.after bb)
  clear bb X0 A0
  cases q2 : instsB x.insts
  · have HF := Lib.hid (show nodeB x = false by rw [nodeB_eq]; simp [q0, q1, q2])
    go_wp2
    go_ret
    exact ⟨by rw [HF.out]; rfl, A1.out⟩
  obtain ⟨x0, x1, x2, x3⟩ := cells4 X1.out
  go_wp2_with fail
  clear x0 x1 x2 x3
  refine (impl_anyEarly x.me x.next _ x.insts _ _ _ _ _ _ _ (PH.out.later A1.out).1).mono ?_
  rintro e w2 ⟨rfl, bb⟩
  have X2 := Lib.hid (X1.out.after bb)
  have A2 := Lib.hid (A1.out.after bb)
  clear bb X1 A1
  cases q3 : noneB x.me x.next x.insts
  · have HF := Lib.hid (show nodeB x = false by rw [nodeB_eq]; simp [q0, q1, q2, q3])
    go_wp2
    go_ret
    exact ⟨by rw [HF.out]; rfl, A2.out⟩
  have HF := Lib.hid (show nodeB x = ldsB x.leads by rw [nodeB_eq]; simp [q0, q1, q2, q3])
  obtain ⟨x0, x1, x2, x3⟩ := cells4 X2.out
  go_wp2_with fail
  clear x0 x1 x2 x3
  refine (impl_leadsOk _ x.leads _ (PH.out.later A2.out).2).mono ?_
  rintro e w3 ⟨rfl, bb⟩
  have A3 := Lib.hid (A2.out.after bb)
  clear bb X2 A2
  go_wp2
  go_ret
  exact ⟨by rw [HF.out]; rfl, A3.out⟩
end Go.Proofs.YthihihphbcaieaaDoor
/- The law over ENodeOk and its model: it returns true. -/
namespace Go.Proofs.YthihihphbcaieaaDoor
open Go.RowKit Go.PlainAid
set_option linter.unusedVariables false

set_option maxRecDepth 100000 in
set_option maxHeartbeats 4000000 in
theorem law_nodeOk (x : Nd) (u v : Value) (a : Addr) (w : World) (h : NdP w x u v) (hS : Sent w a) :
    Calls Tryd.prog 9 #[.agg #[.int .i64 x.me, .int .i64 x.next, u, v]] w fun e w' => e = .returned (.bool true) ∧ Below w.heap.size w w' := by
  obtain ⟨⟨a1, n1, c1, rfl⟩, a2, n2, c2, rfl⟩ := h.form
  have P0 := Lib.hid h
  have HS := Lib.hid hS
  have X := Lib.hid (Bx.new w 96 #[.int .i64 x.me, .int .i64 x.next, .slice a1 n1 c1, .slice a2 n2 c2] _ rfl)
  have A := Lib.hid ((Af.refl w).alloc (.cells #[.int .i64 x.me, .int .i64 x.next, .slice a1 n1 c1, .slice a2 n2 c2] 96))
  clear h hS
  go_enter Tryd.func9, Tryd.ntmps9
  go_wp2_with fail
  refine (sz_node x _ _ _ (P0.out.later A.out)).mono ?_
  rintro e w1 ⟨hsz, bb⟩
  have X := Lib.hid (X.out.after bb)
  have A := Lib.hid (A.out.after bb)
  clear bb
  rcases hsz with rfl | ⟨r, rfl, r0, r1, r2, r3⟩
  · go_wp2
    go_ret
    exact ⟨rfl, A.out⟩
  have HC := Lib.hid (And.intro r2 r3)
  have hd : decide (r < 0) = false := dec_f (by omega)
  clear r1 r2 r3
  obtain ⟨x0, x1, x2, x3⟩ := cells4 X.out
  go_wp2_with fail
  clear x0 x1 x2 x3 hd
  refine (to_node x _ _ _ (P0.out.later A.out) HC.out.1 HC.out.2).mono ?_
  rintro e w2 ⟨⟨a3, n3, c3, a4, n4, c4, rfl, p2, p3⟩, bb⟩
  have X := Lib.hid (X.out.after bb)
  have A := Lib.hid (A.out.after bb)
  have P2 := Lib.hid (show NdP w2 x _ _ from ⟨p2.insts, p3.leads⟩)
  clear bb p2 p3
  go_wp2_with fail
  refine (spec_nodeOk x _ _ _ P2.out).mono ?_
  rintro e w3 ⟨rfl, bb⟩
  have X := Lib.hid (X.out.after bb)
  have A := Lib.hid (A.out.after bb)
  clear bb P2
  obtain ⟨x0, x1, x2, x3⟩ := cells4 X.out
  go_wp2_with fail
  clear x0 x1 x2 x3
  refine (to_node x _ _ _ (P0.out.later A.out) HC.out.1 HC.out.2).mono ?_
  rintro e w4 ⟨⟨a5, n5, c5, a6, n6, c6, rfl, p4, p5⟩, bb⟩
  have X := Lib.hid ((X.out.after bb).alloc (.cells #[.int .i64 x.me, .int .i64 x.next, .slice a5 n5 c5, .slice a6 n6 c6] 101))
  have Y := Lib.hid (Bx.new w4 101 #[.int .i64 x.me, .int .i64 x.next, .slice a5 n5 c5, .slice a6 n6 c6] _ rfl)
  have A := Lib.hid ((A.out.after bb).alloc (.cells #[.int .i64 x.me, .int .i64 x.next, .slice a5 n5 c5, .slice a6 n6 c6] 101))
  have P4 := Lib.hid ((show NdP w4 x _ _ from ⟨p4.insts, p5.leads⟩).alloc (.cells #[.int .i64 x.me, .int .i64 x.next, .slice a5 n5 c5, .slice a6 n6 c6] 101))
  clear bb p4 p5
  go_wp2_with fail
  refine (impl_nodeOk x _ _ a _ P4.out (HS.out.later A.out)).mono ?_
  rintro e w5 ⟨rfl, bb⟩
  have X := Lib.hid (X.out.after bb)
  have Y := Lib.hid (Y.out.after bb)
  have A := Lib.hid (A.out.after bb)
  have P5 := Lib.hid (P4.out.later bb)
  clear bb P4
  obtain ⟨x0, x1, x2, x3⟩ := cells4 X.out
  obtain ⟨y0, y1, y2, y3⟩ := cells4 Y.out
  go_wp2_with fail
  go_region_held3 (fun w' => (w'.cell? ⟨w4.heap.size, 0, none⟩ = some (.int .i64 x.me) ∧ w'.cell? ⟨w4.heap.size, 1, none⟩ = some (.int .i64 x.next) ∧ w'.cell? ⟨w4.heap.size, 2, none⟩ = some (.slice a5 n5 c5) ∧ w'.cell? ⟨w4.heap.size, 3, none⟩ = some (.slice a6 n6 c6)) ∧ w'.cell? ⟨w.heap.size, 0, none⟩ = some (.int .i64 x.me) ∧ w'.cell? ⟨w.heap.size, 1, none⟩ = some (.int .i64 x.next) ∧ w'.cell? ⟨w.heap.size, 2, none⟩ = some (.slice a1 n1 c1) ∧ w'.cell? ⟨w.heap.size, 3, none⟩ = some (.slice a2 n2 c2)) (first | (with_reducible exact ⟨⟨y0, y1, y2, y3⟩, x0, x1, x2, x3⟩) | (with_reducible exact CY.out) | go_keep)
    (first
      | (go_at_call 62; have X := Lib.hid X.out.drew; have Y := Lib.hid Y.out.drew; have A := Lib.hid A.out.drew; have P5 := Lib.hid (P5.out.later (Below.refl _ _).drew); refine (to_node x _ _ _ (P0.out.later A.out) HC.out.1 HC.out.2).mono ?_; rintro e w6 ⟨⟨a7, n7, c7, a8, n8, c8, rfl, p6, p7⟩, bb⟩; have X := Lib.hid (X.out.after bb); have Y := Lib.hid (Y.out.after bb); have A := Lib.hid (A.out.after bb); have P5 := Lib.hid (P5.out.later bb); have P6 := Lib.hid (show NdP w6 x _ _ from ⟨p6.insts, p7.leads⟩); have CY := Lib.hid (And.intro (cells4 Y.out) (cells4 X.out)); clear bb p6 p7)
      | (go_at_call 64; refine (eq_node_yes x _ _ _ _ _ P5.out P6.out).mono ?_; rintro e w7 ⟨rfl, bb⟩; have X := Lib.hid (X.out.after bb); have Y := Lib.hid (Y.out.after bb); have A := Lib.hid (A.out.after bb); have CY := Lib.hid (And.intro (cells4 Y.out) (cells4 X.out)); clear bb P5 P6))
  clear x0 x1 x2 x3 y0 y1 y2 y3 CY
  go_wp2
  go_ret
  exact ⟨rfl, A.out⟩
end Go.Proofs.YthihihphbcaieaaDoor
