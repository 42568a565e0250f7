/- Ready: the program's and the model's walks. -/
import Derived.Test.YtlbebeedkcdgpaaDoorGrX
namespace Go.Proofs.YtlbebeedkcdgpaaDoor
open Go.RowKit Go.PlainAid
set_option linter.unusedVariables false

/-- Ready, in plain words. -/
@[irreducible] def rdyB (l : List In) (i : Ii) (X : List Ii) : Bool := (comB l i).isSome && X.all (fun y => (comB l y).isSome)
theorem rdyB_eq (l : List In) (i : Ii) (X : List Ii) : rdyB l i X = ((comB l i).isSome && X.all (fun y => (comB l y).isSome)) := by unfold rdyB; rfl
theorem rdyB_none {l : List In} {i : Ii} (X : List Ii) (h : comB l i = none) : rdyB l i X = false := by rw [rdyB_eq, h]; rfl
theorem rdyB_no {l : List In} {i : Ii} {X : List Ii} (k : Nat) (hk : k < X.length) (h : comB l ⟨iR X k, iS X k⟩ = none) : rdyB l i X = false := by
  rw [rdyB_eq, Bool.and_eq_false_iff]
  refine .inr ?_
  rw [List.all_eq_false]
  exact ⟨_, ii_mem X k hk, by rw [h]; simp⟩
theorem rdyB_yes {l : List In} {i : Ii} {X : List Ii} (h : (comB l i).isSome = true) (hX : ∀ k, k < X.length → (comB l ⟨iR X k, iS X k⟩).isSome = true) : rdyB l i X = true := by
  rw [rdyB_eq, h, Bool.true_and, List.all_eq_true]
  intro y hy
  obtain ⟨k, hk, rfl⟩ := ii_ex hy
  exact hX k hk
theorem rdyB_nil (i : Ii) (X : List Ii) : rdyB [] i X = false := rdyB_none X (comB_none (fun k hk => by simp at hk))
theorem Grf.okI {w w' : World} {g : Value} {l : List In} (h : Grf w g l) (hb : Below w.heap.size w w') {r s : Int} (hw : Wf r s) :
    ∃ (b : Nat) (x : In) (a a2 : Option Addr) (n c n2 c2 : Nat), g = .map (some b) ∧ (Instr.lookup 51 (.map (some b)) (iV r s) true).run Tryd.prog w' = .ok (.tuple #[iVal x (.slice a n c) (.slice a2 n2 c2), .bool (comB l ⟨r, s⟩).isSome]) w' := by
  obtain ⟨b, n, V, rfl, h1, h2⟩ := h
  rcases h2 r s hw with ⟨e, hv⟩ | ⟨x, a, n, c, d, e, hv, hi⟩
  · exact ⟨b, in0, none, none, 0, 0, 0, 0, rfl, by rw [e]; exact (((h1.later hb).look hw).2 hv).1⟩
  · obtain ⟨a2, n2, c2, rfl⟩ := hi.form
    exact ⟨b, x, a, a2, n, c, n2, c2, rfl, by rw [e]; exact (((h1.later hb).look hw).1 _ hv).1⟩
set_option maxRecDepth 100000 in
set_option maxHeartbeats 2000000 in
theorem impl_lacks (l : List In) (gv : Value) (r s : Int) (w : World) (hG : Grf w gv l) (hwf : Wf r s) :
    Calls Tryd.prog 28 #[gv, .agg #[.int .i64 r, .int .i64 s]] w fun e w' => e = .returned (.bool (!(comB l ⟨r, s⟩).isSome)) ∧ Below w.heap.size w w' := by
  have IB := Lib.hid (Bx.new w 30 #[.int .i64 r, .int .i64 s] _ rfl)
  have AF := Lib.hid ((Af.refl w).alloc (.cells #[.int .i64 r, .int .i64 s] 30))
  obtain ⟨b, x, a, a2, n, c, n2, c2, rfl, hrun⟩ := hG.okI AF.out hwf
  obtain ⟨i0, i1⟩ := IB.out.c2a
  obtain ⟨z, hz⟩ : ∃ z, (comB l ⟨r, s⟩).isSome = z := ⟨_, rfl⟩
  rw [hz] at hrun ⊢
  go_enter Tryd.func28, Tryd.ntmps28
  go_wp2
  go_ret
  exact ⟨rfl, AF.out.alloc _⟩
set_option maxRecDepth 100000 in
set_option maxHeartbeats 2000000 in
theorem impl_indexG (l : List In) (gv : Value) (v : Value) (X : List Ii) (w : World) (hG : Grf w gv l) (hv : Ids w v X) (hX : idlB X = true) :
    Calls Tryd.prog 45 #[v, .func (.func 28) #[gv] #[]] w fun e w' => (∃ z : Int, e = .returned (.int .i64 z) ∧ ((z = -1 ∧ ∀ k, k < X.length → (comB l ⟨iR X k, iS X k⟩).isSome = true) ∨ (0 ≤ z ∧ ∃ k, k < X.length ∧ comB l ⟨iR X k, iS X k⟩ = none))) ∧ Below w.heap.size w w' := by
  have HG := Lib.hid hG
  have HX := Lib.hid (fun k (hk : k < X.length) => Wf.of (ids_of_ok hX _ (ii_mem X k hk)))
  obtain ⟨h1, a, ca, rfl, hca, ha⟩ := hv
  obtain ⟨n, hn⟩ : ∃ n, X.length = n := ⟨_, rfl⟩
  have HN := Lib.hid hn
  rw [hn] at h1 ha hca ⊢
  have HA := Lib.hid ha
  obtain ⟨gb, gn, gV, rfl, _, _⟩ := hG
  clear hn ha hca hX
  go_enter Tryd.func45, Tryd.ntmps45
  go_wp2
  go_loopw [8] (fun i wr => ∃ k : Nat, k ≤ n ∧ i = .int .i64 k ∧ (∀ j, j < k → (comB l ⟨iR X j, iS X j⟩).isSome = true) ∧ Af w wr) (fun i _ => n - (intOf i).toNat)
  case atStart => exact ⟨0, by omega, rfl, fun j hj => by omega, Af.refl w⟩
  case round =>
    obtain ⟨k, hk, rfl, he, haf⟩ := hrel
    have HE := Lib.hid he
    have A := Lib.hid haf
    clear he haf
    by_cases hlt : k < n
    · obtain ⟨b, o, rfl, hb, hcb⟩ := HA.out (by omega)
      obtain ⟨c1, c2⟩ := (hcb k hlt).below A.out hb
      have y1 : (k : Int) < (n : Int) := by omega
      have y0 : (0 : Int) ≤ (k : Int) := by omega
      clear hcb
      go_wp2_with fail
      clear c1 c2
      refine (impl_lacks l _ (iR X k) (iS X k) _ (HG.out.later A.out) (HX.out k (by rw [HN.out]; exact hlt))).mono ?_
      rintro e w2 ⟨rfl, bb⟩
      have A2 := Lib.hid (A.out.after bb)
      clear bb
      cases hc : comB l ⟨iR X k, iS X k⟩ with
      | none =>
        have HC := Lib.hid hc
        clear hc
        go_wp2
        go_ret
        exact ⟨⟨_, rfl, .inr ⟨by omega, k, hlt, HC.out⟩⟩, A2.out⟩
      | some y =>
        have HC := Lib.hid (show (comB l ⟨iR X k, iS X k⟩).isSome = true by rw [hc]; rfl)
        clear hc
        go_wp2
        go_roundw
        case rel =>
          refine ⟨k + 1, by omega, by go_num, fun j hj => ?_, A2.out⟩
          by_cases e : j = k
          · subst e; exact HC.out
          · exact HE.out j (by omega)
        case measure => simp only [intOf]; omega
    · obtain rfl : k = n := by omega
      go_wp2
      go_ret
      exact ⟨⟨_, rfl, .inl ⟨rfl, HE.out⟩⟩, A.out⟩
set_option maxRecDepth 100000 in
set_option maxHeartbeats 2000000 in
theorem impl_containsG (l : List In) (gv : Value) (v : Value) (i : Ii) (X : List Ii) (w : World) (hG : Grf w gv l) (hv : Ids w v X) (hX : idlB X = true) (hi : (comB l i).isSome = true) :
    Calls Tryd.prog 29 #[v, .func (.func 28) #[gv] #[]] w fun e w' => e = .returned (.bool (!rdyB l i X)) ∧ Below w.heap.size w w' := by
  have HV := Lib.hid hv
  have HG := Lib.hid hG
  have HI := Lib.hid hi
  obtain ⟨gb, gn, gV, rfl, _, _⟩ := hG
  obtain ⟨a, n, c, rfl⟩ := hv.form
  clear hv hi
  go_enter Tryd.func29, Tryd.ntmps29
  go_wp2_with fail
  refine (impl_indexG l _ _ X _ HG.out HV.out hX).mono ?_
  rintro e w2 ⟨⟨z, rfl, hz⟩, bb⟩
  have A2 := Lib.hid (show Af w w2 from bb)
  clear bb
  rcases hz with ⟨rfl, h⟩ | ⟨hz, k, hk, h⟩
  · have HR := Lib.hid (rdyB_yes HI.out h)
    clear h
    go_wp2
    go_ret
    exact ⟨by rw [HR.out]; rfl, A2.out⟩
  · have HR := Lib.hid (rdyB_no (i := i) k hk h)
    have hd : decide (z ≥ 0) = true := dec_t (by omega)
    clear h
    go_wp2
    go_ret
    exact ⟨by rw [HR.out]; rfl, A2.out⟩
theorem isR_none {l : List In} {i : Ii} (h : comB l i = none) : IsR l i [] := IsR.of (by simp [Srt]) (fun y hy => by rw [dps_none h] at hy; exact hy) (fun y hy => by simp at hy)
set_option maxRecDepth 100000 in
set_option maxHeartbeats 2000000 in
theorem spec_l12ready (v : Value) (l : List In) (r s : Int) (w : World) (hv : Insts w v l) (hl : instsB l = true) :
    Calls Tryd.prog 27 #[v, .agg #[.int .i64 r, .int .i64 s]] w fun e w' => (∃ X, IsR l ⟨r, s⟩ X ∧ e = .returned (.bool (rdyB l ⟨r, s⟩ X))) ∧ Below w.heap.size w w' := by
  have VH := Lib.hid hv
  have HOK := Lib.hid hl
  have IB := Lib.hid (Bx.new w 30 #[.int .i64 r, .int .i64 s] _ rfl)
  have AF := Lib.hid ((Af.refl w).alloc (.cells #[.int .i64 r, .int .i64 s] 30))
  obtain ⟨va, vn, vc, rfl⟩ := hv.form
  clear hv hl
  obtain ⟨i0, i1⟩ := IB.out.c2a
  go_enter Tryd.func27, Tryd.ntmps27
  go_wp2_with fail
  clear i0 i1
  refine (spec_find _ l r s _ (VH.out.later AF.out)).mono ?_
  rintro e w1 ⟨rfl, bb⟩
  have IB := Lib.hid (IB.out.after bb)
  have AF := Lib.hid (AF.out.after bb)
  clear bb
  rcases fnd_cases l r s with ⟨hf, hc⟩ | ⟨k, hk, hf, hc, _⟩
  · rw [hf]
    have HR := Lib.hid (rdyB_none [] hc)
    have HI := Lib.hid (isR_none hc)
    clear hf hc
    go_wp2
    go_ret
    exact ⟨⟨[], HI.out, by rw [HR.out]; rfl⟩, AF.out⟩
  rw [hf]
  have HC := Lib.hid (show (comB l ⟨r, s⟩).isSome = true by rw [hc]; rfl)
  have y2 : decide ((k : Int) < 0) = false := dec_f (by omega)
  obtain ⟨i0, i1⟩ := IB.out.c2a
  clear hf hc hk
  go_wp2_with fail
  clear i0 i1 y2
  refine (spec_l12reach _ l r s _ (VH.out.later AF.out) HOK.out).mono ?_
  rintro e w2 ⟨⟨u2, X, rfl, hr2, hi2⟩, bb⟩
  obtain ⟨a2, c2, rfl⟩ := hr2.form
  have AF := Lib.hid (AF.out.after bb)
  have I2 := Lib.hid hi2
  obtain ⟨_, a0, c0, e0, hc0, ha0⟩ := hr2.own.ids
  obtain ⟨n, hn⟩ : ∃ n, X.length = n := ⟨_, rfl⟩
  have HN := Lib.hid hn
  have n18 := ids_18 (hi2.ok HOK.out)
  rw [hn] at e0 ha0 n18 ⊢
  cases e0
  have HA := Lib.hid ha0
  clear bb hr2 hi2 hn ha0 IB
  go_wp2
  go_loopw [6] (fun iv wr => ∃ j : Nat, j ≤ n ∧ iv = .int .i64 j ∧ (∀ t, t < j → (comB l ⟨iR X t, iS X t⟩).isSome = true) ∧ Af w2 wr) (fun iv _ => n - (intOf iv).toNat)
  case atStart => exact ⟨0, by omega, rfl, fun j hj => by omega, Af.refl w2⟩
  case round =>
    obtain ⟨j, hj, rfl, he, haf⟩ := hrel
    have HE := Lib.hid he
    have A := Lib.hid haf
    clear he haf
    by_cases hlt : j < n
    · obtain ⟨b, o, rfl, hb, hcb⟩ := HA.out (by omega)
      obtain ⟨z1, z2⟩ := (hcb j hlt).below A.out hb
      have y1 : (j : Int) < (n : Int) := by omega
      have y0 : (0 : Int) ≤ (j : Int) := by omega
      clear hcb
      go_wp2_with fail
      clear z1 z2
      refine (spec_find _ l (iR X j) (iS X j) _ (VH.out.later (AF.out.trans A.out))).mono ?_
      rintro e w4 ⟨rfl, bb⟩
      have A4 := Lib.hid (A.out.after bb)
      clear bb
      rcases fnd_cases l (iR X j) (iS X j) with ⟨hf, hc⟩ | ⟨k, hk, hf, hc, _⟩
      · rw [hf]
        have HR := Lib.hid (rdyB_no (i := ⟨r, s⟩) j (by rw [HN.out]; exact hlt) hc)
        clear hf hc
        go_wp2
        go_ret
        exact ⟨⟨X, I2.out, by rw [HR.out]; rfl⟩, AF.out.trans A4.out⟩
      · rw [hf]
        have HCC := Lib.hid (show (comB l ⟨iR X j, iS X j⟩).isSome = true by rw [hc]; rfl)
        have y2 : decide ((k : Int) < 0) = false := dec_f (by omega)
        clear hf hc hk
        go_wp2
        go_roundw
        case rel =>
          refine ⟨j + 1, by omega, by go_num, fun t ht => ?_, A4.out⟩
          by_cases e : t = j
          · subst e; exact HCC.out
          · exact HE.out t (by omega)
        case measure => simp only [intOf]; omega
    · obtain rfl : j = n := by omega
      go_wp2
      go_ret
      exact ⟨⟨X, I2.out, by rw [rdyB_yes HC.out (fun t ht => HE.out t (by rw [← HN.out]; exact ht))]; rfl⟩, AF.out.trans A.out⟩
set_option maxRecDepth 100000 in
set_option maxHeartbeats 2000000 in
theorem spec_Ready (v : Value) (l : List In) (r s : Int) (w : World) (hv : Insts w v l) :
    Calls Tryd.prog 15 #[v, .agg #[.int .i64 r, .int .i64 s]] w fun e w' => (∃ X, IsR (grL l) ⟨r, s⟩ X ∧ e = .returned (.bool (rdyB (grL l) ⟨r, s⟩ X))) ∧ Below w.heap.size w w' := by
  have VH := Lib.hid hv
  have IB := Lib.hid (Bx.new w 30 #[.int .i64 r, .int .i64 s] _ rfl)
  have AF := Lib.hid ((Af.refl w).alloc (.cells #[.int .i64 r, .int .i64 s] 30))
  obtain ⟨va, vn, vc, rfl⟩ := hv.form
  clear hv
  go_enter Tryd.func15, Tryd.ntmps15
  go_wp2_with fail
  refine (spec_insts _ l _ (VH.out.later AF.out)).mono ?_
  rintro e w1 ⟨rfl, bb⟩
  have IB := Lib.hid (IB.out.after bb)
  have AF := Lib.hid (AF.out.after bb)
  clear bb
  cases hok : instsB l
  · have HGL := Lib.hid (grL_no hok)
    clear hok
    go_wp2
    go_ret
    exact ⟨⟨[], by rw [HGL.out]; exact isR_nil _, by rw [HGL.out, rdyB_nil]; rfl⟩, AF.out⟩
  have HGL := Lib.hid (grL_yes hok)
  have HOK := Lib.hid hok
  obtain ⟨i0, i1⟩ := IB.out.c2a
  clear hok
  go_wp2_with fail
  clear i0 i1
  refine (spec_l12ready _ l r s _ (VH.out.later AF.out) HOK.out).mono ?_
  rintro e w2 ⟨⟨X2, hi2, rfl⟩, bb⟩
  have I2 := Lib.hid hi2
  have AF := Lib.hid (AF.out.after bb)
  obtain ⟨z, hz⟩ : ∃ z, rdyB l ⟨r, s⟩ X2 = z := ⟨_, rfl⟩
  have HZ := Lib.hid hz
  rw [hz]
  clear bb hi2 hz
  go_wp2
  go_ret
  exact ⟨⟨X2, by rw [HGL.out]; exact I2.out, by rw [HGL.out, HZ.out]; rfl⟩, AF.out⟩
set_option maxRecDepth 100000 in
set_option maxHeartbeats 2000000 in
theorem impl_Ready (v : Value) (l : List In) (r s : Int) (a0 : Addr) (w : World) (hv : Insts w v l) (hS : Sent w a0) (hwf : Wf r s) :
    Calls Tryd.prog 16 #[v, .agg #[.int .i64 r, .int .i64 s]] w fun e w' => (∃ X, IsR (grL l) ⟨r, s⟩ X ∧ e = .returned (.bool (rdyB (grL l) ⟨r, s⟩ X))) ∧ Below w.heap.size w w' := by
  have VH := Lib.hid hv
  have HS := Lib.hid hS
  have HW := Lib.hid hwf
  have IB := Lib.hid (Bx.new w 30 #[.int .i64 r, .int .i64 s] _ rfl)
  have AF := Lib.hid ((Af.refl w).alloc (.cells #[.int .i64 r, .int .i64 s] 30))
  obtain ⟨va, vn, vc, rfl⟩ := hv.form
  clear hv hS hwf
  go_enter Tryd.func16, Tryd.ntmps16
  go_wp2_with fail
  refine (impl_graphOf _ l a0 _ (VH.out.later AF.out) (HS.out.later AF.out)).mono ?_
  rintro e w1 ⟨⟨u1, rfl, hg⟩, bb⟩
  have GG := Lib.hid hg
  obtain ⟨gb, gn, gV, rfl, _, _⟩ := hg
  have IB := Lib.hid (IB.out.after bb)
  have AF := Lib.hid (AF.out.after bb)
  obtain ⟨i0, i1⟩ := IB.out.c2a
  clear bb
  go_wp2_with fail
  clear i0 i1
  refine (impl_lacks (grL l) _ r s _ GG.out HW.out).mono ?_
  rintro e w2 ⟨rfl, bb⟩
  have GG := Lib.hid (GG.out.later bb)
  have IB := Lib.hid (IB.out.after bb)
  have AF := Lib.hid (AF.out.after bb)
  clear bb
  cases hc : comB (grL l) ⟨r, s⟩ with
  | none =>
    have HR := Lib.hid (rdyB_none [] hc)
    have HI := Lib.hid (isR_none hc)
    clear hc
    go_wp2
    go_ret
    exact ⟨⟨[], HI.out, by rw [HR.out]; rfl⟩, AF.out⟩
  | some y =>
    have HC := Lib.hid (show (comB (grL l) ⟨r, s⟩).isSome = true by rw [hc]; rfl)
    obtain ⟨i0, i1⟩ := IB.out.c2a
    clear hc
    go_wp2_with fail
    clear i0 i1
    refine (impl_reachG (grL l) (grL_ok l) _ r s _ GG.out HW.out).mono ?_
    rintro e w4 ⟨⟨u4, X4, rfl, hr4, hi4⟩, bb⟩
    obtain ⟨a4, c4, rfl⟩ := hr4.form
    have R4 := Lib.hid hr4.own.ids
    have I4 := Lib.hid hi4
    have GG := Lib.hid (GG.out.later bb)
    have AF := Lib.hid (AF.out.after bb)
    clear bb hr4 hi4
    go_wp2_with fail
    refine (impl_containsG (grL l) _ _ ⟨r, s⟩ X4 _ GG.out R4.out (I4.out.ok (grL_ok l)) HC.out).mono ?_
    rintro e w5 ⟨rfl, bb⟩
    have AF := Lib.hid (AF.out.after bb)
    obtain ⟨z, hz⟩ : ∃ z, rdyB (grL l) ⟨r, s⟩ X4 = z := ⟨_, rfl⟩
    have HZ := Lib.hid hz
    rw [hz]
    clear bb hz
    go_wp2
    go_ret
    exact ⟨⟨X4, I4.out, by rw [HZ.out]; simp⟩, AF.out⟩
end Go.Proofs.YtlbebeedkcdgpaaDoor
