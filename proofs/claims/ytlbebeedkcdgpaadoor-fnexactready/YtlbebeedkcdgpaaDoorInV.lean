/- When an instance is valid: the program's walks and the model's. -/
import Derived.Test.YtlbebeedkcdgpaaDoorInM
import Derived.Test.YtlbebeedkcdgpaaDoorIdL
import Derived.Test.YtlbebeedkcdgpaaDoorOkC
import Derived.Test.YtlbebeedkcdgpaaDoorOkS
namespace Go.Proofs.YtlbebeedkcdgpaaDoor
open Go.RowKit Go.PlainAid
set_option linter.unusedVariables false

/-- The Id is among them. -/
@[irreducible] def hasB (l : List Ii) (r s : Int) : Bool := (List.range l.length).any (fun j => decide (iR l j = r ∧ iS l j = s))
theorem hasB_yes (l : List Ii) (r s : Int) (k : Nat) (hk : k < l.length) (h1 : iR l k = r) (h2 : iS l k = s) : hasB l r s = true := by
  unfold hasB
  rw [List.any_eq_true]
  exact ⟨k, by simpa using hk, decide_eq_true ⟨h1, h2⟩⟩
theorem hasB_no (l : List Ii) (r s : Int) (h : ∀ j, j < l.length → ¬ (iR l j = r ∧ iS l j = s)) : hasB l r s = false := by
  unfold hasB
  rw [List.any_eq_false]
  intro j hj
  simp only [decide_eq_true_eq]
  exact h j (by simpa using hj)
theorem hasB_iff (l : List Ii) (r s : Int) : hasB l r s = true ↔ (⟨r, s⟩ : Ii) ∈ l := by
  constructor
  · intro h
    unfold hasB at h
    rw [List.any_eq_true] at h
    obtain ⟨j, hj, e⟩ := h
    have e' := of_decide_eq_true e
    have g := ii_get l j (by simpa using hj)
    rw [e'.1, e'.2] at g
    exact List.mem_iff_getElem?.2 ⟨j, g⟩
  · intro h
    obtain ⟨j, g⟩ := List.mem_iff_getElem?.1 h
    exact hasB_yes l r s j (List.getElem?_eq_some_iff.1 g).1 (iR_of g) (iS_of g)
set_option maxRecDepth 100000 in
set_option maxHeartbeats 1000000 in
theorem spec_has (v : Value) (l : List Ii) (r s : Int) (w : World) (hv : Ids w v l) :
    Calls Tryd.prog 51 #[v, .agg #[.int .i64 r, .int .i64 s]] w fun e w' => (e = .returned (.bool (hasB l r s))) ∧ Below w.heap.size w w' := by
  obtain ⟨h1, a, ca, rfl, hca, ha⟩ := hv
  generalize hn : l.length = n at h1 ha hca
  have HN := Lib.hid hn
  have HA := Lib.hid ha
  clear hn ha hca
  have X0 := Lib.hid (Bx.new w 30 #[.int .i64 r, .int .i64 s] _ rfl)
  have A0 := Lib.hid ((Af.refl w).alloc (.cells #[.int .i64 r, .int .i64 s] 30))
  go_enter Tryd.func51, Tryd.ntmps51
  go_wp2
  go_loopw [5] (fun i wr => ∃ k : Nat, k ≤ n ∧ i = .int .i64 k ∧ (∀ j, j < k → ¬ (iR l j = r ∧ iS l j = s)) ∧ Bx wr w.heap.size 30 #[.int .i64 r, .int .i64 s] ∧ Af w wr) (fun i _ => n - (intOf i).toNat)
  case atStart => exact ⟨0, by omega, rfl, fun j hj => by omega, X0.out, A0.out⟩
  case round =>
    obtain ⟨k, hk, rfl, he, hx, haf⟩ := hrel
    have HE := Lib.hid he
    have XB := Lib.hid hx
    have A := Lib.hid haf
    clear he hx haf X0 A0
    by_cases hlt : k < n
    · obtain ⟨x, o, rfl, hx, hcx⟩ := HA.out (by omega)
      have hxr : x < wr.heap.size := Nat.lt_of_lt_of_le hx A.out.size
      have CK := Lib.hid (show (wr.cell? ⟨x, o + k * 2, none⟩ = some (.int .i64 (iR l k)) ∧ wr.cell? ⟨x, o + k * 2 + 1, none⟩ = some (.int .i64 (iS l k))) from (hcx k hlt).below A.out hx)
      have HL := Lib.hid (fun W (h : LatI wr W) => (show (W.cell? ⟨w.heap.size, 0, none⟩ = some (.int .i64 r) ∧ W.cell? ⟨w.heap.size, 0 + 1, none⟩ = some (.int .i64 s)) ∧ (W.cell? ⟨x, o + k * 2, none⟩ = some (.int .i64 (iR l k)) ∧ W.cell? ⟨x, o + k * 2 + 1, none⟩ = some (.int .i64 (iS l k))) from ⟨⟨(XB.out.after h).cell 0 _ rfl, (XB.out.after h).cell 1 _ rfl⟩, cells2_below CK.out h hxr⟩))
      have y1 : (k : Int) < (n : Int) := by omega
      have y0 : (0 : Int) ≤ (k : Int) := by omega
      clear hcx CK
      by_cases q1 : iR l k = r
      · by_cases q2 : iS l k = s
        · have HY := Lib.hid (hasB_yes l r s k (by rw [HN.out]; exact hlt) q1 q2)
          have hs1 : (iR l k == r) = true := by simp [q1]
          have hs2 : (iS l k == s) = true := by simp [q2]
          clear q1 q2
          go_wp2_with fail
          refine wp_region_quiet (C := LatI wr) (by kernel_rfl) (by kernel_rfl) (show LatI wr wr.drew from Below.drew (Below.refl _ _)) ?_
          dsimp only
          repeat (first | go_big_quiet_skip | (go_big_quiet_want; go_big_quiet_op; (first | go_big_quiet_on | (refine ⟨_, fun _ _ => rfl, ?_⟩; go_big_quiet_on) | (refine ⟨.agg #[.int .i64 r, .int .i64 s], ?_, ?_⟩; intro w' hw'; obtain ⟨⟨d0, d1⟩, p0, p1⟩ := HL.out w' hw'; simp [d0, d1, Result.andThen]; go_big_quiet_on) | (refine ⟨.agg #[.int .i64 (iR l k), .int .i64 (iS l k)], ?_, ?_⟩; intro w' hw'; obtain ⟨⟨d0, d1⟩, p0, p1⟩ := HL.out w' hw'; simp [p0, p1, Result.andThen]; go_big_quiet_on))))
          refine wpQuiet_nil ?_
          intro w2 L2
          have A2 := Lib.hid (A.out.after L2)
          have X2 := Lib.hid (XB.out.after L2)
          clear L2 HL
          go_wp2
          go_ret
          exact ⟨by rw [HY.out]; rfl, A2.out⟩
        · have HNE := Lib.hid (show ¬ (iR l k = r ∧ iS l k = s) from fun e => q2 e.2)
          have hs1 : (iR l k == r) = true := by simp [q1]
          have hs2 : (iS l k == s) = false := ine_no q2
          clear q1 q2
          go_wp2_with fail
          refine wp_region_quiet (C := LatI wr) (by kernel_rfl) (by kernel_rfl) (show LatI wr wr.drew from Below.drew (Below.refl _ _)) ?_
          dsimp only
          repeat (first | go_big_quiet_skip | (go_big_quiet_want; go_big_quiet_op; (first | go_big_quiet_on | (refine ⟨_, fun _ _ => rfl, ?_⟩; go_big_quiet_on) | (refine ⟨.agg #[.int .i64 r, .int .i64 s], ?_, ?_⟩; intro w' hw'; obtain ⟨⟨d0, d1⟩, p0, p1⟩ := HL.out w' hw'; simp [d0, d1, Result.andThen]; go_big_quiet_on) | (refine ⟨.agg #[.int .i64 (iR l k), .int .i64 (iS l k)], ?_, ?_⟩; intro w' hw'; obtain ⟨⟨d0, d1⟩, p0, p1⟩ := HL.out w' hw'; simp [p0, p1, Result.andThen]; go_big_quiet_on))))
          refine wpQuiet_nil ?_
          intro w2 L2
          have A2 := Lib.hid (A.out.after L2)
          have X2 := Lib.hid (XB.out.after L2)
          clear L2 HL
          go_wp2
          go_roundw
          case rel =>
            refine ⟨k + 1, by omega, by go_num, fun j hj => ?_, X2.out, A2.out⟩
            by_cases e : j = k
            · subst e; exact HNE.out
            · exact HE.out j (by omega)
          case measure => simp only [intOf]; omega
      · have HNE := Lib.hid (show ¬ (iR l k = r ∧ iS l k = s) from fun e => q1 e.1)
        have hs1 : (iR l k == r) = false := ine_no q1
        clear q1
        go_wp2_with fail
        refine wp_region_quiet (C := LatI wr) (by kernel_rfl) (by kernel_rfl) (show LatI wr wr.drew from Below.drew (Below.refl _ _)) ?_
        dsimp only
        repeat (first | go_big_quiet_skip | (go_big_quiet_want; go_big_quiet_op; (first | go_big_quiet_on | (refine ⟨_, fun _ _ => rfl, ?_⟩; go_big_quiet_on) | (refine ⟨.agg #[.int .i64 r, .int .i64 s], ?_, ?_⟩; intro w' hw'; obtain ⟨⟨d0, d1⟩, p0, p1⟩ := HL.out w' hw'; simp [d0, d1, Result.andThen]; go_big_quiet_on) | (refine ⟨.agg #[.int .i64 (iR l k), .int .i64 (iS l k)], ?_, ?_⟩; intro w' hw'; obtain ⟨⟨d0, d1⟩, p0, p1⟩ := HL.out w' hw'; simp [p0, p1, Result.andThen]; go_big_quiet_on))))
        refine wpQuiet_nil ?_
        intro w2 L2
        have A2 := Lib.hid (A.out.after L2)
        have X2 := Lib.hid (XB.out.after L2)
        clear L2 HL
        go_wp2
        go_roundw
        case rel =>
          refine ⟨k + 1, by omega, by go_num, fun j hj => ?_, X2.out, A2.out⟩
          by_cases e : j = k
          · subst e; exact HNE.out
          · exact HE.out j (by omega)
        case measure => simp only [intOf]; omega
    · obtain rfl : k = n := by omega
      go_wp2
      go_ret
      exact ⟨by rw [hasB_no l r s (fun j hj => HE.out j (by rw [← HN.out]; exact hj))]; rfl, A.out⟩
set_option maxRecDepth 100000 in
set_option maxHeartbeats 1000000 in
theorem impl_index (v : Value) (l : List Ii) (r s : Int) (w : World) (hv : Ids w v l) :
    Calls Tryd.prog 56 #[v, .agg #[.int .i64 r, .int .i64 s]] w fun e w' => (∃ z : Int, e = .returned (.int .i64 z) ∧ decide (0 ≤ z) = hasB l r s) ∧ Below w.heap.size w w' := by
  obtain ⟨h1, a, ca, rfl, hca, ha⟩ := hv
  generalize hn : l.length = n at h1 ha hca
  have HN := Lib.hid hn
  have HA := Lib.hid ha
  clear hn ha hca
  have X0 := Lib.hid (Bx.new w 30 #[.int .i64 r, .int .i64 s] _ rfl)
  have A0 := Lib.hid ((Af.refl w).alloc (.cells #[.int .i64 r, .int .i64 s] 30))
  go_enter Tryd.func56, Tryd.ntmps56
  go_wp2
  go_loopw [8] (fun i wr => ∃ k : Nat, k ≤ n ∧ i = .int .i64 k ∧ (∀ j, j < k → ¬ (iR l j = r ∧ iS l j = s)) ∧ Bx wr w.heap.size 30 #[.int .i64 r, .int .i64 s] ∧ Af w wr) (fun i _ => n - (intOf i).toNat)
  case atStart => exact ⟨0, by omega, rfl, fun j hj => by omega, X0.out, A0.out⟩
  case round =>
    obtain ⟨k, hk, rfl, he, hx, haf⟩ := hrel
    have HE := Lib.hid he
    have XB := Lib.hid hx
    have A := Lib.hid haf
    clear he hx haf X0 A0
    by_cases hlt : k < n
    · obtain ⟨x, o, rfl, hx, hcx⟩ := HA.out (by omega)
      have hxr : x < wr.heap.size := Nat.lt_of_lt_of_le hx A.out.size
      have CK := Lib.hid (show (wr.cell? ⟨x, o + k * 2, none⟩ = some (.int .i64 (iR l k)) ∧ wr.cell? ⟨x, o + k * 2 + 1, none⟩ = some (.int .i64 (iS l k))) from (hcx k hlt).below A.out hx)
      have HL := Lib.hid (fun W (h : LatI wr W) => (show (W.cell? ⟨w.heap.size, 0, none⟩ = some (.int .i64 r) ∧ W.cell? ⟨w.heap.size, 0 + 1, none⟩ = some (.int .i64 s)) ∧ (W.cell? ⟨x, o + k * 2, none⟩ = some (.int .i64 (iR l k)) ∧ W.cell? ⟨x, o + k * 2 + 1, none⟩ = some (.int .i64 (iS l k))) from ⟨⟨(XB.out.after h).cell 0 _ rfl, (XB.out.after h).cell 1 _ rfl⟩, cells2_below CK.out h hxr⟩))
      have y1 : (k : Int) < (n : Int) := by omega
      have y0 : (0 : Int) ≤ (k : Int) := by omega
      clear hcx CK
      by_cases q1 : iR l k = r
      · by_cases q2 : iS l k = s
        · have HY := Lib.hid (hasB_yes l r s k (by rw [HN.out]; exact hlt) q1 q2)
          have hs1 : (r == iR l k) = true := by simp [q1]
          have hs2 : (s == iS l k) = true := by simp [q2]
          clear q1 q2
          go_wp2_with fail
          refine wp_region_quiet (C := LatI wr) (by kernel_rfl) (by kernel_rfl) (show LatI wr wr.drew from Below.drew (Below.refl _ _)) ?_
          dsimp only
          repeat (first | go_big_quiet_skip | (go_big_quiet_want; go_big_quiet_op; (first | go_big_quiet_on | (refine ⟨_, fun _ _ => rfl, ?_⟩; go_big_quiet_on) | (refine ⟨.agg #[.int .i64 r, .int .i64 s], ?_, ?_⟩; intro w' hw'; obtain ⟨⟨d0, d1⟩, p0, p1⟩ := HL.out w' hw'; simp [d0, d1, Result.andThen]; go_big_quiet_on) | (refine ⟨.agg #[.int .i64 (iR l k), .int .i64 (iS l k)], ?_, ?_⟩; intro w' hw'; obtain ⟨⟨d0, d1⟩, p0, p1⟩ := HL.out w' hw'; simp [p0, p1, Result.andThen]; go_big_quiet_on))))
          refine wpQuiet_nil ?_
          intro w2 L2
          have A2 := Lib.hid (A.out.after L2)
          have X2 := Lib.hid (XB.out.after L2)
          clear L2 HL
          go_wp2
          go_ret
          exact ⟨⟨_, rfl, by rw [HY.out]; exact dec_t (by omega)⟩, A2.out⟩
        · have HNE := Lib.hid (show ¬ (iR l k = r ∧ iS l k = s) from fun e => q2 e.2)
          have hs1 : (r == iR l k) = true := by simp [q1]
          have hs2 : (s == iS l k) = false := ine_no (fun e => q2 e.symm)
          clear q1 q2
          go_wp2_with fail
          refine wp_region_quiet (C := LatI wr) (by kernel_rfl) (by kernel_rfl) (show LatI wr wr.drew from Below.drew (Below.refl _ _)) ?_
          dsimp only
          repeat (first | go_big_quiet_skip | (go_big_quiet_want; go_big_quiet_op; (first | go_big_quiet_on | (refine ⟨_, fun _ _ => rfl, ?_⟩; go_big_quiet_on) | (refine ⟨.agg #[.int .i64 r, .int .i64 s], ?_, ?_⟩; intro w' hw'; obtain ⟨⟨d0, d1⟩, p0, p1⟩ := HL.out w' hw'; simp [d0, d1, Result.andThen]; go_big_quiet_on) | (refine ⟨.agg #[.int .i64 (iR l k), .int .i64 (iS l k)], ?_, ?_⟩; intro w' hw'; obtain ⟨⟨d0, d1⟩, p0, p1⟩ := HL.out w' hw'; simp [p0, p1, Result.andThen]; go_big_quiet_on))))
          refine wpQuiet_nil ?_
          intro w2 L2
          have A2 := Lib.hid (A.out.after L2)
          have X2 := Lib.hid (XB.out.after L2)
          clear L2 HL
          go_wp2
          go_roundw
          case rel =>
            refine ⟨k + 1, by omega, by go_num, fun j hj => ?_, X2.out, A2.out⟩
            by_cases e : j = k
            · subst e; exact HNE.out
            · exact HE.out j (by omega)
          case measure => simp only [intOf]; omega
      · have HNE := Lib.hid (show ¬ (iR l k = r ∧ iS l k = s) from fun e => q1 e.1)
        have hs1 : (r == iR l k) = false := ine_no (fun e => q1 e.symm)
        clear q1
        go_wp2_with fail
        refine wp_region_quiet (C := LatI wr) (by kernel_rfl) (by kernel_rfl) (show LatI wr wr.drew from Below.drew (Below.refl _ _)) ?_
        dsimp only
        repeat (first | go_big_quiet_skip | (go_big_quiet_want; go_big_quiet_op; (first | go_big_quiet_on | (refine ⟨_, fun _ _ => rfl, ?_⟩; go_big_quiet_on) | (refine ⟨.agg #[.int .i64 r, .int .i64 s], ?_, ?_⟩; intro w' hw'; obtain ⟨⟨d0, d1⟩, p0, p1⟩ := HL.out w' hw'; simp [d0, d1, Result.andThen]; go_big_quiet_on) | (refine ⟨.agg #[.int .i64 (iR l k), .int .i64 (iS l k)], ?_, ?_⟩; intro w' hw'; obtain ⟨⟨d0, d1⟩, p0, p1⟩ := HL.out w' hw'; simp [p0, p1, Result.andThen]; go_big_quiet_on))))
        refine wpQuiet_nil ?_
        intro w2 L2
        have A2 := Lib.hid (A.out.after L2)
        have X2 := Lib.hid (XB.out.after L2)
        clear L2 HL
        go_wp2
        go_roundw
        case rel =>
          refine ⟨k + 1, by omega, by go_num, fun j hj => ?_, X2.out, A2.out⟩
          by_cases e : j = k
          · subst e; exact HNE.out
          · exact HE.out j (by omega)
        case measure => simp only [intOf]; omega
    · obtain rfl : k = n := by omega
      go_wp2
      go_ret
      exact ⟨⟨_, rfl, by rw [hasB_no l r s (fun j hj => HE.out j (by rw [← HN.out]; exact hj))]; rfl⟩, A.out⟩
set_option maxHeartbeats 400000 in
theorem impl_has (v : Value) (l : List Ii) (r s : Int) (w : World) (hv : Ids w v l) :
    Calls Tryd.prog 40 #[v, .agg #[.int .i64 r, .int .i64 s]] w fun e w' => e = .returned (.bool (hasB l r s)) ∧ Below w.heap.size w w' := by
  obtain ⟨a, n, c, rfl⟩ := hv.form
  have HV := Lib.hid (hv.alloc (.cells #[.int .i64 r, .int .i64 s] 30))
  have A := Lib.hid ((Af.refl w).alloc (.cells #[.int .i64 r, .int .i64 s] 30))
  clear hv
  go_enter Tryd.func40, Tryd.ntmps40
  go_wp2_with fail
  refine (impl_index _ l r s _ HV.out).mono ?_
  rintro e w2 ⟨⟨z, rfl, hz⟩, b2⟩
  have A2 := Lib.hid (A.out.after b2)
  have HZ := Lib.hid hz
  clear b2 hz
  go_wp2
  go_ret
  exact ⟨by rw [← HZ.out]; rfl, A2.out⟩
set_option maxHeartbeats 400000 in
theorem impl_deps (v : Value) (l : List Ii) (r s : Int) (w : World) (hv : Ids w v l) :
    Calls Tryd.prog 63 #[v, .agg #[.int .i64 r, .int .i64 s]] w fun e w' => e = .returned (.bool (idlB l && !hasB l r s)) ∧ Below w.heap.size w w' := by
  obtain ⟨a, n, c, rfl⟩ := hv.form
  have V0 := Lib.hid (hv.alloc (.cells #[.int .i64 r, .int .i64 s] 30))
  have X0 := Lib.hid (Bx.new w 30 #[.int .i64 r, .int .i64 s] _ rfl)
  have A0 := Lib.hid ((Af.refl w).alloc (.cells #[.int .i64 r, .int .i64 s] 30))
  clear hv
  go_enter Tryd.func63, Tryd.ntmps63
  go_wp2_with fail
  refine (impl_ids _ l _ V0.out).mono ?_
  rintro e w1 ⟨rfl, bb⟩
  have V1 := Lib.hid (V0.out.later bb)
  have X1 := Lib.hid (X0.out.after bb)
  have A1 := Lib.hid (A0.out.after bb)
  clear bb V0 X0 A0
  cases q : idlB l
  · go_wp2
    go_ret
    exact ⟨by rw [q]; rfl, A1.out⟩
  obtain ⟨x0, x1⟩ := And.intro (X1.out.cell 0 _ rfl) (X1.out.cell 1 _ rfl)
  go_wp2_with fail
  clear x0 x1
  refine (impl_has _ l r s _ V1.out).mono ?_
  rintro e w2 ⟨rfl, bb⟩
  have A2 := Lib.hid (A1.out.after bb)
  clear bb
  go_wp2
  go_ret
  exact ⟨by rw [q]; rfl, A2.out⟩
/-- Nothing is set in it. -/
@[irreducible] def unsetB (x : In) : Bool := (x.vbal == -1) && ((x.cmd.kind == 0) && ((x.seq == 0) && ((x.deps.length == 0) && !x.same)))
theorem unsetB_eq (x : In) : unsetB x = ((x.vbal == -1) && ((x.cmd.kind == 0) && ((x.seq == 0) && ((x.deps.length == 0) && !x.same)))) := by unfold unsetB; rfl
/-- A valid instance. -/
@[irreducible] def instB (x : In) : Bool := idB x.rep x.slot && (iv x.bal (-1) 600 && (iv x.vbal (-1) x.bal && (iv x.st 0 3 && (okB x.cmd && (iv x.seq 0 60 && (idlB x.deps && (!(hasB x.deps x.rep x.slot) && (!(x.st == 0) || unsetB x))))))))
theorem instB_eq (x : In) : instB x = (idB x.rep x.slot && (iv x.bal (-1) 600 && (iv x.vbal (-1) x.bal && (iv x.st 0 3 && (okB x.cmd && (iv x.seq 0 60 && (idlB x.deps && (!(hasB x.deps x.rep x.slot) && (!(x.st == 0) || unsetB x)))))))) ) := by unfold instB; rfl
set_option maxRecDepth 100000 in
set_option maxHeartbeats 1000000 in
theorem impl_unset (x : In) (u d : Value) (w : World) (h : Pts w x u d) :
    Calls Tryd.prog 64 #[.agg #[.int .i64 x.rep, .int .i64 x.slot, .int .i64 x.bal, .int .i64 x.vbal, .int .i64 x.st, .int .i64 x.cmd.kind, .int .i64 x.cmd.client, .int .i64 x.cmd.no, .string x.cmd.set, .string x.cmd.name, .string x.cmd.tag, .int .i64 x.cmd.n, u, .int .i64 x.seq, d, .bool x.same]] w fun e w' => e = .returned (.bool (unsetB x)) ∧ Below w.heap.size w w' := by
  obtain ⟨hu, hd, hfit⟩ := h
  obtain ⟨a1, n1, c1, rfl⟩ := hu.form
  obtain ⟨k1, a2, c2, rfl, hca, ha⟩ := hd
  rw [unsetB_eq]
  generalize x.deps.length = n at *
  clear hu hfit ha hca
  have hn0 : ((n : Int) == 0) = (n == 0) := by rw [Bool.eq_iff_iff]; simp
  cases q1 : (x.vbal == -1)
  · go_enter Tryd.func64, Tryd.ntmps64
    go_wp2
    go_ret
    exact ⟨rfl, (Below.refl _ _).alloc (Nat.le_refl _) _⟩
  cases q2 : (x.cmd.kind == 0)
  · go_enter Tryd.func64, Tryd.ntmps64
    go_wp2
    go_ret
    exact ⟨rfl, (Below.refl _ _).alloc (Nat.le_refl _) _⟩
  cases q3 : (x.seq == 0)
  · go_enter Tryd.func64, Tryd.ntmps64
    go_wp2
    go_ret
    exact ⟨rfl, (Below.refl _ _).alloc (Nat.le_refl _) _⟩
  cases q4 : (n == 0)
  · rw [q4] at hn0
    go_enter Tryd.func64, Tryd.ntmps64
    go_wp2
    go_ret
    exact ⟨rfl, (Below.refl _ _).alloc (Nat.le_refl _) _⟩
  rw [q4] at hn0
  go_enter Tryd.func64, Tryd.ntmps64
  go_wp2
  go_ret
  exact ⟨rfl, (Below.refl _ _).alloc (Nat.le_refl _) _⟩
set_option maxHeartbeats 400000 in
theorem impl_ilt (x y : In) (u d u' d' : Value) (w : World) (h : Pts w x u d) (h' : Pts w y u' d') :
    Calls Tryd.prog 55 #[.agg #[.int .i64 x.rep, .int .i64 x.slot, .int .i64 x.bal, .int .i64 x.vbal, .int .i64 x.st, .int .i64 x.cmd.kind, .int .i64 x.cmd.client, .int .i64 x.cmd.no, .string x.cmd.set, .string x.cmd.name, .string x.cmd.tag, .int .i64 x.cmd.n, u, .int .i64 x.seq, d, .bool x.same], .agg #[.int .i64 y.rep, .int .i64 y.slot, .int .i64 y.bal, .int .i64 y.vbal, .int .i64 y.st, .int .i64 y.cmd.kind, .int .i64 y.cmd.client, .int .i64 y.cmd.no, .string y.cmd.set, .string y.cmd.name, .string y.cmd.tag, .int .i64 y.cmd.n, u', .int .i64 y.seq, d', .bool y.same]] w fun e w' => e = .returned (.bool (ltB x.rep x.slot y.rep y.slot)) ∧ Below w.heap.size w w' := by
  obtain ⟨⟨a1, n1, c1, rfl⟩, a2, n2, c2, rfl⟩ := h.form
  obtain ⟨⟨a3, n3, c3, rfl⟩, a4, n4, c4, rfl⟩ := h'.form
  have A := Lib.hid (((Af.refl w).alloc (.cells #[.int .i64 x.rep, .int .i64 x.slot, .int .i64 x.bal, .int .i64 x.vbal, .int .i64 x.st, .int .i64 x.cmd.kind, .int .i64 x.cmd.client, .int .i64 x.cmd.no, .string x.cmd.set, .string x.cmd.name, .string x.cmd.tag, .int .i64 x.cmd.n, .slice a1 n1 c1, .int .i64 x.seq, .slice a2 n2 c2, .bool x.same] 48)).alloc (.cells #[.int .i64 y.rep, .int .i64 y.slot, .int .i64 y.bal, .int .i64 y.vbal, .int .i64 y.st, .int .i64 y.cmd.kind, .int .i64 y.cmd.client, .int .i64 y.cmd.no, .string y.cmd.set, .string y.cmd.name, .string y.cmd.tag, .int .i64 y.cmd.n, .slice a3 n3 c3, .int .i64 y.seq, .slice a4 n4 c4, .bool y.same] 48))
  clear h h'
  go_enter Tryd.func55, Tryd.ntmps55
  go_wp2_with fail
  refine (impl_lt x.rep x.slot y.rep y.slot _).mono ?_
  rintro e w2 ⟨rfl, b2⟩
  have A2 := Lib.hid (A.out.after b2)
  clear b2
  go_wp2
  go_ret
  exact ⟨rfl, A2.out⟩
end Go.Proofs.YtlbebeedkcdgpaaDoor
