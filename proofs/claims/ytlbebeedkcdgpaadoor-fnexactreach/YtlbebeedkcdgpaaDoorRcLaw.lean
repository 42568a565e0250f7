/- The law over Reach and its model: it returns true. -/
import Derived.Test.YtlbebeedkcdgpaaDoorGrX
import Derived.Test.YtlbebeedkcdgpaaDoorAtL
import Derived.Test.YtlbebeedkcdgpaaDoorInWr
import Derived.Test.YtlbebeedkcdgpaaDoorInCs
namespace Go.Proofs.YtlbebeedkcdgpaaDoor
open Go.RowKit Go.PlainAid
set_option linter.unusedVariables false

set_option maxRecDepth 100000 in
set_option maxHeartbeats 4000000 in
theorem law_reach (v : Value) (l : List In) (x : Ii) (a0 : Addr) (w : World) (hv : Insts w v l) (hx : Wf x.rep x.slot) (hS : Sent w a0) :
    Calls Tryd.prog 3 #[v, .agg #[.int .i64 x.rep, .int .i64 x.slot]] w fun e w' => e = .returned (.bool true) ∧ Below w.heap.size w w' := by
  obtain ⟨r, s⟩ := x
  dsimp only at hx ⊢
  obtain ⟨va, vn, vc, hve⟩ := hv.form
  subst hve
  have VH := Lib.hid hv
  have HX := Lib.hid hx
  have HS := Lib.hid hS
  have IB := Lib.hid (Bx.new w 24 #[.int .i64 r, .int .i64 s] _ rfl)
  have AF := Lib.hid ((Af.refl w).alloc (.cells #[.int .i64 r, .int .i64 s] 24))
  clear hv hS hx
  go_enter Tryd.func3, Tryd.ntmps3
  go_wp2_with fail
  refine (sz_insts _ l _ (VH.out.later AF.out)).mono ?_
  rintro e w1 ⟨hsz, bb⟩
  have IB := Lib.hid (IB.out.after bb)
  have AF := Lib.hid (AF.out.after bb)
  clear bb
  rcases hsz with rfl | ⟨q, rfl, q0, q1, sm⟩
  · go_wp2
    go_ret
    exact ⟨rfl, AF.out⟩
  have SM := Lib.hid sm
  have hd : decide (q < 0) = false := dec_f (by omega)
  clear sm
  obtain ⟨i0, i1⟩ := IB.out.c2a
  go_wp2_with fail
  go_region_held3 (fun w' => w'.cell? ⟨w.heap.size, 0, none⟩ = some (.int .i64 r) ∧ w'.cell? ⟨w.heap.size, 1, none⟩ = some (.int .i64 s)) (first | (with_reducible exact ⟨i0, i1⟩) | (with_reducible exact CY.out) | go_keep)
    (first
      | (go_at_call 7; have IB := Lib.hid IB.out.drew; have AF := Lib.hid AF.out.drew; refine (to_insts _ l _ (VH.out.later AF.out) SM.out).mono ?_; rintro e w3 ⟨u3, rfl, o3, bb, _⟩; obtain ⟨a3, n3, c3, rfl⟩ := o3.form; have IB := Lib.hid (IB.out.after bb); have AF := Lib.hid (AF.out.after bb); have T0 := Lib.hid o3.insts; have CY := Lib.hid IB.out.c2a; clear bb o3)
      | (go_at_call 8; refine (to_id r s _).mono ?_; rintro e w4 ⟨rfl, bb⟩; have IB := Lib.hid (IB.out.after bb); have AF := Lib.hid (AF.out.after bb); have T0 := Lib.hid (T0.out.later bb); have CY := Lib.hid IB.out.c2a; clear bb)
      | (go_at_call 6; refine (spec_Reach _ l r s _ T0.out).mono ?_; rintro e w6 ⟨⟨u6, dl, rfl, r6, i6⟩, bb⟩; obtain ⟨aS, nS, cS, rfl⟩ := r6.own.form; have IB := Lib.hid (IB.out.after bb); have AF := Lib.hid (AF.out.after bb); have OBS := Lib.hid (fun k hk => r6.lt k hk); have SS := Lib.hid r6.own; have IR := Lib.hid i6; have CY := Lib.hid IB.out.c2a; clear bb r6 i6 T0))
  clear i0 i1 CY hd
  have HLD := Lib.hid (ids_18 (IR.out.ok (grL_ok l)))
  have Z6 : w.heap.size + 1 ≤ w6.heap.size := by have := IB.out.lt; omega
  go_wp2_with fail
  refine (to_insts _ l _ (VH.out.later AF.out) SM.out).mono ?_
  rintro e w7 ⟨u7, rfl, o7, bb, _⟩
  obtain ⟨a7, n7, c7, rfl⟩ := o7.form
  have IB := Lib.hid (IB.out.after bb); have AF := Lib.hid (AF.out.after bb); have SS := Lib.hid (SS.out.later bb)
  have X0 := Lib.hid o7
  have Z7 := bb.size
  clear bb o7
  obtain ⟨i0, i1⟩ := IB.out.c2a
  go_wp2_with fail
  clear i0 i1
  refine (to_id r s _).mono ?_
  rintro e w9 ⟨rfl, bb⟩
  have IB := Lib.hid (IB.out.after bb); have AF := Lib.hid (AF.out.after bb); have SS := Lib.hid (SS.out.later bb); have X0 := Lib.hid (X0.out.later bb)
  have Z9 := Lib.hid bb.size
  clear bb
  go_wp2_with fail
  refine (impl_Reach _ l r s a0 _ X0.out.insts (HS.out.later AF.out) HX.out).mono ?_
  rintro e w10 ⟨⟨u10, X10, rfl, r10, i10⟩, bb⟩
  obtain rfl := i10.uniq IR.out
  obtain ⟨aG, nG, cG, rfl⟩ := r10.own.form
  have IB := Lib.hid (IB.out.after bb); have AF := Lib.hid (AF.out.after bb); have SS := Lib.hid (SS.out.later bb); have X0 := Lib.hid (X0.out.later bb)
  have OBG := Lib.hid (fun k hk => r10.lt k hk)
  have GG := Lib.hid r10.own
  clear bb r10 i10
  have hz9 : w7.heap.size ≤ w9.heap.size := Z9.out
  go_wp2_with fail
  refine (eq_idL_same _ _ X10 _ GG.out.ids SS.out.ids).mono ?_
  rintro e wq ⟨rfl, bb⟩
  have IB := Lib.hid (IB.out.after bb); have AF := Lib.hid (AF.out.after bb); have SS := Lib.hid (SS.out.later bb); have X0 := Lib.hid (X0.out.later bb); have GG := Lib.hid (GG.out.later bb)
  clear bb
  go_wp2_with fail
  refine (to_insts _ l _ (VH.out.later AF.out) SM.out).mono ?_
  rintro e w12 ⟨u12, rfl, o12, bb, _⟩
  obtain ⟨a12, n12, c12, rfl⟩ := o12.form
  have IB := Lib.hid (IB.out.after bb); have AF := Lib.hid (AF.out.after bb); have SS := Lib.hid (SS.out.later bb); have X0 := Lib.hid (X0.out.later bb); have GG := Lib.hid (GG.out.later bb)
  have T2 := Lib.hid o12.insts
  clear bb o12
  go_wp2_with fail
  refine (eq_insts_same _ _ l _ X0.out.insts T2.out).mono ?_
  rintro e w13 ⟨rfl, bb⟩
  have IB := Lib.hid (IB.out.after bb); have AF := Lib.hid (AF.out.after bb); have SS := Lib.hid (SS.out.later bb); have X0 := Lib.hid (X0.out.later bb); have GG := Lib.hid (GG.out.later bb)
  clear bb T2
  go_wp2_with fail
  refine (mark_instsW _ l.length w6.heap.size w7.heap.size _ (X0.out.wr SM.out) SM.out.1).mono ?_
  rintro e w16 ⟨z, rfl, z1, z2, cg⟩
  have hz2 : z ≤ 4398046511105 := by have := SM.out.1; omega
  have IB := Lib.hid (IB.out.chg cg (.inl (by omega)))
  have AF := Lib.hid (AF.out.chg cg (by omega))
  have SS := Lib.hid (SS.out.chg cg (fun k hk => .inl (by have := OBS.out k hk; omega)))
  have GG := Lib.hid (GG.out.chg cg (fun k hk => .inr (by have := OBG.out k hk; omega)))
  clear cg z2 X0
  have dk : decide (z < 0) = false := dec_f (by omega)
  clear z1 hz2
  go_wp2_with fail
  refine (eq_idL_same _ _ X10 _ GG.out.ids SS.out.ids).mono ?_
  rintro e wq ⟨rfl, bb⟩
  have IB := Lib.hid (IB.out.after bb); have AF := Lib.hid (AF.out.after bb); have SS := Lib.hid (SS.out.later bb); have GG := Lib.hid (GG.out.later bb)
  clear bb
  clear dk
  go_wp2_with fail
  refine (mark_idL _ X10 _ 1 _ GG.out (by have := HLD.out; omega) (by omega) (by omega)).mono ?_
  rintro e w19 ⟨rfl, mm, gg⟩
  have IB := Lib.hid (IB.out.keep gg (fun e => by have := OBG.out _ e.symm; omega))
  have AF := Lib.hid (AF.out.grow gg (fun k hk => by have := OBG.out k hk; omega))
  have SS := Lib.hid (SS.out.keepB gg (fun _ k hk e => by have h1 := OBG.out k hk; have h2 := OBS.out k e; omega))
  have MM := Lib.hid mm
  clear gg mm GG
  obtain ⟨m, hm⟩ : ∃ m : Int, 1 + 2 * (X10.length : Int) = m := ⟨_, rfl⟩
  have HM := Lib.hid hm
  rw [hm]
  have dm : decide (m < 0) = false := dec_f (by omega)
  clear hm
  go_wp2_with fail
  refine (held_idL _ X10 1 _ MM.out.ids (by have := HLD.out; omega) (by omega) (by omega)).mono ?_
  rintro e wh ⟨rfl, bb⟩
  rw [HM.out]
  have IB := Lib.hid (IB.out.after bb); have AF := Lib.hid (AF.out.after bb); have SS := Lib.hid (SS.out.later bb); have MM := Lib.hid (MM.out.later bb)
  clear bb
  obtain ⟨i0, i1⟩ := IB.out.c2a
  go_wp2_with fail
  go_region_held3 (fun w' => w'.cell? ⟨w.heap.size, 0, none⟩ = some (.int .i64 r) ∧ w'.cell? ⟨w.heap.size, 1, none⟩ = some (.int .i64 s)) (first | (with_reducible exact ⟨i0, i1⟩) | (with_reducible exact CY.out) | go_keep)
    (first
      | (go_at_call 7; have IB := Lib.hid IB.out.drew; have AF := Lib.hid AF.out.drew; have SS := Lib.hid (SS.out.later (Below.refl _ _).drew); have MM := Lib.hid (MM.out.later (Below.refl _ _).drew); refine (to_insts _ l _ (VH.out.later AF.out) SM.out).mono ?_; rintro e w21 ⟨u21, rfl, o21, bb, _⟩; obtain ⟨a21, n21, c21, rfl⟩ := o21.form; have IB := Lib.hid (IB.out.after bb); have AF := Lib.hid (AF.out.after bb); have SS := Lib.hid (SS.out.later bb); have MM := Lib.hid (MM.out.later bb); have T0 := Lib.hid o21.insts; have CY := Lib.hid IB.out.c2a; clear bb o21)
      | (go_at_call 8; refine (to_id r s _).mono ?_; rintro e w22 ⟨rfl, bb⟩; have IB := Lib.hid (IB.out.after bb); have AF := Lib.hid (AF.out.after bb); have SS := Lib.hid (SS.out.later bb); have MM := Lib.hid (MM.out.later bb); have T0 := Lib.hid (T0.out.later bb); have CY := Lib.hid IB.out.c2a; clear bb)
      | (go_at_call 9; refine (impl_Reach _ l r s a0 _ T0.out (HS.out.later AF.out) HX.out).mono ?_; rintro e w24 ⟨⟨u24, X24, rfl, r24, i24⟩, bb⟩; obtain rfl := i24.uniq IR.out; obtain ⟨aH, nH, cH, rfl⟩ := r24.own.form; have IB := Lib.hid (IB.out.after bb); have AF := Lib.hid (AF.out.after bb); have SS := Lib.hid (SS.out.later bb); have MM := Lib.hid (MM.out.later bb); have HH := Lib.hid r24.own.ids; have CY := Lib.hid IB.out.c2a; clear bb r24 i24 T0))
  clear i0 i1 CY
  go_wp2_with fail
  refine (eq_idL_same _ _ X24 _ HH.out SS.out.ids).mono ?_
  rintro e wq ⟨rfl, bb⟩
  have IB := Lib.hid (IB.out.after bb); have AF := Lib.hid (AF.out.after bb); have SS := Lib.hid (SS.out.later bb); have MM := Lib.hid (MM.out.later bb)
  clear bb
  clear HH
  go_wp2_with fail
  refine (held_idL _ X24 1 _ MM.out.ids (by have := HLD.out; omega) (by omega) (by omega)).mono ?_
  rintro e wh ⟨rfl, bb⟩
  rw [HM.out]
  have IB := Lib.hid (IB.out.after bb); have AF := Lib.hid (AF.out.after bb); have SS := Lib.hid (SS.out.later bb); have MM := Lib.hid (MM.out.later bb)
  clear bb
  go_wp2
  go_ret
  exact ⟨rfl, AF.out⟩
end Go.Proofs.YtlbebeedkcdgpaaDoor
