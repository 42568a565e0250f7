/- The law over Ready and its model: it returns true. -/
import Derived.Test.YtlbebeedkcdgpaaDoorRyI
import Derived.Test.YtlbebeedkcdgpaaDoorAtL
import Derived.Test.YtlbebeedkcdgpaaDoorInWr
import Derived.Test.YtlbebeedkcdgpaaDoorInCs
namespace Go.Proofs.YtlbebeedkcdgpaaDoor
open Go.RowKit Go.PlainAid
set_option linter.unusedVariables false

set_option maxRecDepth 100000 in
set_option maxHeartbeats 4000000 in
theorem law_ready (v : Value) (l : List In) (x : Ii) (a0 : Addr) (w : World) (hv : Insts w v l) (hx : Wf x.rep x.slot) (hS : Sent w a0) :
    Calls Tryd.prog 4 #[v, .agg #[.int .i64 x.rep, .int .i64 x.slot]] w fun e w' => e = .returned (.bool true) ∧ Below w.heap.size w w' := by
  obtain ⟨r, s⟩ := x
  dsimp only at hx ⊢
  obtain ⟨va, vn, vc, hve⟩ := hv.form
  subst hve
  have VH := Lib.hid hv
  have HX := Lib.hid hx
  have HS := Lib.hid hS
  have IB := Lib.hid (Bx.new w 24 #[.int .i64 r, .int .i64 s] _ rfl)
  have AF := Lib.hid ((Af.refl w).alloc (.cells #[.int .i64 r, .int .i64 s] 24))
  clear hv hS hx
  go_enter Tryd.func4, Tryd.ntmps4
  go_wp2_with fail
  refine (sz_insts _ l _ (VH.out.later AF.out)).mono ?_
  rintro e w1 ⟨hsz, bb⟩
  have IB := Lib.hid (IB.out.after bb)
  have AF := Lib.hid (AF.out.after bb)
  clear bb
  rcases hsz with rfl | ⟨q, rfl, q0, q1, sm⟩
  · go_wp2
    go_ret
    exact ⟨rfl, AF.out⟩
  have SM := Lib.hid sm
  have hd : decide (q < 0) = false := dec_f (by omega)
  clear sm
  obtain ⟨i0, i1⟩ := IB.out.c2a
  go_wp2_with fail
  go_region_held3 (fun w' => w'.cell? ⟨w.heap.size, 0, none⟩ = some (.int .i64 r) ∧ w'.cell? ⟨w.heap.size, 1, none⟩ = some (.int .i64 s)) (first | (with_reducible exact ⟨i0, i1⟩) | (with_reducible exact CY.out) | go_keep)
    (first
      | (go_at_call 7; have IB := Lib.hid IB.out.drew; have AF := Lib.hid AF.out.drew; refine (to_insts _ l _ (VH.out.later AF.out) SM.out).mono ?_; rintro e w3 ⟨u3, rfl, o3, bb, _⟩; obtain ⟨a3, n3, c3, rfl⟩ := o3.form; have IB := Lib.hid (IB.out.after bb); have AF := Lib.hid (AF.out.after bb); have T0 := Lib.hid o3.insts; have CY := Lib.hid IB.out.c2a; clear bb o3)
      | (go_at_call 8; refine (to_id r s _).mono ?_; rintro e w4 ⟨rfl, bb⟩; have IB := Lib.hid (IB.out.after bb); have AF := Lib.hid (AF.out.after bb); have T0 := Lib.hid (T0.out.later bb); have CY := Lib.hid IB.out.c2a; clear bb)
      | (go_at_call 15; refine (spec_Ready _ l r s _ T0.out).mono ?_; rintro e w6 ⟨⟨dl, i6, h6⟩, bb⟩; have IB := Lib.hid (IB.out.after bb); have AF := Lib.hid (AF.out.after bb); have IR := Lib.hid i6; obtain ⟨z, hz⟩ : ∃ z, rdyB (grL l) ⟨r, s⟩ dl = z := ⟨_, rfl⟩; rw [hz] at h6; subst h6; have HZ := Lib.hid hz; have CY := Lib.hid IB.out.c2a; clear bb i6 T0 hz))
  clear i0 i1 CY hd
  go_wp2_with fail
  refine (to_insts _ l _ (VH.out.later AF.out) SM.out).mono ?_
  rintro e w7 ⟨u7, rfl, o7, bb, _⟩
  obtain ⟨a7, n7, c7, rfl⟩ := o7.form
  have IB := Lib.hid (IB.out.after bb); have AF := Lib.hid (AF.out.after bb)
  have X0 := Lib.hid o7
  clear bb o7
  obtain ⟨i0, i1⟩ := IB.out.c2a
  go_wp2_with fail
  clear i0 i1
  refine (to_id r s _).mono ?_
  rintro e w9 ⟨rfl, bb⟩
  have IB := Lib.hid (IB.out.after bb); have AF := Lib.hid (AF.out.after bb); have X0 := Lib.hid (X0.out.later bb)
  clear bb
  go_wp2_with fail
  refine (impl_Ready _ l r s a0 _ X0.out.insts (HS.out.later AF.out) HX.out).mono ?_
  rintro e w10 ⟨⟨X10, i10, h10⟩, bb⟩
  obtain rfl := i10.uniq IR.out
  rw [HZ.out] at h10
  subst h10
  have IB := Lib.hid (IB.out.after bb); have AF := Lib.hid (AF.out.after bb); have X0 := Lib.hid (X0.out.later bb)
  clear bb i10
  have hne : (z != z) = false := by simp
  go_wp2_with fail
  refine (to_insts _ l _ (VH.out.later AF.out) SM.out).mono ?_
  rintro e w12 ⟨u12, rfl, o12, bb, _⟩
  obtain ⟨a12, n12, c12, rfl⟩ := o12.form
  have IB := Lib.hid (IB.out.after bb); have AF := Lib.hid (AF.out.after bb); have X0 := Lib.hid (X0.out.later bb)
  have T2 := Lib.hid o12.insts
  clear bb o12
  go_wp2_with fail
  refine (eq_insts_same _ _ l _ X0.out.insts T2.out).mono ?_
  rintro e w13 ⟨rfl, bb⟩
  have IB := Lib.hid (IB.out.after bb); have AF := Lib.hid (AF.out.after bb); have X0 := Lib.hid (X0.out.later bb)
  clear bb T2
  go_wp2
  go_ret
  exact ⟨rfl, AF.out⟩
end Go.Proofs.YtlbebeedkcdgpaaDoor
