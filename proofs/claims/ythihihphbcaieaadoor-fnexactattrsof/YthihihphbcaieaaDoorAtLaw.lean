/- The law over AttrsOf and its model: it returns true. -/
import Derived.Test.YthihihphbcaieaaDoorAtL
import Derived.Test.YthihihphbcaieaaDoorInWr
namespace Go.Proofs.YthihihphbcaieaaDoor
open Go.RowKit Go.PlainAid
set_option linter.unusedVariables false

set_option maxRecDepth 100000 in
set_option maxHeartbeats 4000000 in
theorem law_attrsOf (v : Value) (l : List In) (x : Ii) (c : CmdM) (cu : Value) (a0 : Addr) (w : World) (hv : Insts w v l) (hc : Strs w cu c.ch) (hz : c.set.size ≤ 9223372036854775807 ∧ c.name.size ≤ 9223372036854775807 ∧ c.tag.size ≤ 9223372036854775807) (hS : Sent w a0) :
    Calls Tryd.prog 6 #[v, .agg #[.int .i64 x.rep, .int .i64 x.slot], .agg #[.int .i64 c.kind, .int .i64 c.client, .int .i64 c.no, .string c.set, .string c.name, .string c.tag, .int .i64 c.n, cu]] w fun e w' => e = .returned (.bool true) ∧ Below w.heap.size w w' := by
  obtain ⟨r, s⟩ := x
  dsimp only
  obtain ⟨fs, fn, ft⟩ := hz
  obtain ⟨va, vn, vc, hve⟩ := hv.form
  obtain ⟨ac, nc, cc, hce⟩ := hc.form
  subst hve hce
  have VH := Lib.hid hv
  have CH := Lib.hid hc
  have HS := Lib.hid hS
  have FS := Lib.hid (And.intro fs (And.intro fn ft))
  have IB := Lib.hid ((Bx.new w 69 #[.int .i64 r, .int .i64 s] _ rfl).alloc (.cells #[.int .i64 c.kind, .int .i64 c.client, .int .i64 c.no, .string c.set, .string c.name, .string c.tag, .int .i64 c.n, .slice ac nc cc] 70))
  have CB := Lib.hid (Bx.new (w.alloc (.cells #[.int .i64 r, .int .i64 s] 69)) 70 #[.int .i64 c.kind, .int .i64 c.client, .int .i64 c.no, .string c.set, .string c.name, .string c.tag, .int .i64 c.n, .slice ac nc cc] (w.heap.size + 1) (by simp))
  have AF := Lib.hid (((Af.refl w).alloc (.cells #[.int .i64 r, .int .i64 s] 69)).alloc (.cells #[.int .i64 c.kind, .int .i64 c.client, .int .i64 c.no, .string c.set, .string c.name, .string c.tag, .int .i64 c.n, .slice ac nc cc] 70))
  clear hv hc hS fs fn ft
  go_enter Tryd.func6, Tryd.ntmps6
  go_wp2_with fail
  refine (sz_insts _ l _ (VH.out.later AF.out)).mono ?_
  rintro e w1 ⟨hsz, bb⟩
  have IB := Lib.hid (IB.out.after bb)
  have CB := Lib.hid (CB.out.after bb)
  have AF := Lib.hid (AF.out.after bb)
  clear bb
  rcases hsz with rfl | ⟨q, rfl, q0, q1, sm⟩
  · go_wp2
    go_ret
    exact ⟨rfl, AF.out⟩
  have SM := Lib.hid sm
  have hd : decide (q < 0) = false := dec_f (by omega)
  obtain ⟨k0, k1, k2, k3, k4, k5, k6, k7⟩ := CB.out.c8
  clear sm
  go_wp2_with fail
  clear k0 k1 k2 k3 k4 k5 k6 k7 hd
  refine (sz_cmd c _ q _ (CH.out.later AF.out) q0 q1 FS.out.1 FS.out.2.1 FS.out.2.2).mono ?_
  rintro e w2 ⟨hsz, bb⟩
  have IB := Lib.hid (IB.out.after bb)
  have CB := Lib.hid (CB.out.after bb)
  have AF := Lib.hid (AF.out.after bb)
  clear bb
  rcases hsz with rfl | ⟨q', rfl, q0', q1', q2'⟩
  · go_wp2
    go_ret
    exact ⟨rfl, AF.out⟩
  have HCH := Lib.hid (show c.ch.length ≤ 1048576 by omega)
  have hd : decide (q' < 0) = false := dec_f (by omega)
  clear q1' q2' q0 q1
  have HLD := Lib.hid (show (atDep r s c l).length ≤ 1048576 by
    rw [atDep_eq]
    split
    · have h1 := depL_length r s c l l.length
      rw [List.take_length] at h1
      have := SM.out.1
      omega
    · simp)
  obtain ⟨sq, hsq⟩ : ∃ z, atSeq r s c l = z := ⟨_, rfl⟩
  obtain ⟨dl, hdl⟩ : ∃ z, atDep r s c l = z := ⟨_, rfl⟩
  have HSQ := Lib.hid hsq
  have HDL := Lib.hid hdl
  rw [hdl] at HLD
  clear hsq hdl
  obtain ⟨i0, i1⟩ := IB.out.c2a
  obtain ⟨k0, k1, k2, k3, k4, k5, k6, k7⟩ := CB.out.c8
  go_wp2_with fail
  go_region_held3 (fun w' => (w'.cell? ⟨w.heap.size, 0, none⟩ = some (.int .i64 r) ∧ w'.cell? ⟨w.heap.size, 1, none⟩ = some (.int .i64 s)) ∧ w'.cell? ⟨w.heap.size + 1, 0, none⟩ = some (.int .i64 c.kind) ∧ w'.cell? ⟨w.heap.size + 1, 1, none⟩ = some (.int .i64 c.client) ∧ w'.cell? ⟨w.heap.size + 1, 2, none⟩ = some (.int .i64 c.no) ∧ w'.cell? ⟨w.heap.size + 1, 3, none⟩ = some (.string c.set) ∧ w'.cell? ⟨w.heap.size + 1, 4, none⟩ = some (.string c.name) ∧ w'.cell? ⟨w.heap.size + 1, 5, none⟩ = some (.string c.tag) ∧ w'.cell? ⟨w.heap.size + 1, 6, none⟩ = some (.int .i64 c.n) ∧ w'.cell? ⟨w.heap.size + 1, 7, none⟩ = some (.slice ac nc cc)) (first | (with_reducible exact ⟨⟨i0, i1⟩, k0, k1, k2, k3, k4, k5, k6, k7⟩) | (with_reducible exact CY.out) | go_keep)
    (first
      | (go_at_call 37; have IB := Lib.hid IB.out.drew; have CB := Lib.hid CB.out.drew; have AF := Lib.hid AF.out.drew; refine (to_insts _ l _ (VH.out.later AF.out) SM.out).mono ?_; rintro e w3 ⟨u3, rfl, o3, bb, _⟩; obtain ⟨a3, n3, c3, rfl⟩ := o3.form; have IB := Lib.hid (IB.out.after bb); have CB := Lib.hid (CB.out.after bb); have AF := Lib.hid (AF.out.after bb); have T0 := Lib.hid o3.insts; have CY := Lib.hid (And.intro IB.out.c2a CB.out.c8); clear bb o3)
      | (go_at_call 41; refine (to_id r s _).mono ?_; rintro e w4 ⟨rfl, bb⟩; have IB := Lib.hid (IB.out.after bb); have CB := Lib.hid (CB.out.after bb); have AF := Lib.hid (AF.out.after bb); have T0 := Lib.hid (T0.out.later bb); have CY := Lib.hid (And.intro IB.out.c2a CB.out.c8); clear bb)
      | (go_at_call 42; refine (to_cmdO c _ _ (CH.out.later AF.out) HCH.out).mono ?_; rintro e w5 ⟨⟨g5, n5, c5, rfl, s5, _⟩, bb⟩; have IB := Lib.hid (IB.out.after bb); have CB := Lib.hid (CB.out.after bb); have AF := Lib.hid (AF.out.after bb); have T0 := Lib.hid (T0.out.later bb); have T5 := Lib.hid s5.strs; have CY := Lib.hid (And.intro IB.out.c2a CB.out.c8); clear bb s5)
      | (go_at_call 22; refine (spec_attrs _ l r s c _ _ T0.out T5.out FS.out.1 FS.out.2.1 FS.out.2.2 SM.out.1).mono ?_; rintro e w6 ⟨⟨u6, h6, r6⟩, bb⟩; rw [HSQ.out] at h6; subst h6; rw [HDL.out] at r6; obtain ⟨aS, nS, cS, rfl⟩ := r6.own.form; have IB := Lib.hid (IB.out.after bb); have CB := Lib.hid (CB.out.after bb); have AF := Lib.hid (AF.out.after bb); have OBS := Lib.hid (fun k hk => r6.lt k hk); have SS := Lib.hid r6.own; have CY := Lib.hid (And.intro IB.out.c2a CB.out.c8); clear bb r6 T0 T5))
  clear i0 i1 k0 k1 k2 k3 k4 k5 k6 k7 CY hd
  have Z6 : w.heap.size + 2 ≤ w6.heap.size := by have := CB.out.lt; omega
  go_wp2_with fail
  refine (to_insts _ l _ (VH.out.later AF.out) SM.out).mono ?_
  rintro e w7 ⟨u7, rfl, o7, bb, _⟩
  obtain ⟨a7, n7, c7, rfl⟩ := o7.form
  have IB := Lib.hid (IB.out.after bb); have CB := Lib.hid (CB.out.after bb); have AF := Lib.hid (AF.out.after bb); have SS := Lib.hid (SS.out.later bb)
  have X0 := Lib.hid o7
  have Z7 := bb.size
  clear bb o7
  obtain ⟨k0, k1, k2, k3, k4, k5, k6, k7⟩ := CB.out.c8
  go_wp2_with fail
  clear k0 k1 k2 k3 k4 k5 k6 k7
  refine (to_cmdO c _ _ (CH.out.later AF.out) HCH.out).mono ?_
  rintro e w8 ⟨⟨g8, n8, c8, rfl, s8, hg8⟩, bb⟩
  have IB := Lib.hid (IB.out.after bb); have CB := Lib.hid (CB.out.after bb); have AF := Lib.hid (AF.out.after bb); have SS := Lib.hid (SS.out.later bb); have X0 := Lib.hid (X0.out.later bb)
  have CX := Lib.hid s8
  have Z8 := bb.size
  have OB8 := Lib.hid (And.intro (s8.1.lt g8 rfl).1 hg8)
  clear bb s8
  have XB := Lib.hid (Bx.new w8 43 #[.int .i64 c.kind, .int .i64 c.client, .int .i64 c.no, .string c.set, .string c.name, .string c.tag, .int .i64 c.n, .slice (some ⟨g8, 0, none⟩) n8 c8] _ rfl)
  have IB := Lib.hid (IB.out.after ((Below.refl _ _).alloc (Nat.le_refl _) (.cells #[.int .i64 c.kind, .int .i64 c.client, .int .i64 c.no, .string c.set, .string c.name, .string c.tag, .int .i64 c.n, .slice (some ⟨g8, 0, none⟩) n8 c8] 43))); have CB := Lib.hid (CB.out.after ((Below.refl _ _).alloc (Nat.le_refl _) (.cells #[.int .i64 c.kind, .int .i64 c.client, .int .i64 c.no, .string c.set, .string c.name, .string c.tag, .int .i64 c.n, .slice (some ⟨g8, 0, none⟩) n8 c8] 43))); have AF := Lib.hid (AF.out.after ((Below.refl _ _).alloc (Nat.le_refl _) (.cells #[.int .i64 c.kind, .int .i64 c.client, .int .i64 c.no, .string c.set, .string c.name, .string c.tag, .int .i64 c.n, .slice (some ⟨g8, 0, none⟩) n8 c8] 43))); have SS := Lib.hid (SS.out.later ((Below.refl _ _).alloc (Nat.le_refl _) (.cells #[.int .i64 c.kind, .int .i64 c.client, .int .i64 c.no, .string c.set, .string c.name, .string c.tag, .int .i64 c.n, .slice (some ⟨g8, 0, none⟩) n8 c8] 43))); have X0 := Lib.hid (X0.out.later ((Below.refl _ _).alloc (Nat.le_refl _) (.cells #[.int .i64 c.kind, .int .i64 c.client, .int .i64 c.no, .string c.set, .string c.name, .string c.tag, .int .i64 c.n, .slice (some ⟨g8, 0, none⟩) n8 c8] 43))); have CX := Lib.hid (CX.out.later ((Below.refl _ _).alloc (Nat.le_refl _) (.cells #[.int .i64 c.kind, .int .i64 c.client, .int .i64 c.no, .string c.set, .string c.name, .string c.tag, .int .i64 c.n, .slice (some ⟨g8, 0, none⟩) n8 c8] 43)))
  obtain ⟨i0, i1⟩ := IB.out.c2a
  obtain ⟨k0, k1, k2, k3, k4, k5, k6, k7⟩ := XB.out.c8
  go_wp2_with fail
  go_region_held3 (fun w' => (w'.cell? ⟨w.heap.size, 0, none⟩ = some (.int .i64 r) ∧ w'.cell? ⟨w.heap.size, 1, none⟩ = some (.int .i64 s)) ∧ w'.cell? ⟨w8.heap.size, 0, none⟩ = some (.int .i64 c.kind) ∧ w'.cell? ⟨w8.heap.size, 1, none⟩ = some (.int .i64 c.client) ∧ w'.cell? ⟨w8.heap.size, 2, none⟩ = some (.int .i64 c.no) ∧ w'.cell? ⟨w8.heap.size, 3, none⟩ = some (.string c.set) ∧ w'.cell? ⟨w8.heap.size, 4, none⟩ = some (.string c.name) ∧ w'.cell? ⟨w8.heap.size, 5, none⟩ = some (.string c.tag) ∧ w'.cell? ⟨w8.heap.size, 6, none⟩ = some (.int .i64 c.n) ∧ w'.cell? ⟨w8.heap.size, 7, none⟩ = some (.slice (some ⟨g8, 0, none⟩) n8 c8)) (first | (with_reducible exact ⟨⟨i0, i1⟩, k0, k1, k2, k3, k4, k5, k6, k7⟩) | (with_reducible exact CY.out) | go_keep)
    (first
      | (go_at_call 41; have IB := Lib.hid IB.out.drew; have CB := Lib.hid CB.out.drew; have AF := Lib.hid AF.out.drew; have SS := Lib.hid (SS.out.later (Below.refl _ _).drew); have X0 := Lib.hid (X0.out.later (Below.refl _ _).drew); have CX := Lib.hid (CX.out.later (Below.refl _ _).drew); have XB := Lib.hid (XB.out.after (Below.refl _ _).drew); refine (to_id r s _).mono ?_; rintro e w9 ⟨rfl, bb⟩; have IB := Lib.hid (IB.out.after bb); have CB := Lib.hid (CB.out.after bb); have AF := Lib.hid (AF.out.after bb); have SS := Lib.hid (SS.out.later bb); have X0 := Lib.hid (X0.out.later bb); have CX := Lib.hid (CX.out.later bb); have XB := Lib.hid (XB.out.after bb); have Z9 := Lib.hid bb.size; have CY := Lib.hid (And.intro IB.out.c2a XB.out.c8); clear bb)
      | (go_at_call 21; refine (impl_attrs _ l r s c _ a0 _ X0.out.insts CX.out.strs (HS.out.later AF.out) FS.out.1 FS.out.2.1 FS.out.2.2 SM.out.1).mono ?_; rintro e w10 ⟨⟨u10, h10, r10⟩, bb⟩; rw [HSQ.out] at h10; subst h10; rw [HDL.out] at r10; obtain ⟨aG, nG, cG, rfl⟩ := r10.own.form; have IB := Lib.hid (IB.out.after bb); have CB := Lib.hid (CB.out.after bb); have AF := Lib.hid (AF.out.after bb); have SS := Lib.hid (SS.out.later bb); have X0 := Lib.hid (X0.out.later bb); have CX := Lib.hid (CX.out.later bb); have XB := Lib.hid (XB.out.after bb); have OBG := Lib.hid (fun k hk => r10.lt k hk); have GG := Lib.hid r10.own; have CY := Lib.hid (And.intro IB.out.c2a XB.out.c8); clear bb r10))
  clear i0 i1 k0 k1 k2 k3 k4 k5 k6 k7 CY
  have hz9 : w8.heap.size + 1 ≤ w9.heap.size := by have := Z9.out; simp at this; omega
  go_wp2_with fail
  refine (eq_idL_same _ _ dl _ GG.out.ids SS.out.ids).mono ?_
  rintro e wq ⟨rfl, bb⟩
  have IB := Lib.hid (IB.out.after bb); have CB := Lib.hid (CB.out.after bb); have AF := Lib.hid (AF.out.after bb); have SS := Lib.hid (SS.out.later bb); have X0 := Lib.hid (X0.out.later bb); have CX := Lib.hid (CX.out.later bb); have XB := Lib.hid (XB.out.after bb); have GG := Lib.hid (GG.out.later bb)
  clear bb
  go_wp2_with fail
  refine (to_insts _ l _ (VH.out.later AF.out) SM.out).mono ?_
  rintro e w12 ⟨u12, rfl, o12, bb, _⟩
  obtain ⟨a12, n12, c12, rfl⟩ := o12.form
  have IB := Lib.hid (IB.out.after bb); have CB := Lib.hid (CB.out.after bb); have AF := Lib.hid (AF.out.after bb); have SS := Lib.hid (SS.out.later bb); have X0 := Lib.hid (X0.out.later bb); have CX := Lib.hid (CX.out.later bb); have XB := Lib.hid (XB.out.after bb); have GG := Lib.hid (GG.out.later bb)
  have T2 := Lib.hid o12.insts
  clear bb o12
  go_wp2_with fail
  refine (eq_insts_same _ _ l _ X0.out.insts T2.out).mono ?_
  rintro e w13 ⟨rfl, bb⟩
  have IB := Lib.hid (IB.out.after bb); have CB := Lib.hid (CB.out.after bb); have AF := Lib.hid (AF.out.after bb); have SS := Lib.hid (SS.out.later bb); have X0 := Lib.hid (X0.out.later bb); have CX := Lib.hid (CX.out.later bb); have XB := Lib.hid (XB.out.after bb); have GG := Lib.hid (GG.out.later bb)
  clear bb T2
  obtain ⟨i0, i1, i2, i3, i4, i5, i6, i7⟩ := CB.out.c8
  obtain ⟨k0, k1, k2, k3, k4, k5, k6, k7⟩ := XB.out.c8
  go_wp2_with fail
  go_region_held3 (fun w' => (w'.cell? ⟨w.heap.size + 1, 0, none⟩ = some (.int .i64 c.kind) ∧ w'.cell? ⟨w.heap.size + 1, 1, none⟩ = some (.int .i64 c.client) ∧ w'.cell? ⟨w.heap.size + 1, 2, none⟩ = some (.int .i64 c.no) ∧ w'.cell? ⟨w.heap.size + 1, 3, none⟩ = some (.string c.set) ∧ w'.cell? ⟨w.heap.size + 1, 4, none⟩ = some (.string c.name) ∧ w'.cell? ⟨w.heap.size + 1, 5, none⟩ = some (.string c.tag) ∧ w'.cell? ⟨w.heap.size + 1, 6, none⟩ = some (.int .i64 c.n) ∧ w'.cell? ⟨w.heap.size + 1, 7, none⟩ = some (.slice ac nc cc)) ∧ w'.cell? ⟨w8.heap.size, 0, none⟩ = some (.int .i64 c.kind) ∧ w'.cell? ⟨w8.heap.size, 1, none⟩ = some (.int .i64 c.client) ∧ w'.cell? ⟨w8.heap.size, 2, none⟩ = some (.int .i64 c.no) ∧ w'.cell? ⟨w8.heap.size, 3, none⟩ = some (.string c.set) ∧ w'.cell? ⟨w8.heap.size, 4, none⟩ = some (.string c.name) ∧ w'.cell? ⟨w8.heap.size, 5, none⟩ = some (.string c.tag) ∧ w'.cell? ⟨w8.heap.size, 6, none⟩ = some (.int .i64 c.n) ∧ w'.cell? ⟨w8.heap.size, 7, none⟩ = some (.slice (some ⟨g8, 0, none⟩) n8 c8)) (first | (with_reducible exact ⟨⟨i0, i1, i2, i3, i4, i5, i6, i7⟩, k0, k1, k2, k3, k4, k5, k6, k7⟩) | (with_reducible exact CY.out) | go_keep)
    (first
      | (go_at_call 42; have IB := Lib.hid IB.out.drew; have CB := Lib.hid CB.out.drew; have AF := Lib.hid AF.out.drew; have SS := Lib.hid (SS.out.later (Below.refl _ _).drew); have X0 := Lib.hid (X0.out.later (Below.refl _ _).drew); have CX := Lib.hid (CX.out.later (Below.refl _ _).drew); have XB := Lib.hid (XB.out.after (Below.refl _ _).drew); have GG := Lib.hid (GG.out.later (Below.refl _ _).drew); refine (to_cmdO c _ _ (CH.out.later AF.out) HCH.out).mono ?_; rintro e w14 ⟨⟨g14, n14, c14, rfl, s14, _⟩, bb⟩; have IB := Lib.hid (IB.out.after bb); have CB := Lib.hid (CB.out.after bb); have AF := Lib.hid (AF.out.after bb); have SS := Lib.hid (SS.out.later bb); have X0 := Lib.hid (X0.out.later bb); have CX := Lib.hid (CX.out.later bb); have XB := Lib.hid (XB.out.after bb); have GG := Lib.hid (GG.out.later bb); have T5 := Lib.hid s14.strs; have CY := Lib.hid (And.intro CB.out.c8 XB.out.c8); clear bb s14)
      | (go_at_call 44; refine (eq_cmd c c _ _ _ CX.out.strs T5.out).mono ?_; rintro e w15 ⟨h15, bb⟩; rw [decide_eq_true rfl] at h15; subst h15; have IB := Lib.hid (IB.out.after bb); have CB := Lib.hid (CB.out.after bb); have AF := Lib.hid (AF.out.after bb); have SS := Lib.hid (SS.out.later bb); have X0 := Lib.hid (X0.out.later bb); have CX := Lib.hid (CX.out.later bb); have XB := Lib.hid (XB.out.after bb); have GG := Lib.hid (GG.out.later bb); have CY := Lib.hid (And.intro CB.out.c8 XB.out.c8); clear bb T5))
  clear i0 i1 i2 i3 i4 i5 i6 i7 k0 k1 k2 k3 k4 k5 k6 k7 CY
  go_wp2_with fail
  refine (mark_instsW _ l.length w6.heap.size w7.heap.size _ (X0.out.wr SM.out) SM.out.1).mono ?_
  rintro e w16 ⟨z, rfl, z1, z2, cg⟩
  have hz2 : z ≤ 4398046511105 := by have := SM.out.1; omega
  have IB := Lib.hid (IB.out.chg cg (.inl (by omega)))
  have CB := Lib.hid (CB.out.chg cg (.inl (by omega)))
  have AF := Lib.hid (AF.out.chg cg (by omega))
  have SS := Lib.hid (SS.out.chg cg (fun k hk => .inl (by have := OBS.out k hk; omega)))
  have GG := Lib.hid (GG.out.chg cg (fun k hk => .inr (by have := OBG.out k hk; omega)))
  have XB := Lib.hid (XB.out.chg cg (.inr (by omega)))
  have hw := (CX.out.wr (lo := w7.heap.size) (hi := w8.heap.size) (fun k hk => by cases hk; exact OB8.out)).chg cg
  have HW := Lib.hid hw
  clear cg hw z2 CX X0
  obtain ⟨k0, k1, k2, k3, k4, k5, k6, k7⟩ := XB.out.c8
  go_wp2_with fail
  clear k0 k1 k2 k3 k4 k5 k6 k7
  refine (mark_cmdW c _ c.ch.length w7.heap.size w8.heap.size z _ HW.out HCH.out z1 (by omega)).mono ?_
  rintro e w17 ⟨rfl, cg⟩
  have IB := Lib.hid (IB.out.chg cg (.inl (by omega)))
  have CB := Lib.hid (CB.out.chg cg (.inl (by omega)))
  have AF := Lib.hid (AF.out.chg cg (by omega))
  have SS := Lib.hid (SS.out.chg cg (fun k hk => .inl (by have := OBS.out k hk; omega)))
  have GG := Lib.hid (GG.out.chg cg (fun k hk => .inr (by have := OBG.out k hk; omega)))
  clear cg XB HW
  obtain ⟨zz, hzz⟩ : ∃ zz : Int, z + (c.ch.length : Int) = zz := ⟨_, rfl⟩
  rw [hzz]
  have dk : decide (zz < 0) = false := dec_f (by omega)
  clear hzz z1 hz2
  go_wp2_with fail
  refine (eq_idL_same _ _ dl _ GG.out.ids SS.out.ids).mono ?_
  rintro e wq ⟨rfl, bb⟩
  have IB := Lib.hid (IB.out.after bb); have CB := Lib.hid (CB.out.after bb); have AF := Lib.hid (AF.out.after bb); have SS := Lib.hid (SS.out.later bb); have GG := Lib.hid (GG.out.later bb)
  clear bb
  clear dk
  go_wp2_with fail
  refine (mark_idL _ dl _ 1 _ GG.out (by have := HLD.out; omega) (by omega) (by omega)).mono ?_
  rintro e w19 ⟨rfl, mm, gg⟩
  have IB := Lib.hid (IB.out.keep gg (fun e => by have := OBG.out _ e.symm; omega))
  have CB := Lib.hid (CB.out.keep gg (fun e => by have := OBG.out _ e.symm; omega))
  have AF := Lib.hid (AF.out.grow gg (fun k hk => by have := OBG.out k hk; omega))
  have SS := Lib.hid (SS.out.keepB gg (fun _ k hk e => by have h1 := OBG.out k hk; have h2 := OBS.out k e; omega))
  have MM := Lib.hid mm
  clear gg mm GG
  obtain ⟨m, hm⟩ : ∃ m : Int, 1 + 2 * (dl.length : Int) = m := ⟨_, rfl⟩
  have HM := Lib.hid hm
  rw [hm]
  have dm : decide (m < 0) = false := dec_f (by omega)
  clear hm
  go_wp2_with fail
  refine (held_idL _ dl 1 _ MM.out.ids (by have := HLD.out; omega) (by omega) (by omega)).mono ?_
  rintro e wh ⟨rfl, bb⟩
  rw [HM.out]
  have IB := Lib.hid (IB.out.after bb); have CB := Lib.hid (CB.out.after bb); have AF := Lib.hid (AF.out.after bb); have SS := Lib.hid (SS.out.later bb); have MM := Lib.hid (MM.out.later bb)
  clear bb
  obtain ⟨i0, i1⟩ := IB.out.c2a
  obtain ⟨k0, k1, k2, k3, k4, k5, k6, k7⟩ := CB.out.c8
  go_wp2_with fail
  go_region_held3 (fun w' => (w'.cell? ⟨w.heap.size, 0, none⟩ = some (.int .i64 r) ∧ w'.cell? ⟨w.heap.size, 1, none⟩ = some (.int .i64 s)) ∧ w'.cell? ⟨w.heap.size + 1, 0, none⟩ = some (.int .i64 c.kind) ∧ w'.cell? ⟨w.heap.size + 1, 1, none⟩ = some (.int .i64 c.client) ∧ w'.cell? ⟨w.heap.size + 1, 2, none⟩ = some (.int .i64 c.no) ∧ w'.cell? ⟨w.heap.size + 1, 3, none⟩ = some (.string c.set) ∧ w'.cell? ⟨w.heap.size + 1, 4, none⟩ = some (.string c.name) ∧ w'.cell? ⟨w.heap.size + 1, 5, none⟩ = some (.string c.tag) ∧ w'.cell? ⟨w.heap.size + 1, 6, none⟩ = some (.int .i64 c.n) ∧ w'.cell? ⟨w.heap.size + 1, 7, none⟩ = some (.slice ac nc cc)) (first | (with_reducible exact ⟨⟨i0, i1⟩, k0, k1, k2, k3, k4, k5, k6, k7⟩) | (with_reducible exact CY.out) | go_keep)
    (first
      | (go_at_call 37; have IB := Lib.hid IB.out.drew; have CB := Lib.hid CB.out.drew; have AF := Lib.hid AF.out.drew; have SS := Lib.hid (SS.out.later (Below.refl _ _).drew); have MM := Lib.hid (MM.out.later (Below.refl _ _).drew); refine (to_insts _ l _ (VH.out.later AF.out) SM.out).mono ?_; rintro e w21 ⟨u21, rfl, o21, bb, _⟩; obtain ⟨a21, n21, c21, rfl⟩ := o21.form; have IB := Lib.hid (IB.out.after bb); have CB := Lib.hid (CB.out.after bb); have AF := Lib.hid (AF.out.after bb); have SS := Lib.hid (SS.out.later bb); have MM := Lib.hid (MM.out.later bb); have T0 := Lib.hid o21.insts; have CY := Lib.hid (And.intro IB.out.c2a CB.out.c8); clear bb o21)
      | (go_at_call 41; refine (to_id r s _).mono ?_; rintro e w22 ⟨rfl, bb⟩; have IB := Lib.hid (IB.out.after bb); have CB := Lib.hid (CB.out.after bb); have AF := Lib.hid (AF.out.after bb); have SS := Lib.hid (SS.out.later bb); have MM := Lib.hid (MM.out.later bb); have T0 := Lib.hid (T0.out.later bb); have CY := Lib.hid (And.intro IB.out.c2a CB.out.c8); clear bb)
      | (go_at_call 42; refine (to_cmdO c _ _ (CH.out.later AF.out) HCH.out).mono ?_; rintro e w23 ⟨⟨g23, n23, c23, rfl, s23, _⟩, bb⟩; have IB := Lib.hid (IB.out.after bb); have CB := Lib.hid (CB.out.after bb); have AF := Lib.hid (AF.out.after bb); have SS := Lib.hid (SS.out.later bb); have MM := Lib.hid (MM.out.later bb); have T0 := Lib.hid (T0.out.later bb); have T5 := Lib.hid s23.strs; have CY := Lib.hid (And.intro IB.out.c2a CB.out.c8); clear bb s23)
      | (go_at_call 21; refine (impl_attrs _ l r s c _ a0 _ T0.out T5.out (HS.out.later AF.out) FS.out.1 FS.out.2.1 FS.out.2.2 SM.out.1).mono ?_; rintro e w24 ⟨⟨u24, h24, r24⟩, bb⟩; rw [HSQ.out] at h24; subst h24; rw [HDL.out] at r24; obtain ⟨aH, nH, cH, rfl⟩ := r24.own.form; have IB := Lib.hid (IB.out.after bb); have CB := Lib.hid (CB.out.after bb); have AF := Lib.hid (AF.out.after bb); have SS := Lib.hid (SS.out.later bb); have MM := Lib.hid (MM.out.later bb); have HH := Lib.hid r24.own.ids; have CY := Lib.hid (And.intro IB.out.c2a CB.out.c8); clear bb r24 T0 T5))
  clear i0 i1 k0 k1 k2 k3 k4 k5 k6 k7 CY
  go_wp2_with fail
  refine (eq_idL_same _ _ dl _ HH.out SS.out.ids).mono ?_
  rintro e wq ⟨rfl, bb⟩
  have IB := Lib.hid (IB.out.after bb); have CB := Lib.hid (CB.out.after bb); have AF := Lib.hid (AF.out.after bb); have SS := Lib.hid (SS.out.later bb); have MM := Lib.hid (MM.out.later bb)
  clear bb
  clear HH
  go_wp2_with fail
  refine (held_idL _ dl 1 _ MM.out.ids (by have := HLD.out; omega) (by omega) (by omega)).mono ?_
  rintro e wh ⟨rfl, bb⟩
  rw [HM.out]
  have IB := Lib.hid (IB.out.after bb); have CB := Lib.hid (CB.out.after bb); have AF := Lib.hid (AF.out.after bb); have SS := Lib.hid (SS.out.later bb); have MM := Lib.hid (MM.out.later bb)
  clear bb
  go_wp2
  go_ret
  exact ⟨rfl, AF.out⟩
end Go.Proofs.YthihihphbcaieaaDoor
