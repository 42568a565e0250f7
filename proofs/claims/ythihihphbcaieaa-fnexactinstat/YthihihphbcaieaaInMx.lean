/- The law's marks on one instance that it was handed: exact. -/
import Derived.Test.YthihihphbcaieaaInCs
import Derived.Test.YthihihphbcaieaaMarkG
namespace Go.Proofs.Ythihihphbcaieaa
open Go.RowKit Go.PlainAid
set_option linter.unusedVariables false

set_option maxHeartbeats 400000 in
theorem mark_cmdX (c : CmdM) (v : Value) (lo : Nat) (w : World) (hv : GrowsS w lo v c.ch) (hn : c.ch.length ≤ 1048576) :
    Calls Try.prog 47 #[.agg #[.int .i64 c.kind, .int .i64 c.client, .int .i64 c.no, .string c.set, .string c.name, .string c.tag, .int .i64 c.n, v], .int .i64 1] w fun e w' => e = .returned (.int .i64 ((c.ch.length : Int) + 1)) ∧ GrowsS w' lo v (mkL c.ch c.ch.length) ∧ w.grownBy w' v.ownBlock := by
  have HV := Lib.hid (hv.alloc (.cells #[.int .i64 c.kind, .int .i64 c.client, .int .i64 c.no, .string c.set, .string c.name, .string c.tag, .int .i64 c.n, v] 39))
  obtain ⟨a, n, cap, rfl⟩ := hv.form
  clear hv
  go_enter Try.func47, Try.ntmps47
  go_wp2_with fail
  refine (mark_strs _ c.ch lo _ HV.out hn).mono ?_
  rintro e w2 ⟨rfl, g2, b2⟩
  have G2 := Lib.hid g2
  have B2 := Lib.hid b2
  clear g2 b2
  go_wp2
  go_ret
  exact ⟨rfl, G2.out, (World.grownBy_alloc _ _ _).trans B2.out⟩
set_option maxHeartbeats 400000 in
theorem held_cmdX (c : CmdM) (v : Value) (w : World) (hv : Strs w v (mkL c.ch c.ch.length)) (hn : c.ch.length ≤ 1048576) :
    Calls Try.prog 48 #[.agg #[.int .i64 c.kind, .int .i64 c.client, .int .i64 c.no, .string c.set, .string c.name, .string c.tag, .int .i64 c.n, v], .int .i64 1] w fun e w' => e = .returned (.int .i64 ((c.ch.length : Int) + 1)) ∧ Below w.heap.size w w' := by
  have HV := Lib.hid (hv.alloc (.cells #[.int .i64 c.kind, .int .i64 c.client, .int .i64 c.no, .string c.set, .string c.name, .string c.tag, .int .i64 c.n, v] 39))
  obtain ⟨a, n, cap, rfl⟩ := hv.form
  clear hv
  go_enter Try.func48, Try.ntmps48
  go_wp2_with fail
  refine (held_strs _ c.ch _ HV.out hn).mono ?_
  rintro e w2 ⟨rfl, b2⟩
  have B2 := Lib.hid b2
  have hd : decide ((c.ch.length : Int) + 1 < 0) = false := decide_eq_false (by omega)
  clear b2
  go_wp2
  go_ret
  exact ⟨rfl, ((Below.refl _ _).alloc (Nat.le_refl _) _).trans (B2.out.mono (by simp))⟩
/-- Strings and Ids lie in different blocks. -/
theorem st_id_apart {w : World} {lo lo' : Nat} {u d : Value} {l : List ByteArray} {m : List Ii} (h : GrowsS w lo u l) (h2 : IdOwn w lo' d m) (hm : 0 < m.length) (k : Nat) (hu : u.ownBlock = some k) (hd : d.ownBlock = some k) : False := by
  obtain ⟨a, cap, rfl, _, _, h3⟩ := h2
  obtain ⟨g, o, cur, rfl, _, r3, _⟩ := h3 hm
  rcases h.2 with ⟨hn, _⟩ | ⟨g', cap', cur', hn, hb', hh, _⟩
  · rw [hn] at hu; cases hu
  · rw [hn] at hu
    have e1 : g' = k := Option.some.inj hu
    have e2 : g = k := Option.some.inj hd
    rw [e1] at hh
    rw [e2, hh] at r3
    simp at r3
set_option maxHeartbeats 400000 in
theorem mark_id_nil (a : Option Addr) (cap : Nat) (s : Int) (w : World) :
    Calls Try.prog 14 #[.slice a 0 cap, .int .i64 s] w fun e w' => e = .returned (.int .i64 s) ∧ w' = w := by
  go_enter Try.func14, Try.ntmps14
  go_wp2
  go_loop [1, 5] (fun kv i => kv = .int .i64 s ∧ i = .int .i64 0) (fun _ _ => 0)
  case atStart => exact ⟨rfl, rfl⟩
  case round =>
    obtain ⟨rfl, rfl⟩ := hrel
    go_wp2
    go_ret
    exact ⟨rfl, rfl⟩
set_option maxRecDepth 100000 in
set_option maxHeartbeats 1000000 in
theorem mark_inst (x : In) (u d : Value) (lo hi : Nat) (w : World) (h : PtO w lo hi x u d) (hlo : lo ≤ w.heap.size) (hn : x.cmd.ch.length ≤ 1048576) (hm : x.deps.length ≤ 1048576) :
    Calls Try.prog 24 #[.agg #[.int .i64 x.rep, .int .i64 x.slot, .int .i64 x.bal, .int .i64 x.vbal, .int .i64 x.st, .int .i64 x.cmd.kind, .int .i64 x.cmd.client, .int .i64 x.cmd.no, .string x.cmd.set, .string x.cmd.name, .string x.cmd.tag, .int .i64 x.cmd.n, u, .int .i64 x.seq, d, .bool x.same], .int .i64 1] w fun e w' => e = .returned (.int .i64 ((x.cmd.ch.length : Int) + 1 + 2 * (x.deps.length : Int))) ∧ GrowsS w' lo u (mkL x.cmd.ch x.cmd.ch.length) ∧ IdOwn w' lo d (mkI ((x.cmd.ch.length : Int) + 1) x.deps x.deps.length) ∧ Below lo w w' := by
  have PH := Lib.hid h
  obtain ⟨⟨a1, n1, c1, rfl⟩, a2, n2, c2, rfl⟩ := h.pts.form
  have X0 := Lib.hid (Bx.new w 41 #[.int .i64 x.rep, .int .i64 x.slot, .int .i64 x.bal, .int .i64 x.vbal, .int .i64 x.st, .int .i64 x.cmd.kind, .int .i64 x.cmd.client, .int .i64 x.cmd.no, .string x.cmd.set, .string x.cmd.name, .string x.cmd.tag, .int .i64 x.cmd.n, .slice a1 n1 c1, .int .i64 x.seq, .slice a2 n2 c2, .bool x.same] _ rfl)
  have B0 := Lib.hid ((Below.refl lo w).alloc hlo (.cells #[.int .i64 x.rep, .int .i64 x.slot, .int .i64 x.bal, .int .i64 x.vbal, .int .i64 x.st, .int .i64 x.cmd.kind, .int .i64 x.cmd.client, .int .i64 x.cmd.no, .string x.cmd.set, .string x.cmd.name, .string x.cmd.tag, .int .i64 x.cmd.n, .slice a1 n1 c1, .int .i64 x.seq, .slice a2 n2 c2, .bool x.same] 41))
  have P0 := Lib.hid (PH.out.later ((Below.refl _ _).alloc (Nat.le_refl _) (.cells #[.int .i64 x.rep, .int .i64 x.slot, .int .i64 x.bal, .int .i64 x.vbal, .int .i64 x.st, .int .i64 x.cmd.kind, .int .i64 x.cmd.client, .int .i64 x.cmd.no, .string x.cmd.set, .string x.cmd.name, .string x.cmd.tag, .int .i64 x.cmd.n, .slice a1 n1 c1, .int .i64 x.seq, .slice a2 n2 c2, .bool x.same] 41)))
  have PHu := Lib.hid (fun k hk => (World.ownsRow.lt PH.out.st.1 k hk).2)
  clear h
  go_enter Try.func24, Try.ntmps24
  go_wp2_with fail
  refine (mark_cmdX x.cmd _ lo _ P0.out.st.1 hn).mono ?_
  rintro e w2 ⟨rfl, g2, b2⟩
  have X2 := Lib.hid (X0.out.keep b2 (fun e => by have := PHu.out _ e.symm; omega))
  have G2 := Lib.hid g2
  have D2 := Lib.hid (P0.out.ids.keepB b2 (fun h0 k hk hd => st_id_apart P0.out.st.1 P0.out.ids h0 k hk hd))
  have B2 := Lib.hid (B0.out.grown b2 (by simp; omega) (fun k hk => (P0.out.bu k hk).1))
  have hz2 : lo ≤ w2.heap.size := by have := b2.size; simp at this; omega
  clear g2 b2 X0 P0 B0
  obtain ⟨x0, x1, x2, x3, x4, x5, x6, x7, x8, x9, x10, x11, x12, x13, x14, x15⟩ := X2.out.c16
  go_wp2_with fail
  clear x0 x1 x2 x3 x4 x5 x6 x7 x8 x9 x10 x11 x12 x13 x14 x15
  by_cases hd0 : 0 < x.deps.length
  · refine (mark_idL _ x.deps lo _ _ D2.out (by omega) (by omega) (by omega)).mono ?_
    rintro e w3 ⟨rfl, d3, b3⟩
    have D3 := Lib.hid d3
    have G3 := Lib.hid (G2.out.keepB b3 (fun k hk hu => st_id_apart G2.out D2.out hd0 k hu hk))
    have B3 := Lib.hid (B2.out.grown b3 hz2 (fun k hk => (D2.out.block hd0 k hk).1))
    clear d3 b3
    go_wp2
    go_ret
    exact ⟨rfl, G3.out, D3.out, B3.out⟩
  · have e0 : x.deps = [] := List.eq_nil_of_length_eq_zero (by omega)
    have hn2 : n2 = 0 := by
      obtain ⟨_, _, e, _⟩ := D2.out
      simp only [Value.slice.injEq] at e
      omega
    subst hn2
    have E0 := Lib.hid e0
    clear e0 hd0
    refine (mark_id_nil _ _ _ _).mono ?_
    rintro e w3 ⟨rfl, rfl⟩
    go_wp2
    go_ret
    refine ⟨?_, G2.out, ?_, B2.out⟩
    · rw [E0.out]; simp
    · have h := D2.out
      rw [E0.out] at h ⊢
      exact h
set_option maxRecDepth 100000 in
set_option maxHeartbeats 1000000 in
theorem held_inst (x : In) (u d : Value) (w : World) (hu : Strs w u (mkL x.cmd.ch x.cmd.ch.length)) (hd : Ids w d (mkI ((x.cmd.ch.length : Int) + 1) x.deps x.deps.length)) (hn : x.cmd.ch.length ≤ 1048576) (hm : x.deps.length ≤ 1048576) :
    Calls Try.prog 25 #[.agg #[.int .i64 x.rep, .int .i64 x.slot, .int .i64 x.bal, .int .i64 x.vbal, .int .i64 x.st, .int .i64 x.cmd.kind, .int .i64 x.cmd.client, .int .i64 x.cmd.no, .string x.cmd.set, .string x.cmd.name, .string x.cmd.tag, .int .i64 x.cmd.n, u, .int .i64 x.seq, d, .bool x.same], .int .i64 1] w fun e w' => e = .returned (.int .i64 ((x.cmd.ch.length : Int) + 1 + 2 * (x.deps.length : Int))) ∧ Below w.heap.size w w' := by
  obtain ⟨a1, n1, c1, rfl⟩ := hu.form
  obtain ⟨a2, n2, c2, rfl⟩ := hd.form
  have X0 := Lib.hid (Bx.new w 41 #[.int .i64 x.rep, .int .i64 x.slot, .int .i64 x.bal, .int .i64 x.vbal, .int .i64 x.st, .int .i64 x.cmd.kind, .int .i64 x.cmd.client, .int .i64 x.cmd.no, .string x.cmd.set, .string x.cmd.name, .string x.cmd.tag, .int .i64 x.cmd.n, .slice a1 n1 c1, .int .i64 x.seq, .slice a2 n2 c2, .bool x.same] _ rfl)
  have A0 := Lib.hid ((Af.refl w).alloc (.cells #[.int .i64 x.rep, .int .i64 x.slot, .int .i64 x.bal, .int .i64 x.vbal, .int .i64 x.st, .int .i64 x.cmd.kind, .int .i64 x.cmd.client, .int .i64 x.cmd.no, .string x.cmd.set, .string x.cmd.name, .string x.cmd.tag, .int .i64 x.cmd.n, .slice a1 n1 c1, .int .i64 x.seq, .slice a2 n2 c2, .bool x.same] 41))
  have HU := Lib.hid hu
  have HD := Lib.hid hd
  clear hu hd
  go_enter Try.func25, Try.ntmps25
  go_wp2_with fail
  refine (held_cmdX x.cmd _ _ (HU.out.later A0.out) hn).mono ?_
  rintro e w2 ⟨rfl, b2⟩
  have X2 := Lib.hid (X0.out.after b2)
  have A2 := Lib.hid (A0.out.after b2)
  have hd1 : decide ((x.cmd.ch.length : Int) + 1 < 0) = false := decide_eq_false (by omega)
  clear b2 X0 A0
  obtain ⟨x0, x1, x2, x3, x4, x5, x6, x7, x8, x9, x10, x11, x12, x13, x14, x15⟩ := X2.out.c16
  go_wp2_with fail
  clear x0 x1 x2 x3 x4 x5 x6 x7 x8 x9 x10 x11 x12 x13 x14 x15
  refine (held_idL _ x.deps _ _ (HD.out.later A2.out) (by omega) (by omega) (by omega)).mono ?_
  rintro e w3 ⟨rfl, b3⟩
  have A3 := Lib.hid (A2.out.after b3)
  have hd2 : decide ((x.cmd.ch.length : Int) + 1 + 2 * (x.deps.length : Int) < 0) = false := decide_eq_false (by omega)
  clear b3
  go_wp2
  go_ret
  exact ⟨rfl, A3.out⟩
end Go.Proofs.Ythihihphbcaieaa
