/- One instance that a call owns is marked: nothing beside its parts changes. -/
import Derived.Test.YtdokglckfabdaaaDoorExM
namespace Go.Proofs.YtdokglckfabdaaaDoor
open Go.RowKit Go.PlainAid
set_option linter.unusedVariables false

theorem Chg.toOut {m : TypeId → Bool} {lo hi : Nat} {w w' : World} (h : Chg m lo hi w w') : Out lo hi w w' := ⟨h.os, h.tape, h.output, h.size, h.out⟩
set_option maxRecDepth 100000 in
set_option maxHeartbeats 1000000 in
theorem mark_instO (x : In) (u d : Value) (lo hi : Nat) (w : World) (h : PtO w lo hi x u d) (hn : x.cmd.ch.length ≤ 1048576) (hm : x.deps.length ≤ 1048576) :
    Calls Tryd.prog 13 #[.agg #[.int .i64 x.rep, .int .i64 x.slot, .int .i64 x.bal, .int .i64 x.vbal, .int .i64 x.st, .int .i64 x.cmd.kind, .int .i64 x.cmd.client, .int .i64 x.cmd.no, .string x.cmd.set, .string x.cmd.name, .string x.cmd.tag, .int .i64 x.cmd.n, u, .int .i64 x.seq, d, .bool x.same], .int .i64 1] w fun e w' => e = .returned (.int .i64 ((x.cmd.ch.length : Int) + 1 + 2 * (x.deps.length : Int))) ∧ GrowsS w' lo u (mkL x.cmd.ch x.cmd.ch.length) ∧ IdOwn w' lo d (mkI ((x.cmd.ch.length : Int) + 1) x.deps x.deps.length) ∧ Out lo hi w w' := by
  have PH := Lib.hid h
  obtain ⟨⟨a1, n1, c1, rfl⟩, a2, n2, c2, rfl⟩ := h.pts.form
  have X0 := Lib.hid (Bx.new w 40 #[.int .i64 x.rep, .int .i64 x.slot, .int .i64 x.bal, .int .i64 x.vbal, .int .i64 x.st, .int .i64 x.cmd.kind, .int .i64 x.cmd.client, .int .i64 x.cmd.no, .string x.cmd.set, .string x.cmd.name, .string x.cmd.tag, .int .i64 x.cmd.n, .slice a1 n1 c1, .int .i64 x.seq, .slice a2 n2 c2, .bool x.same] _ rfl)
  have B0 := Lib.hid (out_below (lo := lo) (hi := hi) ((Below.refl _ w).alloc (Nat.le_refl _) (.cells #[.int .i64 x.rep, .int .i64 x.slot, .int .i64 x.bal, .int .i64 x.vbal, .int .i64 x.st, .int .i64 x.cmd.kind, .int .i64 x.cmd.client, .int .i64 x.cmd.no, .string x.cmd.set, .string x.cmd.name, .string x.cmd.tag, .int .i64 x.cmd.n, .slice a1 n1 c1, .int .i64 x.seq, .slice a2 n2 c2, .bool x.same] 40)))
  have P0 := Lib.hid (PH.out.later ((Below.refl _ _).alloc (Nat.le_refl _) (.cells #[.int .i64 x.rep, .int .i64 x.slot, .int .i64 x.bal, .int .i64 x.vbal, .int .i64 x.st, .int .i64 x.cmd.kind, .int .i64 x.cmd.client, .int .i64 x.cmd.no, .string x.cmd.set, .string x.cmd.name, .string x.cmd.tag, .int .i64 x.cmd.n, .slice a1 n1 c1, .int .i64 x.seq, .slice a2 n2 c2, .bool x.same] 40)))
  have PHu := Lib.hid (fun k hk => (World.ownsRow.lt PH.out.st.1 k hk).2)
  clear h
  go_enter Tryd.func13, Tryd.ntmps13
  go_wp2_with fail
  refine (mark_cmdX x.cmd _ lo _ P0.out.st.1 hn).mono ?_
  rintro e w2 ⟨rfl, g2, b2⟩
  have X2 := Lib.hid (X0.out.keep b2 (fun e => by have := PHu.out _ e.symm; omega))
  have G2 := Lib.hid g2
  have D2 := Lib.hid (P0.out.ids.keepB b2 (fun h0 k hk hd => st_id_apart P0.out.st.1 P0.out.ids h0 k hk hd))
  have B2 := Lib.hid (B0.out.trans (out_grown b2 (fun k hk => P0.out.bu k hk)))
  clear g2 b2 X0 P0 B0
  obtain ⟨x0, x1, x2, x3, x4, x5, x6, x7, x8, x9, x10, x11, x12, x13, x14, x15⟩ := X2.out.c16
  go_wp2_with fail
  clear x0 x1 x2 x3 x4 x5 x6 x7 x8 x9 x10 x11 x12 x13 x14 x15
  by_cases hd0 : 0 < x.deps.length
  · refine (mark_idL _ x.deps lo _ _ D2.out (by omega) (by omega) (by omega)).mono ?_
    rintro e w3 ⟨rfl, d3, b3⟩
    have D3 := Lib.hid d3
    have G3 := Lib.hid (G2.out.keepB b3 (fun k hk hu => st_id_apart G2.out D2.out hd0 k hu hk))
    have B3 := Lib.hid (B2.out.trans (out_grown b3 (fun k hk => PH.out.bd k hk)))
    clear d3 b3
    go_wp2
    go_ret
    exact ⟨rfl, G3.out, D3.out, B3.out⟩
  · have e0 : x.deps = [] := List.eq_nil_of_length_eq_zero (by omega)
    have hn2 : n2 = 0 := by
      obtain ⟨_, _, e, _⟩ := D2.out
      simp only [Value.slice.injEq] at e
      omega
    subst hn2
    have E0 := Lib.hid e0
    clear e0 hd0
    refine (mark_id_nil _ _ _ _).mono ?_
    rintro e w3 ⟨rfl, rfl⟩
    go_wp2
    go_ret
    refine ⟨?_, G2.out, ?_, B2.out⟩
    · rw [E0.out]; simp
    · have h := D2.out
      rw [E0.out] at h ⊢
      exact h
end Go.Proofs.YtdokglckfabdaaaDoor
