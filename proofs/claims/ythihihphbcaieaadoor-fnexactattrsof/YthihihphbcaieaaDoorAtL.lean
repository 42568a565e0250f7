/- For the law over AttrsOf: the model's AttrsOf whole, the marks of a command, what they leave alone. -/
import Derived.Test.YthihihphbcaieaaDoorAtS
import Derived.Test.YthihihphbcaieaaDoorInMk
namespace Go.Proofs.YthihihphbcaieaaDoor
open Go.RowKit Go.PlainAid
set_option linter.unusedVariables false

set_option maxRecDepth 100000 in
set_option maxHeartbeats 1000000 in
theorem spec_attrs (v : Value) (l : List In) (r s : Int) (c : CmdM) (cu : Value) (w : World) (hv : Insts w v l) (hc : Strs w cu c.ch) (fs : c.set.size ≤ 9223372036854775807) (fn : c.name.size ≤ 9223372036854775807) (ft : c.tag.size ≤ 9223372036854775807) (hl : l.length ≤ 1048576) :
    Calls Tryd.prog 22 #[v, .agg #[.int .i64 r, .int .i64 s], .agg #[.int .i64 c.kind, .int .i64 c.client, .int .i64 c.no, .string c.set, .string c.name, .string c.tag, .int .i64 c.n, cu]] w fun e w' => (∃ u, e = .returned (.tuple #[.int .i64 (atSeq r s c l), u]) ∧ IdRow w' w.heap.size u (atDep r s c l)) ∧ Below w.heap.size w w' := by
  have VH := Lib.hid hv
  have CH := Lib.hid hc
  obtain ⟨ac, nc, cc, rfl⟩ := hc.form
  obtain ⟨a, n, ca, rfl⟩ := hv.form
  have I0 := Lib.hid ((Bx.new w 40 #[.int .i64 r, .int .i64 s] _ rfl).alloc (.cells #[.int .i64 c.kind, .int .i64 c.client, .int .i64 c.no, .string c.set, .string c.name, .string c.tag, .int .i64 c.n, .slice ac nc cc] 43))
  have C0 := Lib.hid (Bx.new (w.alloc (.cells #[.int .i64 r, .int .i64 s] 40)) 43 #[.int .i64 c.kind, .int .i64 c.client, .int .i64 c.no, .string c.set, .string c.name, .string c.tag, .int .i64 c.n, .slice ac nc cc] (w.heap.size + 1) (by simp))
  have A0 := Lib.hid (((Af.refl w).alloc (.cells #[.int .i64 r, .int .i64 s] 40)).alloc (.cells #[.int .i64 c.kind, .int .i64 c.client, .int .i64 c.no, .string c.set, .string c.name, .string c.tag, .int .i64 c.n, .slice ac nc cc] 43))
  clear hv hc
  go_enter Tryd.func22, Tryd.ntmps22
  go_wp2_with fail
  refine (spec_insts _ l _ (VH.out.later A0.out)).mono ?_
  rintro e w1 ⟨rfl, b1⟩
  have I1 := Lib.hid (I0.out.after b1)
  have C1 := Lib.hid (C0.out.after b1)
  have A1 := Lib.hid (A0.out.after b1)
  clear b1 I0 C0 A0
  cases hok : instsB l
  · have H1 := Lib.hid (show atSeq r s c l = 0 by rw [atSeq_eq, hok]; rfl)
    have H2 := Lib.hid (show atDep r s c l = [] by rw [atDep_eq, hok]; rfl)
    go_wp2
    go_ret2
    rw [H1.out, H2.out]
    exact ⟨⟨_, rfl, idRow_new _ _ A1.out.size⟩, A1.out.alloc _⟩
  have H1 := Lib.hid (show atSeq r s c l = mxL r s c l + 1 by rw [atSeq_eq, hok]; rfl)
  have H2 := Lib.hid (show atDep r s c l = depL r s c l by rw [atDep_eq, hok]; rfl)
  have HOK := Lib.hid hok
  obtain ⟨i0, i1⟩ := I1.out.c2a
  obtain ⟨k0, k1, k2, k3, k4, k5, k6, k7⟩ := C1.out.c8
  go_wp2_with fail
  clear i0 i1 k0 k1 k2 k3 k4 k5 k6 k7
  refine (spec_l8attrs _ l r s c _ _ (VH.out.later A1.out) (CH.out.later A1.out) fs fn ft hl HOK.out).mono ?_
  rintro e w2 ⟨⟨u, rfl, ru⟩, b2⟩
  have R2 := Lib.hid (ru.mono A1.out.size)
  have A2 := Lib.hid (A1.out.after b2)
  clear ru b2 hok
  go_wp2
  go_ret2
  rw [H1.out, H2.out]
  exact ⟨⟨_, rfl, R2.out⟩, A2.out⟩
theorem chg_block {w w' : World} {m : TypeId → Bool} {lo hi : Nat} (hc : Chg m lo hi w w') (k : Nat) (hk : k < w.heap.size) (h : k < lo ∨ hi ≤ k) : w'.heap[k]? = w.heap[k]? := hc.out k hk h
theorem Bx.chg {w w' : World} {g : Nat} {t : TypeId} {cs : Array Value} {m : TypeId → Bool} {lo hi : Nat} (h : Bx w g t cs) (hc : Chg m lo hi w w') (hg : g < lo ∨ hi ≤ g) : Bx w' g t cs := (hc.out g h.lt hg).trans h
theorem IdOwn.chg {w w' : World} {base : Nat} {v : Value} {l : List Ii} {m : TypeId → Bool} {lo hi : Nat} (h : IdOwn w base v l) (hc : Chg m lo hi w w') (hb : ∀ k, v.ownBlock = some k → k < lo ∨ hi ≤ k) : IdOwn w' base v l := by
  obtain ⟨a, cap, e, h1, h2, h3⟩ := h
  refine ⟨a, cap, e, h1, h2, fun h0 => ?_⟩
  obtain ⟨g, o, cur, r1, r2, r3, r4⟩ := h3 h0
  refine ⟨g, o, cur, r1, r2, ?_, r4⟩
  subst e; subst r1
  rw [hc.out g (Array.getElem?_eq_some_iff.1 r3).1 (hb g rfl)]
  exact r3
theorem StO.wr {w : World} {lo hi lo' : Nat} {v : Value} {l : List ByteArray} (h : StO w lo' v l) (hb : ∀ k, v.ownBlock = some k → lo ≤ k ∧ k < hi) : Wr w 9 1 lo hi v l.length := by
  obtain ⟨hg, _⟩ := h
  rcases hg.2 with ⟨hn, hz⟩ | ⟨g', cap', cur', hn, hb', hh, hc1, hc2, hc3, hc4⟩
  · exact ⟨none, 0, by rw [hn, hz], fun h => by omega⟩
  · exact ⟨_, cap', hn, fun _ => ⟨g', 0, cur', rfl, hb g' (by rw [hn]; rfl), hh, by omega⟩⟩
set_option maxHeartbeats 400000 in
theorem mark_cmdW (c : CmdM) (v : Value) (n lo hi : Nat) (s : Int) (w : World) (hv : Wr w 9 1 lo hi v n) (hn : n ≤ 1048576) (hs0 : 1 ≤ s) (hs1 : s ≤ 17592186044416) :
    Calls Tryd.prog 46 #[.agg #[.int .i64 c.kind, .int .i64 c.client, .int .i64 c.no, .string c.set, .string c.name, .string c.tag, .int .i64 c.n, v], .int .i64 s] w fun e w' => e = .returned (.int .i64 (s + n)) ∧ Chg (fun t => t == 9) lo hi w w' := by
  have c0 : Chg (fun t => t == 9) lo hi w (w.alloc (.cells #[.int .i64 c.kind, .int .i64 c.client, .int .i64 c.no, .string c.set, .string c.name, .string c.tag, .int .i64 c.n, v] 43)) := chg_below ((Below.refl _ _).alloc (Nat.le_refl _) _)
  have HV := Lib.hid (hv.chg c0)
  have C0 := Lib.hid c0
  obtain ⟨a, cap, rfl, _⟩ := hv
  clear c0
  go_enter Tryd.func46, Tryd.ntmps46
  go_wp2_with fail
  refine (mark_strW _ n lo hi s _ HV.out hn hs0 hs1).mono ?_
  rintro e w2 ⟨rfl, c2⟩
  have C2 := Lib.hid (C0.out.trans c2)
  clear c2
  go_wp2
  go_ret
  exact ⟨rfl, C2.out⟩
end Go.Proofs.YthihihphbcaieaaDoor
