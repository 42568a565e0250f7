/- The law over InstAt and its model: it returns true. -/
import Derived.Test.YthihihphbcaieaaIaS
import Derived.Test.YthihihphbcaieaaIaI
import Derived.Test.YthihihphbcaieaaExO
import Derived.Deep.Cut
namespace Go.Proofs.Ythihihphbcaieaa
open Go.RowKit Go.PlainAid
set_option linter.unusedVariables false

theorem atX_small {l : List In} (h : Sm l) (r s : Int) : (atX l r s).cmd.ch.length ≤ 1048576 ∧ (atX l r s).deps.length ≤ 1048576 := by
  unfold atX
  split
  · rename_i j hj
    rw [List.find?_range_eq_some] at hj
    have := hj.2.1
    rw [List.mem_range] at this
    exact h.2 j this
  · exact ⟨by simp, by simp⟩
theorem mkL_small (l : List ByteArray) (hs : l.length ≤ 1048576) : ∀ j, j < (mkL l l.length).length → (el (mkL l l.length) j).size ≤ 9223372036854775807 := by
  intro j hj
  rw [mkL_length] at hj
  rw [mkL_el l _ j hj, if_pos hj]
  have := mkT_size (j + 1)
  omega
theorem Try.sizeInst : (Try.prog.info? 41).map (·.size) = some 16 := by kernel_rfl
/-- A whole instance is loaded. -/
theorem wp_load_inst {w : World} {ops : Array Oper} {rest : List Oper} {o : Oper} {a : Act} {Q : Exit → Act → World → Prop} {g : Nat} {x : In} {u d : Value} (hB : Bx w g 41 #[.int .i64 x.rep, .int .i64 x.slot, .int .i64 x.bal, .int .i64 x.vbal, .int .i64 x.st, .int .i64 x.cmd.kind, .int .i64 x.cmd.client, .int .i64 x.cmd.no, .string x.cmd.set, .string x.cmd.name, .string x.cmd.tag, .int .i64 x.cmd.n, u, .int .i64 x.seq, d, .bool x.same])
    (hgd : o.guard = none) (y : Operand) (ho : o.op = .load 41 y) (hx : a.eval y = .pointer (some ⟨g, 0, none⟩)) (h : wpList Try.prog ops Q rest (a.put o.dst (.agg #[.int .i64 x.rep, .int .i64 x.slot, .int .i64 x.bal, .int .i64 x.vbal, .int .i64 x.st, .int .i64 x.cmd.kind, .int .i64 x.cmd.client, .int .i64 x.cmd.no, .string x.cmd.set, .string x.cmd.name, .string x.cmd.tag, .int .i64 x.cmd.n, u, .int .i64 x.seq, d, .bool x.same])) w) : wpList Try.prog ops Q (o :: rest) a w :=
  wpList_load_row hgd 41 y ho g hx 41 _ (0, 0) _ hB Try.underlying41 rfl Try.sizeInst h
/-- The block of a pointer, the cells of a struct; a block that holds an instance; cells that are an instance's. -/
def gOf : Value → Nat
  | .pointer (some ⟨g, _, _⟩) => g
  | _ => 0
def cOf : Value → Array Value
  | .agg c => c
  | _ => #[]
theorem gOf_eq (g o : Nat) (k : Option Nat) : gOf (.pointer (some ⟨g, o, k⟩)) = g := rfl
theorem cOf_eq (c : Array Value) : cOf (.agg c) = c := rfl
def rowI (w : World) (g : Nat) : Prop := ∃ old, w.heap[g]? = some (.cells old 41 (0, 0)) ∧ old.size = 16
def okC (c : Array Value) : Prop := c.size = 16 ∧ c.all (·.oneCell') = true
theorem rowI_mk {w : World} {g : Nat} (h : Bx w g 41 #[.int .i64 0, .int .i64 0, .int .i64 0, .int .i64 0, .int .i64 0, .int .i64 0, .int .i64 0, .int .i64 0, .string ⟨#[]⟩, .string ⟨#[]⟩, .string ⟨#[]⟩, .int .i64 0, .slice none 0 0, .int .i64 0, .slice none 0 0, .bool false]) : rowI w g := ⟨_, h, rfl⟩
theorem okC_mk (x : In) (a a' : Option Addr) (n c n' c' : Nat) : okC #[.int .i64 x.rep, .int .i64 x.slot, .int .i64 x.bal, .int .i64 x.vbal, .int .i64 x.st, .int .i64 x.cmd.kind, .int .i64 x.cmd.client, .int .i64 x.cmd.no, .string x.cmd.set, .string x.cmd.name, .string x.cmd.tag, .int .i64 x.cmd.n, .slice a n c, .int .i64 x.seq, .slice a' n' c', .bool x.same] := ⟨rfl, by simp [Value.oneCell']⟩
/-- An instance is stored whole. -/
theorem store_pre (p y : Operand) (ty : TypeId) (pos : String) (af : Array Edge) (gd : Option (Tmp × Bool)) (a : Act) (w : World) (K : Act → World → Prop) (Q : Exit → Act → World → Prop)
    (hx : a.eval p = .pointer (some ⟨gOf (a.eval p), 0, none⟩)) (hy : a.eval y = .agg (cOf (a.eval y))) (hs : okC (cOf (a.eval y))) (hr : rowI w (gOf (a.eval p))) :
    Oper.wp Try.prog ⟨none, .store 41 p y, ty, pos, af, gd⟩ a w K Q = K a (w.setRow (gOf (a.eval p)) (cOf (a.eval y))) := by
  obtain ⟨old, ho, hz⟩ := hr
  obtain ⟨hs, h1⟩ := hs
  generalize hvx : a.eval p = vx at hx ho ⊢
  generalize hvy : a.eval y = vy at hy hs h1 ⊢
  generalize gOf vx = g at hx ho ⊢
  generalize cOf vy = c at hy hs h1 ⊢
  subst hx hy
  unfold Oper.wp execOp
  simp only [hvx, hvy, Instr.storeAt, Instr.sureAddr, Sem.run_bind, Sem.run_pure, Result.andThen_ok, run_storeVar_row w g 41 41 old c ho (by rw [Try.sizeInst, hs]) (by rw [hz, hs]) h1]
  rfl
attribute [local go_sem] gOf_eq cOf_eq okC_mk
attribute [local go_sem ↓] store_pre
theorem setRow_grown (w : World) (g : Nat) (c : Array Value) : w.grownBy (w.setRow g c) (some g) :=
  ⟨rfl, rfl, rfl, by simp, fun k _ hne => setRow_other w g k c (by intro e; subst e; exact hne rfl)⟩
/-- A made instance is filled. -/
theorem ia_fill {w : World} {yb lo hi : Nat} {x : In} {u d : Value} (h : Bx w yb 41 #[.int .i64 0, .int .i64 0, .int .i64 0, .int .i64 0, .int .i64 0, .int .i64 0, .int .i64 0, .int .i64 0, .string ⟨#[]⟩, .string ⟨#[]⟩, .string ⟨#[]⟩, .int .i64 0, .slice none 0 0, .int .i64 0, .slice none 0 0, .bool false]) (hp : PtO w lo hi x u d) :
    Bx (w.setRow yb #[.int .i64 x.rep, .int .i64 x.slot, .int .i64 x.bal, .int .i64 x.vbal, .int .i64 x.st, .int .i64 x.cmd.kind, .int .i64 x.cmd.client, .int .i64 x.cmd.no, .string x.cmd.set, .string x.cmd.name, .string x.cmd.tag, .int .i64 x.cmd.n, u, .int .i64 x.seq, d, .bool x.same]) yb 41 #[.int .i64 x.rep, .int .i64 x.slot, .int .i64 x.bal, .int .i64 x.vbal, .int .i64 x.st, .int .i64 x.cmd.kind, .int .i64 x.cmd.client, .int .i64 x.cmd.no, .string x.cmd.set, .string x.cmd.name, .string x.cmd.tag, .int .i64 x.cmd.n, u, .int .i64 x.seq, d, .bool x.same] ∧ PtO (w.setRow yb #[.int .i64 x.rep, .int .i64 x.slot, .int .i64 x.bal, .int .i64 x.vbal, .int .i64 x.st, .int .i64 x.cmd.kind, .int .i64 x.cmd.client, .int .i64 x.cmd.no, .string x.cmd.set, .string x.cmd.name, .string x.cmd.tag, .int .i64 x.cmd.n, u, .int .i64 x.seq, d, .bool x.same]) lo hi x u d ∧ (w.setRow yb #[.int .i64 x.rep, .int .i64 x.slot, .int .i64 x.bal, .int .i64 x.vbal, .int .i64 x.st, .int .i64 x.cmd.kind, .int .i64 x.cmd.client, .int .i64 x.cmd.no, .string x.cmd.set, .string x.cmd.name, .string x.cmd.tag, .int .i64 x.cmd.n, u, .int .i64 x.seq, d, .bool x.same]).heap.size = w.heap.size ∧ w.grownBy (w.setRow yb #[.int .i64 x.rep, .int .i64 x.slot, .int .i64 x.bal, .int .i64 x.vbal, .int .i64 x.st, .int .i64 x.cmd.kind, .int .i64 x.cmd.client, .int .i64 x.cmd.no, .string x.cmd.set, .string x.cmd.name, .string x.cmd.tag, .int .i64 x.cmd.n, u, .int .i64 x.seq, d, .bool x.same]) (some yb) := by
  have hg := setRow_grown w yb #[.int .i64 x.rep, .int .i64 x.slot, .int .i64 x.bal, .int .i64 x.vbal, .int .i64 x.st, .int .i64 x.cmd.kind, .int .i64 x.cmd.client, .int .i64 x.cmd.no, .string x.cmd.set, .string x.cmd.name, .string x.cmd.tag, .int .i64 x.cmd.n, u, .int .i64 x.seq, d, .bool x.same]
  obtain ⟨n1, n2⟩ := hp.ne_row h
  exact ⟨setRow_heap w yb _ _ 41 (0, 0) h, hp.keptT hg (fun k hk => by cases hk; exact n1) (fun h0 k hk => by cases hk; exact n2 h0), setRow_size w yb _, hg⟩
theorem bx_setRow {w : World} {g yb : Nat} {x y : Value} (h : Bx w g 34 #[x, y]) (hY : Bx w yb 41 #[.int .i64 0, .int .i64 0, .int .i64 0, .int .i64 0, .int .i64 0, .int .i64 0, .int .i64 0, .int .i64 0, .string ⟨#[]⟩, .string ⟨#[]⟩, .string ⟨#[]⟩, .int .i64 0, .slice none 0 0, .int .i64 0, .slice none 0 0, .bool false]) (c : Array Value) :
    (w.setRow yb c).cell? ⟨g, 0, none⟩ = some x ∧ (w.setRow yb c).cell? ⟨g, 1, none⟩ = some y := by
  have hne : g ≠ yb := fun e => by
    subst e
    have := type_ne h hY
    cases this
  exact ⟨(cell_setRow_other w yb c _ hne).trans h.c2.1, (cell_setRow_other w yb c _ hne).trans h.c2.2⟩
set_option maxRecDepth 100000 in
set_option maxHeartbeats 8000000 in
theorem law_instAt (v : Value) (l : List In) (x : Ii) (w : World) (hv : Insts w v l) :
    Calls Try.prog 5 #[v, .agg #[.int .i64 x.rep, .int .i64 x.slot]] w fun e w' => e = .returned (.bool true) ∧ Below w.heap.size w w' := by
  obtain ⟨r, s⟩ := x
  dsimp only
  obtain ⟨va, vn, vc, hve⟩ := hv.form
  subst hve
  have VH := Lib.hid hv
  have IB := Lib.hid (Bx.new w 34 #[.int .i64 r, .int .i64 s] _ rfl)
  have AF := Lib.hid ((Af.refl w).alloc (.cells #[.int .i64 r, .int .i64 s] 34))
  clear hv
  go_enter Try.func5, Try.ntmps5
  go_wp2_with fail
  refine (sz_instsF _ l _ (VH.out.later AF.out)).mono ?_
  rintro e w1 ⟨hsz, bb⟩
  have IB := Lib.hid (IB.out.after bb)
  have AF := Lib.hid (AF.out.after bb)
  clear bb
  rcases hsz with rfl | ⟨q, rfl, q0, q1, sm⟩
  · go_wp2
    go_ret
    exact ⟨rfl, AF.out⟩
  have SF := Lib.hid sm
  have SM := Lib.hid sm.sm
  have hd : decide (q < 0) = false := dec_f (by omega)
  clear sm
  obtain ⟨xx, hxx⟩ : ∃ xx, atX l r s = xx := ⟨_, rfl⟩
  have HCH := Lib.hid (show xx.cmd.ch.length ≤ 1048576 ∧ xx.deps.length ≤ 1048576 by rw [← hxx]; exact atX_small SM.out r s)
  have CI := Lib.hid (fun (u : Value) W (hW : Insts W u l) => (by have := impl_at u l r s W hW SF.out; rw [hxx] at this; exact this : Calls Try.prog 20 #[u, .agg #[.int .i64 r, .int .i64 s]] W fun e w' => (∃ a n c a' n' c', e = .returned (.agg #[.int .i64 xx.rep, .int .i64 xx.slot, .int .i64 xx.bal, .int .i64 xx.vbal, .int .i64 xx.st, .int .i64 xx.cmd.kind, .int .i64 xx.cmd.client, .int .i64 xx.cmd.no, .string xx.cmd.set, .string xx.cmd.name, .string xx.cmd.tag, .int .i64 xx.cmd.n, .slice a n c, .int .i64 xx.seq, .slice a' n' c', .bool xx.same]) ∧ PtO w' W.heap.size w'.heap.size xx (.slice a n c) (.slice a' n' c')) ∧ Below W.heap.size W w'))
  have CS := Lib.hid (fun (u : Value) W (hW : Insts W u l) => (by have := spec_at u l r s W hW SF.out; rw [hxx] at this; exact this : Calls Try.prog 17 #[u, .agg #[.int .i64 r, .int .i64 s]] W fun e w' => (∃ a n c a' n' c', e = .returned (.agg #[.int .i64 xx.rep, .int .i64 xx.slot, .int .i64 xx.bal, .int .i64 xx.vbal, .int .i64 xx.st, .int .i64 xx.cmd.kind, .int .i64 xx.cmd.client, .int .i64 xx.cmd.no, .string xx.cmd.set, .string xx.cmd.name, .string xx.cmd.tag, .int .i64 xx.cmd.n, .slice a n c, .int .i64 xx.seq, .slice a' n' c', .bool xx.same]) ∧ PtO w' W.heap.size w'.heap.size xx (.slice a n c) (.slice a' n' c')) ∧ Below W.heap.size W w'))
  clear hxx
  obtain ⟨i0, i1⟩ := IB.out.c2
  have AFa := Lib.hid AF.out.drew; have IBa := Lib.hid IB.out.drew; have NBa := Lib.hid (show Below w1.heap.size w1 w1.drew from (Below.refl _ _).drew)
  have AFb := Lib.hid (AF.out.alloc (.cells #[.int .i64 0, .int .i64 0, .int .i64 0, .int .i64 0, .int .i64 0, .int .i64 0, .int .i64 0, .int .i64 0, .string ⟨#[]⟩, .string ⟨#[]⟩, .string ⟨#[]⟩, .int .i64 0, .slice none 0 0, .int .i64 0, .slice none 0 0, .bool false] 41)).drew; have IBb := Lib.hid (IB.out.alloc (.cells #[.int .i64 0, .int .i64 0, .int .i64 0, .int .i64 0, .int .i64 0, .int .i64 0, .int .i64 0, .int .i64 0, .string ⟨#[]⟩, .string ⟨#[]⟩, .string ⟨#[]⟩, .int .i64 0, .slice none 0 0, .int .i64 0, .slice none 0 0, .bool false] 41)).drew; have NBb := Lib.hid (show Below w1.heap.size w1 (w1.alloc (.cells #[.int .i64 0, .int .i64 0, .int .i64 0, .int .i64 0, .int .i64 0, .int .i64 0, .int .i64 0, .int .i64 0, .string ⟨#[]⟩, .string ⟨#[]⟩, .string ⟨#[]⟩, .int .i64 0, .slice none 0 0, .int .i64 0, .slice none 0 0, .bool false] 41)).drew from ((Below.refl _ _).alloc (Nat.le_refl _) _).drew); have YBb := Lib.hid (Bx.new w1 41 #[.int .i64 0, .int .i64 0, .int .i64 0, .int .i64 0, .int .i64 0, .int .i64 0, .int .i64 0, .int .i64 0, .string ⟨#[]⟩, .string ⟨#[]⟩, .string ⟨#[]⟩, .int .i64 0, .slice none 0 0, .int .i64 0, .slice none 0 0, .bool false] _ rfl).drew; have hyb : w1.heap.size ≤ w1.heap.size := Nat.le_refl _
  have CY := Lib.hid (IBa.out.c2); have CZ := Lib.hid (IBb.out.c2)
  go_wp2_with fail
  go_cut [6] from 18 (fun sp wx => ∃ g a3 n3 c3 a4 n4 c4, sp = .pointer (some ⟨g, 0, none⟩) ∧ w1.heap.size ≤ g ∧ g < wx.heap.size ∧ Bx wx g 41 #[.int .i64 xx.rep, .int .i64 xx.slot, .int .i64 xx.bal, .int .i64 xx.vbal, .int .i64 xx.st, .int .i64 xx.cmd.kind, .int .i64 xx.cmd.client, .int .i64 xx.cmd.no, .string xx.cmd.set, .string xx.cmd.name, .string xx.cmd.tag, .int .i64 xx.cmd.n, .slice a3 n3 c3, .int .i64 xx.seq, .slice a4 n4 c4, .bool xx.same] ∧ PtO wx w1.heap.size wx.heap.size xx (.slice a3 n3 c3) (.slice a4 n4 c4) ∧ Below w1.heap.size w1 wx)
  case first =>
    go_region_held3 (fun w' => w'.cell? ⟨w.heap.size, 0, none⟩ = some (.int .i64 r) ∧ w'.cell? ⟨w.heap.size, 1, none⟩ = some (.int .i64 s)) (first | (with_reducible exact CY.out) | (with_reducible exact CZ.out) | (with_reducible exact CX.out _) | (with_reducible exact CW.out _) | (with_reducible exact ⟨i0, i1⟩) | go_keep)
      (first
        | (go_at_call 18; (first | (refine (to_insts _ l _ (VH.out.later AFa.out) SM.out).mono ?_; rintro e wa ⟨ua, rfl, oa, bb, _⟩; obtain ⟨aa, na, ca, rfl⟩ := oa.form; have AFa := Lib.hid (AFa.out.after bb); have IBa := Lib.hid (IBa.out.after bb); have NBa := Lib.hid (NBa.out.trans (bb.mono NBa.out.size)); have AFb := Lib.hid (AFa.out.alloc (.cells #[.int .i64 0, .int .i64 0, .int .i64 0, .int .i64 0, .int .i64 0, .int .i64 0, .int .i64 0, .int .i64 0, .string ⟨#[]⟩, .string ⟨#[]⟩, .string ⟨#[]⟩, .int .i64 0, .slice none 0 0, .int .i64 0, .slice none 0 0, .bool false] 41)); have IBb := Lib.hid (IBa.out.alloc (.cells #[.int .i64 0, .int .i64 0, .int .i64 0, .int .i64 0, .int .i64 0, .int .i64 0, .int .i64 0, .int .i64 0, .string ⟨#[]⟩, .string ⟨#[]⟩, .string ⟨#[]⟩, .int .i64 0, .slice none 0 0, .int .i64 0, .slice none 0 0, .bool false] 41)); have NBb := Lib.hid (NBa.out.alloc NBa.out.size (.cells #[.int .i64 0, .int .i64 0, .int .i64 0, .int .i64 0, .int .i64 0, .int .i64 0, .int .i64 0, .int .i64 0, .string ⟨#[]⟩, .string ⟨#[]⟩, .string ⟨#[]⟩, .int .i64 0, .slice none 0 0, .int .i64 0, .slice none 0 0, .bool false] 41)); have YBb := Lib.hid (Bx.new wa 41 #[.int .i64 0, .int .i64 0, .int .i64 0, .int .i64 0, .int .i64 0, .int .i64 0, .int .i64 0, .int .i64 0, .string ⟨#[]⟩, .string ⟨#[]⟩, .string ⟨#[]⟩, .int .i64 0, .slice none 0 0, .int .i64 0, .slice none 0 0, .bool false] _ rfl); have hyb : w1.heap.size ≤ wa.heap.size := NBa.out.size; have T0a := Lib.hid oa.insts; have T0b := Lib.hid (T0a.out.alloc (.cells #[.int .i64 0, .int .i64 0, .int .i64 0, .int .i64 0, .int .i64 0, .int .i64 0, .int .i64 0, .int .i64 0, .string ⟨#[]⟩, .string ⟨#[]⟩, .string ⟨#[]⟩, .int .i64 0, .slice none 0 0, .int .i64 0, .slice none 0 0, .bool false] 41)); have CY := Lib.hid (IBa.out.c2); have CZ := Lib.hid (IBb.out.c2); clear bb oa) | (refine (to_insts _ l _ (VH.out.later AFb.out) SM.out).mono ?_; rintro e wa ⟨ua, rfl, oa, bb, _⟩; obtain ⟨aa, na, ca, rfl⟩ := oa.form; have AFb := Lib.hid (AFb.out.after bb); have IBb := Lib.hid (IBb.out.after bb); have NBb := Lib.hid (NBb.out.trans (bb.mono NBb.out.size)); have YBb := Lib.hid (YBb.out.after bb); have T0b := Lib.hid oa.insts; clear AFa IBa NBa CY; have CZ := Lib.hid (IBb.out.c2); clear bb oa)))
        | (go_at_call 19; refine (to_id r s _).mono ?_; rintro e wb ⟨rfl, bb⟩; (first | (have T0a := Lib.hid (T0a.out.later bb); have AFa := Lib.hid (AFa.out.after bb); have IBa := Lib.hid (IBa.out.after bb); have NBa := Lib.hid (NBa.out.trans (bb.mono NBa.out.size)); have hzb := NBa.out.size; have AFb := Lib.hid (AFa.out.alloc (.cells #[.int .i64 0, .int .i64 0, .int .i64 0, .int .i64 0, .int .i64 0, .int .i64 0, .int .i64 0, .int .i64 0, .string ⟨#[]⟩, .string ⟨#[]⟩, .string ⟨#[]⟩, .int .i64 0, .slice none 0 0, .int .i64 0, .slice none 0 0, .bool false] 41)); have IBb := Lib.hid (IBa.out.alloc (.cells #[.int .i64 0, .int .i64 0, .int .i64 0, .int .i64 0, .int .i64 0, .int .i64 0, .int .i64 0, .int .i64 0, .string ⟨#[]⟩, .string ⟨#[]⟩, .string ⟨#[]⟩, .int .i64 0, .slice none 0 0, .int .i64 0, .slice none 0 0, .bool false] 41)); have NBb := Lib.hid (NBa.out.alloc NBa.out.size (.cells #[.int .i64 0, .int .i64 0, .int .i64 0, .int .i64 0, .int .i64 0, .int .i64 0, .int .i64 0, .int .i64 0, .string ⟨#[]⟩, .string ⟨#[]⟩, .string ⟨#[]⟩, .int .i64 0, .slice none 0 0, .int .i64 0, .slice none 0 0, .bool false] 41)); have YBb := Lib.hid (Bx.new wb 41 #[.int .i64 0, .int .i64 0, .int .i64 0, .int .i64 0, .int .i64 0, .int .i64 0, .int .i64 0, .int .i64 0, .string ⟨#[]⟩, .string ⟨#[]⟩, .string ⟨#[]⟩, .int .i64 0, .slice none 0 0, .int .i64 0, .slice none 0 0, .bool false] _ rfl); have hyb : w1.heap.size ≤ wb.heap.size := NBa.out.size; have T0b := Lib.hid (T0a.out.alloc (.cells #[.int .i64 0, .int .i64 0, .int .i64 0, .int .i64 0, .int .i64 0, .int .i64 0, .int .i64 0, .int .i64 0, .string ⟨#[]⟩, .string ⟨#[]⟩, .string ⟨#[]⟩, .int .i64 0, .slice none 0 0, .int .i64 0, .slice none 0 0, .bool false] 41)); have CY := Lib.hid (IBa.out.c2); have CZ := Lib.hid (IBb.out.c2); clear bb) | (have T0b := Lib.hid (T0b.out.later bb); have AFb := Lib.hid (AFb.out.after bb); have IBb := Lib.hid (IBb.out.after bb); have NBb := Lib.hid (NBb.out.trans (bb.mono NBb.out.size)); have YBb := Lib.hid (YBb.out.after bb); have hzb := NBb.out.size; clear AFa IBa NBa CY T0a; have CZ := Lib.hid (IBb.out.c2); clear bb) | (have T0b := Lib.hid (T0b.out.later bb); have AFb := Lib.hid (AFb.out.after bb); have IBb := Lib.hid (IBb.out.after bb); have NBb := Lib.hid (NBb.out.trans (bb.mono NBb.out.size)); have YBb := Lib.hid (YBb.out.after bb); have hzb := NBb.out.size; have CZ := Lib.hid (IBb.out.c2); clear bb)))
        | (go_at_call 17; (first | (refine (CS.out _ _ T0a.out).mono ?_; rintro e wc ⟨⟨a3, n3, c3, a4, n4, c4, rfl, pc⟩, bb⟩; have AFa := Lib.hid (AFa.out.after bb); have IBa := Lib.hid (IBa.out.after bb); have NBa := Lib.hid (NBa.out.trans (bb.mono NBa.out.size)); have AFb := Lib.hid (AFa.out.alloc (.cells #[.int .i64 0, .int .i64 0, .int .i64 0, .int .i64 0, .int .i64 0, .int .i64 0, .int .i64 0, .int .i64 0, .string ⟨#[]⟩, .string ⟨#[]⟩, .string ⟨#[]⟩, .int .i64 0, .slice none 0 0, .int .i64 0, .slice none 0 0, .bool false] 41)); have IBb := Lib.hid (IBa.out.alloc (.cells #[.int .i64 0, .int .i64 0, .int .i64 0, .int .i64 0, .int .i64 0, .int .i64 0, .int .i64 0, .int .i64 0, .string ⟨#[]⟩, .string ⟨#[]⟩, .string ⟨#[]⟩, .int .i64 0, .slice none 0 0, .int .i64 0, .slice none 0 0, .bool false] 41)); have NBb := Lib.hid (NBa.out.alloc NBa.out.size (.cells #[.int .i64 0, .int .i64 0, .int .i64 0, .int .i64 0, .int .i64 0, .int .i64 0, .int .i64 0, .int .i64 0, .string ⟨#[]⟩, .string ⟨#[]⟩, .string ⟨#[]⟩, .int .i64 0, .slice none 0 0, .int .i64 0, .slice none 0 0, .bool false] 41)); have YBb := Lib.hid (Bx.new wc 41 #[.int .i64 0, .int .i64 0, .int .i64 0, .int .i64 0, .int .i64 0, .int .i64 0, .int .i64 0, .int .i64 0, .string ⟨#[]⟩, .string ⟨#[]⟩, .string ⟨#[]⟩, .int .i64 0, .slice none 0 0, .int .i64 0, .slice none 0 0, .bool false] _ rfl); have hyb : w1.heap.size ≤ wc.heap.size := NBa.out.size; have PA := Lib.hid pc; have CX := Lib.hid (fun ob => (IBa.out.alloc ob).c2); have CW := Lib.hid (fun c => bx_setRow IBb.out YBb.out c); have hrow := rowI_mk YBb.out; have PB := Lib.hid (ia_fill YBb.out (PA.out.later ((Below.refl _ _).alloc (Nat.le_refl _) (.cells #[.int .i64 0, .int .i64 0, .int .i64 0, .int .i64 0, .int .i64 0, .int .i64 0, .int .i64 0, .int .i64 0, .string ⟨#[]⟩, .string ⟨#[]⟩, .string ⟨#[]⟩, .int .i64 0, .slice none 0 0, .int .i64 0, .slice none 0 0, .bool false] 41)))); have CY := Lib.hid (IBa.out.c2); have CZ := Lib.hid (IBb.out.c2); clear bb pc T0a T0b) | (refine (CS.out _ _ T0b.out).mono ?_; rintro e wc ⟨⟨a3, n3, c3, a4, n4, c4, rfl, pc⟩, bb⟩; have AFb := Lib.hid (AFb.out.after bb); have IBb := Lib.hid (IBb.out.after bb); have NBb := Lib.hid (NBb.out.trans (bb.mono NBb.out.size)); have YBb := Lib.hid (YBb.out.after bb); have PB := Lib.hid (ia_fill YBb.out pc); have CW := Lib.hid (fun c => bx_setRow IBb.out YBb.out c); have hrow := rowI_mk YBb.out; have CZ := Lib.hid (IBb.out.c2); clear bb pc T0b))))
    all_goals
      go_wp2
      go_meet
      case rel => first | exact ⟨wc.heap.size, _, _, _, _, _, _, rfl, NBa.out.size, by simp, Bx.new wc _ _ _ rfl, (PA.out.later ((Below.refl _ _).alloc (Nat.le_refl _) _)).mono (by omega) (by simp), NBa.out.alloc NBa.out.size _⟩ | exact ⟨_, _, _, _, _, _, _, rfl, hyb, by simp only [setRow_size]; exact YBb.out.lt, PB.out.1, PB.out.2.1.mono (by first | omega | (simp only [World.size_alloc]; omega)) (by first | (simp only [setRow_size]; exact Nat.le_refl _) | (simp only [setRow_size, World.size_alloc]; omega)), NBb.out.grown PB.out.2.2.2 NBb.out.size (fun k hk => by cases hk; exact hyb)⟩
  case rest =>
    obtain ⟨gW, a3, n3, c3, a4, n4, c4, rfl, hg1, hg2, hbx, hpt, hbl⟩ := hcut
    have IB := Lib.hid (IB.out.after hbl); have AF := Lib.hid (AF.out.after hbl)
    have WB := Lib.hid hbx; have SS := Lib.hid hpt
    have hzc : w1.heap.size ≤ wc.heap.size := hbl.size
    have hwc := IB.out.lt
    clear hbx hpt hbl i0 i1
    go_wp2_with fail
    refine (to_insts _ l _ (VH.out.later AF.out) SM.out).mono ?_
    rintro e w6 ⟨u6, rfl, o6, bb, _⟩
    obtain ⟨a6, n6, c6, rfl⟩ := o6.form
    have IB := Lib.hid (IB.out.after bb); have AF := Lib.hid (AF.out.after bb); have WB := Lib.hid (WB.out.after bb); have SS := Lib.hid (SS.out.later bb)
    have X0 := Lib.hid o6; have hz6 := bb.size
    clear bb o6
    obtain ⟨i0, i1⟩ := IB.out.c2
    go_wp2_with fail
    clear i0 i1
    refine (to_id r s _).mono ?_
    rintro e w7 ⟨rfl, bb⟩
    have IB := Lib.hid (IB.out.after bb); have AF := Lib.hid (AF.out.after bb); have WB := Lib.hid (WB.out.after bb); have SS := Lib.hid (SS.out.later bb); have X0 := Lib.hid (X0.out.later bb)
    have hz7 := bb.size
    clear bb
    go_wp2_with fail
    refine (CI.out _ _ X0.out.insts).mono ?_
    rintro e w8 ⟨⟨a5, n5, c5, a7, n7, c7, rfl, p8⟩, bb⟩
    have hz8 := bb.size
    have IB := Lib.hid (IB.out.after (bb.alloc bb.size (.cells #[.int .i64 xx.rep, .int .i64 xx.slot, .int .i64 xx.bal, .int .i64 xx.vbal, .int .i64 xx.st, .int .i64 xx.cmd.kind, .int .i64 xx.cmd.client, .int .i64 xx.cmd.no, .string xx.cmd.set, .string xx.cmd.name, .string xx.cmd.tag, .int .i64 xx.cmd.n, .slice a5 n5 c5, .int .i64 xx.seq, .slice a7 n7 c7, .bool xx.same] 41))); have AF := Lib.hid (AF.out.after (bb.alloc bb.size (.cells #[.int .i64 xx.rep, .int .i64 xx.slot, .int .i64 xx.bal, .int .i64 xx.vbal, .int .i64 xx.st, .int .i64 xx.cmd.kind, .int .i64 xx.cmd.client, .int .i64 xx.cmd.no, .string xx.cmd.set, .string xx.cmd.name, .string xx.cmd.tag, .int .i64 xx.cmd.n, .slice a5 n5 c5, .int .i64 xx.seq, .slice a7 n7 c7, .bool xx.same] 41))); have WB := Lib.hid (WB.out.after (bb.alloc bb.size (.cells #[.int .i64 xx.rep, .int .i64 xx.slot, .int .i64 xx.bal, .int .i64 xx.vbal, .int .i64 xx.st, .int .i64 xx.cmd.kind, .int .i64 xx.cmd.client, .int .i64 xx.cmd.no, .string xx.cmd.set, .string xx.cmd.name, .string xx.cmd.tag, .int .i64 xx.cmd.n, .slice a5 n5 c5, .int .i64 xx.seq, .slice a7 n7 c7, .bool xx.same] 41))); have SS := Lib.hid (SS.out.later (bb.alloc bb.size (.cells #[.int .i64 xx.rep, .int .i64 xx.slot, .int .i64 xx.bal, .int .i64 xx.vbal, .int .i64 xx.st, .int .i64 xx.cmd.kind, .int .i64 xx.cmd.client, .int .i64 xx.cmd.no, .string xx.cmd.set, .string xx.cmd.name, .string xx.cmd.tag, .int .i64 xx.cmd.n, .slice a5 n5 c5, .int .i64 xx.seq, .slice a7 n7 c7, .bool xx.same] 41))); have X0 := Lib.hid (X0.out.later (bb.alloc bb.size (.cells #[.int .i64 xx.rep, .int .i64 xx.slot, .int .i64 xx.bal, .int .i64 xx.vbal, .int .i64 xx.st, .int .i64 xx.cmd.kind, .int .i64 xx.cmd.client, .int .i64 xx.cmd.no, .string xx.cmd.set, .string xx.cmd.name, .string xx.cmd.tag, .int .i64 xx.cmd.n, .slice a5 n5 c5, .int .i64 xx.seq, .slice a7 n7 c7, .bool xx.same] 41)))
    have GB := Lib.hid (Bx.new w8 41 #[.int .i64 xx.rep, .int .i64 xx.slot, .int .i64 xx.bal, .int .i64 xx.vbal, .int .i64 xx.st, .int .i64 xx.cmd.kind, .int .i64 xx.cmd.client, .int .i64 xx.cmd.no, .string xx.cmd.set, .string xx.cmd.name, .string xx.cmd.tag, .int .i64 xx.cmd.n, .slice a5 n5 c5, .int .i64 xx.seq, .slice a7 n7 c7, .bool xx.same] _ rfl)
    have GP := Lib.hid (p8.later ((Below.refl _ _).alloc (Nat.le_refl _) (.cells #[.int .i64 xx.rep, .int .i64 xx.slot, .int .i64 xx.bal, .int .i64 xx.vbal, .int .i64 xx.st, .int .i64 xx.cmd.kind, .int .i64 xx.cmd.client, .int .i64 xx.cmd.no, .string xx.cmd.set, .string xx.cmd.name, .string xx.cmd.tag, .int .i64 xx.cmd.n, .slice a5 n5 c5, .int .i64 xx.seq, .slice a7 n7 c7, .bool xx.same] 41)))
    clear bb p8
    go_wp2_with (first | refine wp_load_inst GB.out rfl _ rfl rfl ?_ | refine wp_load_inst WB.out rfl _ rfl rfl ?_)
    refine (eq_inst_yes xx _ _ _ _ _ GP.out.pts SS.out.pts).mono ?_
    rintro e w9 ⟨rfl, bb⟩
    have IB := Lib.hid (IB.out.after bb); have AF := Lib.hid (AF.out.after bb); have WB := Lib.hid (WB.out.after bb); have SS := Lib.hid (SS.out.later bb); have X0 := Lib.hid (X0.out.later bb); have GB := Lib.hid (GB.out.after bb); have GP := Lib.hid (GP.out.later bb)
    clear bb
    go_wp2_with fail
    refine (to_insts _ l _ (VH.out.later AF.out) SM.out).mono ?_
    rintro e w10 ⟨u10, rfl, o10, bb, _⟩
    obtain ⟨a10, n10, c10, rfl⟩ := o10.form
    have IB := Lib.hid (IB.out.after bb); have AF := Lib.hid (AF.out.after bb); have WB := Lib.hid (WB.out.after bb); have SS := Lib.hid (SS.out.later bb); have X0 := Lib.hid (X0.out.later bb); have GB := Lib.hid (GB.out.after bb); have GP := Lib.hid (GP.out.later bb)
    have T2 := Lib.hid o10.insts
    clear bb o10
    go_wp2_with fail
    refine (eq_insts_same _ _ l _ X0.out.insts T2.out).mono ?_
    rintro e w11 ⟨rfl, bb⟩
    have IB := Lib.hid (IB.out.after bb); have AF := Lib.hid (AF.out.after bb); have WB := Lib.hid (WB.out.after bb); have SS := Lib.hid (SS.out.later bb); have X0 := Lib.hid (X0.out.later bb); have GB := Lib.hid (GB.out.after bb); have GP := Lib.hid (GP.out.later bb)
    clear bb T2
    go_wp2_with fail
    refine (mark_instsW _ l.length wc.heap.size w6.heap.size _ (X0.out.wr SM.out) SM.out.1).mono ?_
    rintro e w12 ⟨z, rfl, z1, z2, cg⟩
    have oc := cg.toOut
    have hw0 := IB.out.lt
    have hgb := GB.out.lt
    have hbnd : w.heap.size < wc.heap.size ∧ wc.heap.size ≤ w11.heap.size := ⟨by omega, by omega⟩
    have hgb := GB.out.lt
    have IB := Lib.hid (IB.out.outr oc (by left; have := hbnd.1; omega))
    have AF := Lib.hid (AF.out.outr oc (by have := hbnd.1; omega))
    have WB := Lib.hid (WB.out.outr oc (by left; omega))
    have SS := Lib.hid (SS.out.outr oc (by have := hbnd.2; omega) (by left; omega))
    have GB := Lib.hid (GB.out.outr oc (by right; omega))
    have GP := Lib.hid (GP.out.outr oc (by omega) (by right; omega))
    clear oc cg X0 z2
    have dk : decide (z < 0) = false := dec_f (by omega)
    obtain ⟨x0, x1, x2, x3, x4, x5, x6, x7, x8, x9, x10, x11, x12, x13, x14, x15⟩ := GB.out.c16
    obtain ⟨y0, y1, y2, y3, y4, y5, y6, y7, y8, y9, y10, y11, y12, y13, y14, y15⟩ := WB.out.c16
    go_wp2_with fail
    clear x0 x1 x2 x3 x4 x5 x6 x7 x8 x9 x10 x11 x12 x13 x14 x15 y0 y1 y2 y3 y4 y5 y6 y7 y8 y9 y10 y11 y12 y13 y14 y15
    refine (eq_inst_yes xx _ _ _ _ _ GP.out.pts SS.out.pts).mono ?_
    rintro e w13 ⟨rfl, bb⟩
    have IB := Lib.hid (IB.out.after bb); have AF := Lib.hid (AF.out.after bb); have WB := Lib.hid (WB.out.after bb); have SS := Lib.hid (SS.out.later bb); have GB := Lib.hid (GB.out.after bb); have GP := Lib.hid (GP.out.later bb)
    clear bb
    clear dk
    go_wp2_with (refine wp_load_inst GB.out rfl _ rfl rfl ?_)
    refine (mark_instO xx _ _ _ _ _ GP.out HCH.out.1 HCH.out.2).mono ?_
    rintro e w14 ⟨rfl, gm, dm, oc⟩
    have hgb := GB.out.lt
    have hbnd : w.heap.size < wc.heap.size ∧ wc.heap.size ≤ w13.heap.size := ⟨by omega, by omega⟩
    have hgb := GB.out.lt
    have IB := Lib.hid (IB.out.outr oc (by left; have := hbnd.1; omega))
    have AF := Lib.hid (AF.out.outr oc (by have := hbnd.1; omega))
    have WB := Lib.hid (WB.out.outr oc (by left; omega))
    have SS := Lib.hid (SS.out.outr oc (by have := hbnd.2; omega) (by left; omega))
    have GB := Lib.hid (GB.out.outr oc (by right; omega))
    have GM := Lib.hid gm; have DM := Lib.hid dm
    clear oc gm dm GP
    obtain ⟨m, hm⟩ : ∃ m : Int, (xx.cmd.ch.length : Int) + 1 + 2 * (xx.deps.length : Int) = m := ⟨_, rfl⟩
    have HM := Lib.hid hm
    rw [hm]
    have dm : decide (m < 0) = false := dec_f (by omega)
    clear hm
    go_wp2_with (refine wp_load_inst GB.out rfl _ rfl rfl ?_)
    refine (held_inst xx _ _ _ (GM.out.strs (mkL_small _ HCH.out.1)) DM.out.ids HCH.out.1 HCH.out.2).mono ?_
    rintro e w15 ⟨rfl, bb⟩
    rw [HM.out]
    have IB := Lib.hid (IB.out.after bb); have AF := Lib.hid (AF.out.after bb); have WB := Lib.hid (WB.out.after bb); have SS := Lib.hid (SS.out.later bb); have GB := Lib.hid (GB.out.after bb); have GM := Lib.hid (GM.out.later bb); have DM := Lib.hid (DM.out.later bb)
    clear bb
    obtain ⟨i0, i1⟩ := IB.out.c2
    have AFa := Lib.hid AF.out.drew; have IBa := Lib.hid IB.out.drew; have NBa := Lib.hid (show Below w15.heap.size w15 w15.drew from (Below.refl _ _).drew)
    have AFb := Lib.hid (AF.out.alloc (.cells #[.int .i64 0, .int .i64 0, .int .i64 0, .int .i64 0, .int .i64 0, .int .i64 0, .int .i64 0, .int .i64 0, .string ⟨#[]⟩, .string ⟨#[]⟩, .string ⟨#[]⟩, .int .i64 0, .slice none 0 0, .int .i64 0, .slice none 0 0, .bool false] 41)).drew; have IBb := Lib.hid (IB.out.alloc (.cells #[.int .i64 0, .int .i64 0, .int .i64 0, .int .i64 0, .int .i64 0, .int .i64 0, .int .i64 0, .int .i64 0, .string ⟨#[]⟩, .string ⟨#[]⟩, .string ⟨#[]⟩, .int .i64 0, .slice none 0 0, .int .i64 0, .slice none 0 0, .bool false] 41)).drew; have NBb := Lib.hid (show Below w15.heap.size w15 (w15.alloc (.cells #[.int .i64 0, .int .i64 0, .int .i64 0, .int .i64 0, .int .i64 0, .int .i64 0, .int .i64 0, .int .i64 0, .string ⟨#[]⟩, .string ⟨#[]⟩, .string ⟨#[]⟩, .int .i64 0, .slice none 0 0, .int .i64 0, .slice none 0 0, .bool false] 41)).drew from ((Below.refl _ _).alloc (Nat.le_refl _) _).drew); have YBb := Lib.hid (Bx.new w15 41 #[.int .i64 0, .int .i64 0, .int .i64 0, .int .i64 0, .int .i64 0, .int .i64 0, .int .i64 0, .int .i64 0, .string ⟨#[]⟩, .string ⟨#[]⟩, .string ⟨#[]⟩, .int .i64 0, .slice none 0 0, .int .i64 0, .slice none 0 0, .bool false] _ rfl).drew; have hyb : w15.heap.size ≤ w15.heap.size := Nat.le_refl _
    have CY := Lib.hid (IBa.out.c2); have CZ := Lib.hid (IBb.out.c2)
    go_wp2_with fail
    go_cut [12] from 60 (fun sp wx => ∃ g a3 n3 c3 a4 n4 c4, sp = .pointer (some ⟨g, 0, none⟩) ∧ w15.heap.size ≤ g ∧ g < wx.heap.size ∧ Bx wx g 41 #[.int .i64 xx.rep, .int .i64 xx.slot, .int .i64 xx.bal, .int .i64 xx.vbal, .int .i64 xx.st, .int .i64 xx.cmd.kind, .int .i64 xx.cmd.client, .int .i64 xx.cmd.no, .string xx.cmd.set, .string xx.cmd.name, .string xx.cmd.tag, .int .i64 xx.cmd.n, .slice a3 n3 c3, .int .i64 xx.seq, .slice a4 n4 c4, .bool xx.same] ∧ PtO wx w15.heap.size wx.heap.size xx (.slice a3 n3 c3) (.slice a4 n4 c4) ∧ Below w15.heap.size w15 wx)
    case first =>
      go_region_held3 (fun w' => w'.cell? ⟨w.heap.size, 0, none⟩ = some (.int .i64 r) ∧ w'.cell? ⟨w.heap.size, 1, none⟩ = some (.int .i64 s)) (first | (with_reducible exact CY.out) | (with_reducible exact CZ.out) | (with_reducible exact CX.out _) | (with_reducible exact CW.out _) | (with_reducible exact ⟨i0, i1⟩) | go_keep)
        (first
          | (go_at_call 18; (first | (refine (to_insts _ l _ (VH.out.later AFa.out) SM.out).mono ?_; rintro e wa ⟨ua, rfl, oa, bb, _⟩; obtain ⟨aa, na, ca, rfl⟩ := oa.form; have AFa := Lib.hid (AFa.out.after bb); have IBa := Lib.hid (IBa.out.after bb); have NBa := Lib.hid (NBa.out.trans (bb.mono NBa.out.size)); have AFb := Lib.hid (AFa.out.alloc (.cells #[.int .i64 0, .int .i64 0, .int .i64 0, .int .i64 0, .int .i64 0, .int .i64 0, .int .i64 0, .int .i64 0, .string ⟨#[]⟩, .string ⟨#[]⟩, .string ⟨#[]⟩, .int .i64 0, .slice none 0 0, .int .i64 0, .slice none 0 0, .bool false] 41)); have IBb := Lib.hid (IBa.out.alloc (.cells #[.int .i64 0, .int .i64 0, .int .i64 0, .int .i64 0, .int .i64 0, .int .i64 0, .int .i64 0, .int .i64 0, .string ⟨#[]⟩, .string ⟨#[]⟩, .string ⟨#[]⟩, .int .i64 0, .slice none 0 0, .int .i64 0, .slice none 0 0, .bool false] 41)); have NBb := Lib.hid (NBa.out.alloc NBa.out.size (.cells #[.int .i64 0, .int .i64 0, .int .i64 0, .int .i64 0, .int .i64 0, .int .i64 0, .int .i64 0, .int .i64 0, .string ⟨#[]⟩, .string ⟨#[]⟩, .string ⟨#[]⟩, .int .i64 0, .slice none 0 0, .int .i64 0, .slice none 0 0, .bool false] 41)); have YBb := Lib.hid (Bx.new wa 41 #[.int .i64 0, .int .i64 0, .int .i64 0, .int .i64 0, .int .i64 0, .int .i64 0, .int .i64 0, .int .i64 0, .string ⟨#[]⟩, .string ⟨#[]⟩, .string ⟨#[]⟩, .int .i64 0, .slice none 0 0, .int .i64 0, .slice none 0 0, .bool false] _ rfl); have hyb : w15.heap.size ≤ wa.heap.size := NBa.out.size; have T0a := Lib.hid oa.insts; have T0b := Lib.hid (T0a.out.alloc (.cells #[.int .i64 0, .int .i64 0, .int .i64 0, .int .i64 0, .int .i64 0, .int .i64 0, .int .i64 0, .int .i64 0, .string ⟨#[]⟩, .string ⟨#[]⟩, .string ⟨#[]⟩, .int .i64 0, .slice none 0 0, .int .i64 0, .slice none 0 0, .bool false] 41)); have CY := Lib.hid (IBa.out.c2); have CZ := Lib.hid (IBb.out.c2); clear bb oa) | (refine (to_insts _ l _ (VH.out.later AFb.out) SM.out).mono ?_; rintro e wa ⟨ua, rfl, oa, bb, _⟩; obtain ⟨aa, na, ca, rfl⟩ := oa.form; have AFb := Lib.hid (AFb.out.after bb); have IBb := Lib.hid (IBb.out.after bb); have NBb := Lib.hid (NBb.out.trans (bb.mono NBb.out.size)); have YBb := Lib.hid (YBb.out.after bb); have T0b := Lib.hid oa.insts; clear AFa IBa NBa CY; have CZ := Lib.hid (IBb.out.c2); clear bb oa)))
          | (go_at_call 19; refine (to_id r s _).mono ?_; rintro e wb ⟨rfl, bb⟩; (first | (have T0a := Lib.hid (T0a.out.later bb); have AFa := Lib.hid (AFa.out.after bb); have IBa := Lib.hid (IBa.out.after bb); have NBa := Lib.hid (NBa.out.trans (bb.mono NBa.out.size)); have hzb := NBa.out.size; have AFb := Lib.hid (AFa.out.alloc (.cells #[.int .i64 0, .int .i64 0, .int .i64 0, .int .i64 0, .int .i64 0, .int .i64 0, .int .i64 0, .int .i64 0, .string ⟨#[]⟩, .string ⟨#[]⟩, .string ⟨#[]⟩, .int .i64 0, .slice none 0 0, .int .i64 0, .slice none 0 0, .bool false] 41)); have IBb := Lib.hid (IBa.out.alloc (.cells #[.int .i64 0, .int .i64 0, .int .i64 0, .int .i64 0, .int .i64 0, .int .i64 0, .int .i64 0, .int .i64 0, .string ⟨#[]⟩, .string ⟨#[]⟩, .string ⟨#[]⟩, .int .i64 0, .slice none 0 0, .int .i64 0, .slice none 0 0, .bool false] 41)); have NBb := Lib.hid (NBa.out.alloc NBa.out.size (.cells #[.int .i64 0, .int .i64 0, .int .i64 0, .int .i64 0, .int .i64 0, .int .i64 0, .int .i64 0, .int .i64 0, .string ⟨#[]⟩, .string ⟨#[]⟩, .string ⟨#[]⟩, .int .i64 0, .slice none 0 0, .int .i64 0, .slice none 0 0, .bool false] 41)); have YBb := Lib.hid (Bx.new wb 41 #[.int .i64 0, .int .i64 0, .int .i64 0, .int .i64 0, .int .i64 0, .int .i64 0, .int .i64 0, .int .i64 0, .string ⟨#[]⟩, .string ⟨#[]⟩, .string ⟨#[]⟩, .int .i64 0, .slice none 0 0, .int .i64 0, .slice none 0 0, .bool false] _ rfl); have hyb : w15.heap.size ≤ wb.heap.size := NBa.out.size; have T0b := Lib.hid (T0a.out.alloc (.cells #[.int .i64 0, .int .i64 0, .int .i64 0, .int .i64 0, .int .i64 0, .int .i64 0, .int .i64 0, .int .i64 0, .string ⟨#[]⟩, .string ⟨#[]⟩, .string ⟨#[]⟩, .int .i64 0, .slice none 0 0, .int .i64 0, .slice none 0 0, .bool false] 41)); have CY := Lib.hid (IBa.out.c2); have CZ := Lib.hid (IBb.out.c2); clear bb) | (have T0b := Lib.hid (T0b.out.later bb); have AFb := Lib.hid (AFb.out.after bb); have IBb := Lib.hid (IBb.out.after bb); have NBb := Lib.hid (NBb.out.trans (bb.mono NBb.out.size)); have YBb := Lib.hid (YBb.out.after bb); have hzb := NBb.out.size; clear AFa IBa NBa CY T0a; have CZ := Lib.hid (IBb.out.c2); clear bb) | (have T0b := Lib.hid (T0b.out.later bb); have AFb := Lib.hid (AFb.out.after bb); have IBb := Lib.hid (IBb.out.after bb); have NBb := Lib.hid (NBb.out.trans (bb.mono NBb.out.size)); have YBb := Lib.hid (YBb.out.after bb); have hzb := NBb.out.size; have CZ := Lib.hid (IBb.out.c2); clear bb)))
          | (go_at_call 20; (first | (refine (CI.out _ _ T0a.out).mono ?_; rintro e wc ⟨⟨a3, n3, c3, a4, n4, c4, rfl, pc⟩, bb⟩; have AFa := Lib.hid (AFa.out.after bb); have IBa := Lib.hid (IBa.out.after bb); have NBa := Lib.hid (NBa.out.trans (bb.mono NBa.out.size)); have AFb := Lib.hid (AFa.out.alloc (.cells #[.int .i64 0, .int .i64 0, .int .i64 0, .int .i64 0, .int .i64 0, .int .i64 0, .int .i64 0, .int .i64 0, .string ⟨#[]⟩, .string ⟨#[]⟩, .string ⟨#[]⟩, .int .i64 0, .slice none 0 0, .int .i64 0, .slice none 0 0, .bool false] 41)); have IBb := Lib.hid (IBa.out.alloc (.cells #[.int .i64 0, .int .i64 0, .int .i64 0, .int .i64 0, .int .i64 0, .int .i64 0, .int .i64 0, .int .i64 0, .string ⟨#[]⟩, .string ⟨#[]⟩, .string ⟨#[]⟩, .int .i64 0, .slice none 0 0, .int .i64 0, .slice none 0 0, .bool false] 41)); have NBb := Lib.hid (NBa.out.alloc NBa.out.size (.cells #[.int .i64 0, .int .i64 0, .int .i64 0, .int .i64 0, .int .i64 0, .int .i64 0, .int .i64 0, .int .i64 0, .string ⟨#[]⟩, .string ⟨#[]⟩, .string ⟨#[]⟩, .int .i64 0, .slice none 0 0, .int .i64 0, .slice none 0 0, .bool false] 41)); have YBb := Lib.hid (Bx.new wc 41 #[.int .i64 0, .int .i64 0, .int .i64 0, .int .i64 0, .int .i64 0, .int .i64 0, .int .i64 0, .int .i64 0, .string ⟨#[]⟩, .string ⟨#[]⟩, .string ⟨#[]⟩, .int .i64 0, .slice none 0 0, .int .i64 0, .slice none 0 0, .bool false] _ rfl); have hyb : w15.heap.size ≤ wc.heap.size := NBa.out.size; have PA := Lib.hid pc; have CX := Lib.hid (fun ob => (IBa.out.alloc ob).c2); have CW := Lib.hid (fun c => bx_setRow IBb.out YBb.out c); have hrow := rowI_mk YBb.out; have PB := Lib.hid (ia_fill YBb.out (PA.out.later ((Below.refl _ _).alloc (Nat.le_refl _) (.cells #[.int .i64 0, .int .i64 0, .int .i64 0, .int .i64 0, .int .i64 0, .int .i64 0, .int .i64 0, .int .i64 0, .string ⟨#[]⟩, .string ⟨#[]⟩, .string ⟨#[]⟩, .int .i64 0, .slice none 0 0, .int .i64 0, .slice none 0 0, .bool false] 41)))); have CY := Lib.hid (IBa.out.c2); have CZ := Lib.hid (IBb.out.c2); clear bb pc T0a T0b) | (refine (CI.out _ _ T0b.out).mono ?_; rintro e wc ⟨⟨a3, n3, c3, a4, n4, c4, rfl, pc⟩, bb⟩; have AFb := Lib.hid (AFb.out.after bb); have IBb := Lib.hid (IBb.out.after bb); have NBb := Lib.hid (NBb.out.trans (bb.mono NBb.out.size)); have YBb := Lib.hid (YBb.out.after bb); have PB := Lib.hid (ia_fill YBb.out pc); have CW := Lib.hid (fun c => bx_setRow IBb.out YBb.out c); have hrow := rowI_mk YBb.out; have CZ := Lib.hid (IBb.out.c2); clear bb pc T0b))))
      all_goals
        go_wp2
        go_meet
        case rel => first | exact ⟨wc.heap.size, _, _, _, _, _, _, rfl, NBa.out.size, by simp, Bx.new wc _ _ _ rfl, (PA.out.later ((Below.refl _ _).alloc (Nat.le_refl _) _)).mono (by omega) (by simp), NBa.out.alloc NBa.out.size _⟩ | exact ⟨_, _, _, _, _, _, _, rfl, hyb, by simp only [setRow_size]; exact YBb.out.lt, PB.out.1, PB.out.2.1.mono (by first | omega | (simp only [World.size_alloc]; omega)) (by first | (simp only [setRow_size]; exact Nat.le_refl _) | (simp only [setRow_size, World.size_alloc]; omega)), NBb.out.grown PB.out.2.2.2 NBb.out.size (fun k hk => by cases hk; exact hyb)⟩
    case rest =>
      obtain ⟨gH, a8, n8, c8, a9, n9, c9, rfl, hg3, hg4, hbx, hpt, hbl⟩ := hcut
      have IB := Lib.hid (IB.out.after hbl); have AF := Lib.hid (AF.out.after hbl); have WB := Lib.hid (WB.out.after hbl); have SS := Lib.hid (SS.out.later hbl); have GB := Lib.hid (GB.out.after hbl); have GM := Lib.hid (GM.out.later hbl); have DM := Lib.hid (DM.out.later hbl)
      have HB := Lib.hid hbx; have HP := Lib.hid hpt
      clear hbx hpt hbl i0 i1
      go_wp2_with (first | refine wp_load_inst HB.out rfl _ rfl rfl ?_ | refine wp_load_inst WB.out rfl _ rfl rfl ?_)
      refine (eq_inst_yes xx _ _ _ _ _ HP.out.pts SS.out.pts).mono ?_
      rintro e w17 ⟨rfl, bb⟩
      have IB := Lib.hid (IB.out.after bb); have AF := Lib.hid (AF.out.after bb); have WB := Lib.hid (WB.out.after bb); have SS := Lib.hid (SS.out.later bb); have GB := Lib.hid (GB.out.after bb); have GM := Lib.hid (GM.out.later bb); have DM := Lib.hid (DM.out.later bb); have HB := Lib.hid (HB.out.after bb); have HP := Lib.hid (HP.out.later bb)
      clear bb
      go_wp2_with (refine wp_load_inst GB.out rfl _ rfl rfl ?_)
      refine (held_inst xx _ _ _ (GM.out.strs (mkL_small _ HCH.out.1)) DM.out.ids HCH.out.1 HCH.out.2).mono ?_
      rintro e w18 ⟨rfl, bb⟩
      rw [HM.out]
      have IB := Lib.hid (IB.out.after bb); have AF := Lib.hid (AF.out.after bb); have WB := Lib.hid (WB.out.after bb); have SS := Lib.hid (SS.out.later bb); have GB := Lib.hid (GB.out.after bb); have GM := Lib.hid (GM.out.later bb); have DM := Lib.hid (DM.out.later bb); have HB := Lib.hid (HB.out.after bb); have HP := Lib.hid (HP.out.later bb)
      clear bb
      go_wp2
      go_ret
      exact ⟨rfl, AF.out⟩
end Go.Proofs.Ythihihphbcaieaa
