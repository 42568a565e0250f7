/- A bundle of texts: NdR, LdA, NdCp, NdCs, MkLd, NdF, PtM, FallW, QTake, QMix, FallLaw. -/
import Derived.Test.YtckeeadkhopljaaGreatDoorNdM
import Derived.Deep.WholeRow
import Derived.Test.YtckeeadkhopljaaGreatDoorCp
import Derived.Test.YtckeeadkhopljaaGreatDoorLdCs
import Derived.Test.YtckeeadkhopljaaGreatDoorCi
import Derived.Deep.CutRange
import Derived.Test.YtckeeadkhopljaaGreatDoorMkB
import Derived.Test.YtckeeadkhopljaaGreatDoorLdEN
import Derived.Test.YtckeeadkhopljaaGreatDoorInSz
import Derived.Test.YtckeeadkhopljaaGreatDoorExKH
import Derived.Test.YtckeeadkhopljaaGreatDoorNn
import Derived.Test.YtckeeadkhopljaaGreatDoorInLX
import Derived.Test.YtckeeadkhopljaaGreatDoorNdVX
import Derived.Test.YtckeeadkhopljaaGreatDoorRows
import Derived.WalkKit
import Derived.OrdersHeld
import Derived.StillTail
/- A whole node is loaded and stored in one step. -/
namespace Go.Proofs.YtckeeadkhopljaaGreatDoor
open Go.RowKit Go.PlainAid
set_option linter.unusedVariables false

/-- The block of a pointer, the cells of a struct, the cells of a block; a block of four cells of one type; cells that may be stored. -/
def blkN : Value → Nat
  | .pointer (some ⟨g, _, _⟩) => g
  | _ => 0
def aggN : Value → Array Value
  | .agg c => c
  | _ => #[]
def rowCN (w : World) (g : Nat) : Array Value := match w.heap[g]? with | some (.cells c _ _) => c | _ => #[]
def rowPN (t : TypeId) (w : World) (g : Nat) : Prop := ∃ c, w.heap[g]? = some (.cells c t (0, 0)) ∧ c.size = 4
def okAN (c : Array Value) : Prop := c.size = 4 ∧ c.all (·.oneCell') = true
theorem blkN_eq (g o : Nat) (k : Option Nat) : blkN (.pointer (some ⟨g, o, k⟩)) = g := rfl
theorem aggN_eq (c : Array Value) : aggN (.agg c) = c := rfl
theorem okAN_mk (m n : Int) (a a' : Option Addr) (k c k' c' : Nat) : okAN #[.int .i64 m, .int .i64 n, .slice a k c, .slice a' k' c'] := ⟨rfl, by simp [Value.oneCell']⟩
theorem Bx.rowN {w : World} {g : Nat} {t : TypeId} {c : Array Value} (h : Bx w g t c) (hz : c.size = 4) : rowPN t w g ∧ rowCN w g = c :=
  ⟨⟨c, h, hz⟩, by unfold rowCN; rw [show w.heap[g]? = some (.cells c t (0, 0)) from h]⟩
theorem Tryz.sizeNodeR : (Tryz.prog.info? 30).map (·.size) = some 4 := by kernel_rfl
/-- A node is loaded whole. -/
theorem load_node_pre (d : Option Tmp) (p : Operand) (ty : TypeId) (pos : String) (af : Array Edge) (gd : Option (Tmp × Bool)) (a : Act) (w : World) (K : Act → World → Prop) (Q : Exit → Act → World → Prop)
    (hx : a.eval p = .pointer (some ⟨blkN (a.eval p), 0, none⟩)) (hr : rowPN 30 w (blkN (a.eval p))) :
    Oper.wp Tryz.prog ⟨d, .load 30 p, ty, pos, af, gd⟩ a w K Q = K (a.put d (.agg (rowCN w (blkN (a.eval p))))) w := by
  obtain ⟨c, ho, hz⟩ := hr
  generalize hvx : a.eval p = vx at hx ho ⊢
  generalize blkN vx = g at hx ho ⊢
  subst hx
  have hc : rowCN w g = c := by unfold rowCN; rw [ho]
  rw [hc]
  unfold Oper.wp execOp
  simp only [hvx, Instr.loadAt, Instr.sureAddr, Sem.run_bind, Sem.run_pure, Result.andThen_ok, run_loadVar_row w g 30 30 c (0, 0) _ ho Tryz.underlying30 rfl (by rw [Tryz.sizeNodeR, hz])]
  rfl
/-- A node is stored whole. -/
theorem store_node_pre (p y : Operand) (ty : TypeId) (pos : String) (af : Array Edge) (gd : Option (Tmp × Bool)) (a : Act) (w : World) (K : Act → World → Prop) (Q : Exit → Act → World → Prop)
    (hx : a.eval p = .pointer (some ⟨blkN (a.eval p), 0, none⟩)) (hy : a.eval y = .agg (aggN (a.eval y))) (hs : okAN (aggN (a.eval y))) (hr : rowPN 30 w (blkN (a.eval p))) :
    Oper.wp Tryz.prog ⟨none, .store 30 p y, ty, pos, af, gd⟩ a w K Q = K a (w.setRow (blkN (a.eval p)) (aggN (a.eval y))) := by
  obtain ⟨old, ho, hz⟩ := hr
  obtain ⟨hs, h1⟩ := hs
  generalize hvx : a.eval p = vx at hx ho ⊢
  generalize hvy : a.eval y = vy at hy hs h1 ⊢
  generalize blkN vx = g at hx ho ⊢
  generalize aggN vy = c at hy hs h1 ⊢
  subst hx hy
  unfold Oper.wp execOp
  simp only [hvx, hvy, Instr.storeAt, Instr.sureAddr, Sem.run_bind, Sem.run_pure, Result.andThen_ok, run_storeVar_row w g 30 30 old c ho (by rw [Tryz.sizeNodeR, hs]) (by rw [hz, hs]) h1]
  rfl
/-- The same, as an operation of a region that draws. -/
theorem exec_load_node {d : Option Tmp} {p : Operand} {ty : TypeId} {pos : String} {af : Array Edge} {gd : Option (Tmp × Bool)} {a : Act} {w : World} {g : Nat} {c : Array Value} (hx : a.eval p = .pointer (some ⟨g, 0, none⟩)) (h : Bx w g 30 c) (hz : c.size = 4) :
    (execOp a.eval ⟨d, .load 30 p, ty, pos, af, gd⟩).run Tryz.prog w = .ok (.value (.agg c)) w := by
  unfold execOp
  simp only [hx, Instr.loadAt, Instr.sureAddr, Sem.run_bind, Sem.run_pure, Result.andThen_ok, run_loadVar_row w g 30 30 c (0, 0) _ h Tryz.underlying30 rfl (by rw [Tryz.sizeNodeR, hz])]
theorem rowPN_new (w : World) : rowPN 30 (w.alloc (.cells #[.int .i64 0, .int .i64 0, .slice none 0 0, .slice none 0 0] 30)) w.heap.size := ⟨_, heap_alloc_last w _, rfl⟩
theorem grown_setRowN (w : World) (g : Nat) (c : Array Value) : w.grownBy (w.setRow g c) (some g) :=
  ⟨rfl, rfl, rfl, by simp, fun k _ hne => setRow_other w g k c (by intro e; subst e; exact hne rfl)⟩
end Go.Proofs.YtckeeadkhopljaaGreatDoor
/- Appends that a node's copy makes: Ids and integers to a made slice, Leads to a row of one's own. -/
namespace Go.Proofs.YtckeeadkhopljaaGreatDoor
open Go.RowKit Go.PlainAid
set_option linter.unusedVariables false

/-- ids = append(made, others...): whatever the others are. -/
theorem wp_append_idsA {w : World} {ops : Array Oper} {rest : List Oper} {o : Oper} {a : Act} {Q : Exit → Act → World → Prop} (hgd : o.guard = none) (s x : Operand)
    (ho : o.op = .call { callee := .builtin .append, args := #[s, x], argTypes := #[65, 65] }) (base g : Nat) (hs : a.eval s = .slice (some ⟨g, 0, none⟩) 0 0) (hown : IdRow w base (.slice (some ⟨g, 0, none⟩) 0 0) [])
    (xv : Value) (l : List Ii) (hx : a.eval x = xv) (hX : Ids w xv l) (hlen : l.length ≤ 4194304) (hbase : base ≤ w.heap.size)
    (hK : ∀ v' w', IdRow w' base v' l → w.grownBy w' (some g) → wpList Tryz.prog ops Q rest (a.put o.dst v') w') : wpList Tryz.prog ops Q (o :: rest) a w := by
  obtain ⟨k1, ad, c, rfl, hc, hcl⟩ := hX
  by_cases h0 : 0 < l.length
  · obtain ⟨b, oo, rfl, hb, hcc⟩ := hcl h0
    exact wp_append_id hgd s x ho base _ [] l hs hown b oo c hx hcc (by simp only [List.length_nil]; omega) hbase (fun v' w' h1 h2 => hK v' w' (by simpa using h1) h2)
  · have e0 : l = [] := List.eq_nil_of_length_eq_zero (by omega)
    subst e0
    exact wp_append_zero hgd s x ho (some ⟨g, 0, none⟩) 0 0 hs (Nat.le_refl _) ad c (by simpa using hx) (hK _ _ hown (World.grownBy.refl _ _))
def nsV (l : List Int) : List Value := l.map fun s => .int .i64 s
def NsRow (w : World) (base : Nat) (v : Value) (l : List Int) : Prop := w.ownsRow base 3 1 v l.length (nsV l)
theorem NsRow.form {w : World} {base : Nat} {v : Value} {l : List Int} (h : NsRow w base v l) : ∃ a n cap, v = .slice a n cap := by
  obtain ⟨h1, ⟨rfl, h2⟩ | ⟨g, cap, cur, rfl, _⟩⟩ := h
  · exact ⟨none, 0, 0, rfl⟩
  · exact ⟨_, _, cap, rfl⟩
theorem nsRow_new (w : World) (base : Nat) (hb : base ≤ w.heap.size) : NsRow (w.alloc (.cells #[] 3)) base (.slice (some ⟨w.heap.size, 0, none⟩) 0 0) [] := World.ownsRow_made w #[] 0 hb (Nat.zero_le _) rfl
theorem Tryz.infoIntA : (Tryz.prog.info? 3).map (fun i => (i.zero, i.size, i.bytes)) = some (some (.int .i64 0), 1, 8) := by kernel_rfl
theorem run_app_noneN (w : World) (base : Option Addr) (sLen sCap : Nat) (hle : sLen ≤ sCap) (a : Option Addr) (c : Nat) (ty : TypeId) :
    (Builtin.append_ #[57, 57] ty #[.slice base sLen sCap, .slice a 0 c]).run Tryz.prog w = .ok (.slice base sLen sCap) w := by
  obtain ⟨i, hi, hz, hs, hby⟩ := info_parts Tryz.infoIntA
  cases base <;> cases a <;> simp [Builtin.append_, run_underlying Tryz.underlying57, sizeOf, typeInfo, hi, hle, storeCells, go_sem]
theorem wp_append_nsA {w : World} {ops : Array Oper} {rest : List Oper} {o : Oper} {a : Act} {Q : Exit → Act → World → Prop} (hgd : o.guard = none) (s x : Operand)
    (ho : o.op = .call { callee := .builtin .append, args := #[s, x], argTypes := #[57, 57] }) (base g : Nat) (hs : a.eval s = .slice (some ⟨g, 0, none⟩) 0 0) (hown : NsRow w base (.slice (some ⟨g, 0, none⟩) 0 0) [])
    (xv : Value) (l : List Int) (hx : a.eval x = xv) (hX : Ns w xv l) (hlen : l.length ≤ 4194304) (hbase : base ≤ w.heap.size)
    (hK : ∀ v' w', NsRow w' base v' l → w.grownBy w' (some g) → wpList Tryz.prog ops Q rest (a.put o.dst v') w') : wpList Tryz.prog ops Q (o :: rest) a w := by
  obtain ⟨k1, ad, c, rfl, hc, hcl⟩ := hX
  by_cases h0 : 0 < l.length
  · obtain ⟨b, oo, rfl, hb, hcc⟩ := hcl h0
    obtain ⟨i0, hi, hz0, hz1, hz2⟩ := info_parts Tryz.infoIntA
    refine wpList_append_own w hgd s x 57 ho base 3 i0 (.int .i64 0) 1 8 Tryz.underlying57 hi hz0 hz1 hz2 rfl (by decide) _ 0 (nsV []) hs hown ⟨b, oo, none⟩ l.length c (nsV l) hx (by simp [nsV]) (fun j u hj => ?_) (fun u hu => ?_) (by unfold maxLen; omega) (by omega) hbase ?_
    · have hjl : j < l.length := by have := (List.getElem?_eq_some_iff.1 hj).1; simpa [nsV] using this
      rw [Go.WideShapes.add_plain, hcc j hjl]
      rw [nsV, List.getElem?_map, nI_get l j hjl] at hj
      exact hj
    · simp only [nsV, List.mem_map] at hu
      obtain ⟨z, _, rfl⟩ := hu
      rfl
    · intro v' w' h1 h2 _
      refine hK v' w' ?_ h2
      unfold NsRow
      simpa [nsV] using h1
  · have e0 : l = [] := List.eq_nil_of_length_eq_zero (by omega)
    subst e0
    have hr := run_app_noneN w (some ⟨g, 0, none⟩) 0 0 (Nat.le_refl _) ad c o.type
    refine wpList_plain hgd fun _ hK2 => ?_
    unfold Oper.wp execOp
    simp only [ho, resolve, invoke, builtin, Sem.run_bind, Sem.run_pure, Result.andThen_ok, List.map_toArray, List.map_cons, List.map_nil, hs, hx, List.length_nil, hr]
    exact hK2 _ _ (hK _ _ hown (World.grownBy.refl _ _))
/-- A row of n Leads, whatever they are. -/
def LvRow (w : World) (base : Nat) (v : Value) (n : Nat) : Prop := ∃ vals : List Value, vals.length = n * 8 ∧ w.ownsRow base 70 8 v n vals
theorem LvRow.kept {w w' : World} {base : Nat} {v : Value} {n : Nat} {row : Option Nat} (h : LvRow w base v n) (hg : w.grownBy w' row) (hne : ∀ k, row = some k → v.ownBlock ≠ some k) : LvRow w' base v n := by
  obtain ⟨vals, hl, h1, h2⟩ := h
  refine ⟨vals, hl, h1, h2.imp (fun h => h) fun ⟨g, cap, cur, e, hb', hg', r⟩ => ⟨g, cap, cur, e, hb', ?_, r⟩⟩
  subst e
  rw [hg.block g (Array.getElem?_eq_some_iff.1 hg').1 (fun e => hne g e.symm rfl)]
  exact hg'
theorem LvRow.later {w w' : World} {base : Nat} {v : Value} {n : Nat} (h : LvRow w base v n) (hb : Below w.heap.size w w') : LvRow w' base v n := h.kept (grown_of hb none) (fun k hk => by cases hk)
theorem LvRow.lt {w : World} {base : Nat} {v : Value} {n : Nat} (h : LvRow w base v n) (k : Nat) (hk : v.ownBlock = some k) : base ≤ k ∧ k < w.heap.size := by
  obtain ⟨vals, hl, h1, ⟨rfl, h2⟩ | ⟨g, cap, cur, rfl, hb, hg, hc, _⟩⟩ := h
  · cases hk
  · cases hk
    exact ⟨hb, (Array.getElem?_eq_some_iff.1 hg).1⟩
theorem LvRow.form {w : World} {base : Nat} {v : Value} {n : Nat} (h : LvRow w base v n) : ∃ a cap, v = .slice a n cap := by
  obtain ⟨vals, hl, h1, ⟨rfl, h2⟩ | ⟨g, cap, cur, rfl, _⟩⟩ := h
  · exact ⟨none, 0, by rw [h2]⟩
  · exact ⟨_, cap, rfl⟩
theorem lvRow_nil (w : World) (base : Nat) : LvRow w base (.slice none 0 0) 0 := ⟨[], rfl, by simp, .inl ⟨rfl, rfl⟩⟩
theorem wp_append_lv {w : World} {ops : Array Oper} {rest : List Oper} {o : Oper} {a : Act} {Q : Exit → Act → World → Prop} (hgd : o.guard = none) (s x : Operand)
    (ho : o.op = .call { callee := .builtin .append, args := #[s, x], argTypes := #[28, 28] }) (base : Nat) (v : Value) (n : Nat) (hs : a.eval s = v) (hown : LvRow w base v n)
    (h c : Nat) (hx : a.eval x = .slice (some ⟨h, 0, none⟩) 1 c) (cs : Array Value) (hcs : cs.size = 8) (h1c : cs.all (·.oneCell') = true) (hX : Bx w h 70 cs) (hlen : n ≤ 4194304) (hbase : base ≤ w.heap.size)
    (hK : ∀ v' w', LvRow w' base v' (n + 1) → w.grownBy w' v.ownBlock → wpList Tryz.prog ops Q rest (a.put o.dst v') w') : wpList Tryz.prog ops Q (o :: rest) a w := by
  obtain ⟨vals, hl, hown⟩ := hown
  obtain ⟨i0, hi, hz0, hz1, hz2⟩ := info_parts Tryz.infoLead
  refine wpList_append_own w hgd s x 28 ho base 70 i0 (.agg #[.int .i64 0, .int .i64 0, .int .i64 0, .int .i64 0, .int .i64 0, .slice none 0 0, .slice none 0 0, .bool false]) 8 96 Tryz.underlying28 hi hz0 hz1 hz2 rfl (by decide) v n vals hs hown ⟨h, 0, none⟩ 1 c cs.toList hx (by rw [Array.length_toList, hcs]) (fun j u hj => ?_) (fun u hu => ?_) (by unfold maxLen; omega) (by omega) hbase ?_
  · rw [Go.WideShapes.add_plain, Nat.zero_add]
    exact hX.cell j u (by simpa using hj)
  · exact Array.all_eq_true_iff_forall_mem.1 h1c u (by simpa using hu)
  · intro v' w' h1 h2 _
    exact hK v' w' ⟨vals ++ cs.toList, by rw [List.length_append, hl, Array.length_toList, hcs]; omega, h1⟩ h2
end Go.Proofs.YtckeeadkhopljaaGreatDoor
/- Copies of nodes. -/
namespace Go.Proofs.YtckeeadkhopljaaGreatDoor
open Go.RowKit Go.PlainAid
set_option linter.unusedVariables false

theorem results_nodeB {fn : Func} {p : Tmp} (h : fn.results = #[.cell p 30]) (tmps : Array Value) (w : World) (g : Nat) (x0 x1 x2 x3 : Value)
    (hp : tmps.getD p undef = .pointer (some ⟨g, 0, none⟩)) (hc : Bx w g 30 #[x0, x1, x2, x3]) : (results fn tmps).run Tryz.prog w = .ok (.agg #[x0, x1, x2, x3]) w := results_node h tmps w g x0 x1 x2 x3 hp (cells4 hc)
theorem InOwnX.put {w : World} {lo hi q o : Nat} {v : Value} {l : List In} (h : InOwnX w lo hi v l) (y : Value) (hz : hi ≤ w.heap.size) (hq : q < lo ∨ hi ≤ q) : InOwnX (w.setCell ⟨q, o, none⟩ y) lo hi v l :=
  h.outr (out_grown (lo := q) (hi := q + 1) (grownBy_put w q o y) (fun k hk => by cases hk; omega)) hz (by omega)
attribute [local go_sem] blkN_eq aggN_eq okAN_mk World.setRow_alloc_new
attribute [local go_sem ↓] load_node_pre store_node_pre
set_option maxRecDepth 100000 in
set_option maxHeartbeats 4000000 in
theorem impl_copyN (me next : Int) (u : Value) (l : List In) (w : World) (h : Insts w u l) (hs : SmF l) :
    Calls Tryz.prog 18 #[.agg #[.int .i64 me, .int .i64 next, u, .slice none 0 0]] w fun e w' => (∃ u, e = .returned (.agg #[.int .i64 me, .int .i64 next, u, .slice none 0 0]) ∧ InOwnX w' w.heap.size w'.heap.size u l) ∧ Below w.heap.size w w' := by
  obtain ⟨a1, n1, c1, rfl⟩ := h.form
  have PH := Lib.hid h
  have SF := Lib.hid hs
  have X := Lib.hid ((Bx.new w 30 #[.int .i64 me, .int .i64 next, .slice a1 n1 c1, .slice none 0 0] _ rfl).alloc (.cells #[.int .i64 0, .int .i64 0, .slice none 0 0, .slice none 0 0] 30))
  have R := Lib.hid (Bx.new (w.alloc (.cells #[.int .i64 me, .int .i64 next, .slice a1 n1 c1, .slice none 0 0] 30)) 30 #[.int .i64 0, .int .i64 0, .slice none 0 0, .slice none 0 0] (w.heap.size + 1) (by simp))
  have A := Lib.hid (((Af.refl w).alloc (.cells #[.int .i64 me, .int .i64 next, .slice a1 n1 c1, .slice none 0 0] 30)).alloc (.cells #[.int .i64 0, .int .i64 0, .slice none 0 0, .slice none 0 0] 30))
  obtain ⟨w1, hw1⟩ : ∃ w1, w1 = (w.alloc (.cells #[.int .i64 me, .int .i64 next, .slice a1 n1 c1, .slice none 0 0] 30)).alloc (.cells #[.int .i64 0, .int .i64 0, .slice none 0 0, .slice none 0 0] 30) := ⟨_, rfl⟩
  have HZ1 := Lib.hid (show w1.heap.size = w.heap.size + 2 by rw [hw1]; simp)
  rw [← hw1] at X R A
  clear h hs
  go_enter Tryz.func18, Tryz.ntmps18
  go_upto_region 1 with fail
  rw [← hw1]
  clear hw1
  have Xa := Lib.hid X.out.drew
  have Xb := Lib.hid (X.out.alloc (.cells #[.int .i64 0, .int .i64 0, .slice none 0 0, .slice none 0 0] 30)).drew
  have Aa := Lib.hid A.out.drew
  have Ab := Lib.hid (A.out.alloc (.cells #[.int .i64 0, .int .i64 0, .slice none 0 0, .slice none 0 0] 30)).drew
  have Yb := Lib.hid (Bx.new w1 30 #[.int .i64 0, .int .i64 0, .slice none 0 0, .slice none 0 0] _ rfl).drew
  have CX := Lib.hid (cells4 Xa.out)
  have CZ := Lib.hid (cells4 Xb.out)
  go_cut [3] from 6 (fun sp wx => ∃ g a3 n3 c3 lo hi, sp = .pointer (some ⟨g, 0, none⟩) ∧ w1.heap.size ≤ g ∧ g < wx.heap.size ∧ Bx wx g 30 #[.int .i64 me, .int .i64 next, .slice a3 n3 c3, .slice none 0 0] ∧ w1.heap.size ≤ lo ∧ hi ≤ wx.heap.size ∧ (g < lo ∨ hi ≤ g) ∧ InOwnX wx lo hi (.slice a3 n3 c3) l ∧ Below w1.heap.size w1 wx)
  case first =>
    go_region_held3 (fun w' => w'.cell? ⟨w.heap.size, 0, none⟩ = some (.int .i64 me) ∧ w'.cell? ⟨w.heap.size, 1, none⟩ = some (.int .i64 next) ∧ w'.cell? ⟨w.heap.size, 2, none⟩ = some (.slice a1 n1 c1) ∧ w'.cell? ⟨w.heap.size, 3, none⟩ = some (.slice none 0 0)) (first | (with_reducible exact CX.out) | (with_reducible exact CZ.out) | (with_reducible exact CY.out _) | (with_reducible exact CW.out _) | go_keep)
      (first
        | (go_at_call 41; (first
            | (refine (impl_copyInsts _ l _ (PH.out.later Aa.out) SF.out).mono ?_; rintro e wa ⟨⟨u3, rfl, o3⟩, bb⟩; obtain ⟨a3, n3, c3, rfl⟩ := o3.form; have OA := Lib.hid o3; have NA := Lib.hid ((show Below w1.heap.size w1 w1.drew from (Below.refl _ _).drew).trans bb); have Xc := Lib.hid (Xa.out.after bb); have CX := Lib.hid (cells4 Xc.out); have CY := Lib.hid (fun ob => cells4 (Xc.out.alloc ob)); have hrow := rowPN_new wa; have CW := Lib.hid (fun c => cells4 (Xc.out.alloc (.cells c 30))); clear bb o3)
            | (refine (impl_copyInsts _ l _ (PH.out.later Ab.out) SF.out).mono ?_; rintro e wa ⟨⟨u3, rfl, o3⟩, bb⟩; obtain ⟨a3, n3, c3, rfl⟩ := o3.form; have OB := Lib.hid o3; have NB := Lib.hid ((show Below w1.heap.size w1 (w1.alloc (.cells #[.int .i64 0, .int .i64 0, .slice none 0 0, .slice none 0 0] 30)).drew from ((Below.refl _ _).alloc (Nat.le_refl _) _).drew).trans (bb.mono (by simp))); have Xc := Lib.hid (Xb.out.after bb); have Yc := Lib.hid (Yb.out.after bb); have CX := Lib.hid (cells4 Xc.out); have HB := Lib.hid bb.size; have hrow : rowPN 30 wa w1.heap.size := ⟨_, Yc.out, rfl⟩; have CW := Lib.hid (fun c => cells4 (Xc.out.keep (grown_setRowN wa w1.heap.size c) (fun e => by have := Option.some.inj e; have := HZ1.out; omega))); clear bb o3))))
    all_goals
      go_wp2
      go_meet
      case rel => first | exact ⟨wa.heap.size, a3, n3, c3, w1.heap.size, wa.heap.size, rfl, NA.out.size, by simp, Bx.new wa _ _ _ rfl, Nat.le_refl _, by simp, .inr (Nat.le_refl _), OA.out.later ((Below.refl _ _).alloc (Nat.le_refl _) _), NA.out.alloc NA.out.size _⟩ | exact ⟨w1.heap.size, a3, n3, c3, w1.heap.size + 1, wa.heap.size, rfl, Nat.le_refl _, by have h := HB.out; simp at h; rw [setRow_size]; omega, setRow_heap wa w1.heap.size _ _ 30 (0, 0) Yc.out, by omega, by rw [setRow_size]; exact Nat.le_refl _, .inl (by omega), by have h := OB.out; simp only [World.size_alloc, World.size_drew] at h; exact h.outr (out_grown (lo := w1.heap.size) (hi := w1.heap.size + 1) (grown_setRowN wa w1.heap.size _) (fun k hk => by cases hk; omega)) (Nat.le_refl _) (by omega), NB.out.grown (grown_setRowN wa w1.heap.size _) NB.out.size (fun k hk => by cases hk; exact Nat.le_refl _)⟩
  case rest =>
    obtain ⟨g, a3, n3, c3, lo, hi, rfl, hg1, hg2, hbx, hlo, hhi, hgl, hown, hbl⟩ := hcut
    have hz1 := HZ1.out
    have G := Lib.hid hbx
    have O := Lib.hid hown
    have X := Lib.hid (X.out.after hbl)
    have R := Lib.hid (R.out.after hbl)
    have A := Lib.hid (A.out.after hbl)
    clear hbx hown hbl Xa Xb Aa Ab Yb CX CZ
    obtain ⟨x0, x1, x2, x3⟩ := cells4 X.out
    go_wp2
    go_loopw [17] (fun i wr => i = .int .i64 0 ∧ wr = wc) (fun _ _ => 0)
    case atStart => exact ⟨rfl, rfl⟩
    case round =>
      obtain ⟨rfl, rfl⟩ := hrel
      clear x0 x1 x2 x3
      obtain ⟨y0, y1, y2, y3⟩ := cells4 G.out
      obtain ⟨r0, r1, r2, r3⟩ := cells4 R.out
      obtain ⟨f0, f1, f2, f3⟩ := froz4 R.out
      go_wp2
      clear y0 y1 y2 y3 r0 r1 r2 r3 f0 f1 f2 f3
      have F := Lib.hid (show Bx ((((wr.setCell ⟨w.heap.size + 1, 0, none⟩ (.int .i64 me)).setCell ⟨w.heap.size + 1, 1, none⟩ (.int .i64 next)).setCell ⟨w.heap.size + 1, 2, none⟩ (.slice a3 n3 c3)).setCell ⟨w.heap.size + 1, 3, none⟩ (.slice none 0 0)) (w.heap.size + 1) 30 #[.int .i64 me, .int .i64 next, .slice a3 n3 c3, .slice none 0 0] from (((R.out.set 0 (.int .i64 me)).set 1 (.int .i64 next)).set 2 (.slice a3 n3 c3)).set 3 (.slice none 0 0))
      have hq : w.heap.size + 1 < lo := by omega
      have OF := Lib.hid ((((O.out.put (q := w.heap.size + 1) (o := 0) (.int .i64 me) hhi (.inl hq)).put (q := w.heap.size + 1) (o := 1) (.int .i64 next) (by simpa using hhi) (.inl hq)).put (q := w.heap.size + 1) (o := 2) (.slice a3 n3 c3) (by simpa using hhi) (.inl hq)).put (q := w.heap.size + 1) (o := 3) (.slice none 0 0) (by simpa using hhi) (.inl hq))
      have AF := Lib.hid ((((A.out.set (p := ⟨w.heap.size + 1, 0, none⟩) (by simp) (.int .i64 me)).set (p := ⟨w.heap.size + 1, 1, none⟩) (by simp) (.int .i64 next)).set (p := ⟨w.heap.size + 1, 2, none⟩) (by simp) (.slice a3 n3 c3)).set (p := ⟨w.heap.size + 1, 3, none⟩) (by simp) (.slice none 0 0))
      exact bodyPost_ret (results_nodeB Tryz.results18 _ _ (w.heap.size + 1) _ _ _ _ rfl F.out) rfl ⟨⟨_, rfl, OF.out.mono (by omega) (by simpa using hhi)⟩, AF.out⟩
end Go.Proofs.YtckeeadkhopljaaGreatDoor
/- The model's copy of a node. -/
namespace Go.Proofs.YtckeeadkhopljaaGreatDoor
open Go.RowKit Go.PlainAid
set_option linter.unusedVariables false

attribute [local go_sem] blkN_eq aggN_eq okAN_mk World.setRow_alloc_new
attribute [local go_sem ↓] load_node_pre store_node_pre
set_option maxRecDepth 100000 in
set_option maxHeartbeats 4000000 in
theorem spec_copyN (me next : Int) (u : Value) (l : List In) (v : Value) (ld : List Ld) (w : World) (h : Insts w u l) (hs : SmF l) (hL : Leads w v ld) (hsL : SmL ld) :
    Calls Tryz.prog 14 #[.agg #[.int .i64 me, .int .i64 next, u, v]] w fun e w' => (∃ u aL nL cL, e = .returned (.agg #[.int .i64 me, .int .i64 next, u, .slice aL nL cL]) ∧ InOwnX w' w.heap.size w'.heap.size u l) ∧ Below w.heap.size w w' := by
  obtain ⟨a1, n1, c1, rfl⟩ := h.form
  have HLV := Lib.hid hL
  have HSL := Lib.hid hsL
  obtain ⟨kL, a2, c2, rfl, hcL, haL⟩ := hL
  obtain ⟨n2, hn2⟩ : ∃ n, ld.length = n := ⟨_, rfl⟩
  have HN2 := Lib.hid hn2
  have hln := hsL.1
  rw [hn2] at kL hcL haL hln HLV ⊢
  have HA := Lib.hid haL
  clear hn2 haL hsL
  have PH := Lib.hid h
  have SF := Lib.hid hs
  have X := Lib.hid ((Bx.new w 30 #[.int .i64 me, .int .i64 next, .slice a1 n1 c1, .slice a2 n2 c2] _ rfl).alloc (.cells #[.int .i64 0, .int .i64 0, .slice none 0 0, .slice none 0 0] 30))
  have R := Lib.hid (Bx.new (w.alloc (.cells #[.int .i64 me, .int .i64 next, .slice a1 n1 c1, .slice a2 n2 c2] 30)) 30 #[.int .i64 0, .int .i64 0, .slice none 0 0, .slice none 0 0] (w.heap.size + 1) (by simp))
  have A := Lib.hid (((Af.refl w).alloc (.cells #[.int .i64 me, .int .i64 next, .slice a1 n1 c1, .slice a2 n2 c2] 30)).alloc (.cells #[.int .i64 0, .int .i64 0, .slice none 0 0, .slice none 0 0] 30))
  obtain ⟨w1, hw1⟩ : ∃ w1, w1 = (w.alloc (.cells #[.int .i64 me, .int .i64 next, .slice a1 n1 c1, .slice a2 n2 c2] 30)).alloc (.cells #[.int .i64 0, .int .i64 0, .slice none 0 0, .slice none 0 0] 30) := ⟨_, rfl⟩
  have HZ1 := Lib.hid (show w1.heap.size = w.heap.size + 2 by rw [hw1]; simp)
  rw [← hw1] at X R A
  clear h hs
  go_enter Tryz.func14, Tryz.ntmps14
  go_upto_region 1 with fail
  rw [← hw1]
  clear hw1
  have Xa := Lib.hid X.out.drew
  have Xb := Lib.hid (X.out.alloc (.cells #[.int .i64 0, .int .i64 0, .slice none 0 0, .slice none 0 0] 30)).drew
  have Aa := Lib.hid A.out.drew
  have Ab := Lib.hid (A.out.alloc (.cells #[.int .i64 0, .int .i64 0, .slice none 0 0, .slice none 0 0] 30)).drew
  have Yb := Lib.hid (Bx.new w1 30 #[.int .i64 0, .int .i64 0, .slice none 0 0, .slice none 0 0] _ rfl).drew
  have CX := Lib.hid (cells4 Xa.out)
  have CZ := Lib.hid (cells4 Xb.out)
  go_cut [3] from 6 (fun sp wx => ∃ g a3 n3 c3 lo hi, sp = .pointer (some ⟨g, 0, none⟩) ∧ w1.heap.size ≤ g ∧ g < wx.heap.size ∧ Bx wx g 30 #[.int .i64 me, .int .i64 next, .slice a3 n3 c3, .slice none 0 0] ∧ w1.heap.size ≤ lo ∧ hi ≤ wx.heap.size ∧ (g < lo ∨ hi ≤ g) ∧ InOwnX wx lo hi (.slice a3 n3 c3) l ∧ Below w1.heap.size w1 wx)
  case first =>
    go_region_held3 (fun w' => w'.cell? ⟨w.heap.size, 0, none⟩ = some (.int .i64 me) ∧ w'.cell? ⟨w.heap.size, 1, none⟩ = some (.int .i64 next) ∧ w'.cell? ⟨w.heap.size, 2, none⟩ = some (.slice a1 n1 c1) ∧ w'.cell? ⟨w.heap.size, 3, none⟩ = some (.slice a2 n2 c2)) (first | (with_reducible exact CX.out) | (with_reducible exact CZ.out) | (with_reducible exact CY.out _) | (with_reducible exact CW.out _) | go_keep)
      (first
        | (go_at_call 32; (first
            | (refine (spec_copyAll _ l _ (PH.out.later Aa.out) SF.out).mono ?_; rintro e wa ⟨⟨u3, rfl, o3⟩, bb⟩; obtain ⟨a3, n3, c3, rfl⟩ := o3.form; have OA := Lib.hid o3; have NA := Lib.hid ((show Below w1.heap.size w1 w1.drew from (Below.refl _ _).drew).trans bb); have Xc := Lib.hid (Xa.out.after bb); have CX := Lib.hid (cells4 Xc.out); have CY := Lib.hid (fun ob => cells4 (Xc.out.alloc ob)); have hrow := rowPN_new wa; have CW := Lib.hid (fun c => cells4 (Xc.out.alloc (.cells c 30))); clear bb o3)
            | (refine (spec_copyAll _ l _ (PH.out.later Ab.out) SF.out).mono ?_; rintro e wa ⟨⟨u3, rfl, o3⟩, bb⟩; obtain ⟨a3, n3, c3, rfl⟩ := o3.form; have OB := Lib.hid o3; have NB := Lib.hid ((show Below w1.heap.size w1 (w1.alloc (.cells #[.int .i64 0, .int .i64 0, .slice none 0 0, .slice none 0 0] 30)).drew from ((Below.refl _ _).alloc (Nat.le_refl _) _).drew).trans (bb.mono (by simp))); have Xc := Lib.hid (Xb.out.after bb); have Yc := Lib.hid (Yb.out.after bb); have CX := Lib.hid (cells4 Xc.out); have HB := Lib.hid bb.size; have hrow : rowPN 30 wa w1.heap.size := ⟨_, Yc.out, rfl⟩; have CW := Lib.hid (fun c => cells4 (Xc.out.keep (grown_setRowN wa w1.heap.size c) (fun e => by have := Option.some.inj e; have := HZ1.out; omega))); clear bb o3))))
    all_goals
      go_wp2
      go_meet
      case rel => first | exact ⟨wa.heap.size, a3, n3, c3, w1.heap.size, wa.heap.size, rfl, NA.out.size, by simp, Bx.new wa _ _ _ rfl, Nat.le_refl _, by simp, .inr (Nat.le_refl _), OA.out.later ((Below.refl _ _).alloc (Nat.le_refl _) _), NA.out.alloc NA.out.size _⟩ | exact ⟨w1.heap.size, a3, n3, c3, w1.heap.size + 1, wa.heap.size, rfl, Nat.le_refl _, by have h := HB.out; simp at h; rw [setRow_size]; omega, setRow_heap wa w1.heap.size _ _ 30 (0, 0) Yc.out, by omega, by rw [setRow_size]; exact Nat.le_refl _, .inl (by omega), by have h := OB.out; simp only [World.size_alloc, World.size_drew] at h; exact h.outr (out_grown (lo := w1.heap.size) (hi := w1.heap.size + 1) (grown_setRowN wa w1.heap.size _) (fun k hk => by cases hk; omega)) (Nat.le_refl _) (by omega), NB.out.grown (grown_setRowN wa w1.heap.size _) NB.out.size (fun k hk => by cases hk; exact Nat.le_refl _)⟩
  case rest =>
    obtain ⟨g, a3, n3, c3, lo, hi, rfl, hg1, hg2, hbx, hlo, hhi, hgl, hown, hbl⟩ := hcut
    have hz1 := HZ1.out
    have G := Lib.hid hbx
    have O := Lib.hid hown
    have X := Lib.hid (X.out.after hbl)
    have R := Lib.hid (R.out.after hbl)
    have A := Lib.hid (A.out.after hbl)
    clear hbx hown hbl Xa Xb Aa Ab Yb CX CZ
    obtain ⟨B, hB⟩ : ∃ B, wc.heap.size = B := ⟨_, rfl⟩
    rw [hB] at hg2 hhi
    go_wp2
    go_loopw [4] (fun i wr => ∃ (k : Nat) (a4 : Option Addr) (c4 : Nat), k ≤ n2 ∧ i = .int .i64 k ∧ B ≤ wr.heap.size ∧ Bx wr g 30 #[.int .i64 me, .int .i64 next, .slice a3 n3 c3, .slice a4 k c4] ∧ LvRow wr B (.slice a4 k c4) k ∧ InOwnX wr lo hi (.slice a3 n3 c3) l ∧ Bx wr w.heap.size 30 #[.int .i64 me, .int .i64 next, .slice a1 n1 c1, .slice a2 n2 c2] ∧ Bx wr (w.heap.size + 1) 30 #[.int .i64 0, .int .i64 0, .slice none 0 0, .slice none 0 0] ∧ Af w wr) (fun i _ => n2 - (intOf i).toNat)
    case atStart => exact ⟨0, none, 0, by omega, rfl, by omega, G.out, lvRow_nil _ _, O.out, X.out, R.out, A.out⟩
    case round =>
      clear G O X R A
      obtain ⟨k, a4, c4, hk, rfl, hBz, hg, hrow, ho, hx, hr, haf⟩ := hrel
      have G := Lib.hid hg
      have RW := Lib.hid hrow
      have O := Lib.hid ho
      have X := Lib.hid hx
      have R := Lib.hid hr
      have A := Lib.hid haf
      clear hg hrow ho hx hr haf
      have hBg : g < B := hg2
      by_cases hlt : k < n2
      · obtain ⟨b, o, rfl, hb, hcb⟩ := HA.out (by omega)
        obtain ⟨d, f, cc, pp⟩ := hcb k hlt
        obtain ⟨m0, m1, m2, m3, m4, m5, m6, m7⟩ := cc.below A.out hb
        have HSZ := HSL.out.2 k (by rw [HN2.out]; exact hlt)
        obtain ⟨⟨ad, nd, cd, rfl⟩, af, nf, cf, rfl⟩ := pp.form
        obtain ⟨q, hq⟩ : ∃ q, nthL ld k = q := ⟨_, rfl⟩
        rw [hq] at m0 m1 m2 m3 m4 m7 HSZ pp
        have PP := Lib.hid pp
        have x0 := X.out.cell 3 _ rfl
        have y1 : (k : Int) < (n2 : Int) := by omega
        have y0 : (0 : Int) ≤ (k : Int) := by omega
        clear hcb cc pp hq
        have Gx := Lib.hid (G.out.alloc (.cells #[.int .i64 q.rep, .int .i64 q.slot, .int .i64 q.bal, .int .i64 q.ph, .int .i64 q.seq, .slice ad nd cd, .slice af nf cf, .bool q.same] 70))
        have Qx := Lib.hid (Bx.new wr 70 #[.int .i64 q.rep, .int .i64 q.slot, .int .i64 q.bal, .int .i64 q.ph, .int .i64 q.seq, .slice ad nd cd, .slice af nf cf, .bool q.same] _ rfl)
        have q5 := (Qx.out.alloc (.cells #[] 63)).cell 5 _ rfl
        have PR := Lib.hid (PP.out.later A.out)
        have L0 := Lib.hid (((Af.refl wr).alloc (.cells #[.int .i64 q.rep, .int .i64 q.slot, .int .i64 q.bal, .int .i64 q.ph, .int .i64 q.seq, .slice ad nd cd, .slice af nf cf, .bool q.same] 70)).alloc (.cells #[] 63))
        have S1 := HSZ.1
        have S2 := HSZ.2
        clear HSZ
        go_wp2_with (first
          | (at_builtin; refine wp_append_idsA rfl (.tmp 26) (.tmp 28) rfl (wr.heap.size + 1) (wr.heap.size + 1) (by first | rfl | simp) (by have h := idRow_new (wr.alloc (.cells #[.int .i64 q.rep, .int .i64 q.slot, .int .i64 q.bal, .int .i64 q.ph, .int .i64 q.seq, .slice ad nd cd, .slice af nf cf, .bool q.same] 70)) (wr.heap.size + 1) (by simp); simpa using h) (.slice ad nd cd) q.deps rfl (PR.out.1.later L0.out) (by omega) (by simp) ?_; intro u6 w6 h6 g6; obtain ⟨a6, n6, c6, hu6⟩ := h6.own.form; subst hu6; have Q6 := Lib.hid ((Qx.out.alloc (.cells #[] 63)).keep g6 (fun e => by have e2 := Option.some.inj e; omega)); have L6 := Lib.hid ((L0.out.grow g6 (fun j hj => by cases hj; omega)).set (p := ⟨wr.heap.size, 5, none⟩) (Nat.le_refl _) (.slice a6 n6 c6)); have G6 := Lib.hid (((Gx.out.alloc (.cells #[] 63)).keep g6 (fun e => by have e2 := Option.some.inj e; omega)).set_other ⟨wr.heap.size, 5, none⟩ (.slice a6 n6 c6) (by simp <;> omega)); have Q6s := Lib.hid (show Bx (w6.setCell ⟨wr.heap.size, 5, none⟩ (.slice a6 n6 c6)) wr.heap.size 70 #[.int .i64 q.rep, .int .i64 q.slot, .int .i64 q.bal, .int .i64 q.ph, .int .i64 q.seq, .slice a6 n6 c6, .slice af nf cf, .bool q.same] from Q6.out.set 5 (.slice a6 n6 c6)); have hz6 : wr.heap.size + 1 < w6.heap.size := (by have h := g6.size; simp at h; omega); clear g6 h6; obtain ⟨t0, t1, t2, t3, t4, t5, t6, t7⟩ := cells8 Q6.out; have tf := Q6.out.frozen 5; have q6 := (Q6s.out.alloc (.cells #[] 3)).cell 6 _ rfl)
          | (at_builtin; refine wp_append_nsA rfl (.tmp 31) (.tmp 33) rfl w6.heap.size w6.heap.size (by first | rfl | simp) (by have h := nsRow_new (w6.setCell ⟨wr.heap.size, 5, none⟩ (.slice a6 n6 c6)) w6.heap.size (by simp); simpa using h) (.slice af nf cf) q.frm rfl (PR.out.2.later (L6.out.alloc (.cells #[] 3))) (by omega) (by simp) ?_; intro u7 w7 h7 g7; obtain ⟨a7, n7, c7, hu7⟩ := h7.form; subst hu7; have Q7 := Lib.hid ((Q6s.out.alloc (.cells #[] 3)).keep g7 (fun e => by have e2 := Option.some.inj e; omega)); have L7 := Lib.hid (((L6.out.alloc (.cells #[] 3)).grow g7 (fun j hj => by cases hj; omega)).set (p := ⟨wr.heap.size, 6, none⟩) (Nat.le_refl _) (.slice a7 n7 c7)); have G7 := Lib.hid (((G6.out.alloc (.cells #[] 3)).keep g7 (fun e => by have e2 := Option.some.inj e; omega)).set_other ⟨wr.heap.size, 6, none⟩ (.slice a7 n7 c7) (by simp <;> omega)); have Q7s := Lib.hid (show Bx (w7.setCell ⟨wr.heap.size, 6, none⟩ (.slice a7 n7 c7)) wr.heap.size 70 #[.int .i64 q.rep, .int .i64 q.slot, .int .i64 q.bal, .int .i64 q.ph, .int .i64 q.seq, .slice a6 n6 c6, .slice a7 n7 c7, .bool q.same] from Q7.out.set 6 (.slice a7 n7 c7)); have hz7 : w6.heap.size < w7.heap.size := (by have h := g7.size; simp at h; omega); clear g7 h7; obtain ⟨v0, v1, v2, v3, v4, v5, v6, v7⟩ := cells8 Q7.out; have vf := Q7.out.frozen 6; obtain ⟨s0, s1, s2, s3, s4, s5, s6, s7⟩ := cells8 Q7s.out; have g3c := G7.out.cell 3 _ rfl)
          | (at_builtin; refine wp_append_lv rfl (.tmp 37) (.tmp 39) rfl B (.slice a4 k c4) k rfl (RW.out.later (L7.out.alloc (.cells #[.int .i64 q.rep, .int .i64 q.slot, .int .i64 q.bal, .int .i64 q.ph, .int .i64 q.seq, .slice a6 n6 c6, .slice a7 n7 c7, .bool q.same] 70))) w7.heap.size 1 (by first | rfl | simp) #[.int .i64 q.rep, .int .i64 q.slot, .int .i64 q.bal, .int .i64 q.ph, .int .i64 q.seq, .slice a6 n6 c6, .slice a7 n7 c7, .bool q.same] rfl (by simp [Value.oneCell']) (Bx.new _ _ _ w7.heap.size (by simp)) (by omega) (by simp; omega) ?_; intro u8 w8 h8 g8; obtain ⟨a8, c8, hu8⟩ := h8.form; subst hu8; have G8 := Lib.hid ((G7.out.alloc (.cells #[.int .i64 q.rep, .int .i64 q.slot, .int .i64 q.bal, .int .i64 q.ph, .int .i64 q.seq, .slice a6 n6 c6, .slice a7 n7 c7, .bool q.same] 70)).keep g8 (fun e => by have := (RW.out.lt _ e.symm).1; omega)); have O8 := Lib.hid ((O.out.later (L7.out.alloc (.cells #[.int .i64 q.rep, .int .i64 q.slot, .int .i64 q.bal, .int .i64 q.ph, .int .i64 q.seq, .slice a6 n6 c6, .slice a7 n7 c7, .bool q.same] 70))).outr (out_grown (lo := B) (hi := w8.heap.size + wr.heap.size + 1) g8 (fun j hj => by have := RW.out.lt _ hj; omega)) (by simp; omega) (.inl (by omega))); have X8 := Lib.hid ((X.out.after (L7.out.alloc (.cells #[.int .i64 q.rep, .int .i64 q.slot, .int .i64 q.bal, .int .i64 q.ph, .int .i64 q.seq, .slice a6 n6 c6, .slice a7 n7 c7, .bool q.same] 70))).keep g8 (fun e => by have := (RW.out.lt _ e.symm).1; omega)); have R8 := Lib.hid ((R.out.after (L7.out.alloc (.cells #[.int .i64 q.rep, .int .i64 q.slot, .int .i64 q.bal, .int .i64 q.ph, .int .i64 q.seq, .slice a6 n6 c6, .slice a7 n7 c7, .bool q.same] 70))).keep g8 (fun e => by have := (RW.out.lt _ e.symm).1; omega)); have A8 := Lib.hid ((A.out.after (L7.out.alloc (.cells #[.int .i64 q.rep, .int .i64 q.slot, .int .i64 q.bal, .int .i64 q.ph, .int .i64 q.seq, .slice a6 n6 c6, .slice a7 n7 c7, .bool q.same] 70))).grow g8 (fun j hj => by have := (RW.out.lt _ hj).1; omega)); have H8 := Lib.hid h8; have hz8 : w7.heap.size < w8.heap.size := (by have h := g8.size; simp at h; omega); clear g8 h8; obtain ⟨p0, p1, p2, p3⟩ := cells4 G8.out; have pf := G8.out.frozen 3))
        go_roundw
        case rel =>
          refine ⟨k + 1, a8, c8, by omega, by go_num, by simp; omega, G8.out.set 3 (.slice a8 (k + 1) c8), ?_, O8.out.put (q := g) (o := 3) (.slice a8 (k + 1) c8) (by omega) hgl, X8.out.set_other ⟨g, 3, none⟩ (.slice a8 (k + 1) c8) (by simp <;> omega), R8.out.set_other ⟨g, 3, none⟩ (.slice a8 (k + 1) c8) (by simp <;> omega), A8.out.set (p := ⟨g, 3, none⟩) (by simp <;> omega) _⟩
          exact H8.out.kept (grownBy_put w8 g 3 _) (fun j hj e => by cases hj; have := (H8.out.lt _ e).1; omega)
        case measure => simp only [intOf]; omega
      · obtain rfl : k = n2 := by omega
        clear hlt
        have x0 := X.out.cell 3 _ rfl
        obtain ⟨y0, y1, y2, y3⟩ := cells4 G.out
        obtain ⟨r0, r1, r2, r3⟩ := cells4 R.out
        obtain ⟨f0, f1, f2, f3⟩ := froz4 R.out
        go_wp2
        clear x0 y0 y1 y2 y3 r0 r1 r2 r3 f0 f1 f2 f3
        have hhi : hi ≤ wr.heap.size := by omega
        have F := Lib.hid (show Bx ((((wr.setCell ⟨w.heap.size + 1, 0, none⟩ (.int .i64 me)).setCell ⟨w.heap.size + 1, 1, none⟩ (.int .i64 next)).setCell ⟨w.heap.size + 1, 2, none⟩ (.slice a3 n3 c3)).setCell ⟨w.heap.size + 1, 3, none⟩ (.slice a4 k c4)) (w.heap.size + 1) 30 #[.int .i64 me, .int .i64 next, .slice a3 n3 c3, .slice a4 k c4] from (((R.out.set 0 (.int .i64 me)).set 1 (.int .i64 next)).set 2 (.slice a3 n3 c3)).set 3 (.slice a4 k c4))
        have hq : w.heap.size + 1 < lo := by omega
        have OF := Lib.hid ((((O.out.put (q := w.heap.size + 1) (o := 0) (.int .i64 me) hhi (.inl hq)).put (q := w.heap.size + 1) (o := 1) (.int .i64 next) (by simpa using hhi) (.inl hq)).put (q := w.heap.size + 1) (o := 2) (.slice a3 n3 c3) (by simpa using hhi) (.inl hq)).put (q := w.heap.size + 1) (o := 3) (.slice a4 k c4) (by simpa using hhi) (.inl hq))
        have AF := Lib.hid ((((A.out.set (p := ⟨w.heap.size + 1, 0, none⟩) (by simp) (.int .i64 me)).set (p := ⟨w.heap.size + 1, 1, none⟩) (by simp) (.int .i64 next)).set (p := ⟨w.heap.size + 1, 2, none⟩) (by simp) (.slice a3 n3 c3)).set (p := ⟨w.heap.size + 1, 3, none⟩) (by simp) (.slice a4 k c4))
        exact bodyPost_ret (results_nodeB Tryz.results14 _ _ (w.heap.size + 1) _ _ _ _ rfl F.out) rfl ⟨⟨_, _, _, _, rfl, OF.out.mono (by omega) (by simpa using hhi)⟩, AF.out⟩
end Go.Proofs.YtckeeadkhopljaaGreatDoor
/- The laws' marks on Leads: which memory they write, whatever it holds. -/
namespace Go.Proofs.YtckeeadkhopljaaGreatDoor
open Go.RowKit Go.PlainAid
set_option linter.unusedVariables false

set_option maxRecDepth 100000 in
set_option maxHeartbeats 1000000 in
theorem mark_nsW (v : Value) (n : Nat) (lo hi : Nat) (s : Int) (w : World) (hv : Wr w 3 1 lo hi v n) (hn : n ≤ 1048576) (hs0 : 1 ≤ s) (hs1 : s ≤ 17592186044416) :
    Calls Tryz.prog 49 #[v, .int .i64 s] w fun e w' => e = .returned (.int .i64 (s + n)) ∧ Chg (fun t => t == 3) lo hi w w' := by
  have HV0 := Lib.hid hv
  obtain ⟨a, cap, rfl, h3⟩ := hv
  clear h3
  go_enter Tryz.func49, Tryz.ntmps49
  go_wp2
  go_loopw [1, 5] (fun kv i wr => ∃ j : Nat, j ≤ n ∧ i = .int .i64 j ∧ kv = .int .i64 (s + (j : Int)) ∧ Chg (fun t => t == 3) lo hi w wr) (fun _ i _ => n - (intOf i).toNat)
  case atStart => exact ⟨0, by omega, rfl, by simp, Chg.refl _ _ _ _⟩
  case round =>
    obtain ⟨j, hj, rfl, rfl, hc⟩ := hrel
    have HC := Lib.hid hc
    clear hc
    by_cases hlt : j < n
    · obtain ⟨a', cap', e, h3⟩ := HV0.out
      simp only [Value.slice.injEq] at e
      obtain ⟨g, o, cur, rfl, hgl, hg, hsz⟩ := h3 (by omega)
      obtain ⟨rfl, _, rfl⟩ := e
      obtain ⟨c', e', s', _⟩ := HC.out.shape g cur 3 hg
      obtain ⟨⟨y, d1⟩, f1⟩ := wr_cell (o := o) (i := j) e' (by omega)
      have C2 := Lib.hid (HC.out.trans (chg_set (m := fun t => t == 3) e' hgl.1 hgl.2 rfl (o := o + j) (.int .i64 (s + (j : Int)))))
      have y1 : (j : Int) < (n : Int) := by omega
      have y0 : (0 : Int) ≤ (j : Int) := by omega
      clear h3 hg e' HC
      go_wp2
      go_roundw
      case rel => exact ⟨j + 1, by omega, by go_num, by go_num, C2.out⟩
      case measure => simp only [intOf]; omega
    · obtain rfl : j = n := by omega
      go_wp2
      go_ret
      exact ⟨rfl, HC.out⟩
abbrev m4 : TypeId → Bool := fun t => (t == 3) || ((t == 63) || (t == 70))
/-- A row of n Leads at o in block g: its slices are D and F; all that changed since w0 is within [lo, hi). -/
def Lk (w0 : World) (lo hi g o n : Nat) (D F : Nat → Value) (w : World) : Prop :=
  ∃ cur : Array Value, w.heap[g]? = some (.cells cur 70 (0, 0)) ∧ o + n * 8 ≤ cur.size ∧ (∀ j, j < n → cur[o + j * 8 + 5]? = some (D j) ∧ cur[o + j * 8 + 6]? = some (F j)) ∧ (lo ≤ g ∧ g < hi) ∧ Chg m4 lo hi w0 w
theorem Lk.chg0 {w0 w : World} {lo hi g o n : Nat} {D F : Nat → Value} (h : Lk w0 lo hi g o n D F w) : Chg m4 lo hi w0 w := by
  obtain ⟨_, _, _, _, _, h⟩ := h; exact h
theorem Lk.set {w0 w : World} {lo hi g o n : Nat} {D F : Nat → Value} (h : Lk w0 lo hi g o n D F w) (j i : Nat) (hj : j < n) (hi16 : i < 8) (h12 : i ≠ 5) (h14 : i ≠ 6) (y : Value) : Lk w0 lo hi g o n D F (w.setCell ⟨g, o + j * 8 + i, none⟩ y) := by
  obtain ⟨cur, r1, r2, r3, r4, r5⟩ := h
  refine ⟨_, heap_setCell_same w g (o + j * 8 + i) cur _ y r1, by simpa using r2, fun k hk => ?_, r4, r5.trans (chg_set r1 r4.1 r4.2 (by simp) y)⟩
  rw [Array.getElem?_setIfInBounds, Array.getElem?_setIfInBounds, if_neg (by omega), if_neg (by omega)]
  exact r3 k hk
theorem Lk.chg {w0 w w' : World} {lo hi g o n : Nat} {D F : Nat → Value} {m : TypeId → Bool} (h : Lk w0 lo hi g o n D F w) (hc : Chg m lo hi w w') (hm : m 70 = false) (hw : ∀ t, m4 t = false → m t = false) : Lk w0 lo hi g o n D F w' := by
  obtain ⟨cur, r1, r2, r3, r4, r5⟩ := h
  obtain ⟨c', e', s', q'⟩ := hc.shape g cur _ r1
  rw [q' hm] at e'
  exact ⟨cur, e', r2, r3, r4, r5.trans (hc.weaken hw)⟩
theorem Lk.cells {w0 w : World} {lo hi g o n : Nat} {D F : Nat → Value} (h : Lk w0 lo hi g o n D F w) (j : Nat) (hj : j < n) :
    ∃ z0 z1 z2 z3 z4 z7 : Value, (w.cell? ⟨g, o + j * 8, none⟩ = some (z0) ∧ w.cell? ⟨g, o + j * 8 + 1, none⟩ = some (z1) ∧ w.cell? ⟨g, o + j * 8 + 2, none⟩ = some (z2) ∧ w.cell? ⟨g, o + j * 8 + 3, none⟩ = some (z3) ∧ w.cell? ⟨g, o + j * 8 + 4, none⟩ = some (z4) ∧ w.cell? ⟨g, o + j * 8 + 5, none⟩ = some (D j) ∧ w.cell? ⟨g, o + j * 8 + 6, none⟩ = some (F j) ∧ w.cell? ⟨g, o + j * 8 + 7, none⟩ = some (z7)) ∧ w.frozen? ⟨g, o + j * 8, none⟩ = false ∧ w.frozen? ⟨g, o + j * 8 + 1, none⟩ = false ∧ w.frozen? ⟨g, o + j * 8 + 2, none⟩ = false ∧ w.frozen? ⟨g, o + j * 8 + 3, none⟩ = false ∧ w.frozen? ⟨g, o + j * 8 + 4, none⟩ = false ∧ w.frozen? ⟨g, o + j * 8 + 5, none⟩ = false ∧ w.frozen? ⟨g, o + j * 8 + 6, none⟩ = false ∧ w.frozen? ⟨g, o + j * 8 + 7, none⟩ = false := by
  obtain ⟨cur, r1, r2, r3, r4, r5⟩ := h
  have hc : ∀ i, i < 8 → w.cell? ⟨g, o + j * 8 + i, none⟩ = some (cur[o + j * 8 + i]?.getD undef) := fun i hi => by
    rw [cell_of_row w g _ cur _ (0, 0) r1, Array.getElem?_eq_getElem (by omega)]; rfl
  have hf : ∀ i, w.frozen? ⟨g, i, none⟩ = false := fun i => frozen_of_row w g i _ _ r1
  have h12 : w.cell? ⟨g, o + j * 8 + 5, none⟩ = some (D j) := by rw [cell_of_row w g _ cur _ (0, 0) r1]; exact (r3 j hj).1
  have h14 : w.cell? ⟨g, o + j * 8 + 6, none⟩ = some (F j) := by rw [cell_of_row w g _ cur _ (0, 0) r1]; exact (r3 j hj).2
  exact ⟨_, _, _, _, _, _, ⟨hc 0 (by omega), hc 1 (by omega), hc 2 (by omega), hc 3 (by omega), hc 4 (by omega), h12, h14, hc 7 (by omega)⟩, hf _, hf _, hf _, hf _, hf _, hf _, hf _, hf _⟩
/-- A slice of n Leads that may be written. -/
def WrLd (w : World) (lo hi : Nat) (v : Value) (n : Nat) : Prop :=
  ∃ a cap, v = .slice a n cap ∧ (0 < n → ∃ (g o : Nat) (D F : Nat → Value) (ND NF : Nat → Nat), a = some ⟨g, o, none⟩ ∧ Lk w lo hi g o n D F w ∧ ∀ j, j < n → Wr w 63 2 lo hi (D j) (ND j) ∧ ND j ≤ 1048576 ∧ Wr w 3 1 lo hi (F j) (NF j) ∧ NF j ≤ 1048576)
theorem WrLd.chg3 {w w' : World} {lo hi lo' hi' : Nat} {v : Value} {n : Nat} (h : WrLd w lo hi v n) (hc : Chg m3 lo' hi' w w') (hne : m3 70 = false) : WrLd w' lo hi v n := by
  obtain ⟨a, cap, e, h3⟩ := h
  refine ⟨a, cap, e, fun h0 => ?_⟩
  obtain ⟨g, o, D, F, ND, NF, r1, ⟨cur, q1, q2, q3, q4, _⟩, r3⟩ := h3 h0
  obtain ⟨c', e', s', q'⟩ := hc.shape g cur _ q1
  rw [q' hne] at e'
  exact ⟨g, o, D, F, ND, NF, r1, ⟨cur, e', q2, q3, q4, Chg.refl _ _ _ _⟩, fun j hj => by
    obtain ⟨a1, a2, a3, a4⟩ := r3 j hj
    exact ⟨a1.chg hc, a2, a3.chg hc, a4⟩⟩
theorem LdOwn.wr {w : World} {lo hi : Nat} {v : Value} {l : List Ld} (h : LdOwn w lo hi v l) (hs : SmL l) : WrLd w lo hi v l.length := by
  obtain ⟨a, cap, e, h1, h2, h3⟩ := h
  refine ⟨a, cap, e, fun h0 => ?_⟩
  obtain ⟨g, o, cur, r1, r2, r3, r4⟩ := h3 h0
  have hex : ∀ j, ∃ p : Value × Value, j < l.length → LdB cur (o + j * 8) (nthL l j) p.1 p.2 ∧ LPO w lo hi (nthL l j) p.1 p.2 := fun j => by
    by_cases hj : j < l.length
    · obtain ⟨u, d, q1, q2, _⟩ := r4 j hj
      exact ⟨(u, d), fun _ => ⟨q1, q2⟩⟩
    · exact ⟨(undef, undef), fun h => absurd h hj⟩
  obtain ⟨f, hf⟩ := Classical.axiomOfChoice hex
  refine ⟨g, o, fun j => (f j).1, fun j => (f j).2, fun j => (nthL l j).deps.length, fun j => (nthL l j).frm.length, r1, ⟨cur, r3, by omega, fun j hj => ⟨(hf j hj).1 5 (by omega), (hf j hj).1 6 (by omega)⟩, ⟨r2.1, r2.2.1⟩, Chg.refl _ _ _ _⟩, fun j hj => ?_⟩
  obtain ⟨_, q2⟩ := hf j hj
  refine ⟨?_, (hs.2 j hj).1, ?_, (hs.2 j hj).2⟩
  · dsimp only
    have hb := q2.bd
    obtain ⟨a', cap', e', i1, i2, i3⟩ := q2.ids
    refine ⟨a', cap', e', fun hp => ?_⟩
    obtain ⟨g', o', cur', q1, q3, q4, _⟩ := i3 hp
    refine ⟨g', o', cur', q1, hb g' (by rw [e', q1]; rfl), q4, ?_⟩
    have := q3.2
    omega
  · dsimp only
    have hb := q2.bf
    obtain ⟨a', cap', e', i1, i2, i3⟩ := q2.ns
    refine ⟨a', cap', e', fun hp => ?_⟩
    obtain ⟨g', o', cur', q1, q3, q4, _⟩ := i3 hp
    refine ⟨g', o', cur', q1, hb g' (by rw [e', q1]; rfl), q4, ?_⟩
    have := q3.2
    omega
set_option maxRecDepth 100000 in
set_option maxHeartbeats 4000000 in
theorem mark_leadsW (v : Value) (n : Nat) (lo hi : Nat) (s : Int) (w : World) (hv : WrLd w lo hi v n) (hn : n ≤ 1048576) (hs0 : 1 ≤ s) (hs1 : s ≤ 8796093022208) :
    Calls Tryz.prog 22 #[v, .int .i64 s] w fun e w' => ∃ z : Int, e = .returned (.int .i64 z) ∧ 1 ≤ z ∧ Chg m4 lo hi w w' := by
  obtain ⟨s0, hs0n⟩ : ∃ s0 : Nat, s = (s0 : Int) := ⟨s.toNat, by omega⟩
  subst hs0n
  obtain ⟨a, cap, rfl, h3⟩ := hv
  by_cases h0 : 0 < n
  case neg =>
    obtain rfl : n = 0 := by omega
    go_enter Tryz.func22, Tryz.ntmps22
    go_wp2
    go_loop [1, 5] (fun kv i => kv = .int .i64 (s0 : Int) ∧ i = .int .i64 0) (fun _ _ => 0)
    case atStart => exact ⟨rfl, rfl⟩
    case round =>
      obtain ⟨rfl, rfl⟩ := hrel
      go_wp2
      go_ret
      exact ⟨s0, rfl, by omega, Chg.refl _ _ _ _⟩
  obtain ⟨g, o, D, F, ND, NF, rfl, hmk, hwr⟩ := h3 h0
  have HMK := Lib.hid hmk
  have HWR := Lib.hid hwr
  clear h3 hmk hwr
  go_enter Tryz.func22, Tryz.ntmps22
  go_wp2
  go_loopw [1, 5] (fun kv i wr => ∃ (j sn : Nat), j ≤ n ∧ i = .int .i64 j ∧ kv = .int .i64 sn ∧ 1 ≤ sn ∧ sn ≤ s0 + j * 4194304 ∧ Lk w lo hi g o n D F wr) (fun _ i _ => n - (intOf i).toNat)
  case atStart => exact ⟨0, s0, by omega, rfl, rfl, by omega, by omega, HMK.out⟩
  case round =>
    obtain ⟨j, sn, hj, rfl, rfl, hs1, hs2, hm⟩ := hrel
    by_cases hlt : j < n
    · have M0 := Lib.hid hm
      have y1 : (j : Int) < (n : Int) := by omega
      have y0 : (0 : Int) ≤ (j : Int) := by omega
      have hwj := HWR.out j hlt
      obtain ⟨z0, z1, z2, z3, z4, z7, ⟨m0, m1, m2, m3, m4, m5, m6, m7⟩, f0, f1, f2, f3, f4, f5, f6, f7⟩ := hm.cells j hlt
      clear hm
      have b1 : (1 : Int) ≤ (sn : Int) := by omega
      have b2 : (sn : Int) ≤ 13194139533313 := by omega
      obtain ⟨au, nu, cu, hU⟩ : ∃ a n c, D j = .slice a n c := by obtain ⟨a, c, e, _⟩ := hwj.1; exact ⟨a, _, c, e⟩
      obtain ⟨ad, nd, cd, hD⟩ : ∃ a n c, F j = .slice a n c := by obtain ⟨a, c, e, _⟩ := hwj.2.2.1; exact ⟨a, _, c, e⟩
      rw [hU] at m5
      go_wp2_with fail
      clear m0 m1 m2 m3 m4 m5 m6 m7 f0 f1 f2 f3 f4 f5 f6 f7
      have MD := Lib.hid (((((M0.out.set j 0 hlt (by omega) (by omega) (by omega) (.int .i64 ((sn : Int)))).set j 1 hlt (by omega) (by omega) (by omega) (.int .i64 ((sn : Int) + 1))).set j 2 hlt (by omega) (by omega) (by omega) (.int .i64 ((sn : Int) + 1 + 1))).set j 3 hlt (by omega) (by omega) (by omega) (.int .i64 ((sn : Int) + 1 + 1 + 1))).set j 4 hlt (by omega) (by omega) (by omega) (.int .i64 ((sn : Int) + 1 + 1 + 1 + 1)))
      have hw1 := hwj.1.chg MD.out.chg0
      rw [hU] at hw1
      refine (mark_idW _ (ND j) lo hi _ _ hw1 hwj.2.1 (by omega) (by omega)).mono ?_
      rintro e w5 ⟨rfl, c5⟩
      have M5 := Lib.hid (MD.out.chg c5 rfl (fun t h => by simp only [m4, Bool.or_eq_false_iff] at h; exact h.2.1))
      clear c5 hw1 MD M0
      obtain ⟨k5, hk5⟩ : ∃ k5 : Int, (sn : Int) + 1 + 1 + 1 + 1 + 1 + 2 * (ND j : Int) = k5 := ⟨_, rfl⟩
      rw [hk5]
      have k5a : 1 ≤ k5 := by omega
      have k5b : k5 ≤ 13194141630500 := by have := hwj.2.1; omega
      have K5 := Lib.hid hk5
      clear hk5
      obtain ⟨z0, z1, z2, z3, z4, z7, ⟨m0, m1, m2, m3, m4, m5, m6, m7⟩, f0, f1, f2, f3, f4, f5, f6, f7⟩ := M5.out.cells j hlt
      rw [hD] at m6
      go_wp2_with fail
      clear m0 m1 m2 m3 m4 m5 m6 m7 f0 f1 f2 f3 f4 f5 f6 f7
      have hw2 := hwj.2.2.1.chg M5.out.chg0
      rw [hD] at hw2
      refine (mark_nsW _ (NF j) lo hi _ _ hw2 hwj.2.2.2 (by omega) (by omega)).mono ?_
      rintro e w6 ⟨rfl, c6⟩
      have M6 := Lib.hid (M5.out.chg c6 rfl (fun t h => by simp only [m4, Bool.or_eq_false_iff] at h; exact h.1))
      clear c6 hw2 M5
      obtain ⟨k6, hk6⟩ : ∃ k6 : Nat, k5 + (NF j : Int) = (k6 : Int) := ⟨(k5 + (NF j : Int)).toNat, by omega⟩
      rw [hk6]
      have k6b : k6 ≤ sn + 4194000 := by have := K5.out; have := hwj.2.1; have := hwj.2.2.2; omega
      have k6a : 1 ≤ k6 := by omega
      have k6c : (k6 : Int) ≤ 13194160000000 := by omega
      clear hk6 K5 k5a k5b
      obtain ⟨z0, z1, z2, z3, z4, z7, ⟨m0, m1, m2, m3, m4, m5, m6, m7⟩, f0, f1, f2, f3, f4, f5, f6, f7⟩ := M6.out.cells j hlt
      go_wp2
      go_roundw
      case rel => exact ⟨j + 1, k6 + 1, by omega, by go_num, by go_num, by omega, by omega, M6.out.set j 7 hlt (by omega) (by omega) (by omega) _⟩
      case measure => simp only [intOf]; omega
    · obtain rfl : j = n := by omega
      go_wp2
      go_ret
      exact ⟨sn, rfl, by omega, hm.chg0⟩
end Go.Proofs.YtckeeadkhopljaaGreatDoor
/- The laws' measure and marks of nodes. -/
namespace Go.Proofs.YtckeeadkhopljaaGreatDoor
open Go.RowKit Go.PlainAid
set_option linter.unusedVariables false

set_option maxRecDepth 100000 in
set_option maxHeartbeats 1000000 in
theorem sz_nodeF (x : Nd) (u v : Value) (w : World) (h : NdP w x u v) :
    Calls Tryz.prog 4 #[.agg #[.int .i64 x.me, .int .i64 x.next, u, v], .int .i64 1048576] w fun e w' => (e = .returned (.int .i64 (-1)) ∨ ∃ r : Int, e = .returned (.int .i64 r) ∧ 0 ≤ r ∧ r ≤ 1048576 ∧ SmF x.insts ∧ SmL x.leads) ∧ Below w.heap.size w w' := by
  obtain ⟨⟨a1, n1, c1, rfl⟩, a2, n2, c2, rfl⟩ := h.form
  have X := Lib.hid (Bx.new w 25 #[.int .i64 x.me, .int .i64 x.next, .slice a1 n1 c1, .slice a2 n2 c2] _ rfl)
  have P := Lib.hid (h.alloc (.cells #[.int .i64 x.me, .int .i64 x.next, .slice a1 n1 c1, .slice a2 n2 c2] 25))
  have A := Lib.hid ((Af.refl w).alloc (.cells #[.int .i64 x.me, .int .i64 x.next, .slice a1 n1 c1, .slice a2 n2 c2] 25))
  clear h
  go_enter Tryz.func4, Tryz.ntmps4
  go_wp2_with fail
  refine (sz_instsF _ x.insts _ P.out.1).mono ?_
  rintro e w1 ⟨(rfl | ⟨r, rfl, r0, r1, r2⟩), b1⟩
  · have A1 := Lib.hid (A.out.after b1)
    clear b1
    go_wp2
    go_ret
    exact ⟨.inl rfl, A1.out⟩
  have X1 := Lib.hid (X.out.after b1)
  have P1 := Lib.hid (P.out.later b1)
  have A1 := Lib.hid (A.out.after b1)
  have R2 := Lib.hid r2
  have hd : decide (r < 0) = false := decide_eq_false (by omega)
  clear b1 X P A r2
  obtain ⟨x0, x1, x2, x3⟩ := cells4 X1.out
  go_wp2_with fail
  clear x0 x1 x2 x3 hd
  refine (sz_leads _ x.leads r _ P1.out.2 r0 r1).mono ?_
  rintro e w2 ⟨(rfl | ⟨q, rfl, q0, q1, q2⟩), b2⟩
  · have A2 := Lib.hid (A1.out.after b2)
    clear b2
    go_wp2
    go_ret
    exact ⟨.inl rfl, A2.out⟩
  have A2 := Lib.hid (A1.out.after b2)
  have Q2 := Lib.hid q2
  have hd : decide (q < 0) = false := decide_eq_false (by omega)
  have hq : q ≤ 1048576 := by omega
  clear b2 X1 P1 A1 q2
  go_wp2
  go_ret
  exact ⟨.inr ⟨q, rfl, q0, hq, R2.out, Q2.out⟩, A2.out⟩
set_option maxRecDepth 100000 in
set_option maxHeartbeats 1000000 in
theorem mark_nodeW (x : Nd) (u v : Value) (lo hi : Nat) (w : World) (h : InOwn w lo hi u x.insts) (h2 : LdOwn w lo hi v x.leads) (hs : Sm x.insts) (hs2 : SmL x.leads) (hh : hi ≤ w.heap.size) :
    Calls Tryz.prog 9 #[.agg #[.int .i64 x.me, .int .i64 x.next, u, v], .int .i64 1] w fun e w' => (∃ z : Int, e = .returned (.int .i64 z) ∧ 1 ≤ z) ∧ Out lo hi w w' := by
  obtain ⟨a1, n1, c1, rfl⟩ := h.form
  obtain ⟨a2, n2, c2, rfl⟩ := h2.form
  have X := Lib.hid (Bx.new w 30 #[.int .i64 x.me, .int .i64 x.next, .slice a1 n1 c1, .slice a2 n2 c2] _ rfl)
  have B := Lib.hid (out_below (lo := lo) (hi := hi) ((Below.refl _ w).alloc (Nat.le_refl _) (.cells #[.int .i64 x.me, .int .i64 x.next, .slice a1 n1 c1, .slice a2 n2 c2] 30)))
  have W1 := Lib.hid ((h.later ((Below.refl _ _).alloc (Nat.le_refl _) (.cells #[.int .i64 x.me, .int .i64 x.next, .slice a1 n1 c1, .slice a2 n2 c2] 30))).wr hs)
  have W2 := Lib.hid ((h2.later ((Below.refl _ _).alloc (Nat.le_refl _) (.cells #[.int .i64 x.me, .int .i64 x.next, .slice a1 n1 c1, .slice a2 n2 c2] 30))).wr hs2)
  clear h h2
  go_enter Tryz.func9, Tryz.ntmps9
  go_wp2_with fail
  refine (mark_instsW _ x.insts.length lo hi _ W1.out hs.1).mono ?_
  rintro e w2 ⟨z, rfl, z1, z2, cg⟩
  have hz2 : z ≤ 8796093022208 := by have := hs.1; omega
  have X := Lib.hid (X.out.outr cg.toOut (.inr hh))
  have W2 := Lib.hid (W2.out.chg3 cg rfl)
  have B := Lib.hid (B.out.trans cg.toOut)
  obtain ⟨x0, x1, x2, x3⟩ := cells4 X.out
  clear cg z2
  go_wp2_with fail
  clear x0 x1 x2 x3
  refine (mark_leadsW _ x.leads.length lo hi z _ W2.out hs2.1 z1 hz2).mono ?_
  rintro e w3 ⟨zz, rfl, zz1, cg⟩
  have B := Lib.hid (B.out.trans cg.toOut)
  clear cg
  go_wp2
  go_ret
  exact ⟨⟨zz, rfl, zz1⟩, B.out⟩
set_option maxRecDepth 100000 in
set_option maxHeartbeats 1000000 in
theorem mark_nodeX (me next : Int) (l : List In) (u : Value) (lo hi : Nat) (w : World) (h : InOwnX w lo hi u l) (hn : l.length ≤ 1000) (hl : ∀ j, j < l.length → (nth l j).cmd.ch.length ≤ 1048576 ∧ (nth l j).deps.length ≤ 1048576) (hh : hi ≤ w.heap.size) :
    Calls Tryz.prog 9 #[.agg #[.int .i64 me, .int .i64 next, u, .slice none 0 0], .int .i64 1] w fun e w' => e = .returned (.int .i64 (snL l l.length : Int)) ∧ InOwnX w' lo hi u (mkXs l l.length) ∧ Out lo hi w w' := by
  obtain ⟨a1, n1, c1, rfl⟩ := h.form
  have X := Lib.hid (Bx.new w 30 #[.int .i64 me, .int .i64 next, .slice a1 n1 c1, .slice none 0 0] _ rfl)
  have B := Lib.hid (out_below (lo := lo) (hi := hi) ((Below.refl _ w).alloc (Nat.le_refl _) (.cells #[.int .i64 me, .int .i64 next, .slice a1 n1 c1, .slice none 0 0] 30)))
  have H := Lib.hid (h.later ((Below.refl _ _).alloc (Nat.le_refl _) (.cells #[.int .i64 me, .int .i64 next, .slice a1 n1 c1, .slice none 0 0] 30)))
  clear h
  go_enter Tryz.func9, Tryz.ntmps9
  go_wp2_with fail
  refine (mark_instsX _ l lo hi _ H.out hn hl).mono ?_
  rintro e w2 ⟨rfl, m2, oc⟩
  have X := Lib.hid (X.out.outr oc (.inr hh))
  have M := Lib.hid m2
  have B := Lib.hid (B.out.trans oc)
  obtain ⟨z, hz⟩ : ∃ z : Int, ((snL l l.length : Nat) : Int) = z := ⟨_, rfl⟩
  have HQ := Lib.hid hz
  rw [hz]
  obtain ⟨x0, x1, x2, x3⟩ := cells4 X.out
  clear oc m2 H hz
  go_wp2_with fail
  clear x0 x1 x2 x3
  refine (mark_leads_nil _ _).mono ?_
  rintro e w3 ⟨rfl, rfl⟩
  go_wp2
  go_ret
  exact ⟨by rw [HQ.out] <;> rfl, M.out, B.out⟩
set_option maxRecDepth 100000 in
set_option maxHeartbeats 1000000 in
theorem held_nodeX (me next : Int) (l : List In) (u : Value) (w : World) (h : Insts w u (mkXs l l.length)) (hn : l.length ≤ 1000) (hl : ∀ j, j < l.length → (nth l j).cmd.ch.length ≤ 1048576 ∧ (nth l j).deps.length ≤ 1048576) :
    Calls Tryz.prog 10 #[.agg #[.int .i64 me, .int .i64 next, u, .slice none 0 0], .int .i64 1] w fun e w' => e = .returned (.int .i64 (snL l l.length : Int)) ∧ Below w.heap.size w w' := by
  obtain ⟨a1, n1, c1, rfl⟩ := h.form
  have X := Lib.hid (Bx.new w 30 #[.int .i64 me, .int .i64 next, .slice a1 n1 c1, .slice none 0 0] _ rfl)
  have A := Lib.hid ((Af.refl w).alloc (.cells #[.int .i64 me, .int .i64 next, .slice a1 n1 c1, .slice none 0 0] 30))
  have H := Lib.hid (h.later A.out)
  have hsn := (snL_le hl l.length (Nat.le_refl _)).1
  clear h
  go_enter Tryz.func10, Tryz.ntmps10
  go_wp2_with fail
  refine (held_instsX _ l _ H.out hn hl).mono ?_
  rintro e w2 ⟨rfl, bb⟩
  have X := Lib.hid (X.out.after bb)
  have A := Lib.hid (A.out.after bb)
  obtain ⟨z, hz⟩ : ∃ z : Int, ((snL l l.length : Nat) : Int) = z := ⟨_, rfl⟩
  have hd : decide (z < 0) = false := dec_f (by omega)
  have HQ := Lib.hid hz
  rw [hz]
  obtain ⟨x0, x1, x2, x3⟩ := cells4 X.out
  clear bb H hz hsn
  go_wp2_with fail
  clear x0 x1 x2 x3
  refine (held_leads_nil _ _).mono ?_
  rintro e w3 ⟨rfl, rfl⟩
  go_wp2
  go_ret
  exact ⟨by rw [HQ.out] <;> rfl, A.out⟩
end Go.Proofs.YtckeeadkhopljaaGreatDoor
/- InstPut in plain words. -/
namespace Go.Proofs.YtckeeadkhopljaaGreatDoor
set_option linter.unusedVariables false

abbrev ltN (x y : In) : Bool := ltB x.rep x.slot y.rep y.slot
theorem ltN_iff (x y : In) : ltN x y = true ↔ x.rep < y.rep ∨ (x.rep = y.rep ∧ x.slot < y.slot) := ltI_iff ⟨x.rep, x.slot⟩ ⟨y.rep, y.slot⟩
theorem ltN_no (x y : In) : ltN x y = false ↔ ¬ (x.rep < y.rep ∨ (x.rep = y.rep ∧ x.slot < y.slot)) := by rw [← ltN_iff]; simp
theorem ltN_trans {x y z : In} (h : ltN x y = true) (h2 : ltN y z = true) : ltN x z = true := by
  rw [ltN_iff] at *
  omega
theorem ltN_asym {x y : In} (h : ltN x y = true) : ltN y x = false := by
  rw [ltN_no]
  rw [ltN_iff] at h
  omega
def SrtN (l : List In) : Prop := l.Pairwise fun x y => ltN x y = true
theorem srtN_of_adj : ∀ l : List In, (∀ j, j + 1 < l.length → ltN (nth l j) (nth l (j + 1)) = true) → SrtN l
  | [], _ => List.Pairwise.nil
  | [x], _ => by simp [SrtN]
  | x :: y :: l, h => by
    have hxy : ltN x y = true := by
      have := h 0 (by simp)
      rw [nth_of (x := x) rfl, nth_of (x := y) rfl] at this
      exact this
    have ih := srtN_of_adj (y :: l) (fun j hj => by
      have := h (j + 1) (by simpa using hj)
      simp only [nth_eq, List.getD, List.getElem?_cons_succ] at this ⊢
      exact this)
    refine List.Pairwise.cons (fun z hz => ?_) ih
    rcases List.mem_cons.1 hz with rfl | hz
    · exact hxy
    · exact ltN_trans hxy (List.rel_of_pairwise_cons ih hz)
theorem srtN_of_ok {l : List In} (h : instsB l = true) : SrtN l := srtN_of_adj l fun j hj => by
  have := instsB_at h (j + 1) hj
  rw [okIn_succ _ _ (by omega)] at this
  simp only [Bool.and_eq_true] at this
  exact this.2
theorem insts_of_ok {l : List In} (h : instsB l = true) (x : In) (hx : x ∈ l) : instB x = true := by
  obtain ⟨j, hj, e⟩ := List.mem_iff_getElem.1 hx
  have := instsB_at h j hj
  rw [okIn_eq] at this
  simp only [Bool.and_eq_true] at this
  have e2 : l[j]? = some x := by rw [List.getElem?_eq_getElem hj, e]
  rw [nth_of e2] at this
  exact this.1
theorem ok_of_srtN {l : List In} (hs : SrtN l) (h : ∀ x ∈ l, instB x = true) : instsB l = true := by
  apply instsB_yes
  intro j hj
  have g := nth_get l j hj
  have hx := h _ (List.mem_iff_getElem?.2 ⟨j, g⟩)
  rw [okIn_eq, hx]
  by_cases e : j = 0
  · simp [e]
  · have g1 := nth_get l (j - 1) (by omega)
    have hp := List.pairwise_iff_getElem.1 hs (j - 1) j (by omega) hj (by omega)
    rw [List.getElem?_eq_getElem hj, Option.some.injEq] at g
    rw [List.getElem?_eq_getElem (by omega : j - 1 < l.length), Option.some.injEq] at g1
    rw [g, g1] at hp
    have hp' : ltB (nth l (j - 1)).rep (nth l (j - 1)).slot (nth l j).rep (nth l j).slot = true := hp
    rw [hp']
    simp
/-- At most eighteen are valid and in order. -/
theorem insts_key {l : List In} (h : instsB l = true) : ∀ j, j < l.length → (j : Int) + 1 ≤ (nth l j).rep * 6 + (nth l j).slot
  | 0, hj => by
    have := instsB_at h 0 hj
    rw [okIn_zero] at this
    rw [instB_eq] at this
    simp only [Bool.and_eq_true] at this
    have h1 := this.1
    rw [idB_eq] at h1
    simp only [Bool.and_eq_true, decide_eq_true_eq] at h1
    omega
  | j + 1, hj => by
    have ih := insts_key h j (by omega)
    have := instsB_at h (j + 1) hj
    rw [okIn_succ _ _ (by omega)] at this
    simp only [Bool.and_eq_true, Nat.add_sub_cancel] at this
    obtain ⟨hv, hlt⟩ := this
    have hv0 := instsB_at h j (by omega)
    rw [okIn_eq] at hv0
    simp only [Bool.and_eq_true] at hv0
    have h0 := hv0.1
    rw [instB_eq] at hv h0
    simp only [Bool.and_eq_true] at hv h0
    have h1 := hv.1
    have h2 := h0.1
    rw [idB_eq] at h1 h2
    simp only [Bool.and_eq_true, decide_eq_true_eq] at h1 h2
    have h3 := (ltN_iff (nth l j) (nth l (j + 1))).1 hlt
    omega
theorem insts_len {l : List In} (h : instsB l = true) : l.length ≤ 18 := by
  by_cases h0 : l.length ≤ 18
  · exact h0
  · have a := insts_key h 18 (by omega)
    have hv := instsB_at h 18 (by omega)
    rw [okIn_eq] at hv
    simp only [Bool.and_eq_true] at hv
    have h1 := hv.1
    rw [instB_eq] at h1
    simp only [Bool.and_eq_true] at h1
    have h2 := h1.1
    rw [idB_eq] at h2
    simp only [Bool.and_eq_true, decide_eq_true_eq] at h2
    omega
/-- One put where it stands. -/
def putN (l : List In) (x : In) : List In := l.filter (fun y => ltN y x) ++ ([x] ++ l.filter (fun y => ltN x y))
theorem putN_srt {l : List In} (h : SrtN l) (x : In) : SrtN (putN l x) := by
  unfold SrtN putN
  rw [List.pairwise_append, List.pairwise_append]
  refine ⟨List.Pairwise.filter _ h, ⟨by simp, List.Pairwise.filter _ h, fun a ha b hb => ?_⟩, fun a ha b hb => ?_⟩
  · simp only [List.mem_singleton] at ha
    simp only [List.mem_filter] at hb
    rw [ha]; exact hb.2
  · simp only [List.mem_filter] at ha
    simp only [List.mem_append, List.mem_singleton, List.mem_filter] at hb
    rcases hb with rfl | hb
    · exact ha.2
    · exact ltN_trans ha.2 hb.2
theorem putN_ok {l : List In} (h : instsB l = true) (x : In) : instsB (putN l x) = instB x := by
  cases hx : instB x
  · cases hp : instsB (putN l x)
    · rfl
    · have := insts_of_ok hp x (by simp [putN])
      rw [hx] at this
      cases this
  · refine ok_of_srtN (putN_srt (srtN_of_ok h) x) (fun y hy => ?_)
    simp only [putN, List.mem_append, List.mem_singleton, List.mem_filter] at hy
    rcases hy with hy | rfl | hy
    · exact insts_of_ok h y hy.1
    · exact hx
    · exact insts_of_ok h y hy.1
theorem putN_length (l : List In) (x : In) : (putN l x).length ≤ 2 * l.length + 1 := by
  have h1 := List.length_filter_le (fun y => ltN y x) l
  have h2 := List.length_filter_le (fun y => ltN x y) l
  simp only [putN, List.length_append, List.length_singleton]
  omega
/-- The model's loop. -/
def stepP (x : In) (s : List In × Bool) (y : In) : List In × Bool :=
  let s1 := if !s.2 && !ltN y x then (s.1 ++ [x], true) else s
  if y.rep = x.rep ∧ y.slot = x.slot then s1 else (s1.1 ++ [y], s1.2)
def endP (x : In) (s : List In × Bool) : List In := if s.2 = true then s.1 else s.1 ++ [x]
theorem foldP_true (x : In) : ∀ (l : List In) (acc : List In), (∀ y ∈ l, ltN x y = true) → l.foldl (stepP x) (acc, true) = (acc ++ l, true)
  | [], acc, _ => by simp
  | y :: l, acc, h => by
    have hy := h y (by simp)
    have hne : ¬ (y.rep = x.rep ∧ y.slot = x.slot) := by rw [ltN_iff] at hy; omega
    have e : stepP x (acc, true) y = (acc ++ [y], true) := by simp [stepP, hne]
    rw [List.foldl_cons, e, foldP_true x l _ (fun z hz => h z (by simp [hz]))]
    simp
theorem foldP_false (x : In) : ∀ (l : List In) (acc : List In), SrtN l → endP x (l.foldl (stepP x) (acc, false)) = acc ++ putN l x
  | [], acc, _ => by simp [endP, putN]
  | y :: l, acc, hs => by
    have hyl := List.pairwise_cons.1 hs
    by_cases h1 : ltN y x = true
    · have hne : ¬ (y.rep = x.rep ∧ y.slot = x.slot) := by rw [ltN_iff] at h1; omega
      have e : stepP x (acc, false) y = (acc ++ [y], false) := by simp [stepP, hne, h1]
      have h2 := ltN_asym h1
      rw [List.foldl_cons, e, foldP_false x l _ hyl.2]
      simp [putN, h1, h2]
    · have h1' : ltN y x = false := by simpa using h1
      have hrest : ∀ z ∈ l, ltN x z = true := fun z hz => by
        have := hyl.1 z hz
        rw [ltN_no] at h1'
        rw [ltN_iff] at this ⊢
        omega
      have hrest2 : ∀ z ∈ l, ltN z x = false := fun z hz => ltN_asym (hrest z hz)
      have f1 : l.filter (fun y => ltN y x) = [] := List.filter_eq_nil_iff.2 (fun z hz => by rw [hrest2 z hz]; simp)
      have f2 : l.filter (fun y => ltN x y) = l := List.filter_eq_self.2 (fun z hz => hrest z hz)
      by_cases h2 : y.rep = x.rep ∧ y.slot = x.slot
      · have e : stepP x (acc, false) y = (acc ++ [x], true) := by simp [stepP, h2, h1']
        have hxy : ltN x y = false := by rw [ltN_no]; omega
        rw [List.foldl_cons, e, foldP_true x l _ hrest]
        simp [endP, putN, h1', hxy, f1, f2]
      · have e : stepP x (acc, false) y = (acc ++ [x] ++ [y], true) := by simp [stepP, h2, h1']
        have hxy : ltN x y = true := by rw [ltN_no] at h1'; rw [ltN_iff]; omega
        rw [List.foldl_cons, e, foldP_true x l _ hrest]
        simp [endP, putN, h1', hxy, f1, f2]
/-- What InstPut answers. -/
@[irreducible] def putX (l : List In) (x : In) : List In := if instsB l = true then (if instB x = true then putN l x else l) else []
theorem putX_none (l : List In) (x : In) (h : instsB l = false) : putX l x = [] := by unfold putX; rw [h]; rfl
theorem putX_keep (l : List In) (x : In) (h : instsB l = true) (h2 : instB x = false) : putX l x = l := by unfold putX; rw [if_pos h, h2]; rfl
theorem putX_put (l : List In) (x : In) (h : instsB l = true) (h2 : instB x = true) : putX l x = putN l x := by unfold putX; rw [if_pos h, if_pos h2]
theorem putX_ok (l : List In) (x : In) : instsB (putX l x) = true := by
  cases h : instsB l
  · rw [putX_none l x h]; exact instsB_yes [] (fun j hj => by simp at hj)
  · cases h2 : instB x
    · rw [putX_keep l x h h2]; exact h
    · rw [putX_put l x h h2, putN_ok h, h2]
end Go.Proofs.YtckeeadkhopljaaGreatDoor
/- ENodeFall: the program and the model. -/
namespace Go.Proofs.YtckeeadkhopljaaGreatDoor
open Go.RowKit Go.PlainAid
set_option linter.unusedVariables false

/-- What ENodeFall answers: a node without Leads. -/
@[irreducible] def fM (x : Nd) : Int := if nodeB x = true then x.me else 0
@[irreducible] def fN (x : Nd) : Int := if nodeB x = true then x.next else 0
@[irreducible] def fI (x : Nd) : List In := if nodeB x = true then x.insts else []
theorem fM_y {x : Nd} (h : nodeB x = true) : fM x = x.me := by unfold fM; rw [if_pos h]
theorem fN_y {x : Nd} (h : nodeB x = true) : fN x = x.next := by unfold fN; rw [if_pos h]
theorem fI_y {x : Nd} (h : nodeB x = true) : fI x = x.insts := by unfold fI; rw [if_pos h]
theorem fM_n {x : Nd} (h : nodeB x = false) : fM x = 0 := by unfold fM; rw [h]; rfl
theorem fN_n {x : Nd} (h : nodeB x = false) : fN x = 0 := by unfold fN; rw [h]; rfl
theorem fI_n {x : Nd} (h : nodeB x = false) : fI x = [] := by unfold fI; rw [h]; rfl
theorem fI_small {x : Nd} (h : SmF x.insts) : SmF (fI x) ∧ (fI x).length ≤ 1000 := by
  cases hb : nodeB x
  · rw [fI_n hb]; exact ⟨⟨by simp, fun j hj => by simp at hj⟩, by simp⟩
  · rw [fI_y hb]
    rw [nodeB_eq] at hb
    simp only [Bool.and_eq_true] at hb
    have := insts_len hb.2.2.1
    exact ⟨h, by omega⟩
theorem Tryz.sizeNode : (Tryz.prog.info? 30).map (·.size) = some 4 := by kernel_rfl
theorem results_node2 {fn : Func} {p u : Tmp} (h : fn.results = #[.cell p 30, .tmp u]) (tmps : Array Value) (w : World) (g : Nat) (cs : Array Value) (y : Value)
    (hp : tmps.getD p undef = .pointer (some ⟨g, 0, none⟩)) (hu : tmps.getD u undef = y) (hc : Bx w g 30 cs) (hz : cs.size = 4) : (results fn tmps).run Tryz.prog w = .ok (.tuple #[.agg cs, y]) w := by
  rw [results_cell_tmp h, hp, asAddr_ptr]
  simp only [Result.andThen]
  rw [run_loadVar_row w g 30 30 cs (0, 0) _ hc Tryz.underlying30 rfl (by rw [Tryz.sizeNode, hz]), hu]
set_option maxRecDepth 100000 in
set_option maxHeartbeats 2000000 in
theorem impl_fall (x : Nd) (u v : Value) (a0 : Addr) (w : World) (h : NdP w x u v) (hS : Sent w a0) (hs : SmF x.insts) :
    Calls Tryz.prog 7 #[.agg #[.int .i64 x.me, .int .i64 x.next, u, v]] w fun e w' => (∃ u, e = .returned (.tuple #[.agg #[.int .i64 (fM x), .int .i64 (fN x), u, .slice none 0 0], .bool (nodeB x)]) ∧ InOwnX w' w.heap.size w'.heap.size u (fI x)) ∧ Below w.heap.size w w' := by
  obtain ⟨⟨a1, n1, c1, rfl⟩, a2, n2, c2, rfl⟩ := h.form
  have PH := Lib.hid h
  have HS := Lib.hid hS
  have SF := Lib.hid hs
  have X := Lib.hid ((Bx.new w 30 #[.int .i64 x.me, .int .i64 x.next, .slice a1 n1 c1, .slice a2 n2 c2] _ rfl).alloc (.cells #[.int .i64 0, .int .i64 0, .slice none 0 0, .slice none 0 0] 30))
  have R := Lib.hid (Bx.new (w.alloc (.cells #[.int .i64 x.me, .int .i64 x.next, .slice a1 n1 c1, .slice a2 n2 c2] 30)) 30 #[.int .i64 0, .int .i64 0, .slice none 0 0, .slice none 0 0] (w.heap.size + 1) (by simp))
  have A := Lib.hid (((Af.refl w).alloc (.cells #[.int .i64 x.me, .int .i64 x.next, .slice a1 n1 c1, .slice a2 n2 c2] 30)).alloc (.cells #[.int .i64 0, .int .i64 0, .slice none 0 0, .slice none 0 0] 30))
  clear h hs hS
  obtain ⟨x0, x1, x2, x3⟩ := cells4 X.out
  go_enter Tryz.func7, Tryz.ntmps7
  go_wp2_with fail
  clear x0 x1 x2 x3
  refine (impl_nodeOk x _ _ a0 _ (PH.out.later A.out) (HS.out.later A.out)).mono ?_
  rintro e w1 ⟨rfl, bb⟩
  have X := Lib.hid (X.out.after bb)
  have R := Lib.hid (R.out.after bb)
  have A := Lib.hid (A.out.after bb)
  clear bb
  have hRl := R.out.lt
  obtain ⟨x0, x1, x2, x3⟩ := cells4 X.out
  obtain ⟨r0, r1, r2, r3⟩ := cells4 R.out
  obtain ⟨f0, f1, f2, f3⟩ := froz4 R.out
  cases hb : nodeB x
  · go_wp2
    clear x0 x1 x2 x3 r0 r1 r2 r3 f0 f1 f2 f3
    have F := Lib.hid (show Bx ((((w1.setCell ⟨w.heap.size + 1, 0, none⟩ (.int .i64 0)).setCell ⟨w.heap.size + 1, 1, none⟩ (.int .i64 0)).setCell ⟨w.heap.size + 1, 2, none⟩ (.slice none 0 0)).setCell ⟨w.heap.size + 1, 3, none⟩ (.slice none 0 0)) (w.heap.size + 1) 30 #[.int .i64 0, .int .i64 0, .slice none 0 0, .slice none 0 0] from (((R.out.set 0 (.int .i64 0)).set 1 (.int .i64 0)).set 2 (.slice none 0 0)).set 3 (.slice none 0 0))
    have AF := Lib.hid ((((A.out.set (p := ⟨w.heap.size + 1, 0, none⟩) (by simp) (.int .i64 0)).set (p := ⟨w.heap.size + 1, 1, none⟩) (by simp) (.int .i64 0)).set (p := ⟨w.heap.size + 1, 2, none⟩) (by simp) (.slice none 0 0)).set (p := ⟨w.heap.size + 1, 3, none⟩) (by simp) (.slice none 0 0))
    exact bodyPost_ret (results_node2 Tryz.results7 _ _ (w.heap.size + 1) _ _ rfl rfl F.out rfl) rfl ⟨⟨.slice none 0 0, by rw [fM_n hb, fN_n hb, hb] <;> rfl, by rw [fI_n hb]; exact inOwnX_nil _ _ _ _ _⟩, AF.out⟩
  have HB := Lib.hid hb
  clear hb r0 r1 r2 r3 f0 f1 f2 f3
  clear x0 x1 x2 x3
  have fx := X.out.frozen 3
  have lx := X.out.lt
  obtain ⟨x0, x1, x2, x3⟩ := cells4 X.out
  have A1 := Lib.hid (A.out.set (p := ⟨w.heap.size, 3, none⟩) (by simp) (.slice none 0 0))
  have R1 := Lib.hid (R.out.set_other ⟨w.heap.size, 3, none⟩ (.slice none 0 0) (by simp))
  go_wp2_with fail
  clear x0 x1 x2 x3 fx
  refine (impl_copyN x.me x.next _ x.insts _ (PH.out.later A1.out).1 SF.out).mono ?_
  rintro e w2 ⟨⟨u2, rfl, o2⟩, bb⟩
  obtain ⟨a3, n3, c3, rfl⟩ := o2.form
  have hzb := bb.size
  simp only [World.size_setCell] at o2 hzb
  have R := Lib.hid (R1.out.after bb)
  have A := Lib.hid (A1.out.after bb)
  have O := Lib.hid o2
  clear bb o2 A1 R1
  obtain ⟨r0, r1, r2, r3⟩ := cells4 R.out
  obtain ⟨f0, f1, f2, f3⟩ := froz4 R.out
  go_wp2
  clear r0 r1 r2 r3 f0 f1 f2 f3
  have F := Lib.hid (show Bx ((((w2.setCell ⟨w.heap.size + 1, 0, none⟩ (.int .i64 x.me)).setCell ⟨w.heap.size + 1, 1, none⟩ (.int .i64 x.next)).setCell ⟨w.heap.size + 1, 2, none⟩ (.slice a3 n3 c3)).setCell ⟨w.heap.size + 1, 3, none⟩ (.slice none 0 0)) (w.heap.size + 1) 30 #[.int .i64 x.me, .int .i64 x.next, .slice a3 n3 c3, .slice none 0 0] from (((R.out.set 0 (.int .i64 x.me)).set 1 (.int .i64 x.next)).set 2 (.slice a3 n3 c3)).set 3 (.slice none 0 0))
  have hq : w.heap.size + 1 < w1.heap.size := hRl
  have OF := Lib.hid ((((O.out.put (q := w.heap.size + 1) (o := 0) (.int .i64 x.me) (Nat.le_refl _) (.inl hq)).put (q := w.heap.size + 1) (o := 1) (.int .i64 x.next) (by simp) (.inl hq)).put (q := w.heap.size + 1) (o := 2) (.slice a3 n3 c3) (by simp) (.inl hq)).put (q := w.heap.size + 1) (o := 3) (.slice none 0 0) (by simp) (.inl hq))
  have AF := Lib.hid ((((A.out.set (p := ⟨w.heap.size + 1, 0, none⟩) (by simp) (.int .i64 x.me)).set (p := ⟨w.heap.size + 1, 1, none⟩) (by simp) (.int .i64 x.next)).set (p := ⟨w.heap.size + 1, 2, none⟩) (by simp) (.slice a3 n3 c3)).set (p := ⟨w.heap.size + 1, 3, none⟩) (by simp) (.slice none 0 0))
  exact bodyPost_ret (results_node2 Tryz.results7 _ _ (w.heap.size + 1) _ _ rfl rfl F.out rfl) rfl ⟨⟨_, by rw [fM_y HB.out, fN_y HB.out, HB.out] <;> rfl, by rw [fI_y HB.out]; exact OF.out.mono (by omega) (by simp)⟩, AF.out⟩
set_option maxRecDepth 100000 in
set_option maxHeartbeats 2000000 in
theorem spec_fall (x : Nd) (u v : Value) (w : World) (h : NdP w x u v) (hs : SmF x.insts) (hsL : SmL x.leads) :
    Calls Tryz.prog 5 #[.agg #[.int .i64 x.me, .int .i64 x.next, u, v]] w fun e w' => (∃ u aL cL, e = .returned (.tuple #[.agg #[.int .i64 (fM x), .int .i64 (fN x), u, .slice aL 0 cL], .bool (nodeB x)]) ∧ InOwnX w' w.heap.size w'.heap.size u (fI x)) ∧ Below w.heap.size w w' := by
  obtain ⟨⟨a1, n1, c1, rfl⟩, a2, n2, c2, rfl⟩ := h.form
  have PH := Lib.hid h
  have SF := Lib.hid hs
  have X := Lib.hid ((Bx.new w 30 #[.int .i64 x.me, .int .i64 x.next, .slice a1 n1 c1, .slice a2 n2 c2] _ rfl).alloc (.cells #[.int .i64 0, .int .i64 0, .slice none 0 0, .slice none 0 0] 30))
  have R := Lib.hid (Bx.new (w.alloc (.cells #[.int .i64 x.me, .int .i64 x.next, .slice a1 n1 c1, .slice a2 n2 c2] 30)) 30 #[.int .i64 0, .int .i64 0, .slice none 0 0, .slice none 0 0] (w.heap.size + 1) (by simp))
  have A := Lib.hid (((Af.refl w).alloc (.cells #[.int .i64 x.me, .int .i64 x.next, .slice a1 n1 c1, .slice a2 n2 c2] 30)).alloc (.cells #[.int .i64 0, .int .i64 0, .slice none 0 0, .slice none 0 0] 30))
  clear h hs
  obtain ⟨x0, x1, x2, x3⟩ := cells4 X.out
  go_enter Tryz.func5, Tryz.ntmps5
  go_wp2_with fail
  clear x0 x1 x2 x3
  refine (spec_nodeOk x _ _ _ (PH.out.later A.out)).mono ?_
  rintro e w1 ⟨rfl, bb⟩
  have X := Lib.hid (X.out.after bb)
  have R := Lib.hid (R.out.after bb)
  have A := Lib.hid (A.out.after bb)
  clear bb
  have hRl := R.out.lt
  obtain ⟨x0, x1, x2, x3⟩ := cells4 X.out
  obtain ⟨r0, r1, r2, r3⟩ := cells4 R.out
  obtain ⟨f0, f1, f2, f3⟩ := froz4 R.out
  cases hb : nodeB x
  · go_wp2
    clear x0 x1 x2 x3 r0 r1 r2 r3 f0 f1 f2 f3
    have F := Lib.hid (show Bx ((((w1.setCell ⟨w.heap.size + 1, 0, none⟩ (.int .i64 0)).setCell ⟨w.heap.size + 1, 1, none⟩ (.int .i64 0)).setCell ⟨w.heap.size + 1, 2, none⟩ (.slice none 0 0)).setCell ⟨w.heap.size + 1, 3, none⟩ (.slice none 0 0)) (w.heap.size + 1) 30 #[.int .i64 0, .int .i64 0, .slice none 0 0, .slice none 0 0] from (((R.out.set 0 (.int .i64 0)).set 1 (.int .i64 0)).set 2 (.slice none 0 0)).set 3 (.slice none 0 0))
    have AF := Lib.hid ((((A.out.set (p := ⟨w.heap.size + 1, 0, none⟩) (by simp) (.int .i64 0)).set (p := ⟨w.heap.size + 1, 1, none⟩) (by simp) (.int .i64 0)).set (p := ⟨w.heap.size + 1, 2, none⟩) (by simp) (.slice none 0 0)).set (p := ⟨w.heap.size + 1, 3, none⟩) (by simp) (.slice none 0 0))
    exact bodyPost_ret (results_node2 Tryz.results5 _ _ (w.heap.size + 1) _ _ rfl rfl F.out rfl) rfl ⟨⟨.slice none 0 0, none, 0, by rw [fM_n hb, fN_n hb, hb] <;> rfl, by rw [fI_n hb]; exact inOwnX_nil _ _ _ _ _⟩, AF.out⟩
  have HB := Lib.hid hb
  clear hb r0 r1 r2 r3 f0 f1 f2 f3
  go_wp2_with fail
  clear x0 x1 x2 x3
  refine (spec_copyN x.me x.next _ x.insts _ x.leads _ (PH.out.later A.out).1 SF.out (PH.out.later A.out).2 hsL).mono ?_
  rintro e w2 ⟨⟨u2, aL, nL, cL, rfl, o2⟩, bb⟩
  obtain ⟨a3, n3, c3, rfl⟩ := o2.form
  have hzb := bb.size
  have R := Lib.hid (R.out.after bb)
  have A := Lib.hid (A.out.after bb)
  have O := Lib.hid o2
  clear bb o2
  have Rs := Lib.hid ((R.out.alloc (.cells #[.int .i64 x.me, .int .i64 x.next, .slice a3 n3 c3, .slice (some ⟨w2.heap.size + 1, 0, none⟩) 0 0] 30)).alloc (.cells #[] 70))
  have As := Lib.hid ((A.out.alloc (.cells #[.int .i64 x.me, .int .i64 x.next, .slice a3 n3 c3, .slice (some ⟨w2.heap.size + 1, 0, none⟩) 0 0] 30)).alloc (.cells #[] 70))
  have Os := Lib.hid (O.out.later (((Af.refl w2).alloc (.cells #[.int .i64 x.me, .int .i64 x.next, .slice a3 n3 c3, .slice (some ⟨w2.heap.size + 1, 0, none⟩) 0 0] 30)).alloc (.cells #[] 70)))
  clear R A O
  obtain ⟨r0, r1, r2, r3⟩ := cells4 Rs.out
  obtain ⟨f0, f1, f2, f3⟩ := froz4 Rs.out
  go_wp2
  clear r0 r1 r2 r3 f0 f1 f2 f3
  have hq : w.heap.size + 1 < w1.heap.size := hRl
  have F := Lib.hid ((((Rs.out.set 0 (.int .i64 x.me)).set 1 (.int .i64 x.next)).set 2 (.slice a3 n3 c3)).set 3 (.slice (some ⟨w2.heap.size + 1, 0, none⟩) 0 0))
  have OF := Lib.hid ((((Os.out.put (q := w.heap.size + 1) (o := 0) (.int .i64 x.me) (by simp <;> omega) (.inl hq)).put (q := w.heap.size + 1) (o := 1) (.int .i64 x.next) (by simp <;> omega) (.inl hq)).put (q := w.heap.size + 1) (o := 2) (.slice a3 n3 c3) (by simp <;> omega) (.inl hq)).put (q := w.heap.size + 1) (o := 3) (.slice (some ⟨w2.heap.size + 1, 0, none⟩) 0 0) (by simp <;> omega) (.inl hq))
  have AF := Lib.hid ((((As.out.set (p := ⟨w.heap.size + 1, 0, none⟩) (by simp) (.int .i64 x.me)).set (p := ⟨w.heap.size + 1, 1, none⟩) (by simp) (.int .i64 x.next)).set (p := ⟨w.heap.size + 1, 2, none⟩) (by simp) (.slice a3 n3 c3)).set (p := ⟨w.heap.size + 1, 3, none⟩) (by simp) (.slice (some ⟨w2.heap.size + 1, 0, none⟩) 0 0))
  exact bodyPost_ret (results_node2 Tryz.results5 _ _ (w.heap.size + 1) _ _ rfl rfl F.out rfl) rfl ⟨⟨_, _, _, by rw [fM_y HB.out, fN_y HB.out, HB.out] <;> rfl, by rw [fI_y HB.out]; exact OF.out.mono (by omega) (by simp <;> omega)⟩, AF.out⟩
end Go.Proofs.YtckeeadkhopljaaGreatDoor
/- A region that draws its order: what only reads is taken first; S is held up to the operations that wait for all of that. -/
namespace Go.Proofs.YtckeeadkhopljaaGreatDoor
open Go.RowKit
set_option linter.unusedVariables false
section
variable {P : Program} {ops : Array Oper} {Q : Exit → Act → World → Prop} {md : Region.Mode} {S : World → Prop} {T : Nat → Bool}
/-- Whatever order is picked; S holds behind each operation outside T. -/
def wpAnyT (P : Program) (md : Region.Mode) (ops : Array Oper) (Q : Exit → Act → World → Prop) (S : World → Prop) (T : Nat → Bool) : Nat → Array Bool → Act → World → Prop
  | 0, listed, a, w => Region.ready md ops listed = [] ∧ Q .normal a w
  | f + 1, listed, a, w => (Region.ready md ops listed = [] → Q .normal a w) ∧ ∀ i ∈ Region.ready md ops listed, wpOp P ops Q i (fun a' w' => (T i = false → S w') ∧ wpAnyT P md ops Q S T f (listed.setIfInBounds i true) a' w') a w
theorem wpAny_of_T : ∀ (f : Nat) (listed : Array Bool) (a : Act) (w : World), wpAnyT P md ops Q S T f listed a w → wpAny P md ops Q f listed a w
  | 0, _, _, _, h => h
  | f + 1, _, _, _, h => ⟨h.1, fun i hi => wpOp_mono (fun a' w' h' => wpAny_of_T f _ a' w' h'.2) (h.2 i hi)⟩
theorem wpAnyT_first {i : Nat} {oi : Oper} {v : Value} (hi : ops[i]? = some oi) (hsel : ∀ (j : Nat) (o : Oper) cs b, ops[j]? = some o → o.op ≠ .select cs b)
    (hQ : ∀ c a w, Q (.panic c) (a.put oi.dst v) w → Q (.panic c) a w) (hT : ∀ j oj, ops[j]? = some oj → T j = true → ∃ e ∈ oj.after, Region.binds md e = true ∧ e.on = i) (f : Nat) :
    ∀ (listed : Array Bool) (a : Act) (w : World), (∀ j oj, ops[j]? = some oj → j ≠ i → listed.getD j true = false → (∀ e ∈ oj.after, Region.binds md e = true → e.on ≠ i) → oi.apart ops oj = true) →
      i ∈ Region.ready md ops listed → YieldsIf P ops S oi v a → S w → wpAnyT P md ops Q S T f (listed.setIfInBounds i true) (a.put oi.dst v) w → wpAnyT P md ops Q S T (f + 1) listed a w := by
  induction f with
  | zero =>
    intro listed a w _ hr hy hS H
    refine ⟨fun h => absurd hr (by rw [h]; exact List.not_mem_nil), fun j hj => ?_⟩
    by_cases hji : j = i
    · subst hji; exact hy.wpOp hi hS ⟨fun _ => hS, H⟩
    · have := ready_mono hj hji
      rw [H.1] at this
      cases this
  | succ f ih =>
    intro listed a w hfree hr hy hS H
    refine ⟨fun h => absurd hr (by rw [h]; exact List.not_mem_nil), fun j hj => ?_⟩
    by_cases hji : j = i
    · subst hji; exact hy.wpOp hi hS ⟨fun _ => hS, H⟩
    · have h1 := H.2 j (ready_mono hj hji)
      obtain ⟨hjun, oj, hoj, hall⟩ := mem_ready.1 hj
      have hun : listed.getD i false = false := getD_both (mem_ready.1 hr).1
      have hnot : ∀ e ∈ oj.after, Region.binds md e = true → e.on ≠ i := fun e he hb heq => by
        have h2 := hall e he hb
        rw [heq, hun] at h2
        cases h2
      have htj : T j = false := by
        cases ht : T j with
        | false => rfl
        | true =>
          obtain ⟨e, he, hb, ho⟩ := hT j oj hoj ht
          exact absurd ho (hnot e he hb)
      have h2 := wpOp_putIf hoj (hfree j oj hoj hji hjun hnot) (fun cs b => hsel i oi cs b hi) (fun cs b => hsel j oj cs b hoj) hQ hy h1
      refine wpOp_mono (fun a' w' h3 => ⟨h3.2.1, ih (listed.setIfInBounds j true) a' w' (fun k ok hk hki hu hno => hfree k ok hk hki ?_ hno) (ready_mono hr (Ne.symm hji)) h3.1 (h3.2.1 htj) ?_⟩) h2
      · by_cases hjk : j = k
        · subst hjk; exact hjun
        · rw [getD_set_ne true hjk] at hu; exact hu
      · rw [Array.setIfInBounds_comm _ _ hji]
        exact h3.2.2
/-- In this very order. -/
def wpSeqT (P : Program) (ops : Array Oper) (Q : Exit → Act → World → Prop) (S : World → Prop) (T : Nat → Bool) : List Nat → Act → World → Prop
  | [], a, w => Q .normal a w
  | k :: r, a, w => wpOp P ops Q k (fun a' w' => (T k = false → S w') ∧ wpSeqT P ops Q S T r a' w') a w
def seqI (md : Region.Mode) (ops : Array Oper) : List Nat → Array Bool → Bool
  | [], listed => (Region.ready md ops listed).isEmpty
  | k :: r, listed => decide (Region.ready md ops listed = [k]) && seqI md ops r (listed.setIfInBounds k true)
theorem wpAnyT_of_seq : ∀ (r : List Nat) (listed : Array Bool) (a : Act) (w : World), seqI md ops r listed = true → wpSeqT P ops Q S T r a w → wpAnyT P md ops Q S T r.length listed a w
  | [], listed, a, w, hB, h => ⟨by simpa [seqI] using hB, h⟩
  | k :: r, listed, a, w, hB, h => by
    simp only [seqI, Bool.and_eq_true, decide_eq_true_eq] at hB
    refine ⟨fun h0 => absurd hB.1 (by rw [h0]; simp), fun i hi => ?_⟩
    rw [hB.1] at hi
    obtain rfl : i = k := by simpa using hi
    exact wpOp_mono (fun a' w' h' => ⟨h'.1, wpAnyT_of_seq r _ a' w' hB.2 h'.2⟩) h
def takeB (md : Region.Mode) (ops : Array Oper) (T : Nat → Bool) (r : List Nat) : List Nat → Array Bool → Bool
  | [], listed => seqI md ops r listed
  | k :: t, listed => (Region.ready md ops listed).contains k && Region.free md ops listed k && ((List.range ops.size).all fun j => !T j || Region.waitsFor md ops j k) && takeB md ops T r t (listed.setIfInBounds k true)
def wpTakes (P : Program) (ops : Array Oper) (Q : Exit → Act → World → Prop) (S : World → Prop) (T : Nat → Bool) (r : List Nat) : List Nat → Act → World → Prop
  | [], a, w => wpSeqT P ops Q S T r a w
  | k :: t, a, w => ∃ o v, ops[k]? = some o ∧ YieldsIf P ops S o v a ∧ wpTakes P ops Q S T r t (a.put o.dst v) w
theorem wpAnyT_takes {r : List Nat} (hsel : Region.noSelect ops = true) (hQ : ∀ c (a : Act) d v w, Q (.panic c) (a.put d v) w → Q (.panic c) a w) :
    ∀ (t : List Nat) (listed : Array Bool) (a : Act) (w : World), takeB md ops T r t listed = true → S w → wpTakes P ops Q S T r t a w → wpAnyT P md ops Q S T (t.length + r.length) listed a w
  | [], listed, a, w, hB, _, h => by rw [List.length_nil, Nat.zero_add]; exact wpAnyT_of_seq r listed a w hB h
  | k :: t, listed, a, w, hB, hS, h => by
    obtain ⟨o, v, ho, hy, hr⟩ := h
    simp only [takeB, Bool.and_eq_true] at hB
    obtain ⟨⟨⟨h1, h2⟩, h3⟩, h4⟩ := hB
    rw [List.length_cons, Nat.add_right_comm]
    refine wpAnyT_first ho (Region.noSelect_spec hsel) (fun c a w => hQ c a _ _ w) (fun j oj hj ht => ?_) _ listed a w (Region.free_spec ho h2) (by simpa using h1) hy hS (wpAnyT_takes hsel hQ t _ _ w h4 hS hr)
    have hjl : j < ops.size := (Array.getElem?_eq_some_iff.1 hj).1
    have h5 := List.all_eq_true.1 h3 j (List.mem_range.2 hjl)
    rw [ht] at h5
    obtain ⟨o', ho', e, he, hb, hon⟩ := Region.waitsFor_spec (show Region.waitsFor md ops j k = true by simpa using h5)
    rw [hj] at ho'
    cases ho'
    exact ⟨e, he, hb, hon⟩
theorem wp_region_takes {id : Nat} {a : Act} {w : World} (t r : List Nat) (hm : P.follows .mixedOrders = true) (hsel : Region.noSelect ops = true) (hlen : t.length + r.length = ops.size) (hB : takeB .any ops T r t (Array.replicate ops.size false) = true)
    (hQ : ∀ c (a : Act) d v w, Q (.panic c) (a.put d v) w → Q (.panic c) a w) (hS : S w.drew) (h : wpTakes P ops Q S T r t a w.drew) : (Code.region id ops true).wp P Q a w := by
  have H := wpAny_of_T _ _ _ _ (wpAnyT_takes hsel hQ t _ a w.drew hB hS h)
  rw [hlen] at H
  exact wp_region_any hm H
theorem op_then {o : Oper} {a : Act} {w : World} {K K2 : Act → World → Prop} (h : o.wp P a w K (Exit.then K2 Q)) : o.wp P a w K Q := by
  unfold Oper.wp at *
  generalize (execOp a.eval o).run P w = r at *
  cases r with
  | ok n w' =>
    cases n <;> simp only [Oper.upon] at h ⊢ <;>
      first
        | exact h
        | exact Calls.mono h (fun e w'' he => by cases e <;> exact he)
  | halt x w' => cases x <;> simp only [Oper.upon] at h ⊢ <;> exact h
theorem wpSeqT_step {k : Nat} {r : List Nat} {o : Oper} {a : Act} {w : World} (hk : ops[k]? = some o) (h : wpList P ops (Exit.then (fun a' w' => (T k = false → S w') ∧ wpSeqT P ops Q S T r a' w') Q) [o] a w) : wpSeqT P ops Q S T (k :: r) a w := by
  unfold wpSeqT wpOp
  unfold wpList at h
  simp only [hk]
  split
  · rename_i hw
    rw [if_pos hw] at h
    exact h.imp op_then id
  · rename_i hw
    rw [if_neg hw] at h
    exact h
theorem wpTakes_step {k : Nat} {r t : List Nat} {o : Oper} {v : Value} {a : Act} {w : World} (hk : ops[k]? = some o) (hg : Region.wanted o (yielded ops a.tmps) = true) (hv : ∀ w, S w → (execOp a.eval o).run P w = .ok (.value v) w) (h : wpTakes P ops Q S T r t (a.put o.dst v) w) : wpTakes P ops Q S T r (k :: t) a w :=
  ⟨o, v, hk, .inl ⟨hg, hv⟩, h⟩
end
end Go.Proofs.YtckeeadkhopljaaGreatDoor
/- A region that draws its order: what only reads is taken wherever it is ready; all else in its one order. -/
namespace Go.Proofs.YtckeeadkhopljaaGreatDoor
open Go.RowKit
set_option linter.unusedVariables false
section
variable {P : Program} {ops : Array Oper} {Q : Exit → Act → World → Prop} {md : Region.Mode} {S : World → Prop}
def mixB (md : Region.Mode) (ops : Array Oper) : List (Bool × Nat) → Array Bool → Bool
  | [], listed => (Region.ready md ops listed).isEmpty
  | (true, k) :: r, listed => (Region.ready md ops listed).contains k && Region.free md ops listed k && mixB md ops r (listed.setIfInBounds k true)
  | (false, k) :: r, listed => decide (Region.ready md ops listed = [k]) && mixB md ops r (listed.setIfInBounds k true)
def wpMix (P : Program) (ops : Array Oper) (Q : Exit → Act → World → Prop) (S : World → Prop) : List (Bool × Nat) → Act → World → Prop
  | [], a, w => Q .normal a w
  | (true, k) :: r, a, w => ∃ o v, ops[k]? = some o ∧ YieldsIf P ops S o v a ∧ wpMix P ops Q S r (a.put o.dst v) w
  | (false, k) :: r, a, w => wpOp P ops Q k (fun a' w' => S w' ∧ wpMix P ops Q S r a' w') a w
theorem wpAnyT_mix (hsel : Region.noSelect ops = true) (hQ : ∀ c (a : Act) d v w, Q (.panic c) (a.put d v) w → Q (.panic c) a w) :
    ∀ (t : List (Bool × Nat)) (listed : Array Bool) (a : Act) (w : World), mixB md ops t listed = true → S w → wpMix P ops Q S t a w → wpAnyT P md ops Q S (fun _ => false) t.length listed a w
  | [], listed, a, w, hB, _, h => ⟨by simpa [mixB] using hB, h⟩
  | (true, k) :: t, listed, a, w, hB, hS, h => by
    obtain ⟨o, v, ho, hy, hr⟩ := h
    simp only [mixB, Bool.and_eq_true] at hB
    obtain ⟨⟨h1, h2⟩, h4⟩ := hB
    exact wpAnyT_first ho (Region.noSelect_spec hsel) (fun c a w => hQ c a _ _ w) (fun j oj hj ht => by cases ht) _ listed a w (Region.free_spec ho h2) (by simpa using h1) hy hS (wpAnyT_mix hsel hQ t _ _ w h4 hS hr)
  | (false, k) :: t, listed, a, w, hB, hS, h => by
    simp only [mixB, Bool.and_eq_true, decide_eq_true_eq] at hB
    refine ⟨fun h0 => absurd hB.1 (by rw [h0]; simp), fun i hi => ?_⟩
    rw [hB.1] at hi
    obtain rfl : i = k := by simpa using hi
    exact wpOp_mono (fun a' w' h' => ⟨fun _ => h'.1, wpAnyT_mix hsel hQ t _ a' w' hB.2 h'.1 h'.2⟩) h
theorem wp_region_mix {id : Nat} {a : Act} {w : World} (t : List (Bool × Nat)) (hm : P.follows .mixedOrders = true) (hsel : Region.noSelect ops = true) (hlen : t.length = ops.size) (hB : mixB .any ops t (Array.replicate ops.size false) = true)
    (hQ : ∀ c (a : Act) d v w, Q (.panic c) (a.put d v) w → Q (.panic c) a w) (hS : S w.drew) (h : wpMix P ops Q S t a w.drew) : (Code.region id ops true).wp P Q a w := by
  have H := wpAny_of_T _ _ _ _ (wpAnyT_mix hsel hQ t _ a w.drew hB hS h)
  rw [hlen] at H
  exact wp_region_any hm H
theorem wpMix_take {k : Nat} {t : List (Bool × Nat)} {o : Oper} {v : Value} {a : Act} {w : World} (hk : ops[k]? = some o) (hg : Region.wanted o (yielded ops a.tmps) = true) (hv : ∀ w, S w → (execOp a.eval o).run P w = .ok (.value v) w) (h : wpMix P ops Q S t (a.put o.dst v) w) : wpMix P ops Q S ((true, k) :: t) a w :=
  ⟨o, v, hk, .inl ⟨hg, hv⟩, h⟩
theorem wpMix_step {k : Nat} {r : List (Bool × Nat)} {o : Oper} {a : Act} {w : World} (hk : ops[k]? = some o) (h : wpList P ops (Exit.then (fun a' w' => S w' ∧ wpMix P ops Q S r a' w') Q) [o] a w) : wpMix P ops Q S ((false, k) :: r) a w := by
  unfold wpMix wpOp
  unfold wpList at h
  simp only [hk]
  split
  · rename_i hw
    rw [if_pos hw] at h
    exact h.imp op_then id
  · rename_i hw
    rw [if_neg hw] at h
    exact h
end
end Go.Proofs.YtckeeadkhopljaaGreatDoor
/- The law over ENodeFall and its model: it returns true. -/
namespace Go.Proofs.YtckeeadkhopljaaGreatDoor
open Go.RowKit Go.PlainAid
set_option linter.unusedVariables false

set_option maxRecDepth 100000 in
set_option maxHeartbeats 8000000 in
theorem law_fall (x : Nd) (u v : Value) (a0 : Addr) (w : World) (h : NdP w x u v) (hS : Sent w a0) :
    Calls Tryz.prog 3 #[.agg #[.int .i64 x.me, .int .i64 x.next, u, v]] w fun e w' => e = .returned (.bool true) ∧ Below w.heap.size w w' := by
  obtain ⟨⟨a1, n1, c1, rfl⟩, a2, n2, c2, rfl⟩ := h.form
  have P0 := Lib.hid h
  have HS := Lib.hid hS
  have IB := Lib.hid (Bx.new w 25 #[.int .i64 x.me, .int .i64 x.next, .slice a1 n1 c1, .slice a2 n2 c2] _ rfl)
  have AF := Lib.hid ((Af.refl w).alloc (.cells #[.int .i64 x.me, .int .i64 x.next, .slice a1 n1 c1, .slice a2 n2 c2] 25))
  clear h hS
  go_enter Tryz.func3, Tryz.ntmps3
  go_wp2_with fail
  refine (sz_nodeF x _ _ _ (P0.out.later AF.out)).mono ?_
  rintro e w1 ⟨hsz, bb⟩
  have IB := Lib.hid (IB.out.after bb)
  have AF := Lib.hid (AF.out.after bb)
  clear bb
  rcases hsz with rfl | ⟨r, rfl, r0, r1, r2, r3⟩
  · go_wp2
    go_ret
    exact ⟨rfl, AF.out⟩
  have SF := Lib.hid r2
  have SM := Lib.hid r2.sm
  have SL := Lib.hid r3
  have hd : decide (r < 0) = false := dec_f (by omega)
  have PZ := Lib.hid (fI_small r2)
  clear r1 r2 r3
  have CI := Lib.hid (fun (y z : Value) W (hP : NdP W x y z) (hT : Sent W a0) => impl_fall x y z a0 W hP hT SF.out)
  have CS := Lib.hid (fun (y z : Value) W (hP : NdP W x y z) => spec_fall x y z W hP SF.out SL.out)
  obtain ⟨mm, hmm⟩ : ∃ q, fM x = q := ⟨_, rfl⟩
  obtain ⟨nn, hnn⟩ : ∃ q, fN x = q := ⟨_, rfl⟩
  obtain ⟨L, hL⟩ : ∃ q, fI x = q := ⟨_, rfl⟩
  obtain ⟨b, hb⟩ : ∃ q, nodeB x = q := ⟨_, rfl⟩
  rw [hmm, hnn, hL, hb] at CI CS
  rw [hL] at PZ
  clear hmm hnn hL hb
  have ZL := Lib.hid (show ∀ j, j < L.length → (nth L j).cmd.ch.length ≤ 1048576 ∧ (nth L j).deps.length ≤ 1048576 from fun j hj => PZ.out.1.sm.2 j hj)
  have ZN := Lib.hid (show L.length ≤ 1000 from PZ.out.2)
  have hbn : (b != b) = false := by simp
  obtain ⟨x0, x1, x2, x3⟩ := cells4 IB.out
  go_wp2_with fail
  clear x0 x1 x2 x3
  refine (to_node x _ _ _ (P0.out.later AF.out) SM.out SL.out).mono ?_
  rintro e w3 ⟨⟨a1_w3, n1_w3, c1_w3, a2_w3, n2_w3, c2_w3, rfl, pi_w3, pl_w3⟩, bb⟩
  have IB := Lib.hid (IB.out.after bb); have AF := Lib.hid (AF.out.after bb)
  have hb_w3 := bb.size
  have T0 := Lib.hid (show NdP w3 x _ _ from ⟨pi_w3.insts, pl_w3.leads⟩)
  clear bb pi_w3 pl_w3 hd
  go_wp2_with fail
  refine (CS.out _ _ _ T0.out).mono ?_
  rintro e w4 ⟨⟨u4, aL, cL, rfl, o4⟩, bb⟩
  obtain ⟨aS, nS, cS, rfl⟩ := o4.form
  have IB := Lib.hid (IB.out.after bb); have AF := Lib.hid (AF.out.after bb)
  have hb_w4 := bb.size
  have SS := Lib.hid o4
  have IB := Lib.hid (IB.out.after ((Below.refl _ _).alloc (Nat.le_refl _) (.cells #[.int .i64 mm, .int .i64 nn, .slice aS nS cS, .slice aL 0 cL] 30))); have AF := Lib.hid (AF.out.after ((Below.refl _ _).alloc (Nat.le_refl _) (.cells #[.int .i64 mm, .int .i64 nn, .slice aS nS cS, .slice aL 0 cL] 30))); have SS := Lib.hid (SS.out.later ((Below.refl _ _).alloc (Nat.le_refl _) (.cells #[.int .i64 mm, .int .i64 nn, .slice aS nS cS, .slice aL 0 cL] 30)))
  have WB := Lib.hid (Bx.new w4 30 #[.int .i64 mm, .int .i64 nn, .slice aS nS cS, .slice aL 0 cL] _ rfl)
  have hi0 := IB.out.lt
  simp only [World.size_alloc] at hi0
  clear bb o4 T0
  obtain ⟨x0, x1, x2, x3⟩ := cells4 IB.out
  go_wp2_with fail
  clear x0 x1 x2 x3
  refine (to_node x _ _ _ (P0.out.later AF.out) SM.out SL.out).mono ?_
  rintro e w5 ⟨⟨a1_w5, n1_w5, c1_w5, a2_w5, n2_w5, c2_w5, rfl, pi_w5, pl_w5⟩, bb⟩
  have IB := Lib.hid (IB.out.after bb); have AF := Lib.hid (AF.out.after bb); have SS := Lib.hid (SS.out.later bb); have WB := Lib.hid (WB.out.after bb)
  have hb_w5 := bb.size
  simp only [World.size_alloc] at pi_w5 pl_w5
  have XI := Lib.hid pi_w5; have XL := Lib.hid pl_w5
  have IB := Lib.hid (IB.out.after ((Below.refl _ _).alloc (Nat.le_refl _) (.cells #[.int .i64 x.me, .int .i64 x.next, .slice a1_w5 n1_w5 c1_w5, .slice a2_w5 n2_w5 c2_w5] 30))); have AF := Lib.hid (AF.out.after ((Below.refl _ _).alloc (Nat.le_refl _) (.cells #[.int .i64 x.me, .int .i64 x.next, .slice a1_w5 n1_w5 c1_w5, .slice a2_w5 n2_w5 c2_w5] 30))); have SS := Lib.hid (SS.out.later ((Below.refl _ _).alloc (Nat.le_refl _) (.cells #[.int .i64 x.me, .int .i64 x.next, .slice a1_w5 n1_w5 c1_w5, .slice a2_w5 n2_w5 c2_w5] 30))); have WB := Lib.hid (WB.out.after ((Below.refl _ _).alloc (Nat.le_refl _) (.cells #[.int .i64 x.me, .int .i64 x.next, .slice a1_w5 n1_w5 c1_w5, .slice a2_w5 n2_w5 c2_w5] 30))); have XI := Lib.hid (XI.out.later ((Below.refl _ _).alloc (Nat.le_refl _) (.cells #[.int .i64 x.me, .int .i64 x.next, .slice a1_w5 n1_w5 c1_w5, .slice a2_w5 n2_w5 c2_w5] 30))); have XL := Lib.hid (XL.out.later ((Below.refl _ _).alloc (Nat.le_refl _) (.cells #[.int .i64 x.me, .int .i64 x.next, .slice a1_w5 n1_w5 c1_w5, .slice a2_w5 n2_w5 c2_w5] 30)))
  have XB := Lib.hid (Bx.new w5 30 #[.int .i64 x.me, .int .i64 x.next, .slice a1_w5 n1_w5 c1_w5, .slice a2_w5 n2_w5 c2_w5] _ rfl)
  simp only [World.size_alloc] at hb_w5
  clear bb pi_w5 pl_w5
  obtain ⟨x0, x1, x2, x3⟩ := cells4 XB.out
  go_wp2_with fail
  clear x0 x1 x2 x3
  refine (CI.out _ _ _ ⟨XI.out.insts, XL.out.leads⟩ (HS.out.later AF.out)).mono ?_
  rintro e w6 ⟨⟨u6, rfl, o6⟩, bb⟩
  obtain ⟨aG, nG, cG, rfl⟩ := o6.form
  have IB := Lib.hid (IB.out.after bb); have AF := Lib.hid (AF.out.after bb); have SS := Lib.hid (SS.out.later bb); have WB := Lib.hid (WB.out.after bb); have XI := Lib.hid (XI.out.later bb); have XL := Lib.hid (XL.out.later bb); have XB := Lib.hid (XB.out.after bb)
  have hb_w6 := bb.size
  simp only [World.size_alloc] at o6 hb_w6
  have GG := Lib.hid o6
  have IB := Lib.hid (IB.out.after ((Below.refl _ _).alloc (Nat.le_refl _) (.cells #[.int .i64 mm, .int .i64 nn, .slice aG nG cG, .slice none 0 0] 30))); have AF := Lib.hid (AF.out.after ((Below.refl _ _).alloc (Nat.le_refl _) (.cells #[.int .i64 mm, .int .i64 nn, .slice aG nG cG, .slice none 0 0] 30))); have SS := Lib.hid (SS.out.later ((Below.refl _ _).alloc (Nat.le_refl _) (.cells #[.int .i64 mm, .int .i64 nn, .slice aG nG cG, .slice none 0 0] 30))); have WB := Lib.hid (WB.out.after ((Below.refl _ _).alloc (Nat.le_refl _) (.cells #[.int .i64 mm, .int .i64 nn, .slice aG nG cG, .slice none 0 0] 30))); have XI := Lib.hid (XI.out.later ((Below.refl _ _).alloc (Nat.le_refl _) (.cells #[.int .i64 mm, .int .i64 nn, .slice aG nG cG, .slice none 0 0] 30))); have XL := Lib.hid (XL.out.later ((Below.refl _ _).alloc (Nat.le_refl _) (.cells #[.int .i64 mm, .int .i64 nn, .slice aG nG cG, .slice none 0 0] 30))); have XB := Lib.hid (XB.out.after ((Below.refl _ _).alloc (Nat.le_refl _) (.cells #[.int .i64 mm, .int .i64 nn, .slice aG nG cG, .slice none 0 0] 30))); have GG := Lib.hid (GG.out.later ((Below.refl _ _).alloc (Nat.le_refl _) (.cells #[.int .i64 mm, .int .i64 nn, .slice aG nG cG, .slice none 0 0] 30)))
  have GB := Lib.hid (Bx.new w6 30 #[.int .i64 mm, .int .i64 nn, .slice aG nG cG, .slice none 0 0] _ rfl)
  have HZ := Lib.hid (show w6.heap.size + 1 ≤ (w6.alloc (.cells #[.int .i64 mm, .int .i64 nn, .slice aG nG cG, .slice none 0 0] 30)).heap.size by simp)
  clear bb o6
  obtain ⟨x0, x1, x2, x3⟩ := cells4 GB.out
  obtain ⟨y0, y1, y2, y3⟩ := cells4 WB.out
  go_wp2_with fail
  clear x0 x1 x2 x3 y0 y1 y2 y3
  refine (eq_node_yes ⟨mm, nn, L, []⟩ _ _ _ _ _ ⟨GG.out.insts, leads_nil _ _ _⟩ ⟨SS.out.insts, leads_nil _ _ _⟩).mono ?_
  rintro e w7 ⟨rfl, bb⟩
  have IB := Lib.hid (IB.out.after bb); have AF := Lib.hid (AF.out.after bb); have SS := Lib.hid (SS.out.later bb); have WB := Lib.hid (WB.out.after bb); have XI := Lib.hid (XI.out.later bb); have XL := Lib.hid (XL.out.later bb); have XB := Lib.hid (XB.out.after bb); have GG := Lib.hid (GG.out.later bb); have GB := Lib.hid (GB.out.after bb); have HZ := Lib.hid (Nat.le_trans HZ.out (Below.size (bb)))
  clear bb
  go_wp2_with fail
  have IB := Lib.hid (IB.out.after (Below.refl _ _).drew); have AF := Lib.hid (AF.out.after (Below.refl _ _).drew); have SS := Lib.hid (SS.out.later (Below.refl _ _).drew); have WB := Lib.hid (WB.out.after (Below.refl _ _).drew); have XI := Lib.hid (XI.out.later (Below.refl _ _).drew); have XL := Lib.hid (XL.out.later (Below.refl _ _).drew); have XB := Lib.hid (XB.out.after (Below.refl _ _).drew); have GG := Lib.hid (GG.out.later (Below.refl _ _).drew); have GB := Lib.hid (GB.out.after (Below.refl _ _).drew)
  have HZ := Lib.hid (show w6.heap.size + 1 ≤ (World.drew _).heap.size from HZ.out)
  refine wp_region_noPanic ?_
  refine wp_region_mix (S := fun w' => w'.cell? ⟨w5.heap.size, 0, none⟩ = some (.int .i64 x.me) ∧ w'.cell? ⟨w5.heap.size, 1, none⟩ = some (.int .i64 x.next) ∧ w'.cell? ⟨w5.heap.size, 2, none⟩ = some (.slice a1_w5 n1_w5 c1_w5) ∧ w'.cell? ⟨w5.heap.size, 3, none⟩ = some (.slice a2_w5 n2_w5 c2_w5) ∧ w'.cell? ⟨w.heap.size, 0, none⟩ = some (.int .i64 x.me) ∧ w'.cell? ⟨w.heap.size, 1, none⟩ = some (.int .i64 x.next) ∧ w'.cell? ⟨w.heap.size, 2, none⟩ = some (.slice a1 n1 c1) ∧ w'.cell? ⟨w.heap.size, 3, none⟩ = some (.slice a2 n2 c2)) [(true, 0), (true, 1), (false, 2), (false, 3), (true, 4)] (by kernel_rfl) (by kernel_rfl) (by kernel_rfl) (by kernel_rfl) (fun _ _ _ _ _ h => h) ⟨(cells4 XB.out).1, (cells4 XB.out).2.1, (cells4 XB.out).2.2.1, (cells4 XB.out).2.2.2, cells4 IB.out⟩ ?_
  (refine wpMix_take (v := ?_) rfl rfl ?_ ?_; rotate_left; (intro w' hS'; (try dsimp only at hS'); go_simp; (try with_reducible rfl)); simp only [List.getElem_toArray, List.getElem_cons_zero, Act.put, List.setIfInBounds_toArray, List.set_cons_zero, List.set_cons_succ])
  (refine wpMix_take (v := ?_) rfl rfl ?_ ?_; rotate_left; (intro w' hS'; (try dsimp only at hS'); go_simp; (try with_reducible rfl)); simp only [List.getElem_toArray, List.getElem_cons_succ, List.getElem_cons_zero, Act.put, List.setIfInBounds_toArray, List.set_cons_zero, List.set_cons_succ])
  refine wpMix_step rfl ?_
  go_wp2_with fail
  refine (to_node x _ _ _ (P0.out.later AF.out) SM.out SL.out).mono ?_
  rintro e w8 ⟨⟨a1_w8, n1_w8, c1_w8, a2_w8, n2_w8, c2_w8, rfl, pi_w8, pl_w8⟩, bb⟩
  have IB := Lib.hid (IB.out.after bb); have AF := Lib.hid (AF.out.after bb); have SS := Lib.hid (SS.out.later bb); have WB := Lib.hid (WB.out.after bb); have XI := Lib.hid (XI.out.later bb); have XL := Lib.hid (XL.out.later bb); have XB := Lib.hid (XB.out.after bb); have GG := Lib.hid (GG.out.later bb); have GB := Lib.hid (GB.out.after bb); have HZ := Lib.hid (Nat.le_trans HZ.out (Below.size (bb)))
  have hb_w8 := bb.size
  have T0 := Lib.hid (show NdP w8 x _ _ from ⟨pi_w8.insts, pl_w8.leads⟩)
  clear bb pi_w8 pl_w8
  go_wp2
  refine ⟨⟨(cells4 XB.out).1, (cells4 XB.out).2.1, (cells4 XB.out).2.2.1, (cells4 XB.out).2.2.2, cells4 IB.out⟩, ?_⟩
  refine wpMix_step rfl ?_
  go_wp2_with fail
  refine (eq_node_yes x _ _ _ _ _ ⟨XI.out.insts, XL.out.leads⟩ T0.out).mono ?_
  rintro e w9 ⟨rfl, bb⟩
  have IB := Lib.hid (IB.out.after bb); have AF := Lib.hid (AF.out.after bb); have SS := Lib.hid (SS.out.later bb); have WB := Lib.hid (WB.out.after bb); have XI := Lib.hid (XI.out.later bb); have XL := Lib.hid (XL.out.later bb); have XB := Lib.hid (XB.out.after bb); have GG := Lib.hid (GG.out.later bb); have GB := Lib.hid (GB.out.after bb); have HZ := Lib.hid (Nat.le_trans HZ.out (Below.size (bb)))
  clear bb T0
  go_wp2
  refine ⟨⟨(cells4 XB.out).1, (cells4 XB.out).2.1, (cells4 XB.out).2.2.1, (cells4 XB.out).2.2.2, cells4 IB.out⟩, ?_⟩
  (refine wpMix_take (v := ?_) rfl rfl ?_ ?_; rotate_left; (intro w' hS'; (try dsimp only at hS'); go_simp; (try with_reducible rfl)); simp only [List.getElem_toArray, List.getElem_cons_succ, List.getElem_cons_zero, Act.put, List.setIfInBounds_toArray, List.set_cons_zero, List.set_cons_succ])
  unfold wpMix
  refine NoPanic.normal ?_
  obtain ⟨x0, x1, x2, x3⟩ := cells4 XB.out
  go_wp2_with fail
  clear x0 x1 x2 x3
  have hz9 := HZ.out
  refine (mark_nodeW x _ _ _ _ _ XI.out XL.out SM.out SL.out (by omega)).mono ?_
  rintro e w10 ⟨⟨z, rfl, z1⟩, oc⟩
  have IB := Lib.hid (IB.out.outr oc (.inl (by omega)))
  have AF := Lib.hid (AF.out.outr oc (by omega))
  have SS := Lib.hid (SS.out.outr oc (by omega) (.inl (by omega)))
  have WB := Lib.hid (WB.out.outr oc (.inl (by omega)))
  have GG := Lib.hid (GG.out.outr oc (by omega) (.inr (by omega)))
  have GB := Lib.hid (GB.out.outr oc (.inr (by omega)))
  have HZ := Lib.hid (Nat.le_trans HZ.out oc.size)
  have dz : decide (z < 0) = false := dec_f (by omega)
  clear oc XI XL XB z1 hz9
  obtain ⟨x0, x1, x2, x3⟩ := cells4 GB.out
  obtain ⟨y0, y1, y2, y3⟩ := cells4 WB.out
  go_wp2_with fail
  clear x0 x1 x2 x3 y0 y1 y2 y3
  refine (eq_node_yes ⟨mm, nn, L, []⟩ _ _ _ _ _ ⟨GG.out.insts, leads_nil _ _ _⟩ ⟨SS.out.insts, leads_nil _ _ _⟩).mono ?_
  rintro e w11 ⟨rfl, bb⟩
  have IB := Lib.hid (IB.out.after bb); have AF := Lib.hid (AF.out.after bb); have SS := Lib.hid (SS.out.later bb); have WB := Lib.hid (WB.out.after bb); have GG := Lib.hid (GG.out.later bb); have GB := Lib.hid (GB.out.after bb); have HZ := Lib.hid (Nat.le_trans HZ.out (Below.size (bb)))
  clear bb
  obtain ⟨x0, x1, x2, x3⟩ := cells4 GB.out
  go_wp2_with fail
  clear x0 x1 x2 x3
  clear dz
  have hz11 := HZ.out
  refine (mark_nodeX mm nn L _ _ _ _ GG.out ZN.out ZL.out (by omega)).mono ?_
  rintro e w12 ⟨rfl, mx, oc⟩
  have IB := Lib.hid (IB.out.outr oc (.inl (by omega)))
  have AF := Lib.hid (AF.out.outr oc (by omega))
  have SS := Lib.hid (SS.out.outr oc (by omega) (.inl (by omega)))
  have WB := Lib.hid (WB.out.outr oc (.inl (by omega)))
  have GB := Lib.hid (GB.out.outr oc (.inr (by omega)))
  have MM := Lib.hid mx
  have HZ := Lib.hid (Nat.le_trans HZ.out oc.size)
  clear oc mx GG hz11
  have hsn := (snL_le ZL.out L.length (Nat.le_refl _)).1
  obtain ⟨mk, hmk⟩ : ∃ mk : Int, ((snL L L.length : Nat) : Int) = mk := ⟨_, rfl⟩
  have HM := Lib.hid hmk
  have dm : decide (mk < 0) = false := dec_f (by omega)
  rw [hmk]
  clear hmk hsn
  obtain ⟨x0, x1, x2, x3⟩ := cells4 GB.out
  go_wp2_with fail
  clear x0 x1 x2 x3
  refine (held_nodeX mm nn L _ _ MM.out.insts ZN.out ZL.out).mono ?_
  rintro e w13 ⟨rfl, bb⟩
  rw [HM.out]
  have IB := Lib.hid (IB.out.after bb); have AF := Lib.hid (AF.out.after bb); have SS := Lib.hid (SS.out.later bb); have WB := Lib.hid (WB.out.after bb); have GB := Lib.hid (GB.out.after bb); have HZ := Lib.hid (Nat.le_trans HZ.out (Below.size (bb))); have MM := Lib.hid (MM.out.later bb)
  clear bb
  obtain ⟨x0, x1, x2, x3⟩ := cells4 IB.out
  go_wp2_with fail
  clear x0 x1 x2 x3
  refine (to_node x _ _ _ (P0.out.later AF.out) SM.out SL.out).mono ?_
  rintro e w14 ⟨⟨a1_w14, n1_w14, c1_w14, a2_w14, n2_w14, c2_w14, rfl, pi_w14, pl_w14⟩, bb⟩
  have IB := Lib.hid (IB.out.after bb); have AF := Lib.hid (AF.out.after bb); have SS := Lib.hid (SS.out.later bb); have WB := Lib.hid (WB.out.after bb); have GB := Lib.hid (GB.out.after bb); have HZ := Lib.hid (Nat.le_trans HZ.out (Below.size (bb))); have MM := Lib.hid (MM.out.later bb)
  have hb_w14 := bb.size
  have T0 := Lib.hid (show NdP w14 x _ _ from ⟨pi_w14.insts, pl_w14.leads⟩)
  clear bb pi_w14 pl_w14
  go_wp2_with fail
  refine (CI.out _ _ _ T0.out (HS.out.later AF.out)).mono ?_
  rintro e w15 ⟨⟨u15, rfl, o15⟩, bb⟩
  obtain ⟨aH, nH, cH, rfl⟩ := o15.form
  have IB := Lib.hid (IB.out.after bb); have AF := Lib.hid (AF.out.after bb); have SS := Lib.hid (SS.out.later bb); have WB := Lib.hid (WB.out.after bb); have GB := Lib.hid (GB.out.after bb); have HZ := Lib.hid (Nat.le_trans HZ.out (Below.size (bb))); have MM := Lib.hid (MM.out.later bb)
  have HH := Lib.hid o15
  have IB := Lib.hid (IB.out.after ((Below.refl _ _).alloc (Nat.le_refl _) (.cells #[.int .i64 mm, .int .i64 nn, .slice aH nH cH, .slice none 0 0] 30))); have AF := Lib.hid (AF.out.after ((Below.refl _ _).alloc (Nat.le_refl _) (.cells #[.int .i64 mm, .int .i64 nn, .slice aH nH cH, .slice none 0 0] 30))); have SS := Lib.hid (SS.out.later ((Below.refl _ _).alloc (Nat.le_refl _) (.cells #[.int .i64 mm, .int .i64 nn, .slice aH nH cH, .slice none 0 0] 30))); have WB := Lib.hid (WB.out.after ((Below.refl _ _).alloc (Nat.le_refl _) (.cells #[.int .i64 mm, .int .i64 nn, .slice aH nH cH, .slice none 0 0] 30))); have GB := Lib.hid (GB.out.after ((Below.refl _ _).alloc (Nat.le_refl _) (.cells #[.int .i64 mm, .int .i64 nn, .slice aH nH cH, .slice none 0 0] 30))); have MM := Lib.hid (MM.out.later ((Below.refl _ _).alloc (Nat.le_refl _) (.cells #[.int .i64 mm, .int .i64 nn, .slice aH nH cH, .slice none 0 0] 30))); have HH := Lib.hid (HH.out.later ((Below.refl _ _).alloc (Nat.le_refl _) (.cells #[.int .i64 mm, .int .i64 nn, .slice aH nH cH, .slice none 0 0] 30)))
  have HB := Lib.hid (Bx.new w15 30 #[.int .i64 mm, .int .i64 nn, .slice aH nH cH, .slice none 0 0] _ rfl)
  clear bb o15 T0
  obtain ⟨x0, x1, x2, x3⟩ := cells4 HB.out
  obtain ⟨y0, y1, y2, y3⟩ := cells4 WB.out
  go_wp2_with fail
  clear x0 x1 x2 x3 y0 y1 y2 y3
  refine (eq_node_yes ⟨mm, nn, L, []⟩ _ _ _ _ _ ⟨HH.out.insts, leads_nil _ _ _⟩ ⟨SS.out.insts, leads_nil _ _ _⟩).mono ?_
  rintro e w16 ⟨rfl, bb⟩
  have IB := Lib.hid (IB.out.after bb); have AF := Lib.hid (AF.out.after bb); have SS := Lib.hid (SS.out.later bb); have WB := Lib.hid (WB.out.after bb); have GB := Lib.hid (GB.out.after bb); have MM := Lib.hid (MM.out.later bb); have HH := Lib.hid (HH.out.later bb); have HB := Lib.hid (HB.out.after bb)
  clear bb
  obtain ⟨x0, x1, x2, x3⟩ := cells4 GB.out
  go_wp2_with fail
  clear x0 x1 x2 x3
  refine (held_nodeX mm nn L _ _ MM.out.insts ZN.out ZL.out).mono ?_
  rintro e w17 ⟨rfl, bb⟩
  rw [HM.out]
  have IB := Lib.hid (IB.out.after bb); have AF := Lib.hid (AF.out.after bb); have SS := Lib.hid (SS.out.later bb); have WB := Lib.hid (WB.out.after bb); have GB := Lib.hid (GB.out.after bb); have MM := Lib.hid (MM.out.later bb); have HH := Lib.hid (HH.out.later bb); have HB := Lib.hid (HB.out.after bb)
  clear bb
  go_wp2
  go_ret
  exact ⟨rfl, AF.out⟩
end Go.Proofs.YtckeeadkhopljaaGreatDoor
