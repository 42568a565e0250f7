/- A bundle of texts: IdG, RwR, RwT, RiI. -/
import Derived.Test.YtkeoeempdkpafaaDoorIdTo
import Derived.Laws.AppendOwn
import Derived.Lib.LazyBuf
import Derived.Test.YtkeoeempdkpafaaDoorRC
import Derived.Test.YtkeoeempdkpafaaDoorCM
import Derived.Test.YtkeoeempdkpafaaDoorWw
import Derived.Test.YtkeoeempdkpafaaDoorInTo
import Derived.Test.YtkeoeempdkpafaaDoorEm
import Derived.Test.YtkeoeempdkpafaaDoorEmV
import Derived.Test.YtkeoeempdkpafaaDoorInCp
/- Rows of Ids that a call owns and appends to. -/
namespace Go.Proofs.YtkeoeempdkpafaaDoor
open Go.RowKit Go.PlainAid
set_option linter.unusedVariables false

def idV (l : List Ii) : List Value := l.flatMap fun s => [.int .i64 s.rep, .int .i64 s.slot]
theorem idV_append (l m : List Ii) : idV (l ++ m) = idV l ++ idV m := by simp [idV]
theorem idV_cons (x : Ii) (l : List Ii) : idV (x :: l) = .int .i64 x.rep :: .int .i64 x.slot :: idV l := by simp [idV]
theorem idV_length (l : List Ii) : (idV l).length = l.length * 2 := by
  induction l with
  | nil => rfl
  | cons x l ih => rw [idV_cons]; simp only [List.length_cons, ih]; omega
theorem idV_get (l : List Ii) (j : Nat) (h : j < l.length) : (idV l)[j * 2]? = some (.int .i64 (iR l j)) ∧ (idV l)[j * 2 + 1]? = some (.int .i64 (iS l j)) := by
  induction l generalizing j with
  | nil => simp at h
  | cons x l ih =>
    rw [idV_cons]
    cases j with
    | zero => exact ⟨by rw [iR_of (x := x) rfl]; rfl, by rw [iS_of (x := x) rfl]; rfl⟩
    | succ j =>
      have h' : j < l.length := by simpa using h
      obtain ⟨a, b⟩ := ih j h'
      have g : (x :: l)[j + 1]? = some ⟨iR l j, iS l j⟩ := by rw [List.getElem?_cons_succ]; exact ii_get l j h'
      rw [iR_of g, iS_of g, show (j + 1) * 2 = j * 2 + 1 + 1 by omega, show j * 2 + 1 + 1 + 1 = (j * 2 + 1) + 1 + 1 by omega]
      simp only [List.getElem?_cons_succ]
      exact ⟨a, b⟩
theorem idV_one (l : List Ii) : ∀ u ∈ idV l, u.oneCell' = true := by
  induction l with
  | nil => intro u hu; simp [idV] at hu
  | cons x l ih =>
    intro u hu
    rw [idV_cons] at hu
    simp only [List.mem_cons] at hu
    rcases hu with rfl | rfl | hu
    · rfl
    · rfl
    · exact ih u hu
/-- v is a row of l's own, from its block's head on. -/
def IdRow (w : World) (base : Nat) (v : Value) (l : List Ii) : Prop := w.ownsRow base 32 2 v l.length (idV l)
theorem IdRow.own {w : World} {base : Nat} {v : Value} {l : List Ii} (h : IdRow w base v l) : IdOwn w base v l := by
  obtain ⟨h1, ⟨rfl, h2⟩ | ⟨g, cap, cur, rfl, hb, hg, hc, hm, hs, ht⟩⟩ := h
  · exact ⟨none, 0, by rw [h2], by omega, by omega, fun h0 => by omega⟩
  · unfold maxLen at hm
    refine ⟨_, cap, rfl, hc, by omega, fun h0 => ⟨g, 0, cur, rfl, ⟨hb, by omega⟩, hg, fun j hj => ?_⟩⟩
    obtain ⟨a, b⟩ := idV_get l j hj
    rw [← ht] at a b
    rw [List.getElem?_take, if_pos (by omega)] at a b
    rw [Nat.zero_add]
    exact ⟨by simpa using a, by simpa using b⟩
theorem IdRow.kept {w w' : World} {base : Nat} {v : Value} {l : List Ii} {row : Option Nat} (h : IdRow w base v l) (hg : w.grownBy w' row) (hne : ∀ k, row = some k → v.ownBlock ≠ some k) : IdRow w' base v l := by
  obtain ⟨h1, h2⟩ := h
  refine ⟨h1, h2.imp (fun h => h) fun ⟨g, cap, cur, e, hb', hg', r⟩ => ⟨g, cap, cur, e, hb', ?_, r⟩⟩
  subst e
  rw [hg.block g (Array.getElem?_eq_some_iff.1 hg').1 (fun e => hne g e.symm rfl)]
  exact hg'
theorem IdRow.later {w w' : World} {base : Nat} {v : Value} {l : List Ii} (h : IdRow w base v l) (hb : Below w.heap.size w w') : IdRow w' base v l := h.kept (grown_of hb none) (fun k hk => by cases hk)
theorem IdRow.alloc {w : World} {base : Nat} {v : Value} {l : List Ii} (h : IdRow w base v l) (o : Obj) : IdRow (w.alloc o) base v l := h.later ((Below.refl _ _).alloc (Nat.le_refl _) _)
theorem IdRow.drew {w : World} {base : Nat} {v : Value} {l : List Ii} (h : IdRow w base v l) : IdRow w.drew base v l := h.later (Below.refl _ _).drew
theorem IdRow.mono {w : World} {base base' : Nat} {v : Value} {l : List Ii} (h : IdRow w base v l) (hb : base' ≤ base) : IdRow w base' v l := by
  obtain ⟨h1, h2⟩ := h
  exact ⟨h1, h2.imp (fun h => h) fun ⟨g, cap, cur, e, hb', r⟩ => ⟨g, cap, cur, e, Nat.le_trans hb hb', r⟩⟩
theorem IdRow.lt {w : World} {base : Nat} {v : Value} {l : List Ii} (h : IdRow w base v l) (k : Nat) (hk : v.ownBlock = some k) : base ≤ k ∧ k < w.heap.size := by
  obtain ⟨h1, ⟨rfl, h2⟩ | ⟨g, cap, cur, rfl, hb, hg, hc, _⟩⟩ := h
  · cases hk
  · cases hk
    exact ⟨hb, (Array.getElem?_eq_some_iff.1 hg).1⟩
theorem IdRow.form {w : World} {base : Nat} {v : Value} {l : List Ii} (h : IdRow w base v l) : ∃ a cap, v = .slice a l.length cap := by
  obtain ⟨h1, ⟨rfl, h2⟩ | ⟨g, cap, cur, rfl, _⟩⟩ := h
  · exact ⟨none, 0, by rw [h2]⟩
  · exact ⟨_, cap, rfl⟩
theorem below_of_idrow {w w' : World} {base : Nat} {v : Value} {l : List Ii} (h : IdRow w base v l) (hb : base ≤ w.heap.size) (hg : w.grownBy w' v.ownBlock) : Below base w w' :=
  (Below.refl _ _).grown hg hb (fun k hk => (h.lt k hk).1)
theorem idRow_nil (w : World) (base : Nat) : IdRow w base (.slice none 0 0) [] := ⟨by simp [idV], .inl ⟨rfl, rfl⟩⟩
theorem idRow_new (w : World) (base : Nat) (hb : base ≤ w.heap.size) : IdRow (w.alloc (.cells #[] 32)) base (.slice (some ⟨w.heap.size, 0, none⟩) 0 0) [] := World.ownsRow_made w #[] 0 hb (Nat.zero_le _) rfl
theorem ii_news {w : World} {b oo : Nat} {l2 : List Ii} (hX : ∀ j, j < l2.length → IiAt w b oo l2 j) (j : Nat) (u : Value) (hj : (idV l2)[j]? = some u) : w.cell? ((⟨b, oo, none⟩ : Addr).add j) = some u := by
  have hjl : j < l2.length * 2 := by rw [← idV_length]; exact (List.getElem?_eq_some_iff.1 hj).1
  rw [Go.WideShapes.add_plain]
  obtain ⟨p, q⟩ := idV_get l2 (j / 2) (by omega)
  obtain ⟨p', q'⟩ := hX (j / 2) (by omega)
  rcases Nat.mod_two_eq_zero_or_one j with h | h
  · have e : j = j / 2 * 2 := by omega
    rw [e, p] at hj
    rw [e, p']
    exact hj
  · have e : j = j / 2 * 2 + 1 := by omega
    rw [e, q] at hj
    rw [e, ← Nat.add_assoc, q']
    exact hj
/-- list = append(list, others...). -/
theorem wp_append_id {w : World} {ops : Array Oper} {rest : List Oper} {o : Oper} {a : Act} {Q : Exit → Act → World → Prop} (hgd : o.guard = none) (s x : Operand)
    (ho : o.op = .call { callee := .builtin .append, args := #[s, x], argTypes := #[34, 34] }) (base : Nat) (v : Value) (l l2 : List Ii) (hs : a.eval s = v) (hown : IdRow w base v l)
    (b oo c : Nat) (hx : a.eval x = .slice (some ⟨b, oo, none⟩) l2.length c) (hX : ∀ j, j < l2.length → IiAt w b oo l2 j) (hlen : l.length + l2.length ≤ 4194304) (hbase : base ≤ w.heap.size)
    (hK : ∀ v' w', IdRow w' base v' (l ++ l2) → w.grownBy w' v.ownBlock → wpList Tryd.prog ops Q rest (a.put o.dst v') w') : wpList Tryd.prog ops Q (o :: rest) a w := by
  obtain ⟨i0, hi, hz0, hz1, hz2⟩ := info_parts Tryd.infoId
  refine wpList_append_own w hgd s x 34 ho base 32 i0 (.agg #[.int .i64 0, .int .i64 0]) 2 16 Tryd.underlying34 hi hz0 hz1 hz2 rfl (by decide) v l.length (idV l) hs hown ⟨b, oo, none⟩ l2.length c (idV l2) hx (idV_length l2) (fun j u hj => ii_news hX j u hj) (idV_one l2) (by unfold maxLen; omega) (by omega) hbase ?_
  intro v' w' h1 h2 _
  refine hK v' w' ?_ h2
  unfold IdRow
  rw [List.length_append, idV_append]
  exact h1
theorem ii_one {w : World} {b : Nat} {x : Ii} (h : w.cell? ⟨b, 0, none⟩ = some (.int .i64 x.rep) ∧ w.cell? ⟨b, 1, none⟩ = some (.int .i64 x.slot)) (j : Nat) (hj : j < [x].length) : IiAt w b 0 [x] j := by
  obtain rfl : j = 0 := by simpa using hj
  unfold IiAt
  rw [iR_of (x := x) rfl, iS_of (x := x) rfl]
  simpa using h
/-- The same as a step of a region that draws its order. -/
theorem step_append_id {w : World} {ops : Array Oper} {o : Oper} {a : Act} {K : Act → World → Prop} {Q : Exit → Act → World → Prop} {E : Prop} (hgd : o.guard = none) (s x : Operand)
    (ho : o.op = .call { callee := .builtin .append, args := #[s, x], argTypes := #[34, 34] }) (base : Nat) (v : Value) (l : List Ii) (t : Ii) (hs : a.eval s = v) (hown : IdRow w base v l)
    (h c : Nat) (hx : a.eval x = .slice (some ⟨h, 0, none⟩) 1 c) (hX : w.cell? ⟨h, 0, none⟩ = some (.int .i64 t.rep) ∧ w.cell? ⟨h, 1, none⟩ = some (.int .i64 t.slot)) (hlen : l.length ≤ 4194304) (hbase : base ≤ w.heap.size)
    (hK : ∀ v' w', IdRow w' base v' (l ++ [t]) → w.grownBy w' v.ownBlock → K (a.put o.dst v') w') : if Region.wanted o (yielded ops a.tmps) = true then Oper.wp Tryd.prog o a w K Q else E := by
  have hw : Region.wanted o (yielded ops a.tmps) = true := by simp [Region.wanted, hgd]
  rw [if_pos hw]
  obtain ⟨i0, hi, hz0, hz1, hz2⟩ := info_parts Tryd.infoId
  refine wp_append_own w s x 34 ho base 32 i0 (.agg #[.int .i64 0, .int .i64 0]) 2 16 Tryd.underlying34 hi hz0 hz1 hz2 rfl (by decide) v l.length (idV l) hs hown ⟨h, 0, none⟩ 1 c (idV [t]) hx (idV_length [t]) (fun j u hj => ii_news (fun j hj => ii_one hX j hj) j u hj) (idV_one [t]) (by unfold maxLen; omega) (by omega) hbase ?_
  intro v' w' h1 h2 _
  refine hK v' w' ?_ h2
  unfold IdRow
  rw [List.length_append, idV_append]
  exact h1
end Go.Proofs.YtkeoeempdkpafaaDoor
/- The reader of a message's fields: Ids, ballots, flags, commands. -/
namespace Go.Proofs.YtkeoeempdkpafaaDoor
open Go.RowKit Go.PlainAid
set_option linter.unusedVariables false

theorem RdrO.drew {w : World} {g : Nat} {st : Option ByteArray} (h : RdrO w g st) : RdrO w.drew g st := h.after (Below.refl _ _).drew
theorem results_idA {fn : Func} {p : Tmp} (h : fn.results = #[.cell p 32]) (tmps : Array Value) (w : World) (g : Nat) (x y : Value)
    (hp : tmps.getD p undef = .pointer (some ⟨g, 0, none⟩)) (hc : Bx w g 32 #[x, y]) : (results fn tmps).run Tryd.prog w = .ok (.agg #[x, y]) w :=
  results_cell_row h tmps w g 32 #[x, y] (0, 0) _ hp hc Tryd.underlying32 rfl (by kernel_rfl)
set_option maxRecDepth 100000 in
set_option maxHeartbeats 1000000 in
theorem wid_c (w : World) (g : Nat) (st : Option ByteArray) (hR : RdrO w g st) :
    Calls Tryd.prog 51 #[.pointer (some ⟨g, 0, none⟩)] w fun e w' => e = .returned (.agg #[.int .i64 (oN st).1, .int .i64 (oN (oN st).2).1]) ∧ RdrO w' g (oN (oN st).2).2 ∧ w.grownBy w' (some g) := by
  have H := Lib.hid ((hR.after ((Below.refl _ _).alloc (Nat.le_refl _) (.cells #[.int .i64 0, .int .i64 0] 32))).drew)
  have X := Lib.hid ((Bx.new w 32 #[.int .i64 0, .int .i64 0] _ rfl).drew)
  have G := Lib.hid (show w.grownBy (w.alloc (.cells #[.int .i64 0, .int .i64 0] 32)).drew (some g) from grown_of_below ((Below.refl _ _).alloc (Nat.le_refl _) _).drew (some g))
  have HNE := Lib.hid (show w.heap.size ≠ g by have := hR.lt; omega)
  clear hR
  go_enter Tryd.func51, Tryd.ntmps51
  go_wp2_with fail
  refine wp_region_noPanic ?_
  refine wp_region_takes (T := fun _ => false) (S := fun w' => True) [0, 1, 2, 4, 5, 6] [3, 7, 8, 9] (by kernel_rfl) (by kernel_rfl) (by kernel_rfl) (by kernel_rfl) (fun _ _ _ _ _ h => h) trivial ?_
  iterate 6 (refine wpTakes_step (v := ?_) rfl rfl ?_ ?_; rotate_left; (intro w' hS'; (try dsimp only at hS'); go_simp; (try with_reducible rfl)); simp only [List.getElem_toArray, List.getElem_cons_succ, List.getElem_cons_zero, Act.put, List.setIfInBounds_toArray, List.set_cons_zero, List.set_cons_succ])
  unfold wpTakes
  refine wpSeqT_step rfl ?_
  go_wp2_with fail
  refine (number_c _ g st H.out).mono ?_
  rintro e w1 ⟨rfl, h1, g1⟩
  have X1 := Lib.hid (X.out.keep g1 (by simpa using HNE.out))
  have H1 := Lib.hid h1
  have G1 := Lib.hid (G.out.trans g1)
  clear h1 g1 H X G
  go_wp2
  refine ⟨fun _ => trivial, ?_⟩
  refine wpSeqT_step rfl ?_
  go_wp2_with fail
  refine (number_c _ g _ H1.out).mono ?_
  rintro e w2 ⟨rfl, h2, g2⟩
  have X2 := Lib.hid (X1.out.keep g2 (by simpa using HNE.out))
  have H2 := Lib.hid h2
  have G2 := Lib.hid (G1.out.trans g2)
  clear h2 g2 H1 X1 G1
  go_wp2
  refine ⟨fun _ => trivial, ?_⟩
  refine wpSeqT_step rfl ?_
  go_wp2
  refine ⟨fun _ => trivial, ?_⟩
  refine wpSeqT_step rfl ?_
  have e0 := X2.out.frozen 0
  have e1 := X2.out.frozen 1
  have hl := X2.out.lt
  obtain ⟨c0, c1⟩ := (show w2.cell? ⟨w.heap.size, 0, none⟩ = some (.int .i64 0) ∧ w2.cell? ⟨w.heap.size, 1, none⟩ = some (.int .i64 0) from ⟨X2.out.cell 0 _ rfl, X2.out.cell 1 _ rfl⟩)
  go_wp2
  refine ⟨fun _ => trivial, ?_⟩
  unfold wpSeqT
  refine NoPanic.normal ?_
  clear e0 e1 c0 c1
  go_wp2
  have X3 := (X2.out.set 0 (.int .i64 (oN st).1)).set 1 (.int .i64 (oN (oN st).2).1)
  have hg1 : (w2.setCell ⟨w.heap.size, 0, none⟩ (.int .i64 (oN st).1)).grownBy ((w2.setCell ⟨w.heap.size, 0, none⟩ (.int .i64 (oN st).1)).setCell ⟨w.heap.size, 1, none⟩ (.int .i64 (oN (oN st).2).1)) (some w.heap.size) := setG _ _ _ _
  refine bodyPost_ret (results_idA Tryd.results51 _ _ w.heap.size _ _ rfl X3) rfl ⟨rfl, (H2.out.other (setG w2 w.heap.size 0 _) (Ne.symm HNE.out)).other hg1 (Ne.symm HNE.out), grown_then (grown_then G2.out (setG w2 w.heap.size 0 _) (fun j hj => by cases hj; exact Nat.le_refl _)) hg1 (fun j hj => by cases hj; exact Nat.le_refl _)⟩
set_option maxHeartbeats 1000000 in
theorem wballot_c (w : World) (g : Nat) (st : Option ByteArray) (hR : RdrO w g st) :
    Calls Tryd.prog 52 #[.pointer (some ⟨g, 0, none⟩)] w fun e w' => e = .returned (.int .i64 ((oN st).1 - 1)) ∧ RdrO w' g (oN st).2 ∧ w.grownBy w' (some g) := by
  have h0 := oN_nonneg st
  have h1 := oN_le st
  have hw : IntKind.i64.wrap ((oN st).1 + -1) = (oN st).1 - 1 := by rw [IntWalk.i64_in _ (by omega)]; omega
  go_enter Tryd.func52, Tryd.ntmps52
  go_wp2_with fail
  refine (number_c _ g st hR).mono ?_
  rintro e w1 ⟨rfl, h2, g2⟩
  have H2 := Lib.hid h2
  have G2 := Lib.hid g2
  clear h2 g2
  go_wp2
  go_ret
  exact ⟨rfl, H2.out, G2.out⟩
theorem RdrO.some_rdr {w : World} {g : Nat} {st : Option ByteArray} (h : RdrO w g st) : ∃ r b, Rdr w g r b ∧ r.size ≤ 1048576 := by
  cases st with
  | none => obtain ⟨r, a, b⟩ := h; exact ⟨r, true, a, b⟩
  | some r => exact ⟨r, false, h.1, h.2⟩
set_option maxHeartbeats 1000000 in
theorem wflag_c (w : World) (g : Nat) (st : Option ByteArray) (hR : RdrO w g st) :
    Calls Tryd.prog 53 #[.pointer (some ⟨g, 0, none⟩)] w fun e w' => e = .returned (.bool (decide ((oN st).1 = 1))) ∧ RdrO w' g (if 1 < (oN st).1 then none else (oN st).2) ∧ w.grownBy w' (some g) := by
  obtain ⟨n, hn⟩ : ∃ n, (oN st).1 = n := ⟨_, rfl⟩
  rw [hn]
  by_cases h1 : 1 < n
  · have hd : decide (n = 1) = false := by simp; omega
    have hb : (n == 1) = false := by simp; omega
    rw [hd, if_pos h1]
    go_enter Tryd.func53, Tryd.ntmps53
    go_wp2_with fail
    refine (number_c _ g st hR).mono ?_
    rintro e w1 ⟨rfl, h2, g2⟩
    rw [hn]
    have G2 := Lib.hid g2
    obtain ⟨r, b, hr, hz⟩ := h2.some_rdr
    have R2 := Lib.hid (And.intro hr hz)
    have e1 := hr.free 1
    have e2 := hr.c1
    have hl := hr.lt
    clear h2 g2 hn hr hz
    go_wp2
    go_ret
    exact ⟨rfl, ⟨r, R2.out.1.setT true, R2.out.2⟩, G2.out.trans (setG _ _ _ _)⟩
  · rw [if_neg h1]
    obtain ⟨d, hd⟩ : ∃ d, decide (n = 1) = d := ⟨_, rfl⟩
    have hbq : (n == 1) = d := hd
    rw [hd]
    go_enter Tryd.func53, Tryd.ntmps53
    go_wp2_with fail
    refine (number_c _ g st hR).mono ?_
    rintro e w1 ⟨rfl, h2, g2⟩
    rw [hn]
    have G2 := Lib.hid g2
    have H2 := Lib.hid h2
    clear h2 g2 hn hd
    go_wp2
    go_ret
    exact ⟨rfl, H2.out, G2.out⟩
end Go.Proofs.YtkeoeempdkpafaaDoor
/- The reader of a message's fields: the command and the Deps. -/
namespace Go.Proofs.YtkeoeempdkpafaaDoor
open Go.RowKit Go.PlainAid
set_option linter.unusedVariables false

theorem box_set8 {w : World} {q : Nat} {t : TypeId} {x0 x1 x2 x3 x4 x5 x6 x7 : Value} (h : Box w q t #[x0, x1, x2, x3, x4, x5, x6, x7]) (y0 y1 y2 y3 y4 y5 y6 y7 : Value) : Box ((((((((w.setCell ⟨q, 0, none⟩ y0).setCell ⟨q, 1, none⟩ y1).setCell ⟨q, 2, none⟩ y2).setCell ⟨q, 3, none⟩ y3).setCell ⟨q, 4, none⟩ y4).setCell ⟨q, 5, none⟩ y5).setCell ⟨q, 6, none⟩ y6).setCell ⟨q, 7, none⟩ y7) q t #[y0, y1, y2, y3, y4, y5, y6, y7] := by
  have h2 : (setL w q 0 [y0, y1, y2, y3, y4, y5, y6, y7]).heap[q]? = _ := setL_heap [y0, y1, y2, y3, y4, y5, y6, y7] w _ 0 h
  rw [updL_eq [y0, y1, y2, y3, y4, y5, y6, y7] #[x0, x1, x2, x3, x4, x5, x6, x7] 0 (show 0 + 8 ≤ 8 by omega)] at h2
  exact h2
theorem grown_set8 (w : World) (q : Nat) (y0 y1 y2 y3 y4 y5 y6 y7 : Value) : w.grownBy ((((((((w.setCell ⟨q, 0, none⟩ y0).setCell ⟨q, 1, none⟩ y1).setCell ⟨q, 2, none⟩ y2).setCell ⟨q, 3, none⟩ y3).setCell ⟨q, 4, none⟩ y4).setCell ⟨q, 5, none⟩ y5).setCell ⟨q, 6, none⟩ y6).setCell ⟨q, 7, none⟩ y7) (some q) := ((((((((setG w q 0 y0).trans (setG _ q 1 y1)).trans (setG _ q 2 y2)).trans (setG _ q 3 y3)).trans (setG _ q 4 y4)).trans (setG _ q 5 y5)).trans (setG _ q 6 y6)).trans (setG _ q 7 y7))
theorem RdrO.set8 {w : World} {g q : Nat} {st : Option ByteArray} (h : RdrO w g st) (hne : g ≠ q) (y0 y1 y2 y3 y4 y5 y6 y7 : Value) : RdrO ((((((((w.setCell ⟨q, 0, none⟩ y0).setCell ⟨q, 1, none⟩ y1).setCell ⟨q, 2, none⟩ y2).setCell ⟨q, 3, none⟩ y3).setCell ⟨q, 4, none⟩ y4).setCell ⟨q, 5, none⟩ y5).setCell ⟨q, 6, none⟩ y6).setCell ⟨q, 7, none⟩ y7) g st := ((((((((h.other (setG _ q 0 _) hne).other (setG _ q 1 _) hne).other (setG _ q 2 _) hne).other (setG _ q 3 _) hne).other (setG _ q 4 _) hne).other (setG _ q 5 _) hne).other (setG _ q 6 _) hne).other (setG _ q 7 _) hne)
theorem oT_size {st : Option ByteArray} (h : ∀ r, st = some r → r.size ≤ 1048576) : (oT st).1.size ≤ 1048576 := by
  unfold oT
  cases hq : (oN st).2 with
  | none => rw [oB_none]; exact Nat.zero_le _
  | some q =>
    obtain ⟨r, e, hr⟩ := oN_some hq
    have h1 := h r e
    rw [hr, ByteArray.size_append] at h1
    by_cases hk : (q.size : Int) < (oN st).1
    · rw [oB_bad q _ hk]; exact Nat.zero_le _
    · rw [oB_ok q _ (by omega)]
      show (q.extract 0 (oN st).1.toNat).size ≤ _
      rw [ext_size q 0 _ (by omega)]
      omega
theorem RdrO.bound {w : World} {g : Nat} {st : Option ByteArray} (h : RdrO w g st) (r : ByteArray) (e : st = some r) : r.size ≤ 1048576 := by subst e; exact h.2
theorem results_cmd1 {fn : Func} {p : Tmp} (h : fn.results = #[.cell p 33]) (tmps : Array Value) (w : World) (g : Nat) (cs : Array Value) (hs : 8 = cs.size)
    (hp : tmps.getD p undef = .pointer (some ⟨g, 0, none⟩)) (hc : Box w g 33 cs) : (results fn tmps).run Tryd.prog w = .ok (.agg cs) w :=
  results_cell_row h tmps w g 33 cs (0, 0) _ hp hc Tryd.underlying33 rfl (by rw [← hs]; kernel_rfl)
set_option maxRecDepth 100000 in
set_option maxHeartbeats 4000000 in
theorem wcmd_c (w w0 : World) (g : Nat) (st : Option ByteArray) (a : Addr) (hR : RdrO w g st) (hS : Sent w0 a) (hA : Af w0 w) (hg0 : w0.heap.size ≤ g) :
    Calls Tryd.prog 54 #[.pointer (some ⟨g, 0, none⟩)] w fun e w' => (∃ va vn vcap, e = .returned (.agg #[.int .i64 (readC (oT st).1).kind, .int .i64 (readC (oT st).1).client, .int .i64 (readC (oT st).1).no, .string (readC (oT st).1).set, .string (readC (oT st).1).name, .string (readC (oT st).1).tag, .int .i64 (readC (oT st).1).n, .slice va vn vcap]) ∧ GrowsS w' w.heap.size (.slice va vn vcap) (readC (oT st).1).ch) ∧ RdrO w' g (if goodB (oT st).1 then (oT st).2 else none) ∧ w.grownBy w' (some g) := by
  have hz := oT_size (fun r e => hR.bound r e)
  obtain ⟨c, hc⟩ : ∃ c, readC (oT st).1 = c := ⟨_, rfl⟩
  obtain ⟨bg, hbg⟩ : ∃ bg, goodB (oT st).1 = bg := ⟨_, rfl⟩
  rw [hc, hbg]
  have HLT := Lib.hid hR.lt
  have B0 := Lib.hid (Box.new w 33 #[.int .i64 0, .int .i64 0, .int .i64 0, .string ⟨#[]⟩, .string ⟨#[]⟩, .string ⟨#[]⟩, .int .i64 0, .slice none 0 0] _ rfl)
  have H0 := Lib.hid (hR.after ((Below.refl _ _).alloc (Nat.le_refl _) (.cells #[.int .i64 0, .int .i64 0, .int .i64 0, .string ⟨#[]⟩, .string ⟨#[]⟩, .string ⟨#[]⟩, .int .i64 0, .slice none 0 0] 33)))
  have S0 := Lib.hid (hA.alloc (.cells #[.int .i64 0, .int .i64 0, .int .i64 0, .string ⟨#[]⟩, .string ⟨#[]⟩, .string ⟨#[]⟩, .int .i64 0, .slice none 0 0] 33))
  have HS := Lib.hid hS
  have G0 := Lib.hid (grown_of_below ((Below.refl w.heap.size w).alloc (Nat.le_refl _) (.cells #[.int .i64 0, .int .i64 0, .int .i64 0, .string ⟨#[]⟩, .string ⟨#[]⟩, .string ⟨#[]⟩, .int .i64 0, .slice none 0 0] 33)) (some g))
  clear hR hS hA
  go_enter Tryd.func54, Tryd.ntmps54
  go_wp2_with fail
  refine (text_c _ g st H0.out).mono ?_
  rintro e w1 ⟨rfl, h1, g1⟩
  have B1 := Lib.hid (B0.out.keep g1 (by have := HLT.out; simp; omega))
  have S1 := Lib.hid (S0.out.grow g1 (fun k hk => by cases hk; exact hg0))
  have H1 := Lib.hid h1
  have G1 := Lib.hid (G0.out.trans g1)
  clear h1 g1 B0 S0 H0 G0
  go_wp2_with fail
  refine (impl_read _ a _ (HS.out.later S1.out) hz).mono ?_
  rintro e w2 ⟨⟨va, vn, vcap, he, hv⟩, hb⟩
  rw [hc] at he hv
  rw [hbg] at he
  subst he
  have hw1 : w.heap.size ≤ w1.heap.size := G1.out.size
  have B2 := Lib.hid ((B1.out.after hb).alloc (.cells #[.int .i64 c.kind, .int .i64 c.client, .int .i64 c.no, .string c.set, .string c.name, .string c.tag, .int .i64 c.n, .slice va vn vcap] 33))
  have H2 := Lib.hid ((H1.out.after hb).after ((Below.refl _ _).alloc (Nat.le_refl _) (.cells #[.int .i64 c.kind, .int .i64 c.client, .int .i64 c.no, .string c.set, .string c.name, .string c.tag, .int .i64 c.n, .slice va vn vcap] 33)))
  have V2 := Lib.hid ((hv.mono (base' := w.heap.size + 1) (by have := B1.out.lt; omega)).alloc (.cells #[.int .i64 c.kind, .int .i64 c.client, .int .i64 c.no, .string c.set, .string c.name, .string c.tag, .int .i64 c.n, .slice va vn vcap] 33))
  have G2 := Lib.hid ((G1.out.trans (grown_of_below hb (some g))).trans (grown_of_below ((Below.refl w2.heap.size w2).alloc (Nat.le_refl _) (.cells #[.int .i64 c.kind, .int .i64 c.client, .int .i64 c.no, .string c.set, .string c.name, .string c.tag, .int .i64 c.n, .slice va vn vcap] 33)) (some g)))
  have HB := Lib.hid hb
  clear hv hb B1 H1 G1 S1 hc hbg
  have e0 := B2.out.frozen 0
  have e1 := B2.out.frozen 1
  have e2 := B2.out.frozen 2
  have e3 := B2.out.frozen 3
  have e4 := B2.out.frozen 4
  have e5 := B2.out.frozen 5
  have e6 := B2.out.frozen 6
  have e7 := B2.out.frozen 7
  obtain ⟨x0, x1, x2, x3, x4, x5, x6, x7⟩ := B2.out.cells8
  have l0 := B2.out.lt
  cases bg
  · obtain ⟨r, b, hr, hrz⟩ := H2.out.some_rdr
    have R2 := Lib.hid (And.intro (hr.setT true) hrz)
    have f1 := hr.free 1
    have f2 := hr.c1
    have fl := hr.lt
    clear hr hrz
    have hw2 : w1.heap.size ≤ w2.heap.size := HB.out.size
    obtain ⟨d0, d1, d2, d3, d4, d5, d6, d7⟩ := ((Box.new w2 33 #[.int .i64 c.kind, .int .i64 c.client, .int .i64 c.no, .string c.set, .string c.name, .string c.tag, .int .i64 c.n, .slice va vn vcap] _ rfl).set_other ⟨g, 1, none⟩ (.bool true) (by have := HLT.out; simp; omega)).cells8
    have B3 := Lib.hid (B2.out.set_other ⟨g, 1, none⟩ (.bool true) (by have := HLT.out; simp; omega))
    clear e0 e1 e2 e3 e4 e5 e6 e7 x0 x1 x2 x3 x4 x5 x6 x7 l0
    have e0 := B3.out.frozen 0
    have e1 := B3.out.frozen 1
    have e2 := B3.out.frozen 2
    have e3 := B3.out.frozen 3
    have e4 := B3.out.frozen 4
    have e5 := B3.out.frozen 5
    have e6 := B3.out.frozen 6
    have e7 := B3.out.frozen 7
    obtain ⟨x0, x1, x2, x3, x4, x5, x6, x7⟩ := B3.out.cells8
    have l0 := B3.out.lt
    go_wp2
    refine bodyPost_ret (results_cmd1 Tryd.results54 _ _ w.heap.size _ rfl rfl (box_set8 B3.out _ _ _ _ _ _ _ _)) rfl ⟨⟨va, vn, vcap, rfl, ?_⟩, ?_, ?_⟩
    · exact (V2.out.kept (setG _ g 1 _) (by have := HLT.out; omega)).set8 _ (by omega) _ _ _ _ _ _ _ _ |>.mono (by omega)
    · exact (show RdrO _ g none from ⟨r, R2.out.1, R2.out.2⟩).set8 (by have := HLT.out; omega) _ _ _ _ _ _ _ _
    · exact grown_then (G2.out.trans (setG _ g 1 _)) (grown_set8 _ w.heap.size _ _ _ _ _ _ _ _) (fun j hj => by cases hj; exact Nat.le_refl _)
  · go_wp2
    refine bodyPost_ret (results_cmd1 Tryd.results54 _ _ w.heap.size _ rfl rfl (box_set8 B2.out _ _ _ _ _ _ _ _)) rfl ⟨⟨va, vn, vcap, rfl, ?_⟩, ?_, ?_⟩
    · exact (V2.out.set8 _ (by omega) _ _ _ _ _ _ _ _).mono (by omega)
    · exact H2.out.set8 (by have := HLT.out; omega) _ _ _ _ _ _ _ _
    · exact grown_then G2.out (grown_set8 _ w.heap.size _ _ _ _ _ _ _ _) (fun j hj => by cases hj; exact Nat.le_refl _)
/-- The Ids as they are read. -/
def iD (st : Option ByteArray) : List Ii × Option ByteArray := if 17 < (oN st).1 then ([], none) else oD (oN st).2 (oN st).1.toNat
theorem k13_eq (s : ByteArray) : k13 s = iD (f11 s) := rfl
set_option maxRecDepth 100000 in
set_option maxHeartbeats 2000000 in
theorem wids_c (w : World) (g : Nat) (st : Option ByteArray) (hR : RdrO w g st) :
    Calls Tryd.prog 55 #[.pointer (some ⟨g, 0, none⟩)] w fun e w' => (∃ v, e = .returned v ∧ IdRow w' w.heap.size v (iD st).1) ∧ RdrO w' g (iD st).2 ∧ w.grownBy w' (some g) := by
  have HLT := Lib.hid hR.lt
  have h0 := oN_nonneg st
  go_enter Tryd.func55, Tryd.ntmps55
  go_wp2_with fail
  refine (number_c _ g st hR).mono ?_
  rintro e w1 ⟨rfl, h1, g1⟩
  have H1 := Lib.hid h1
  have G1 := Lib.hid g1
  clear h1 g1 hR
  by_cases h17 : 17 < (oN st).1
  · have HI := Lib.hid (show iD st = ([], none) by unfold iD; rw [if_pos h17])
    obtain ⟨r, b, hr, hrz⟩ := H1.out.some_rdr
    have R2 := Lib.hid (And.intro (hr.setT true) hrz)
    have f1 := hr.free 1
    have f2 := hr.c1
    have fl := hr.lt
    clear hr hrz
    generalize (oN st).1 = n at *
    go_wp2
    go_ret
    rw [HI.out]
    exact ⟨⟨_, rfl, idRow_nil _ _⟩, ⟨r, R2.out.1, R2.out.2⟩, G1.out.trans (setG _ _ _ _)⟩
  have HI := Lib.hid (show iD st = oD (oN st).2 (oN st).1.toNat by unfold iD; rw [if_neg h17])
  obtain ⟨n, hn⟩ : ∃ n : Nat, (oN st).1 = (n : Int) := ⟨(oN st).1.toNat, by omega⟩
  have hn17 : n ≤ 17 := by omega
  obtain ⟨s1, hs1⟩ : ∃ s1, (oN st).2 = s1 := ⟨_, rfl⟩
  rw [hn]
  rw [hs1] at H1
  have HI := Lib.hid (show iD st = oD s1 n by rw [HI.out, hn, hs1, Int.toNat_natCast])
  clear h17 h0 hn hs1
  have y17 : ¬ (17 : Int) < (n : Int) := by omega
  go_wp2
  clear y17
  go_loopw [4, 16] (fun v i wr => ∃ (k : Nat) (a' : Option Addr) (n' c' : Nat), k ≤ n ∧ i = .int .i64 k ∧ v = .slice a' n' c' ∧ IdRow wr w.heap.size (.slice a' n' c') (oD s1 k).1 ∧ RdrO wr g (oD s1 k).2 ∧ w.grownBy wr (some g)) (fun _ i _ => n - (intOf i).toNat)
  case atStart => exact ⟨0, _, _, _, by omega, rfl, rfl, idRow_nil _ _, H1.out, G1.out⟩
  case round =>
    clear H1 G1
    obtain ⟨k, a', n', c', hk, rfl, rfl, hv, hr, hg⟩ := hrel
    have V := Lib.hid hv
    have H := Lib.hid hr
    have G := Lib.hid hg
    clear hv hr hg
    by_cases hlt : k < n
    · have HS := Lib.hid (oD_succ s1 k)
      have y1 : (k : Int) < (n : Int) := by omega
      have y0 : (0 : Int) ≤ (k : Int) := by omega
      have hlen := oD_length s1 k
      have HLN := Lib.hid hlen
      clear hlen
      go_wp2_with fail
      refine (wid_c _ g _ H.out).mono ?_
      rintro e w2 ⟨rfl, h2, g2⟩
      obtain ⟨p, hp⟩ : ∃ p, (oN (oD s1 k).2).1 = p := ⟨_, rfl⟩
      obtain ⟨q, hq⟩ : ∃ q, (oN (oN (oD s1 k).2).2).1 = q := ⟨_, rfl⟩
      rw [hp, hq] at HS ⊢
      have V2 := Lib.hid ((V.out.kept g2 (fun j hj e => by cases hj; have := (V.out.lt g e).1; have := HLT.out; omega)).alloc (.cells #[.int .i64 p, .int .i64 q] 32))
      have X2 := Lib.hid (Bx.new w2 32 #[.int .i64 p, .int .i64 q] _ rfl)
      have H2 := Lib.hid (h2.after ((Below.refl _ _).alloc (Nat.le_refl _) (.cells #[.int .i64 p, .int .i64 q] 32)))
      have G2 := Lib.hid ((G.out.trans g2).trans (grown_of_below ((Below.refl w2.heap.size w2).alloc (Nat.le_refl _) (.cells #[.int .i64 p, .int .i64 q] 32)) (some g)))
      clear h2 g2 V H G hp hq
      go_wp2_with (at_builtin; refine wp_append_id rfl (.tmp 18) (.tmp 21) rfl w.heap.size (.slice a' n' c') (oD s1 k).1 [⟨p, q⟩] rfl V2.out w2.heap.size 0 1 rfl (fun j hj => ii_one (x := ⟨p, q⟩) ⟨X2.out.cell 0 _ rfl, X2.out.cell 1 _ rfl⟩ j hj) (by rw [HLN.out]; simp; omega) G2.out.size ?_; intro v' w3 r3 g3)
      obtain ⟨a3, c3, rfl⟩ := r3.form
      have V3 := Lib.hid r3
      have H3 := Lib.hid (H2.out.keep g3 (fun e => by have := (V2.out.lt g e.symm).1; have := HLT.out; omega))
      have G3 := Lib.hid (grown_then G2.out g3 (fun j hj => (V2.out.lt j hj).1))
      clear r3 g3 V2 X2 H2 G2
      go_wp2
      go_roundw
      case rel => exact ⟨k + 1, _, _, _, by omega, by go_num, rfl, by rw [HS.out]; exact V3.out, by rw [HS.out]; exact H3.out, G3.out⟩
      case measure => simp only [intOf]; omega
    · obtain rfl : k = n := by omega
      go_wp2
      go_ret
      rw [HI.out]
      exact ⟨⟨_, rfl, V.out⟩, H.out, G.out⟩
end Go.Proofs.YtkeoeempdkpafaaDoor
/- A message is read: the program. -/
namespace Go.Proofs.YtkeoeempdkpafaaDoor
open Go.RowKit Go.PlainAid
set_option linter.unusedVariables false

theorem results_emsg2 {fn : Func} {p u : Tmp} (h : fn.results = #[.cell p 36, .tmp u]) (tmps : Array Value) (w : World) (g : Nat) (cs : Array Value) (y : Value)
    (hp : tmps.getD p undef = .pointer (some ⟨g, 0, none⟩)) (hu : tmps.getD u undef = y) (hc : Bx w g 36 cs) (hz : cs.size = 19) : (results fn tmps).run Tryd.prog w = .ok (.tuple #[.agg cs, y]) w := by
  rw [results_cell_tmp h, hp, asAddr_ptr]
  simp only [Result.andThen]
  rw [run_loadVar_row w g 36 36 cs (0, 0) _ hc Tryd.underlying36 rfl (by rw [Tryd.sizeEMsg, hz]), hu]
theorem zeroC_ok : okB zeroC = true := by unfold okB; simp
theorem readC_ok (t : ByteArray) : okB (readC t) = true := by
  unfold readC
  split
  · rename_i h
    unfold goodB at h
    rw [Bool.and_eq_true] at h
    exact h.2
  · exact zeroC_ok
theorem readC_fit (t : ByteArray) : ((readC t).set.size ≤ 9223372036854775807 ∧ (readC t).name.size ≤ 9223372036854775807 ∧ (readC t).tag.size ≤ 9223372036854775807) ∧ (readC t).ch.length ≤ 4 ∧ ∀ j, j < (readC t).ch.length → (el (readC t).ch j).size ≤ 9223372036854775807 := by
  obtain ⟨_, _, _, _, h5, h6, h7, h8, h9⟩ := okB_fit (readC t) (readC_ok t)
  exact ⟨⟨by omega, by omega, by omega⟩, h8, fun j hj => by rw [h9 j hj]; decide⟩
theorem allM_of {s r : ByteArray} (h : (k13 s).2 = some r) : allM s = decide (r.size = 0) := by unfold allM; rw [h]
theorem allM_no {s : ByteArray} (h : (k13 s).2 = none) : allM s = false := by unfold allM; rw [h]
theorem okA_zero : okA #[.int .i64 0, .int .i64 0, .int .i64 0, .int .i64 0, .int .i64 0, .int .i64 0, .int .i64 0, .int .i64 0, .int .i64 0, .string ⟨#[]⟩, .string ⟨#[]⟩, .string ⟨#[]⟩, .int .i64 0, .slice none 0 0, .int .i64 0, .slice none 0 0, .int .i64 0, .int .i64 0, .bool false] := ⟨rfl, by simp [Value.oneCell']⟩
theorem nonempty_r {r : ByteArray} (h : r.size ≠ 0) : r.toList.isEmpty = false := by
  cases e : r.toList.isEmpty
  · rfl
  · exfalso
    apply h
    have : r = ⟨#[]⟩ := str_eq (by rw [List.isEmpty_iff.1 e, Lib.toList_data])
    rw [this]; rfl
theorem iD_length (st : Option ByteArray) : (iD st).1.length ≤ 17 := by
  unfold iD
  split
  · exact Nat.zero_le _
  · rw [oD_length]; have := oN_nonneg st; omega
attribute [local go_sem] blkO_eq aggO_eq okA_zero okA_mk
attribute [local go_sem ↓] load_emsg_pre store_emsg_pre
set_option maxRecDepth 100000 in
set_option maxHeartbeats 8000000 in
theorem impl_readE (s : ByteArray) (a : Addr) (w : World) (hS : Sent w a) (hs : s.size ≤ 1048576) :
    Calls Tryd.prog 13 #[.string s] w fun e w' => (∃ au nu cu ad nd cd, e = .returned (.tuple #[.agg #[.int .i64 (readM s).kind, .int .i64 (readM s).frm, .int .i64 (readM s).dst, .int .i64 (readM s).i.rep, .int .i64 (readM s).i.slot, .int .i64 (readM s).i.bal, .int .i64 (readM s).i.cmd.kind, .int .i64 (readM s).i.cmd.client, .int .i64 (readM s).i.cmd.no, .string (readM s).i.cmd.set, .string (readM s).i.cmd.name, .string (readM s).i.cmd.tag, .int .i64 (readM s).i.cmd.n, .slice au nu cu, .int .i64 (readM s).i.seq, .slice ad nd cd, .int .i64 (readM s).i.st, .int .i64 (readM s).i.vbal, .bool (readM s).i.same], .bool (goodM s)]) ∧ PtO w' w.heap.size w'.heap.size (readM s).i (.slice au nu cu) (.slice ad nd cd)) ∧ Below w.heap.size w w' := by
  have HS := Lib.hid hS
  have X := Lib.hid (((Bx.new w 36 #[.int .i64 0, .int .i64 0, .int .i64 0, .int .i64 0, .int .i64 0, .int .i64 0, .int .i64 0, .int .i64 0, .int .i64 0, .string ⟨#[]⟩, .string ⟨#[]⟩, .string ⟨#[]⟩, .int .i64 0, .slice none 0 0, .int .i64 0, .slice none 0 0, .int .i64 0, .int .i64 0, .bool false] _ rfl).alloc (.cells #[.string s, .bool false] 97)).alloc (.cells #[.int .i64 0, .int .i64 0, .int .i64 0, .int .i64 0, .int .i64 0, .int .i64 0, .int .i64 0, .int .i64 0, .int .i64 0, .string ⟨#[]⟩, .string ⟨#[]⟩, .string ⟨#[]⟩, .int .i64 0, .slice none 0 0, .int .i64 0, .slice none 0 0, .int .i64 0, .int .i64 0, .bool false] 36))
  have R := Lib.hid (show RdrO ((((w.alloc (.cells #[.int .i64 0, .int .i64 0, .int .i64 0, .int .i64 0, .int .i64 0, .int .i64 0, .int .i64 0, .int .i64 0, .int .i64 0, .string ⟨#[]⟩, .string ⟨#[]⟩, .string ⟨#[]⟩, .int .i64 0, .slice none 0 0, .int .i64 0, .slice none 0 0, .int .i64 0, .int .i64 0, .bool false] 36)).alloc (.cells #[.string s, .bool false] 97))).alloc (.cells #[.int .i64 0, .int .i64 0, .int .i64 0, .int .i64 0, .int .i64 0, .int .i64 0, .int .i64 0, .int .i64 0, .int .i64 0, .string ⟨#[]⟩, .string ⟨#[]⟩, .string ⟨#[]⟩, .int .i64 0, .slice none 0 0, .int .i64 0, .slice none 0 0, .int .i64 0, .int .i64 0, .bool false] 36)) (w.heap.size + 1) (some s) from RdrO.after (st := some s) (show RdrO ((w.alloc (.cells #[.int .i64 0, .int .i64 0, .int .i64 0, .int .i64 0, .int .i64 0, .int .i64 0, .int .i64 0, .int .i64 0, .int .i64 0, .string ⟨#[]⟩, .string ⟨#[]⟩, .string ⟨#[]⟩, .int .i64 0, .slice none 0 0, .int .i64 0, .slice none 0 0, .int .i64 0, .int .i64 0, .bool false] 36)).alloc (.cells #[.string s, .bool false] 97)) (w.heap.size + 1) (some s) from ⟨⟨_, Bx.new (w.alloc (.cells #[.int .i64 0, .int .i64 0, .int .i64 0, .int .i64 0, .int .i64 0, .int .i64 0, .int .i64 0, .int .i64 0, .int .i64 0, .string ⟨#[]⟩, .string ⟨#[]⟩, .string ⟨#[]⟩, .int .i64 0, .slice none 0 0, .int .i64 0, .slice none 0 0, .int .i64 0, .int .i64 0, .bool false] 36)) 97 #[.string s, .bool false] (w.heap.size + 1) (by simp)⟩, hs⟩) ((Below.refl _ _).alloc (Nat.le_refl _) (.cells #[.int .i64 0, .int .i64 0, .int .i64 0, .int .i64 0, .int .i64 0, .int .i64 0, .int .i64 0, .int .i64 0, .int .i64 0, .string ⟨#[]⟩, .string ⟨#[]⟩, .string ⟨#[]⟩, .int .i64 0, .slice none 0 0, .int .i64 0, .slice none 0 0, .int .i64 0, .int .i64 0, .bool false] 36)))
  have M := Lib.hid (Bx.new ((w.alloc (.cells #[.int .i64 0, .int .i64 0, .int .i64 0, .int .i64 0, .int .i64 0, .int .i64 0, .int .i64 0, .int .i64 0, .int .i64 0, .string ⟨#[]⟩, .string ⟨#[]⟩, .string ⟨#[]⟩, .int .i64 0, .slice none 0 0, .int .i64 0, .slice none 0 0, .int .i64 0, .int .i64 0, .bool false] 36)).alloc (.cells #[.string s, .bool false] 97)) 36 #[.int .i64 0, .int .i64 0, .int .i64 0, .int .i64 0, .int .i64 0, .int .i64 0, .int .i64 0, .int .i64 0, .int .i64 0, .string ⟨#[]⟩, .string ⟨#[]⟩, .string ⟨#[]⟩, .int .i64 0, .slice none 0 0, .int .i64 0, .slice none 0 0, .int .i64 0, .int .i64 0, .bool false] (w.heap.size + 1 + 1) (by simp))
  have A := Lib.hid ((((Af.refl w).alloc (.cells #[.int .i64 0, .int .i64 0, .int .i64 0, .int .i64 0, .int .i64 0, .int .i64 0, .int .i64 0, .int .i64 0, .int .i64 0, .string ⟨#[]⟩, .string ⟨#[]⟩, .string ⟨#[]⟩, .int .i64 0, .slice none 0 0, .int .i64 0, .slice none 0 0, .int .i64 0, .int .i64 0, .bool false] 36)).alloc (.cells #[.string s, .bool false] 97)).alloc (.cells #[.int .i64 0, .int .i64 0, .int .i64 0, .int .i64 0, .int .i64 0, .int .i64 0, .int .i64 0, .int .i64 0, .int .i64 0, .string ⟨#[]⟩, .string ⟨#[]⟩, .string ⟨#[]⟩, .int .i64 0, .slice none 0 0, .int .i64 0, .slice none 0 0, .int .i64 0, .int .i64 0, .bool false] 36))
  clear hS
  go_enter Tryd.func13, Tryd.ntmps13
  go_wp2_with fail
  refine (number_c _ (w.heap.size + 1) (some s) R.out).mono ?_
  rintro e w1 ⟨rfl, h2, g2⟩
  have h3 : RdrO w1 (w.heap.size + 1) (k1 s).2 := h2
  clear h2
  have h2 := h3
  clear h3
  have nX := Lib.hid (X.out.keep g2 (by simp <;> omega))
  have nR := Lib.hid (h2)
  have nM := Lib.hid (M.out.keep g2 (by simp <;> omega))
  have nA := Lib.hid (A.out.grow g2 (fun k hk => by cases hk; omega))
  clear X R M A
  have X := nX
  have R := nR
  have M := nM
  have A := nA
  clear nX nR nM nA
  clear h2 g2
  go_wp2_with fail
  refine (number_c _ (w.heap.size + 1) ((k1 s).2) R.out).mono ?_
  rintro e w2 ⟨rfl, h2, g2⟩
  have h3 : RdrO w2 (w.heap.size + 1) (k2 s).2 := h2
  clear h2
  have h2 := h3
  clear h3
  have nX := Lib.hid (X.out.keep g2 (by simp <;> omega))
  have nR := Lib.hid (h2)
  have nM := Lib.hid (M.out.keep g2 (by simp <;> omega))
  have nA := Lib.hid (A.out.grow g2 (fun k hk => by cases hk; omega))
  clear X R M A
  have X := nX
  have R := nR
  have M := nM
  have A := nA
  clear nX nR nM nA
  clear h2 g2
  go_wp2_with fail
  refine (number_c _ (w.heap.size + 1) ((k2 s).2) R.out).mono ?_
  rintro e w3 ⟨rfl, h2, g2⟩
  have h3 : RdrO w3 (w.heap.size + 1) (k3 s).2 := h2
  clear h2
  have h2 := h3
  clear h3
  have nX := Lib.hid (X.out.keep g2 (by simp <;> omega))
  have nR := Lib.hid (h2)
  have nM := Lib.hid (M.out.keep g2 (by simp <;> omega))
  have nA := Lib.hid (A.out.grow g2 (fun k hk => by cases hk; omega))
  clear X R M A
  have X := nX
  have R := nR
  have M := nM
  have A := nA
  clear nX nR nM nA
  clear h2 g2
  have f0 := M.out.frozen 0
  have x0 := M.out.cell 0 _ rfl
  have f1 := M.out.frozen 1
  have x1 := M.out.cell 1 _ rfl
  have f2 := M.out.frozen 2
  have x2 := M.out.cell 2 _ rfl
  have lm := M.out.lt
  go_wp2_with fail
  clear lm f0 x0 f1 x1 f2 x2
  have g2 := setL_grown (w.heap.size + 1 + 1) [.int .i64 (k1 s).1, .int .i64 (k2 s).1, .int .i64 (k3 s).1] w3 0
  have m2 : Bx (setL w3 (w.heap.size + 1 + 1) 0 [.int .i64 (k1 s).1, .int .i64 (k2 s).1, .int .i64 (k3 s).1]) (w.heap.size + 1 + 1) 36 #[.int .i64 (k1 s).1, .int .i64 (k2 s).1, .int .i64 (k3 s).1, .int .i64 0, .int .i64 0, .int .i64 0, .int .i64 0, .int .i64 0, .int .i64 0, .string ⟨#[]⟩, .string ⟨#[]⟩, .string ⟨#[]⟩, .int .i64 0, .slice none 0 0, .int .i64 0, .slice none 0 0, .int .i64 0, .int .i64 0, .bool false] := by have h9 := setL_heap [.int .i64 (k1 s).1, .int .i64 (k2 s).1, .int .i64 (k3 s).1] w3 _ 0 M.out; rw [updL_eq [.int .i64 (k1 s).1, .int .i64 (k2 s).1, .int .i64 (k3 s).1] #[.int .i64 0, .int .i64 0, .int .i64 0, .int .i64 0, .int .i64 0, .int .i64 0, .int .i64 0, .int .i64 0, .int .i64 0, .string ⟨#[]⟩, .string ⟨#[]⟩, .string ⟨#[]⟩, .int .i64 0, .slice none 0 0, .int .i64 0, .slice none 0 0, .int .i64 0, .int .i64 0, .bool false] 0 (show 0 + 3 ≤ 19 by omega)] at h9; exact h9
  have nX := Lib.hid (X.out.keep g2 (by simp <;> omega))
  have nR := Lib.hid (R.out.other g2 (by omega))
  have nM := Lib.hid (m2)
  have nA := Lib.hid (A.out.grow g2 (fun k hk => by cases hk; omega))
  clear X R M A
  have X := nX
  have R := nR
  have M := nM
  have A := nA
  clear nX nR nM nA
  clear g2 m2
  refine wp_worldC (W := (setL w3 (w.heap.size + 1 + 1) 0 [.int .i64 (k1 s).1, .int .i64 (k2 s).1, .int .i64 (k3 s).1])) rfl ?_
  refine (wid_c _ (w.heap.size + 1) (k3 s).2 R.out).mono ?_
  rintro e w4 ⟨rfl, h2, g2⟩
  have h3 : RdrO w4 (w.heap.size + 1) (k5 s).2 := h2
  clear h2
  have h2 := h3
  clear h3
  have nX := Lib.hid (X.out.keep g2 (by simp <;> omega))
  have nR := Lib.hid (h2)
  have nM := Lib.hid (M.out.keep g2 (by simp <;> omega))
  have nA := Lib.hid (A.out.grow g2 (fun k hk => by cases hk; omega))
  clear X R M A
  have X := nX
  have R := nR
  have M := nM
  have A := nA
  clear nX nR nM nA
  clear h2 g2
  have f3 := M.out.frozen 3
  have x3 := M.out.cell 3 _ rfl
  have f4 := M.out.frozen 4
  have x4 := M.out.cell 4 _ rfl
  have lm := M.out.lt
  go_wp2_with fail
  clear lm f3 x3 f4 x4
  have g2 := setL_grown (w.heap.size + 1 + 1) [.int .i64 (k4 s).1, .int .i64 (k5 s).1] w4 3
  have m2 : Bx (setL w4 (w.heap.size + 1 + 1) 3 [.int .i64 (k4 s).1, .int .i64 (k5 s).1]) (w.heap.size + 1 + 1) 36 #[.int .i64 (k1 s).1, .int .i64 (k2 s).1, .int .i64 (k3 s).1, .int .i64 (k4 s).1, .int .i64 (k5 s).1, .int .i64 0, .int .i64 0, .int .i64 0, .int .i64 0, .string ⟨#[]⟩, .string ⟨#[]⟩, .string ⟨#[]⟩, .int .i64 0, .slice none 0 0, .int .i64 0, .slice none 0 0, .int .i64 0, .int .i64 0, .bool false] := by have h9 := setL_heap [.int .i64 (k4 s).1, .int .i64 (k5 s).1] w4 _ 3 M.out; rw [updL_eq [.int .i64 (k4 s).1, .int .i64 (k5 s).1] #[.int .i64 (k1 s).1, .int .i64 (k2 s).1, .int .i64 (k3 s).1, .int .i64 0, .int .i64 0, .int .i64 0, .int .i64 0, .int .i64 0, .int .i64 0, .string ⟨#[]⟩, .string ⟨#[]⟩, .string ⟨#[]⟩, .int .i64 0, .slice none 0 0, .int .i64 0, .slice none 0 0, .int .i64 0, .int .i64 0, .bool false] 3 (show 3 + 2 ≤ 19 by omega)] at h9; exact h9
  have nX := Lib.hid (X.out.keep g2 (by simp <;> omega))
  have nR := Lib.hid (R.out.other g2 (by omega))
  have nM := Lib.hid (m2)
  have nA := Lib.hid (A.out.grow g2 (fun k hk => by cases hk; omega))
  clear X R M A
  have X := nX
  have R := nR
  have M := nM
  have A := nA
  clear nX nR nM nA
  clear g2 m2
  refine wp_worldC (W := (setL w4 (w.heap.size + 1 + 1) 3 [.int .i64 (k4 s).1, .int .i64 (k5 s).1])) rfl ?_
  refine (number_c _ (w.heap.size + 1) ((k5 s).2) R.out).mono ?_
  rintro e w5 ⟨rfl, h2, g2⟩
  have h3 : RdrO w5 (w.heap.size + 1) (k6 s).2 := h2
  clear h2
  have h2 := h3
  clear h3
  have nX := Lib.hid (X.out.keep g2 (by simp <;> omega))
  have nR := Lib.hid (h2)
  have nM := Lib.hid (M.out.keep g2 (by simp <;> omega))
  have nA := Lib.hid (A.out.grow g2 (fun k hk => by cases hk; omega))
  clear X R M A
  have X := nX
  have R := nR
  have M := nM
  have A := nA
  clear nX nR nM nA
  clear h2 g2
  go_wp2_with fail
  refine (number_c _ (w.heap.size + 1) ((k6 s).2) R.out).mono ?_
  rintro e w6 ⟨rfl, h2, g2⟩
  have h3 : RdrO w6 (w.heap.size + 1) (k7 s).2 := h2
  clear h2
  have h2 := h3
  clear h3
  have nX := Lib.hid (X.out.keep g2 (by simp <;> omega))
  have nR := Lib.hid (h2)
  have nM := Lib.hid (M.out.keep g2 (by simp <;> omega))
  have nA := Lib.hid (A.out.grow g2 (fun k hk => by cases hk; omega))
  clear X R M A
  have X := nX
  have R := nR
  have M := nM
  have A := nA
  clear nX nR nM nA
  clear h2 g2
  have f5 := M.out.frozen 5
  have x5 := M.out.cell 5 _ rfl
  have f16 := M.out.frozen 16
  have x16 := M.out.cell 16 _ rfl
  have lm := M.out.lt
  go_wp2_with fail
  clear lm f5 x5 f16 x16
  have g2 := setL_grown (w.heap.size + 1 + 1) [.int .i64 (k6 s).1] w6 5
  have m2 : Bx (setL w6 (w.heap.size + 1 + 1) 5 [.int .i64 (k6 s).1]) (w.heap.size + 1 + 1) 36 #[.int .i64 (k1 s).1, .int .i64 (k2 s).1, .int .i64 (k3 s).1, .int .i64 (k4 s).1, .int .i64 (k5 s).1, .int .i64 (k6 s).1, .int .i64 0, .int .i64 0, .int .i64 0, .string ⟨#[]⟩, .string ⟨#[]⟩, .string ⟨#[]⟩, .int .i64 0, .slice none 0 0, .int .i64 0, .slice none 0 0, .int .i64 0, .int .i64 0, .bool false] := by have h9 := setL_heap [.int .i64 (k6 s).1] w6 _ 5 M.out; rw [updL_eq [.int .i64 (k6 s).1] #[.int .i64 (k1 s).1, .int .i64 (k2 s).1, .int .i64 (k3 s).1, .int .i64 (k4 s).1, .int .i64 (k5 s).1, .int .i64 0, .int .i64 0, .int .i64 0, .int .i64 0, .string ⟨#[]⟩, .string ⟨#[]⟩, .string ⟨#[]⟩, .int .i64 0, .slice none 0 0, .int .i64 0, .slice none 0 0, .int .i64 0, .int .i64 0, .bool false] 5 (show 5 + 1 ≤ 19 by omega)] at h9; exact h9
  have nX := Lib.hid (X.out.keep g2 (by simp <;> omega))
  have nR := Lib.hid (R.out.other g2 (by omega))
  have nM := Lib.hid (m2)
  have nA := Lib.hid (A.out.grow g2 (fun k hk => by cases hk; omega))
  clear X R M A
  have X := nX
  have R := nR
  have M := nM
  have A := nA
  clear nX nR nM nA
  clear g2 m2
  have g2 := setL_grown (w.heap.size + 1 + 1) [.int .i64 (k7 s).1] (setL w6 (w.heap.size + 1 + 1) 5 [.int .i64 (k6 s).1]) 16
  have m2 : Bx (setL (setL w6 (w.heap.size + 1 + 1) 5 [.int .i64 (k6 s).1]) (w.heap.size + 1 + 1) 16 [.int .i64 (k7 s).1]) (w.heap.size + 1 + 1) 36 #[.int .i64 (k1 s).1, .int .i64 (k2 s).1, .int .i64 (k3 s).1, .int .i64 (k4 s).1, .int .i64 (k5 s).1, .int .i64 (k6 s).1, .int .i64 0, .int .i64 0, .int .i64 0, .string ⟨#[]⟩, .string ⟨#[]⟩, .string ⟨#[]⟩, .int .i64 0, .slice none 0 0, .int .i64 0, .slice none 0 0, .int .i64 (k7 s).1, .int .i64 0, .bool false] := by have h9 := setL_heap [.int .i64 (k7 s).1] (setL w6 (w.heap.size + 1 + 1) 5 [.int .i64 (k6 s).1]) _ 16 M.out; rw [updL_eq [.int .i64 (k7 s).1] #[.int .i64 (k1 s).1, .int .i64 (k2 s).1, .int .i64 (k3 s).1, .int .i64 (k4 s).1, .int .i64 (k5 s).1, .int .i64 (k6 s).1, .int .i64 0, .int .i64 0, .int .i64 0, .string ⟨#[]⟩, .string ⟨#[]⟩, .string ⟨#[]⟩, .int .i64 0, .slice none 0 0, .int .i64 0, .slice none 0 0, .int .i64 0, .int .i64 0, .bool false] 16 (show 16 + 1 ≤ 19 by omega)] at h9; exact h9
  have nX := Lib.hid (X.out.keep g2 (by simp <;> omega))
  have nR := Lib.hid (R.out.other g2 (by omega))
  have nM := Lib.hid (m2)
  have nA := Lib.hid (A.out.grow g2 (fun k hk => by cases hk; omega))
  clear X R M A
  have X := nX
  have R := nR
  have M := nM
  have A := nA
  clear nX nR nM nA
  clear g2 m2
  refine wp_worldC (W := (setL (setL w6 (w.heap.size + 1 + 1) 5 [.int .i64 (k6 s).1]) (w.heap.size + 1 + 1) 16 [.int .i64 (k7 s).1])) rfl ?_
  refine (wballot_c _ (w.heap.size + 1) (k7 s).2 R.out).mono ?_
  rintro e w7 ⟨rfl, h2, g2⟩
  have h3 : RdrO w7 (w.heap.size + 1) (k8 s).2 := h2
  clear h2
  have h2 := h3
  clear h3
  have nX := Lib.hid (X.out.keep g2 (by simp <;> omega))
  have nR := Lib.hid (h2)
  have nM := Lib.hid (M.out.keep g2 (by simp <;> omega))
  have nA := Lib.hid (A.out.grow g2 (fun k hk => by cases hk; omega))
  clear X R M A
  have X := nX
  have R := nR
  have M := nM
  have A := nA
  clear nX nR nM nA
  clear h2 g2
  have f17 := M.out.frozen 17
  have x17 := M.out.cell 17 _ rfl
  have lm := M.out.lt
  go_wp2_with fail
  clear lm f17 x17
  have g2 := setL_grown (w.heap.size + 1 + 1) [.int .i64 ((k8 s).1 - 1)] w7 17
  have m2 : Bx (setL w7 (w.heap.size + 1 + 1) 17 [.int .i64 ((k8 s).1 - 1)]) (w.heap.size + 1 + 1) 36 #[.int .i64 (k1 s).1, .int .i64 (k2 s).1, .int .i64 (k3 s).1, .int .i64 (k4 s).1, .int .i64 (k5 s).1, .int .i64 (k6 s).1, .int .i64 0, .int .i64 0, .int .i64 0, .string ⟨#[]⟩, .string ⟨#[]⟩, .string ⟨#[]⟩, .int .i64 0, .slice none 0 0, .int .i64 0, .slice none 0 0, .int .i64 (k7 s).1, .int .i64 ((k8 s).1 - 1), .bool false] := by have h9 := setL_heap [.int .i64 ((k8 s).1 - 1)] w7 _ 17 M.out; rw [updL_eq [.int .i64 ((k8 s).1 - 1)] #[.int .i64 (k1 s).1, .int .i64 (k2 s).1, .int .i64 (k3 s).1, .int .i64 (k4 s).1, .int .i64 (k5 s).1, .int .i64 (k6 s).1, .int .i64 0, .int .i64 0, .int .i64 0, .string ⟨#[]⟩, .string ⟨#[]⟩, .string ⟨#[]⟩, .int .i64 0, .slice none 0 0, .int .i64 0, .slice none 0 0, .int .i64 (k7 s).1, .int .i64 0, .bool false] 17 (show 17 + 1 ≤ 19 by omega)] at h9; exact h9
  have nX := Lib.hid (X.out.keep g2 (by simp <;> omega))
  have nR := Lib.hid (R.out.other g2 (by omega))
  have nM := Lib.hid (m2)
  have nA := Lib.hid (A.out.grow g2 (fun k hk => by cases hk; omega))
  clear X R M A
  have X := nX
  have R := nR
  have M := nM
  have A := nA
  clear nX nR nM nA
  clear g2 m2
  refine wp_worldC (W := (setL w7 (w.heap.size + 1 + 1) 17 [.int .i64 ((k8 s).1 - 1)])) rfl ?_
  refine (number_c _ (w.heap.size + 1) ((k8 s).2) R.out).mono ?_
  rintro e w8 ⟨rfl, h2, g2⟩
  have h3 : RdrO w8 (w.heap.size + 1) (k9 s).2 := h2
  clear h2
  have h2 := h3
  clear h3
  have nX := Lib.hid (X.out.keep g2 (by simp <;> omega))
  have nR := Lib.hid (h2)
  have nM := Lib.hid (M.out.keep g2 (by simp <;> omega))
  have nA := Lib.hid (A.out.grow g2 (fun k hk => by cases hk; omega))
  clear X R M A
  have X := nX
  have R := nR
  have M := nM
  have A := nA
  clear nX nR nM nA
  clear h2 g2
  have f14 := M.out.frozen 14
  have x14 := M.out.cell 14 _ rfl
  have lm := M.out.lt
  go_wp2_with fail
  clear lm f14 x14
  have g2 := setL_grown (w.heap.size + 1 + 1) [.int .i64 (k9 s).1] w8 14
  have m2 : Bx (setL w8 (w.heap.size + 1 + 1) 14 [.int .i64 (k9 s).1]) (w.heap.size + 1 + 1) 36 #[.int .i64 (k1 s).1, .int .i64 (k2 s).1, .int .i64 (k3 s).1, .int .i64 (k4 s).1, .int .i64 (k5 s).1, .int .i64 (k6 s).1, .int .i64 0, .int .i64 0, .int .i64 0, .string ⟨#[]⟩, .string ⟨#[]⟩, .string ⟨#[]⟩, .int .i64 0, .slice none 0 0, .int .i64 (k9 s).1, .slice none 0 0, .int .i64 (k7 s).1, .int .i64 ((k8 s).1 - 1), .bool false] := by have h9 := setL_heap [.int .i64 (k9 s).1] w8 _ 14 M.out; rw [updL_eq [.int .i64 (k9 s).1] #[.int .i64 (k1 s).1, .int .i64 (k2 s).1, .int .i64 (k3 s).1, .int .i64 (k4 s).1, .int .i64 (k5 s).1, .int .i64 (k6 s).1, .int .i64 0, .int .i64 0, .int .i64 0, .string ⟨#[]⟩, .string ⟨#[]⟩, .string ⟨#[]⟩, .int .i64 0, .slice none 0 0, .int .i64 0, .slice none 0 0, .int .i64 (k7 s).1, .int .i64 ((k8 s).1 - 1), .bool false] 14 (show 14 + 1 ≤ 19 by omega)] at h9; exact h9
  have nX := Lib.hid (X.out.keep g2 (by simp <;> omega))
  have nR := Lib.hid (R.out.other g2 (by omega))
  have nM := Lib.hid (m2)
  have nA := Lib.hid (A.out.grow g2 (fun k hk => by cases hk; omega))
  clear X R M A
  have X := nX
  have R := nR
  have M := nM
  have A := nA
  clear nX nR nM nA
  clear g2 m2
  refine wp_worldC (W := (setL w8 (w.heap.size + 1 + 1) 14 [.int .i64 (k9 s).1])) rfl ?_
  refine (wflag_c _ (w.heap.size + 1) (k9 s).2 R.out).mono ?_
  rintro e w9 ⟨rfl, h2, g2⟩
  have h3 : RdrO w9 (w.heap.size + 1) (f10 s) := h2
  clear h2
  have h2 := h3
  clear h3
  have nX := Lib.hid (X.out.keep g2 (by simp <;> omega))
  have nR := Lib.hid (h2)
  have nM := Lib.hid (M.out.keep g2 (by simp <;> omega))
  have nA := Lib.hid (A.out.grow g2 (fun k hk => by cases hk; omega))
  clear X R M A
  have X := nX
  have R := nR
  have M := nM
  have A := nA
  clear nX nR nM nA
  clear h2 g2
  have f18 := M.out.frozen 18
  have x18 := M.out.cell 18 _ rfl
  have lm := M.out.lt
  go_wp2_with fail
  clear lm f18 x18
  have g2 := setL_grown (w.heap.size + 1 + 1) [.bool (decide ((k10 s).1 = 1))] w9 18
  have m2 : Bx (setL w9 (w.heap.size + 1 + 1) 18 [.bool (decide ((k10 s).1 = 1))]) (w.heap.size + 1 + 1) 36 #[.int .i64 (k1 s).1, .int .i64 (k2 s).1, .int .i64 (k3 s).1, .int .i64 (k4 s).1, .int .i64 (k5 s).1, .int .i64 (k6 s).1, .int .i64 0, .int .i64 0, .int .i64 0, .string ⟨#[]⟩, .string ⟨#[]⟩, .string ⟨#[]⟩, .int .i64 0, .slice none 0 0, .int .i64 (k9 s).1, .slice none 0 0, .int .i64 (k7 s).1, .int .i64 ((k8 s).1 - 1), .bool (decide ((k10 s).1 = 1))] := by have h9 := setL_heap [.bool (decide ((k10 s).1 = 1))] w9 _ 18 M.out; rw [updL_eq [.bool (decide ((k10 s).1 = 1))] #[.int .i64 (k1 s).1, .int .i64 (k2 s).1, .int .i64 (k3 s).1, .int .i64 (k4 s).1, .int .i64 (k5 s).1, .int .i64 (k6 s).1, .int .i64 0, .int .i64 0, .int .i64 0, .string ⟨#[]⟩, .string ⟨#[]⟩, .string ⟨#[]⟩, .int .i64 0, .slice none 0 0, .int .i64 (k9 s).1, .slice none 0 0, .int .i64 (k7 s).1, .int .i64 ((k8 s).1 - 1), .bool false] 18 (show 18 + 1 ≤ 19 by omega)] at h9; exact h9
  have nX := Lib.hid (X.out.keep g2 (by simp <;> omega))
  have nR := Lib.hid (R.out.other g2 (by omega))
  have nM := Lib.hid (m2)
  have nA := Lib.hid (A.out.grow g2 (fun k hk => by cases hk; omega))
  clear X R M A
  have X := nX
  have R := nR
  have M := nM
  have A := nA
  clear nX nR nM nA
  clear g2 m2
  refine wp_worldC (W := (setL w9 (w.heap.size + 1 + 1) 18 [.bool (decide ((k10 s).1 = 1))])) rfl ?_
  refine (wcmd_c _ w (w.heap.size + 1) (f10 s) a R.out HS.out A.out (by omega)).mono ?_
  rintro e w10 ⟨⟨au, nu, cu, rfl, hv⟩, h2, g2⟩
  have h3 : RdrO w10 (w.heap.size + 1) (f11 s) := h2
  clear h2
  have h2 := h3
  clear h3
  have U := Lib.hid (show GrowsS w10 (w.heap.size + 1 + 1 + 1) (.slice au nu cu) (readC (k11 s).1).ch from hv.mono (by have := M.out.lt; omega))
  clear hv
  have nX := Lib.hid (X.out.keep g2 (by simp <;> omega))
  have nR := Lib.hid (h2)
  have nM := Lib.hid (M.out.keep g2 (by simp <;> omega))
  have nA := Lib.hid (A.out.grow g2 (fun k hk => by cases hk; omega))
  clear X R M A
  have X := nX
  have R := nR
  have M := nM
  have A := nA
  clear nX nR nM nA
  clear h2 g2
  have f6 := M.out.frozen 6
  have x6 := M.out.cell 6 _ rfl
  have f7 := M.out.frozen 7
  have x7 := M.out.cell 7 _ rfl
  have f8 := M.out.frozen 8
  have x8 := M.out.cell 8 _ rfl
  have f9 := M.out.frozen 9
  have x9 := M.out.cell 9 _ rfl
  have f10 := M.out.frozen 10
  have x10 := M.out.cell 10 _ rfl
  have f11 := M.out.frozen 11
  have x11 := M.out.cell 11 _ rfl
  have f12 := M.out.frozen 12
  have x12 := M.out.cell 12 _ rfl
  have f13 := M.out.frozen 13
  have x13 := M.out.cell 13 _ rfl
  have lm := M.out.lt
  go_wp2_with fail
  clear lm f6 x6 f7 x7 f8 x8 f9 x9 f10 x10 f11 x11 f12 x12 f13 x13
  have g2 := setL_grown (w.heap.size + 1 + 1) [.int .i64 (readC (k11 s).1).kind, .int .i64 (readC (k11 s).1).client, .int .i64 (readC (k11 s).1).no, .string (readC (k11 s).1).set, .string (readC (k11 s).1).name, .string (readC (k11 s).1).tag, .int .i64 (readC (k11 s).1).n, .slice au nu cu] w10 6
  have m2 : Bx (setL w10 (w.heap.size + 1 + 1) 6 [.int .i64 (readC (k11 s).1).kind, .int .i64 (readC (k11 s).1).client, .int .i64 (readC (k11 s).1).no, .string (readC (k11 s).1).set, .string (readC (k11 s).1).name, .string (readC (k11 s).1).tag, .int .i64 (readC (k11 s).1).n, .slice au nu cu]) (w.heap.size + 1 + 1) 36 #[.int .i64 (k1 s).1, .int .i64 (k2 s).1, .int .i64 (k3 s).1, .int .i64 (k4 s).1, .int .i64 (k5 s).1, .int .i64 (k6 s).1, .int .i64 (readC (k11 s).1).kind, .int .i64 (readC (k11 s).1).client, .int .i64 (readC (k11 s).1).no, .string (readC (k11 s).1).set, .string (readC (k11 s).1).name, .string (readC (k11 s).1).tag, .int .i64 (readC (k11 s).1).n, .slice au nu cu, .int .i64 (k9 s).1, .slice none 0 0, .int .i64 (k7 s).1, .int .i64 ((k8 s).1 - 1), .bool (decide ((k10 s).1 = 1))] := by have h9 := setL_heap [.int .i64 (readC (k11 s).1).kind, .int .i64 (readC (k11 s).1).client, .int .i64 (readC (k11 s).1).no, .string (readC (k11 s).1).set, .string (readC (k11 s).1).name, .string (readC (k11 s).1).tag, .int .i64 (readC (k11 s).1).n, .slice au nu cu] w10 _ 6 M.out; rw [updL_eq [.int .i64 (readC (k11 s).1).kind, .int .i64 (readC (k11 s).1).client, .int .i64 (readC (k11 s).1).no, .string (readC (k11 s).1).set, .string (readC (k11 s).1).name, .string (readC (k11 s).1).tag, .int .i64 (readC (k11 s).1).n, .slice au nu cu] #[.int .i64 (k1 s).1, .int .i64 (k2 s).1, .int .i64 (k3 s).1, .int .i64 (k4 s).1, .int .i64 (k5 s).1, .int .i64 (k6 s).1, .int .i64 0, .int .i64 0, .int .i64 0, .string ⟨#[]⟩, .string ⟨#[]⟩, .string ⟨#[]⟩, .int .i64 0, .slice none 0 0, .int .i64 (k9 s).1, .slice none 0 0, .int .i64 (k7 s).1, .int .i64 ((k8 s).1 - 1), .bool (decide ((k10 s).1 = 1))] 6 (show 6 + 8 ≤ 19 by omega)] at h9; exact h9
  have nX := Lib.hid (X.out.keep g2 (by simp <;> omega))
  have nR := Lib.hid (R.out.other g2 (by omega))
  have nM := Lib.hid (m2)
  have nA := Lib.hid (A.out.grow g2 (fun k hk => by cases hk; omega))
  have nU := Lib.hid (U.out.kept g2 (by omega))
  clear X R M A U
  have X := nX
  have R := nR
  have M := nM
  have A := nA
  have U := nU
  clear nX nR nM nA nU
  clear g2 m2
  refine wp_worldC (W := (setL w10 (w.heap.size + 1 + 1) 6 [.int .i64 (readC (k11 s).1).kind, .int .i64 (readC (k11 s).1).client, .int .i64 (readC (k11 s).1).no, .string (readC (k11 s).1).set, .string (readC (k11 s).1).name, .string (readC (k11 s).1).tag, .int .i64 (readC (k11 s).1).n, .slice au nu cu])) rfl ?_
  refine (wids_c _ (w.heap.size + 1) (f11 s) R.out).mono ?_
  rintro e w11 ⟨⟨v, rfl, hv⟩, h2, g2⟩
  have h3 : RdrO w11 (w.heap.size + 1) (k13 s).2 := h2
  clear h2
  have h2 := h3
  clear h3
  obtain ⟨ad, cd, rfl⟩ := hv.form
  obtain ⟨nd, hnd⟩ : ∃ nd, (iD (f11 s)).1.length = nd := ⟨_, rfl⟩
  rw [hnd] at hv ⊢
  have D := Lib.hid (show IdRow w11 (w.heap.size + 1 + 1 + 1) (.slice ad nd cd) (k13 s).1 from hv.mono (by have := M.out.lt; omega))
  clear hv hnd
  have nX := Lib.hid (X.out.keep g2 (by simp <;> omega))
  have nR := Lib.hid (h2)
  have nM := Lib.hid (M.out.keep g2 (by simp <;> omega))
  have nA := Lib.hid (A.out.grow g2 (fun k hk => by cases hk; omega))
  have nU := Lib.hid (U.out.kept g2 (by omega))
  clear X R M A U
  have X := nX
  have R := nR
  have M := nM
  have A := nA
  have U := nU
  clear nX nR nM nA nU
  clear h2 g2
  have f15 := M.out.frozen 15
  have x15 := M.out.cell 15 _ rfl
  have lm := M.out.lt
  have g2 := setL_grown (w.heap.size + 1 + 1) [.slice ad nd cd] w11 15
  have m2 : Bx (w11.setCell ⟨(w.heap.size + 1 + 1), 15, none⟩ (.slice ad nd cd)) (w.heap.size + 1 + 1) 36 #[.int .i64 (rawM s).kind, .int .i64 (rawM s).frm, .int .i64 (rawM s).dst, .int .i64 (rawM s).i.rep, .int .i64 (rawM s).i.slot, .int .i64 (rawM s).i.bal, .int .i64 (rawM s).i.cmd.kind, .int .i64 (rawM s).i.cmd.client, .int .i64 (rawM s).i.cmd.no, .string (rawM s).i.cmd.set, .string (rawM s).i.cmd.name, .string (rawM s).i.cmd.tag, .int .i64 (rawM s).i.cmd.n, .slice au nu cu, .int .i64 (rawM s).i.seq, .slice ad nd cd, .int .i64 (rawM s).i.st, .int .i64 (rawM s).i.vbal, .bool (rawM s).i.same] := by have h9 := setL_heap [.slice ad nd cd] w11 _ 15 M.out; rw [updL_eq [.slice ad nd cd] #[.int .i64 (k1 s).1, .int .i64 (k2 s).1, .int .i64 (k3 s).1, .int .i64 (k4 s).1, .int .i64 (k5 s).1, .int .i64 (k6 s).1, .int .i64 (readC (k11 s).1).kind, .int .i64 (readC (k11 s).1).client, .int .i64 (readC (k11 s).1).no, .string (readC (k11 s).1).set, .string (readC (k11 s).1).name, .string (readC (k11 s).1).tag, .int .i64 (readC (k11 s).1).n, .slice au nu cu, .int .i64 (k9 s).1, .slice none 0 0, .int .i64 (k7 s).1, .int .i64 ((k8 s).1 - 1), .bool (decide ((k10 s).1 = 1))] 15 (show 15 + 1 ≤ 19 by omega)] at h9; exact h9
  have nX := Lib.hid (show Bx (w11.setCell ⟨(w.heap.size + 1 + 1), 15, none⟩ (.slice ad nd cd)) w.heap.size 36 #[.int .i64 0, .int .i64 0, .int .i64 0, .int .i64 0, .int .i64 0, .int .i64 0, .int .i64 0, .int .i64 0, .int .i64 0, .string ⟨#[]⟩, .string ⟨#[]⟩, .string ⟨#[]⟩, .int .i64 0, .slice none 0 0, .int .i64 0, .slice none 0 0, .int .i64 0, .int .i64 0, .bool false] from X.out.keep g2 (by simp <;> omega))
  have nR := Lib.hid (show RdrO (w11.setCell ⟨(w.heap.size + 1 + 1), 15, none⟩ (.slice ad nd cd)) (w.heap.size + 1) (k13 s).2 from R.out.other g2 (by omega))
  have nA := Lib.hid (show Af w (w11.setCell ⟨(w.heap.size + 1 + 1), 15, none⟩ (.slice ad nd cd)) from A.out.grow g2 (fun k hk => by cases hk; omega))
  have nU := Lib.hid (show GrowsS (w11.setCell ⟨(w.heap.size + 1 + 1), 15, none⟩ (.slice ad nd cd)) (w.heap.size + 1 + 1 + 1) (.slice au nu cu) (rawM s).i.cmd.ch from U.out.kept g2 (by omega))
  have nD := Lib.hid (show IdRow (w11.setCell ⟨(w.heap.size + 1 + 1), 15, none⟩ (.slice ad nd cd)) (w.heap.size + 1 + 1 + 1) (.slice ad nd cd) (rawM s).i.deps from D.out.kept g2 (fun k hk e9 => by cases hk; have := (D.out.lt _ e9).1; omega))
  have nM := Lib.hid m2
  clear X R M A U D g2 m2
  obtain ⟨rX1, rX2⟩ := nX.out.row rfl
  obtain ⟨rM1, rM2⟩ := nM.out.row rfl
  have hfit := readC_fit (k11 s).1
  have hsz0 : w.heap.size + 1 + 1 + 1 ≤ (w11.setCell ⟨(w.heap.size + 1 + 1), 15, none⟩ (.slice ad nd cd)).heap.size := nM.out.lt
  have HF := Lib.hid hfit
  clear hfit
  cases hq : (k13 s).2 with
  | none =>
    have hr := nR.out
    rw [hq] at hr
    obtain ⟨r, hr, _⟩ := hr
    have c0 := hr.c0
    have c1 := hr.c1
    clear hr rM1 rM2
    have HG := Lib.hid (show goodM s = false by unfold goodM; rw [allM_no hq]; rfl)
    go_wp2
    have g3 := grown_setRow (w11.setCell ⟨(w.heap.size + 1 + 1), 15, none⟩ (.slice ad nd cd)) w.heap.size #[.int .i64 0, .int .i64 0, .int .i64 0, .int .i64 0, .int .i64 0, .int .i64 0, .int .i64 0, .int .i64 0, .int .i64 0, .string ⟨#[]⟩, .string ⟨#[]⟩, .string ⟨#[]⟩, .int .i64 0, .slice none 0 0, .int .i64 0, .slice none 0 0, .int .i64 0, .int .i64 0, .bool false]
    refine bodyPost_ret (results_emsg2 Tryd.results13 _ _ w.heap.size #[.int .i64 0, .int .i64 0, .int .i64 0, .int .i64 0, .int .i64 0, .int .i64 0, .int .i64 0, .int .i64 0, .int .i64 0, .string ⟨#[]⟩, .string ⟨#[]⟩, .string ⟨#[]⟩, .int .i64 0, .slice none 0 0, .int .i64 0, .slice none 0 0, .int .i64 0, .int .i64 0, .bool false] _ rfl rfl (setRow_heap _ _ _ _ _ _ nX.out) rfl) rfl ⟨⟨none, 0, 0, none, 0, 0, by rw [readM_no HG.out, HG.out]; rfl, ?_⟩, nA.out.grow g3 (fun k hk => by cases hk; exact Nat.le_refl _)⟩
    rw [readM_no HG.out]
    exact ⟨⟨growsS_nil _ _, fun j hj => (by simp at hj)⟩, (idRow_nil _ _).own, fun k hk => (by cases hk), fun k hk => (by cases hk), by simp [Fit]⟩
  | some r =>
    have hr := nR.out
    rw [hq] at hr
    obtain ⟨hr, _⟩ := hr
    by_cases hz : r.size = 0
    · have he := ba_empty hz
      subst he
      have c0 := hr.c0
      have c1 := hr.c1
      clear hr hz
      have HAL := Lib.hid (show allM s = true by rw [allM_of hq]; rfl)
      go_wp2_with fail
      refine (impl_emsg (rawM s) _ _ a _ ⟨nU.out.strs HF.out.2.2, nD.out.own.ids, HF.out.1⟩ (HS.out.later nA.out)).mono ?_
      rintro e w12 ⟨rfl, bb⟩
      have mX := Lib.hid (nX.out.after bb)
      have mM := Lib.hid (nM.out.after bb)
      have mA := Lib.hid (nA.out.after bb)
      have mU := Lib.hid (nU.out.later bb)
      have mD := Lib.hid (nD.out.later bb)
      have hsz1 : w.heap.size + 1 + 1 + 1 ≤ w12.heap.size := mM.out.lt
      clear nX nM nA nU nD nR bb rX1 rX2 rM1 rM2 c0 c1
      obtain ⟨rX1, rX2⟩ := mX.out.row rfl
      obtain ⟨rM1, rM2⟩ := mM.out.row rfl
      cases hb : emB (rawM s)
      · have HG := Lib.hid (show goodM s = false by unfold goodM; rw [hb, Bool.and_false])
        clear rM1 rM2 hb
        go_wp2
        have g3 := grown_setRow w12 w.heap.size #[.int .i64 0, .int .i64 0, .int .i64 0, .int .i64 0, .int .i64 0, .int .i64 0, .int .i64 0, .int .i64 0, .int .i64 0, .string ⟨#[]⟩, .string ⟨#[]⟩, .string ⟨#[]⟩, .int .i64 0, .slice none 0 0, .int .i64 0, .slice none 0 0, .int .i64 0, .int .i64 0, .bool false]
        refine bodyPost_ret (results_emsg2 Tryd.results13 _ _ w.heap.size #[.int .i64 0, .int .i64 0, .int .i64 0, .int .i64 0, .int .i64 0, .int .i64 0, .int .i64 0, .int .i64 0, .int .i64 0, .string ⟨#[]⟩, .string ⟨#[]⟩, .string ⟨#[]⟩, .int .i64 0, .slice none 0 0, .int .i64 0, .slice none 0 0, .int .i64 0, .int .i64 0, .bool false] _ rfl rfl (setRow_heap _ _ _ _ _ _ mX.out) rfl) rfl ⟨⟨none, 0, 0, none, 0, 0, by rw [readM_no HG.out, HG.out]; rfl, ?_⟩, mA.out.grow g3 (fun k hk => by cases hk; exact Nat.le_refl _)⟩
        rw [readM_no HG.out]
        exact ⟨⟨growsS_nil _ _, fun j hj => (by simp at hj)⟩, (idRow_nil _ _).own, fun k hk => (by cases hk), fun k hk => (by cases hk), by simp [Fit]⟩
      · have HG := Lib.hid (show goodM s = true by rw [goodM_iff]; exact ⟨HAL.out, hb⟩)
        clear hb
        go_wp2
        have g3 := grown_setRow w12 w.heap.size #[.int .i64 (rawM s).kind, .int .i64 (rawM s).frm, .int .i64 (rawM s).dst, .int .i64 (rawM s).i.rep, .int .i64 (rawM s).i.slot, .int .i64 (rawM s).i.bal, .int .i64 (rawM s).i.cmd.kind, .int .i64 (rawM s).i.cmd.client, .int .i64 (rawM s).i.cmd.no, .string (rawM s).i.cmd.set, .string (rawM s).i.cmd.name, .string (rawM s).i.cmd.tag, .int .i64 (rawM s).i.cmd.n, .slice au nu cu, .int .i64 (rawM s).i.seq, .slice ad nd cd, .int .i64 (rawM s).i.st, .int .i64 (rawM s).i.vbal, .bool (rawM s).i.same]
        have hzz : (w12.setRow w.heap.size #[.int .i64 (rawM s).kind, .int .i64 (rawM s).frm, .int .i64 (rawM s).dst, .int .i64 (rawM s).i.rep, .int .i64 (rawM s).i.slot, .int .i64 (rawM s).i.bal, .int .i64 (rawM s).i.cmd.kind, .int .i64 (rawM s).i.cmd.client, .int .i64 (rawM s).i.cmd.no, .string (rawM s).i.cmd.set, .string (rawM s).i.cmd.name, .string (rawM s).i.cmd.tag, .int .i64 (rawM s).i.cmd.n, .slice au nu cu, .int .i64 (rawM s).i.seq, .slice ad nd cd, .int .i64 (rawM s).i.st, .int .i64 (rawM s).i.vbal, .bool (rawM s).i.same]).heap.size = w12.heap.size := setRow_size _ _ _
        refine bodyPost_ret (results_emsg2 Tryd.results13 _ _ w.heap.size #[.int .i64 (rawM s).kind, .int .i64 (rawM s).frm, .int .i64 (rawM s).dst, .int .i64 (rawM s).i.rep, .int .i64 (rawM s).i.slot, .int .i64 (rawM s).i.bal, .int .i64 (rawM s).i.cmd.kind, .int .i64 (rawM s).i.cmd.client, .int .i64 (rawM s).i.cmd.no, .string (rawM s).i.cmd.set, .string (rawM s).i.cmd.name, .string (rawM s).i.cmd.tag, .int .i64 (rawM s).i.cmd.n, .slice au nu cu, .int .i64 (rawM s).i.seq, .slice ad nd cd, .int .i64 (rawM s).i.st, .int .i64 (rawM s).i.vbal, .bool (rawM s).i.same] _ rfl rfl (setRow_heap _ _ _ _ _ _ mX.out) rfl) rfl ⟨⟨au, nu, cu, ad, nd, cd, by rw [readM_yes HG.out, HG.out]; rfl, ?_⟩, mA.out.grow g3 (fun k hk => by cases hk; exact Nat.le_refl _)⟩
        rw [readM_yes HG.out]
        have hu3 : GrowsS (w12.setRow w.heap.size #[.int .i64 (rawM s).kind, .int .i64 (rawM s).frm, .int .i64 (rawM s).dst, .int .i64 (rawM s).i.rep, .int .i64 (rawM s).i.slot, .int .i64 (rawM s).i.bal, .int .i64 (rawM s).i.cmd.kind, .int .i64 (rawM s).i.cmd.client, .int .i64 (rawM s).i.cmd.no, .string (rawM s).i.cmd.set, .string (rawM s).i.cmd.name, .string (rawM s).i.cmd.tag, .int .i64 (rawM s).i.cmd.n, .slice au nu cu, .int .i64 (rawM s).i.seq, .slice ad nd cd, .int .i64 (rawM s).i.st, .int .i64 (rawM s).i.vbal, .bool (rawM s).i.same]) (w.heap.size + 1 + 1 + 1) (.slice au nu cu) (rawM s).i.cmd.ch := mU.out.kept g3 (by omega)
        have hd3 : IdRow (w12.setRow w.heap.size #[.int .i64 (rawM s).kind, .int .i64 (rawM s).frm, .int .i64 (rawM s).dst, .int .i64 (rawM s).i.rep, .int .i64 (rawM s).i.slot, .int .i64 (rawM s).i.bal, .int .i64 (rawM s).i.cmd.kind, .int .i64 (rawM s).i.cmd.client, .int .i64 (rawM s).i.cmd.no, .string (rawM s).i.cmd.set, .string (rawM s).i.cmd.name, .string (rawM s).i.cmd.tag, .int .i64 (rawM s).i.cmd.n, .slice au nu cu, .int .i64 (rawM s).i.seq, .slice ad nd cd, .int .i64 (rawM s).i.st, .int .i64 (rawM s).i.vbal, .bool (rawM s).i.same]) (w.heap.size + 1 + 1 + 1) (.slice ad nd cd) (rawM s).i.deps := mD.out.kept g3 (fun k hk e9 => by cases hk; have := (mD.out.lt _ e9).1; omega)
        exact ⟨⟨hu3.mono (by omega), HF.out.2.2⟩, hd3.own.mono (by omega), fun k hk => by have h9 := World.ownsRow.lt hu3 k hk; exact ⟨by omega, h9.2⟩, fun k hk => by have h9 := hd3.lt k hk; exact ⟨by omega, h9.2⟩, HF.out.1⟩
    · have hne := nonempty_r hz
      have c0 := hr.c0
      have c1 := hr.c1
      clear hr rM1 rM2
      have HG := Lib.hid (show goodM s = false by unfold goodM; rw [allM_of hq, decide_eq_false hz]; rfl)
      go_wp2
      have g3 := grown_setRow (w11.setCell ⟨(w.heap.size + 1 + 1), 15, none⟩ (.slice ad nd cd)) w.heap.size #[.int .i64 0, .int .i64 0, .int .i64 0, .int .i64 0, .int .i64 0, .int .i64 0, .int .i64 0, .int .i64 0, .int .i64 0, .string ⟨#[]⟩, .string ⟨#[]⟩, .string ⟨#[]⟩, .int .i64 0, .slice none 0 0, .int .i64 0, .slice none 0 0, .int .i64 0, .int .i64 0, .bool false]
      refine bodyPost_ret (results_emsg2 Tryd.results13 _ _ w.heap.size #[.int .i64 0, .int .i64 0, .int .i64 0, .int .i64 0, .int .i64 0, .int .i64 0, .int .i64 0, .int .i64 0, .int .i64 0, .string ⟨#[]⟩, .string ⟨#[]⟩, .string ⟨#[]⟩, .int .i64 0, .slice none 0 0, .int .i64 0, .slice none 0 0, .int .i64 0, .int .i64 0, .bool false] _ rfl rfl (setRow_heap _ _ _ _ _ _ nX.out) rfl) rfl ⟨⟨none, 0, 0, none, 0, 0, by rw [readM_no HG.out, HG.out]; rfl, ?_⟩, nA.out.grow g3 (fun k hk => by cases hk; exact Nat.le_refl _)⟩
      rw [readM_no HG.out]
      exact ⟨⟨growsS_nil _ _, fun j hj => (by simp at hj)⟩, (idRow_nil _ _).own, fun k hk => (by cases hk), fun k hk => (by cases hk), by simp [Fit]⟩
end Go.Proofs.YtkeoeempdkpafaaDoor
