/- A bundle of texts: RwM, CiI, CiS. -/
import Derived.Test.YtckeeadkhopljaaGreatDoorExX
import Derived.Test.YtckeeadkhopljaaGreatDoorIdG
import Derived.Test.YtckeeadkhopljaaGreatDoorCp
import Derived.Test.YtckeeadkhopljaaGreatDoorInSz
/- Rows of instances that a call appends to; copies, each with parts of its own. -/
namespace Go.Proofs.YtckeeadkhopljaaGreatDoor
open Go.RowKit Go.PlainAid
set_option linter.unusedVariables false

/-- An instance and its two slices. -/
structure Tr where
  x : In
  u : Value
  d : Value
def Tr.ok (t : Tr) : Prop := (∃ a n c, t.u = .slice a n c) ∧ ∃ a n c, t.d = .slice a n c
def trV (l : List Tr) : List Value := l.flatMap fun t => inA t.x t.u t.d
theorem trV_append (l m : List Tr) : trV (l ++ m) = trV l ++ trV m := by simp [trV]
theorem trV_cons (t : Tr) (l : List Tr) : trV (t :: l) = inA t.x t.u t.d ++ trV l := by simp [trV]
theorem inA_length (x : In) (u d : Value) : (inA x u d).length = 16 := rfl
theorem trV_length (l : List Tr) : (trV l).length = l.length * 16 := by
  induction l with
  | nil => rfl
  | cons x l ih => rw [trV_cons, List.length_append, inA_length, ih, List.length_cons]; omega
theorem trV_get : ∀ (l : List Tr) (j i : Nat) (t : Tr), l[j]? = some t → i < 16 → (trV l)[j * 16 + i]? = (inA t.x t.u t.d)[i]?
  | [], j, i, t, h, _ => by simp at h
  | s :: l, 0, i, t, h, hi => by
    have e : s = t := by simpa using h
    subst e
    rw [trV_cons, Nat.zero_mul, Nat.zero_add, List.getElem?_append_left (by rw [inA_length]; exact hi)]
  | s :: l, j + 1, i, t, h, hi => by
    rw [trV_cons, List.getElem?_append_right (by rw [inA_length]; omega), inA_length, show (j + 1) * 16 + i - 16 = j * 16 + i by omega]
    exact trV_get l j i t (by simpa using h) hi
theorem trV_one (l : List Tr) (hok : ∀ t ∈ l, t.ok) : ∀ u ∈ trV l, u.oneCell' = true := by
  intro u hu
  simp only [trV, List.mem_flatMap] at hu
  obtain ⟨t, ht, hu⟩ := hu
  obtain ⟨⟨a1, n1, c1, e1⟩, a2, n2, c2, e2⟩ := hok t ht
  rw [e1, e2] at hu
  simp only [inA, List.mem_cons, List.not_mem_nil, or_false] at hu
  rcases hu with rfl | rfl | rfl | rfl | rfl | rfl | rfl | rfl | rfl | rfl | rfl | rfl | rfl | rfl | rfl | rfl <;> rfl
/-- v is a row of l's own, from its block's head on. -/
def InRow (w : World) (base : Nat) (v : Value) (l : List Tr) : Prop := w.ownsRow base 67 16 v l.length (trV l)
theorem InRow.kept {w w' : World} {base : Nat} {v : Value} {l : List Tr} {row : Option Nat} (h : InRow w base v l) (hg : w.grownBy w' row) (hne : ∀ k, row = some k → v.ownBlock ≠ some k) : InRow w' base v l := by
  obtain ⟨h1, h2⟩ := h
  refine ⟨h1, h2.imp (fun h => h) fun ⟨g, cap, cur, e, hb', hg', r⟩ => ⟨g, cap, cur, e, hb', ?_, r⟩⟩
  subst e
  rw [hg.block g (Array.getElem?_eq_some_iff.1 hg').1 (fun e => hne g e.symm rfl)]
  exact hg'
theorem InRow.later {w w' : World} {base : Nat} {v : Value} {l : List Tr} (h : InRow w base v l) (hb : Below w.heap.size w w') : InRow w' base v l := h.kept (grown_of hb none) (fun k hk => by cases hk)
theorem InRow.lt {w : World} {base : Nat} {v : Value} {l : List Tr} (h : InRow w base v l) (k : Nat) (hk : v.ownBlock = some k) : base ≤ k ∧ k < w.heap.size := by
  obtain ⟨h1, ⟨rfl, h2⟩ | ⟨g, cap, cur, rfl, hb, hg, hc, _⟩⟩ := h
  · cases hk
  · cases hk
    exact ⟨hb, (Array.getElem?_eq_some_iff.1 hg).1⟩
theorem InRow.type {w : World} {base : Nat} {v : Value} {l : List Tr} (h : InRow w base v l) (k : Nat) (hk : v.ownBlock = some k) : ∃ cur, w.heap[k]? = some (.cells cur 67 (0, 0)) := by
  obtain ⟨h1, ⟨rfl, h2⟩ | ⟨g, cap, cur, rfl, hb, hg, hc, _⟩⟩ := h
  · cases hk
  · cases hk
    exact ⟨_, hg⟩
theorem InRow.form {w : World} {base : Nat} {v : Value} {l : List Tr} (h : InRow w base v l) : ∃ a cap, v = .slice a l.length cap := by
  obtain ⟨h1, ⟨rfl, h2⟩ | ⟨g, cap, cur, rfl, _⟩⟩ := h
  · exact ⟨none, 0, by rw [h2]⟩
  · exact ⟨_, cap, rfl⟩
theorem inRow_nil (w : World) (base : Nat) : InRow w base (.slice none 0 0) [] := ⟨by simp [trV], .inl ⟨rfl, rfl⟩⟩
theorem inRow_new (w : World) (base : Nat) (hb : base ≤ w.heap.size) : InRow (w.alloc (.cells #[] 67)) base (.slice (some ⟨w.heap.size, 0, none⟩) 0 0) [] := World.ownsRow_made w #[] 0 hb (Nat.zero_le _) rfl
/-- The row, its capacity and its cells. -/
theorem InRow.open {w : World} {base : Nat} {v : Value} {l : List Tr} (h : InRow w base v l) (h0 : 0 < l.length) : ∃ g cap cur, v = .slice (some ⟨g, 0, none⟩) l.length cap ∧ base ≤ g ∧ l.length ≤ cap ∧ w.heap[g]? = some (.cells cur 67 (0, 0)) ∧ 0 + cap * 16 ≤ cur.size ∧ ∀ j t, l[j]? = some t → InBv cur (0 + j * 16) (inA t.x t.u t.d) := by
  obtain ⟨h1, ⟨rfl, h2⟩ | ⟨g, cap, cur, rfl, hb, hg, hc, hm, hs, ht⟩⟩ := h
  · omega
  · refine ⟨g, cap, cur, rfl, hb, hc, hg, by omega, fun j t hj i hi => ?_⟩
    have a := trV_get l j i t hj hi
    have hjl : j < l.length := (List.getElem?_eq_some_iff.1 hj).1
    rw [← ht, List.getElem?_take, if_pos (by omega)] at a
    rw [Nat.zero_add, ← a]
    simp
theorem InRow.cap {w : World} {base : Nat} {v : Value} {l : List Tr} (h : InRow w base v l) : l.length ≤ 9223372036854775807 := by
  obtain ⟨h1, ⟨rfl, h2⟩ | ⟨g, cap, cur, rfl, hb, hg, hc, hm, hs, ht⟩⟩ := h
  · omega
  · unfold maxLen at hm; omega
theorem tr_news {w : World} {h : Nat} {t : Tr} (hX : Bx w h 67 (inA t.x t.u t.d).toArray) (j : Nat) (u : Value) (hj : (trV [t])[j]? = some u) : w.cell? ((⟨h, 0, none⟩ : Addr).add j) = some u := by
  rw [Go.WideShapes.add_plain, Nat.zero_add]
  refine hX.cell j u ?_
  have e : trV [t] = inA t.x t.u t.d := by rw [trV_cons]; simp [trV]
  rw [e] at hj
  simpa using hj
/-- list = append(list, one). -/
theorem wp_append_tr {w : World} {ops : Array Oper} {rest : List Oper} {o : Oper} {a : Act} {Q : Exit → Act → World → Prop} (hgd : o.guard = none) (s x : Operand)
    (ho : o.op = .call { callee := .builtin .append, args := #[s, x], argTypes := #[27, 27] }) (base : Nat) (v : Value) (l : List Tr) (t : Tr) (hs : a.eval s = v) (hown : InRow w base v l)
    (h c : Nat) (hx : a.eval x = .slice (some ⟨h, 0, none⟩) 1 c) (hX : Bx w h 67 (inA t.x t.u t.d).toArray) (hok : t.ok) (hlen : l.length ≤ 4194304) (hbase : base ≤ w.heap.size)
    (hK : ∀ v' w', InRow w' base v' (l ++ [t]) → w.grownBy w' v.ownBlock → wpList Tryz.prog ops Q rest (a.put o.dst v') w') : wpList Tryz.prog ops Q (o :: rest) a w := by
  obtain ⟨i0, hi, hz0, hz1, hz2⟩ := info_parts Tryz.infoInst
  refine wpList_append_own w hgd s x 27 ho base 67 i0 (.agg #[.int .i64 0, .int .i64 0, .int .i64 0, .int .i64 0, .int .i64 0, .int .i64 0, .int .i64 0, .int .i64 0, .string ⟨#[]⟩, .string ⟨#[]⟩, .string ⟨#[]⟩, .int .i64 0, .slice none 0 0, .int .i64 0, .slice none 0 0, .bool false]) 16 184 Tryz.underlying27 hi hz0 hz1 hz2 rfl (by decide) v l.length (trV l) hs hown ⟨h, 0, none⟩ 1 c (trV [t]) hx (trV_length [t]) (fun j u hj => tr_news hX j u hj) (trV_one [t] (fun s hs => by rw [List.mem_singleton] at hs; subst hs; exact hok)) (by unfold maxLen; omega) (by omega) hbase ?_
  intro v' w' h1 h2 _
  refine hK v' w' ?_ h2
  unfold InRow
  rw [List.length_append, trV_append]
  exact h1
/-- The copies of the first k of l, each of its parts' blocks apart. -/
def CpP (lo : Nat) (l : List In) (k : Nat) (v : Value) (T : List Tr) (b : Nat → Nat) (w : World) : Prop :=
  T.length = k ∧ (∀ i, b i ≤ b (i + 1)) ∧ lo ≤ b 0 ∧ b k ≤ w.heap.size ∧ InRow w lo v T ∧ ∀ j, j < k → ∃ t, T[j]? = some t ∧ t.x = nth l j ∧ t.ok ∧ PtO w (b j) (b (j + 1)) t.x t.u t.d
theorem CpP.later {lo : Nat} {l : List In} {k : Nat} {v : Value} {T : List Tr} {b : Nat → Nat} {w w' : World} (h : CpP lo l k v T b w) (hb : Below w.heap.size w w') : CpP lo l k v T b w' := by
  obtain ⟨h1, h2, h3, h4, h5, h6⟩ := h
  refine ⟨h1, h2, h3, Nat.le_trans h4 hb.size, h5.later hb, fun j hj => ?_⟩
  obtain ⟨t, a1, a2, a3, a4⟩ := h6 j hj
  exact ⟨t, a1, a2, a3, a4.later hb⟩
def CpR (lo : Nat) (l : List In) (k : Nat) (v : Value) (w : World) : Prop := ∃ (T : List Tr) (b : Nat → Nat), CpP lo l k v T b w
theorem CpR.nil (lo : Nat) (l : List In) (w : World) (v : Value) (h : InRow w lo v []) (hz : lo ≤ w.heap.size) : CpR lo l 0 v w :=
  ⟨[], fun _ => lo, rfl, fun _ => Nat.le_refl _, Nat.le_refl _, hz, h, fun j hj => by omega⟩
theorem CpR.later {lo : Nat} {l : List In} {k : Nat} {v : Value} {w w' : World} (h : CpR lo l k v w) (hb : Below w.heap.size w w') : CpR lo l k v w' := by
  obtain ⟨T, b, h⟩ := h
  exact ⟨T, b, h.later hb⟩
theorem CpR.form {lo : Nat} {l : List In} {k : Nat} {v : Value} {w : World} (h : CpR lo l k v w) : ∃ a cap, v = .slice a k cap := by
  obtain ⟨T, b, h1, h2, h3, h4, h5, h6⟩ := h
  rw [← h1]
  exact h5.form
theorem CpR.ownX {lo : Nat} {l : List In} {v : Value} {w : World} (h : CpR lo l l.length v w) : InOwnX w lo w.heap.size v l := by
  obtain ⟨T, b, h1, h2, h3, h4, h5, h6⟩ := h
  obtain ⟨a, cap, e⟩ := h5.form
  by_cases h0 : 0 < l.length
  · obtain ⟨g, cap, cur, e, q1, q2, q3, q4, q5⟩ := h5.open (by omega)
    rw [h1] at e q2
    have hz := h5.cap
    rw [h1] at hz
    have hex : ∀ j, ∃ p : Value × Value, j < l.length → InBv cur (0 + j * 16) (inA (nth l j) p.1 p.2) ∧ PtO w (b j) (b (j + 1)) (nth l j) p.1 p.2 := fun j => by
      by_cases hj : j < l.length
      · obtain ⟨t, a1, a2, a3, a4⟩ := h6 j hj
        have a5 := q5 j t a1
        rw [a2] at a4 a5
        exact ⟨(t.u, t.d), fun _ => ⟨a5, a4⟩⟩
      · exact ⟨(undef, undef), fun h => absurd h hj⟩
    obtain ⟨f, hf⟩ := Classical.axiomOfChoice hex
    exact ⟨_, cap, e, q2, hz, fun _ => ⟨g, 0, cur, fun j => (f j).1, fun j => (f j).2, b, rfl, ⟨q1, (Array.getElem?_eq_some_iff.1 q3).1, q4⟩, q3, h2, h3, h4, fun j hj => hf j hj⟩⟩
  · have hl0 : l = [] := List.eq_nil_of_length_eq_zero (by omega)
    subst hl0
    rw [h1] at e
    rw [e]
    exact inOwnX_nil _ _ _ _ _
theorem CpR.snoc {lo : Nat} {l : List In} {k : Nat} {v v' : Value} {w w' : World} {T : List Tr} {b : Nat → Nat} {t : Tr} {lo3 hi3 : Nat} (hP : CpP lo l k v T b w) (h4 : b k ≤ lo3)
    (ht : t.x = nth l k) (hok : t.ok) (hp : PtO w lo3 hi3 t.x t.u t.d) (hz : hi3 ≤ w.heap.size) (hlh : lo3 ≤ hi3) (hr : InRow w' lo v' (T ++ [t])) (hg : w.grownBy w' v.ownBlock) : CpR lo l (k + 1) v' w' := by
  obtain ⟨h1, h2, h3, _, h5, h6⟩ := hP
  have hrow : ∀ q, v.ownBlock = some q → ∃ cur, w.heap[q]? = some (.cells cur 67 (0, 0)) := fun q hq => h5.type q hq
  have keep : ∀ (lo' hi' : Nat) (s : Tr), PtO w lo' hi' s.x s.u s.d → PtO w' lo' hi' s.x s.u s.d := fun lo' hi' s hs => by
    refine hs.keptT hg (fun q hq => ?_) (fun h0 q hq => ?_)
    · obtain ⟨c, hc⟩ := hrow q hq
      exact (hs.ne_row hc).1
    · obtain ⟨c, hc⟩ := hrow q hq
      exact (hs.ne_row hc).2 h0
  refine ⟨T ++ [t], fun i => if i ≤ k then b i else hi3, by simp [h1], fun i => ?_, by simpa using h3, ?_, hr, fun j hj => ?_⟩
  · dsimp only
    by_cases e1 : i + 1 ≤ k
    · rw [if_pos (by omega), if_pos e1]; exact h2 i
    · by_cases e2 : i ≤ k
      · have : i = k := by omega
        subst this
        rw [if_pos e2, if_neg e1]; omega
      · rw [if_neg e2, if_neg e1]; exact Nat.le_refl _
  · dsimp only
    rw [if_neg (by omega)]
    exact Nat.le_trans hz hg.size
  · by_cases e : j < k
    · obtain ⟨s, a1, a2, a3, a4⟩ := h6 j e
      refine ⟨s, by rw [List.getElem?_append_left (by omega)]; exact a1, a2, a3, ?_⟩
      dsimp only
      rw [if_pos (by omega), if_pos (by omega)]
      exact keep _ _ s a4
    · have : j = k := by omega
      subst this
      refine ⟨t, by rw [List.getElem?_append_right (by omega), h1]; simp, ht, hok, ?_⟩
      dsimp only
      rw [if_pos (by omega), if_neg (by omega)]
      exact keep _ _ t (hp.mono h4 (Nat.le_refl _))
end Go.Proofs.YtckeeadkhopljaaGreatDoor
/- Instances copied: the program. -/
namespace Go.Proofs.YtckeeadkhopljaaGreatDoor
open Go.RowKit Go.PlainAid
set_option linter.unusedVariables false

set_option maxRecDepth 100000 in
set_option maxHeartbeats 2000000 in
theorem impl_copyInsts (v : Value) (l : List In) (w : World) (hv : Insts w v l) (hs : SmF l) :
    Calls Tryz.prog 41 #[v] w fun e w' => (∃ u, e = .returned u ∧ InOwnX w' w.heap.size w'.heap.size u l) ∧ Below w.heap.size w w' := by
  have HSM := Lib.hid hs
  obtain ⟨k1, a, ca, rfl, hca, ha⟩ := hv
  obtain ⟨n, hn⟩ : ∃ n, l.length = n := ⟨_, rfl⟩
  have hln := hs.1
  rw [hn] at k1 ha hca hln ⊢
  have HN := Lib.hid hn
  have HA := Lib.hid ha
  clear hn ha hca hs
  have R0 := Lib.hid (CpR.nil w.heap.size l w _ (inRow_nil w w.heap.size) (Nat.le_refl _))
  have A0 := Lib.hid (Af.refl w)
  go_enter Tryz.func41, Tryz.ntmps41
  go_wp2
  go_loopw [3, 8] (fun q i wr => ∃ (k : Nat) (a' : Option Addr) (n' c' : Nat), k ≤ n ∧ i = .int .i64 k ∧ q = .slice a' n' c' ∧ CpR w.heap.size l k (.slice a' n' c') wr ∧ Af w wr) (fun _ i _ => n - (intOf i).toNat)
  case atStart => exact ⟨0, _, _, _, by omega, rfl, rfl, R0.out, A0.out⟩
  case round =>
    clear R0 A0
    obtain ⟨k, a', n', c', hk, rfl, rfl, hr, haf⟩ := hrel
    have A := Lib.hid haf
    clear haf
    by_cases hlt : k < n
    · obtain ⟨TT, b, hP⟩ := hr
      have hb4 := hP.2.2.2.1
      have P := Lib.hid hP
      have hTl := hP.1
      clear hP
      obtain ⟨x, o, rfl, hx, hcx⟩ := HA.out (by omega)
      obtain ⟨u, d, cc, pp⟩ := hcx k hlt
      obtain ⟨m0, m1, m2, m3, m4, m5, m6, m7, m8, m9, m10, m11, m12, m13, m14, m15⟩ := cc.below A.out hx
      have PK := pp.later A.out
      have HSX := Lib.hid (HSM.out.2 k (by rw [HN.out]; exact hlt))
      obtain ⟨⟨a1, n1, c1, rfl⟩, a2, n2, c2, rfl⟩ := pp.form
      obtain ⟨q, hq⟩ : ∃ q, nth l k = q := ⟨_, rfl⟩
      have HQ := Lib.hid hq
      rw [hq] at PK HSX m0 m1 m2 m3 m4 m5 m6 m7 m8 m9 m10 m11 m13 m15
      have y1 : (k : Int) < (n : Int) := by omega
      have y0 : (0 : Int) ≤ (k : Int) := by omega
      clear hcx cc pp hq
      have P1 := Lib.hid (P.out.later ((Below.refl _ _).alloc (Nat.le_refl _) (.cells #[.int .i64 q.rep, .int .i64 q.slot, .int .i64 q.bal, .int .i64 q.vbal, .int .i64 q.st, .int .i64 q.cmd.kind, .int .i64 q.cmd.client, .int .i64 q.cmd.no, .string q.cmd.set, .string q.cmd.name, .string q.cmd.tag, .int .i64 q.cmd.n, .slice a1 n1 c1, .int .i64 q.seq, .slice a2 n2 c2, .bool q.same] 67)))
      have A1 := Lib.hid (A.out.alloc (.cells #[.int .i64 q.rep, .int .i64 q.slot, .int .i64 q.bal, .int .i64 q.vbal, .int .i64 q.st, .int .i64 q.cmd.kind, .int .i64 q.cmd.client, .int .i64 q.cmd.no, .string q.cmd.set, .string q.cmd.name, .string q.cmd.tag, .int .i64 q.cmd.n, .slice a1 n1 c1, .int .i64 q.seq, .slice a2 n2 c2, .bool q.same] 67))
      have K1 := Lib.hid (PK.alloc (.cells #[.int .i64 q.rep, .int .i64 q.slot, .int .i64 q.bal, .int .i64 q.vbal, .int .i64 q.st, .int .i64 q.cmd.kind, .int .i64 q.cmd.client, .int .i64 q.cmd.no, .string q.cmd.set, .string q.cmd.name, .string q.cmd.tag, .int .i64 q.cmd.n, .slice a1 n1 c1, .int .i64 q.seq, .slice a2 n2 c2, .bool q.same] 67))
      have hb1 : b k ≤ (wr.alloc (.cells #[.int .i64 q.rep, .int .i64 q.slot, .int .i64 q.bal, .int .i64 q.vbal, .int .i64 q.st, .int .i64 q.cmd.kind, .int .i64 q.cmd.client, .int .i64 q.cmd.no, .string q.cmd.set, .string q.cmd.name, .string q.cmd.tag, .int .i64 q.cmd.n, .slice a1 n1 c1, .int .i64 q.seq, .slice a2 n2 c2, .bool q.same] 67)).heap.size := by simp; omega
      clear PK P A
      go_wp2_with fail
      clear m0 m1 m2 m3 m4 m5 m6 m7 m8 m9 m10 m11 m12 m13 m14 m15
      refine (copy_inst q _ _ _ K1.out HSX.out).mono ?_
      rintro e w2 ⟨⟨a3, n3, c3, a4, n4, c4, rfl, p3⟩, b3⟩
      have hz2 := b3.size
      have P2 := Lib.hid ((P1.out.later b3).later ((Below.refl _ _).alloc (Nat.le_refl _) (.cells #[.int .i64 q.rep, .int .i64 q.slot, .int .i64 q.bal, .int .i64 q.vbal, .int .i64 q.st, .int .i64 q.cmd.kind, .int .i64 q.cmd.client, .int .i64 q.cmd.no, .string q.cmd.set, .string q.cmd.name, .string q.cmd.tag, .int .i64 q.cmd.n, .slice a3 n3 c3, .int .i64 q.seq, .slice a4 n4 c4, .bool q.same] 67)))
      have A2 := Lib.hid ((A1.out.after b3).alloc (.cells #[.int .i64 q.rep, .int .i64 q.slot, .int .i64 q.bal, .int .i64 q.vbal, .int .i64 q.st, .int .i64 q.cmd.kind, .int .i64 q.cmd.client, .int .i64 q.cmd.no, .string q.cmd.set, .string q.cmd.name, .string q.cmd.tag, .int .i64 q.cmd.n, .slice a3 n3 c3, .int .i64 q.seq, .slice a4 n4 c4, .bool q.same] 67))
      have Q2 := Lib.hid (p3.later ((Below.refl _ _).alloc (Nat.le_refl _) (.cells #[.int .i64 q.rep, .int .i64 q.slot, .int .i64 q.bal, .int .i64 q.vbal, .int .i64 q.st, .int .i64 q.cmd.kind, .int .i64 q.cmd.client, .int .i64 q.cmd.no, .string q.cmd.set, .string q.cmd.name, .string q.cmd.tag, .int .i64 q.cmd.n, .slice a3 n3 c3, .int .i64 q.seq, .slice a4 n4 c4, .bool q.same] 67)))
      clear b3 p3 P1 A1 K1
      go_wp2_with (at_builtin; refine wp_append_tr rfl (.tmp 12) (.tmp 15) rfl w.heap.size (.slice a' n' c') TT ⟨q, .slice a3 n3 c3, .slice a4 n4 c4⟩ rfl P2.out.2.2.2.2.1 w2.heap.size 1 rfl (Bx.new w2 _ _ _ rfl) ⟨⟨_, _, _, rfl⟩, _, _, _, rfl⟩ (by omega) (by have := A2.out.size; simpa using this) ?_; intro v6 w6 hr6 hg6; have R6 := Lib.hid (CpR.snoc P2.out hb1 HQ.out.symm ⟨⟨_, _, _, rfl⟩, _, _, _, rfl⟩ Q2.out (by simp) hz2 hr6 hg6); have A6 := Lib.hid (A2.out.grow hg6 (fun k hk => (P2.out.2.2.2.2.1.lt _ hk).1)); obtain ⟨a6, n6, c6, hv6⟩ : ∃ aa nn cc, v6 = .slice aa nn cc := (by obtain ⟨aa, cc, ee⟩ := hr6.form; exact ⟨aa, _, cc, ee⟩); subst hv6; clear hr6 hg6)
      go_roundw
      case rel => exact ⟨k + 1, _, _, _, by omega, by go_num, rfl, R6.out, A6.out⟩
      case measure => simp only [intOf]; omega
    · obtain rfl : k = n := by omega
      have R := Lib.hid hr
      clear hr
      go_wp2
      go_ret
      exact ⟨⟨_, rfl, by have h := R.out; rw [← HN.out] at h; exact h.ownX⟩, A.out⟩
end Go.Proofs.YtckeeadkhopljaaGreatDoor
/- Instances copied: the model. -/
namespace Go.Proofs.YtckeeadkhopljaaGreatDoor
open Go.RowKit Go.PlainAid
set_option linter.unusedVariables false

set_option maxRecDepth 100000 in
set_option maxHeartbeats 2000000 in
theorem spec_copyAll (v : Value) (l : List In) (w : World) (hv : Insts w v l) (hs : SmF l) :
    Calls Tryz.prog 32 #[v] w fun e w' => (∃ u, e = .returned u ∧ InOwnX w' w.heap.size w'.heap.size u l) ∧ Below w.heap.size w w' := by
  have HSM := Lib.hid hs
  obtain ⟨k1, a, ca, rfl, hca, ha⟩ := hv
  obtain ⟨n, hn⟩ : ∃ n, l.length = n := ⟨_, rfl⟩
  have hln := hs.1
  rw [hn] at k1 ha hca hln ⊢
  have HN := Lib.hid hn
  have HA := Lib.hid ha
  clear hn ha hca hs
  have R0 := Lib.hid (CpR.nil w.heap.size l (w.alloc (.cells #[] 67)) _ (inRow_new w w.heap.size (Nat.le_refl _)) (by simp))
  have A0 := Lib.hid ((Af.refl w).alloc (.cells #[] 67))
  go_enter Tryz.func32, Tryz.ntmps32
  go_wp2
  go_loopw [3, 4] (fun q i wr => ∃ (k : Nat) (a' : Option Addr) (n' c' : Nat), k ≤ n ∧ i = .int .i64 k ∧ q = .slice a' n' c' ∧ CpR w.heap.size l k (.slice a' n' c') wr ∧ Af w wr) (fun _ i _ => n - (intOf i).toNat)
  case atStart => exact ⟨0, _, _, _, by omega, rfl, rfl, R0.out, A0.out⟩
  case round =>
    clear R0 A0
    obtain ⟨k, a', n', c', hk, rfl, rfl, hr, haf⟩ := hrel
    have A := Lib.hid haf
    clear haf
    by_cases hlt : k < n
    · obtain ⟨TT, b, hP⟩ := hr
      have hb4 := hP.2.2.2.1
      have P := Lib.hid hP
      have hTl := hP.1
      clear hP
      obtain ⟨x, o, rfl, hx, hcx⟩ := HA.out (by omega)
      obtain ⟨u, d, cc, pp⟩ := hcx k hlt
      obtain ⟨m0, m1, m2, m3, m4, m5, m6, m7, m8, m9, m10, m11, m12, m13, m14, m15⟩ := cc.below A.out hx
      have PK := pp.later A.out
      have HSX := Lib.hid (HSM.out.2 k (by rw [HN.out]; exact hlt))
      obtain ⟨⟨a1, n1, c1, rfl⟩, a2, n2, c2, rfl⟩ := pp.form
      obtain ⟨q, hq⟩ : ∃ q, nth l k = q := ⟨_, rfl⟩
      have HQ := Lib.hid hq
      rw [hq] at PK HSX m0 m1 m2 m3 m4 m5 m6 m7 m8 m9 m10 m11 m13 m15
      have y1 : (k : Int) < (n : Int) := by omega
      have y0 : (0 : Int) ≤ (k : Int) := by omega
      clear hcx cc pp hq
      have P1 := P
      have A1 := A
      have K1 := Lib.hid PK
      have hb1 : b k ≤ wr.heap.size := hb4
      clear PK P A
      go_wp2_with fail
      clear m0 m1 m2 m3 m4 m5 m6 m7 m8 m9 m10 m11 m12 m13 m14 m15
      refine (spec_copyI q _ _ _ K1.out HSX.out).mono ?_
      rintro e w2 ⟨⟨a3, n3, c3, a4, n4, c4, rfl, p3⟩, b3⟩
      have hz2 := b3.size
      have P2 := Lib.hid ((P1.out.later b3).later ((Below.refl _ _).alloc (Nat.le_refl _) (.cells #[.int .i64 q.rep, .int .i64 q.slot, .int .i64 q.bal, .int .i64 q.vbal, .int .i64 q.st, .int .i64 q.cmd.kind, .int .i64 q.cmd.client, .int .i64 q.cmd.no, .string q.cmd.set, .string q.cmd.name, .string q.cmd.tag, .int .i64 q.cmd.n, .slice a3 n3 c3, .int .i64 q.seq, .slice a4 n4 c4, .bool q.same] 67)))
      have A2 := Lib.hid ((A1.out.after b3).alloc (.cells #[.int .i64 q.rep, .int .i64 q.slot, .int .i64 q.bal, .int .i64 q.vbal, .int .i64 q.st, .int .i64 q.cmd.kind, .int .i64 q.cmd.client, .int .i64 q.cmd.no, .string q.cmd.set, .string q.cmd.name, .string q.cmd.tag, .int .i64 q.cmd.n, .slice a3 n3 c3, .int .i64 q.seq, .slice a4 n4 c4, .bool q.same] 67))
      have Q2 := Lib.hid (p3.later ((Below.refl _ _).alloc (Nat.le_refl _) (.cells #[.int .i64 q.rep, .int .i64 q.slot, .int .i64 q.bal, .int .i64 q.vbal, .int .i64 q.st, .int .i64 q.cmd.kind, .int .i64 q.cmd.client, .int .i64 q.cmd.no, .string q.cmd.set, .string q.cmd.name, .string q.cmd.tag, .int .i64 q.cmd.n, .slice a3 n3 c3, .int .i64 q.seq, .slice a4 n4 c4, .bool q.same] 67)))
      clear b3 p3 P1 A1 K1
      go_wp2_with (at_builtin; refine wp_append_tr rfl (.tmp 12) (.tmp 18) rfl w.heap.size (.slice a' n' c') TT ⟨q, .slice a3 n3 c3, .slice a4 n4 c4⟩ rfl P2.out.2.2.2.2.1 w2.heap.size 1 rfl (Bx.new w2 _ _ _ rfl) ⟨⟨_, _, _, rfl⟩, _, _, _, rfl⟩ (by omega) (by have := A2.out.size; simpa using this) ?_; intro v6 w6 hr6 hg6; have R6 := Lib.hid (CpR.snoc P2.out hb1 HQ.out.symm ⟨⟨_, _, _, rfl⟩, _, _, _, rfl⟩ Q2.out (by simp) hz2 hr6 hg6); have A6 := Lib.hid (A2.out.grow hg6 (fun k hk => (P2.out.2.2.2.2.1.lt _ hk).1)); obtain ⟨a6, n6, c6, hv6⟩ : ∃ aa nn cc, v6 = .slice aa nn cc := (by obtain ⟨aa, cc, ee⟩ := hr6.form; exact ⟨aa, _, cc, ee⟩); subst hv6; clear hr6 hg6)
      go_roundw
      case rel => exact ⟨k + 1, _, _, _, by omega, by go_num, rfl, R6.out, A6.out⟩
      case measure => simp only [intOf]; omega
    · obtain rfl : k = n := by omega
      have R := Lib.hid hr
      clear hr
      go_wp2
      go_ret
      exact ⟨⟨_, rfl, by have h := R.out; rw [← HN.out] at h; exact h.ownX⟩, A.out⟩
end Go.Proofs.YtckeeadkhopljaaGreatDoor
