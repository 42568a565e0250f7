/- A bundle of texts: PtM, PuM, PuI, PuS. -/
import Derived.Test.YtdokglckfabdaaaDoorInLX
import Derived.Test.YtdokglckfabdaaaDoorCi
import Derived.Test.YtdokglckfabdaaaDoorInR
import Derived.Deep.CutRange
/- InstPut in plain words. -/
namespace Go.Proofs.YtdokglckfabdaaaDoor
set_option linter.unusedVariables false

abbrev ltN (x y : In) : Bool := ltB x.rep x.slot y.rep y.slot
theorem ltN_iff (x y : In) : ltN x y = true ↔ x.rep < y.rep ∨ (x.rep = y.rep ∧ x.slot < y.slot) := ltI_iff ⟨x.rep, x.slot⟩ ⟨y.rep, y.slot⟩
theorem ltN_no (x y : In) : ltN x y = false ↔ ¬ (x.rep < y.rep ∨ (x.rep = y.rep ∧ x.slot < y.slot)) := by rw [← ltN_iff]; simp
theorem ltN_trans {x y z : In} (h : ltN x y = true) (h2 : ltN y z = true) : ltN x z = true := by
  rw [ltN_iff] at *
  omega
theorem ltN_asym {x y : In} (h : ltN x y = true) : ltN y x = false := by
  rw [ltN_no]
  rw [ltN_iff] at h
  omega
def SrtN (l : List In) : Prop := l.Pairwise fun x y => ltN x y = true
theorem srtN_of_adj : ∀ l : List In, (∀ j, j + 1 < l.length → ltN (nth l j) (nth l (j + 1)) = true) → SrtN l
  | [], _ => List.Pairwise.nil
  | [x], _ => by simp [SrtN]
  | x :: y :: l, h => by
    have hxy : ltN x y = true := by
      have := h 0 (by simp)
      rw [nth_of (x := x) rfl, nth_of (x := y) rfl] at this
      exact this
    have ih := srtN_of_adj (y :: l) (fun j hj => by
      have := h (j + 1) (by simpa using hj)
      simp only [nth_eq, List.getD, List.getElem?_cons_succ] at this ⊢
      exact this)
    refine List.Pairwise.cons (fun z hz => ?_) ih
    rcases List.mem_cons.1 hz with rfl | hz
    · exact hxy
    · exact ltN_trans hxy (List.rel_of_pairwise_cons ih hz)
theorem srtN_of_ok {l : List In} (h : instsB l = true) : SrtN l := srtN_of_adj l fun j hj => by
  have := instsB_at h (j + 1) hj
  rw [okIn_succ _ _ (by omega)] at this
  simp only [Bool.and_eq_true] at this
  exact this.2
theorem insts_of_ok {l : List In} (h : instsB l = true) (x : In) (hx : x ∈ l) : instB x = true := by
  obtain ⟨j, hj, e⟩ := List.mem_iff_getElem.1 hx
  have := instsB_at h j hj
  rw [okIn_eq] at this
  simp only [Bool.and_eq_true] at this
  have e2 : l[j]? = some x := by rw [List.getElem?_eq_getElem hj, e]
  rw [nth_of e2] at this
  exact this.1
theorem ok_of_srtN {l : List In} (hs : SrtN l) (h : ∀ x ∈ l, instB x = true) : instsB l = true := by
  apply instsB_yes
  intro j hj
  have g := nth_get l j hj
  have hx := h _ (List.mem_iff_getElem?.2 ⟨j, g⟩)
  rw [okIn_eq, hx]
  by_cases e : j = 0
  · simp [e]
  · have g1 := nth_get l (j - 1) (by omega)
    have hp := List.pairwise_iff_getElem.1 hs (j - 1) j (by omega) hj (by omega)
    rw [List.getElem?_eq_getElem hj, Option.some.injEq] at g
    rw [List.getElem?_eq_getElem (by omega : j - 1 < l.length), Option.some.injEq] at g1
    rw [g, g1] at hp
    have hp' : ltB (nth l (j - 1)).rep (nth l (j - 1)).slot (nth l j).rep (nth l j).slot = true := hp
    rw [hp']
    simp
/-- At most eighteen are valid and in order. -/
theorem insts_key {l : List In} (h : instsB l = true) : ∀ j, j < l.length → (j : Int) + 1 ≤ (nth l j).rep * 6 + (nth l j).slot
  | 0, hj => by
    have := instsB_at h 0 hj
    rw [okIn_zero] at this
    rw [instB_eq] at this
    simp only [Bool.and_eq_true] at this
    have h1 := this.1
    rw [idB_eq] at h1
    simp only [Bool.and_eq_true, decide_eq_true_eq] at h1
    omega
  | j + 1, hj => by
    have ih := insts_key h j (by omega)
    have := instsB_at h (j + 1) hj
    rw [okIn_succ _ _ (by omega)] at this
    simp only [Bool.and_eq_true, Nat.add_sub_cancel] at this
    obtain ⟨hv, hlt⟩ := this
    have hv0 := instsB_at h j (by omega)
    rw [okIn_eq] at hv0
    simp only [Bool.and_eq_true] at hv0
    have h0 := hv0.1
    rw [instB_eq] at hv h0
    simp only [Bool.and_eq_true] at hv h0
    have h1 := hv.1
    have h2 := h0.1
    rw [idB_eq] at h1 h2
    simp only [Bool.and_eq_true, decide_eq_true_eq] at h1 h2
    have h3 := (ltN_iff (nth l j) (nth l (j + 1))).1 hlt
    omega
theorem insts_len {l : List In} (h : instsB l = true) : l.length ≤ 18 := by
  by_cases h0 : l.length ≤ 18
  · exact h0
  · have a := insts_key h 18 (by omega)
    have hv := instsB_at h 18 (by omega)
    rw [okIn_eq] at hv
    simp only [Bool.and_eq_true] at hv
    have h1 := hv.1
    rw [instB_eq] at h1
    simp only [Bool.and_eq_true] at h1
    have h2 := h1.1
    rw [idB_eq] at h2
    simp only [Bool.and_eq_true, decide_eq_true_eq] at h2
    omega
/-- One put where it stands. -/
def putN (l : List In) (x : In) : List In := l.filter (fun y => ltN y x) ++ ([x] ++ l.filter (fun y => ltN x y))
theorem putN_srt {l : List In} (h : SrtN l) (x : In) : SrtN (putN l x) := by
  unfold SrtN putN
  rw [List.pairwise_append, List.pairwise_append]
  refine ⟨List.Pairwise.filter _ h, ⟨by simp, List.Pairwise.filter _ h, fun a ha b hb => ?_⟩, fun a ha b hb => ?_⟩
  · simp only [List.mem_singleton] at ha
    simp only [List.mem_filter] at hb
    rw [ha]; exact hb.2
  · simp only [List.mem_filter] at ha
    simp only [List.mem_append, List.mem_singleton, List.mem_filter] at hb
    rcases hb with rfl | hb
    · exact ha.2
    · exact ltN_trans ha.2 hb.2
theorem putN_ok {l : List In} (h : instsB l = true) (x : In) : instsB (putN l x) = instB x := by
  cases hx : instB x
  · cases hp : instsB (putN l x)
    · rfl
    · have := insts_of_ok hp x (by simp [putN])
      rw [hx] at this
      cases this
  · refine ok_of_srtN (putN_srt (srtN_of_ok h) x) (fun y hy => ?_)
    simp only [putN, List.mem_append, List.mem_singleton, List.mem_filter] at hy
    rcases hy with hy | rfl | hy
    · exact insts_of_ok h y hy.1
    · exact hx
    · exact insts_of_ok h y hy.1
theorem putN_length (l : List In) (x : In) : (putN l x).length ≤ 2 * l.length + 1 := by
  have h1 := List.length_filter_le (fun y => ltN y x) l
  have h2 := List.length_filter_le (fun y => ltN x y) l
  simp only [putN, List.length_append, List.length_singleton]
  omega
/-- The model's loop. -/
def stepP (x : In) (s : List In × Bool) (y : In) : List In × Bool :=
  let s1 := if !s.2 && !ltN y x then (s.1 ++ [x], true) else s
  if y.rep = x.rep ∧ y.slot = x.slot then s1 else (s1.1 ++ [y], s1.2)
def endP (x : In) (s : List In × Bool) : List In := if s.2 = true then s.1 else s.1 ++ [x]
theorem foldP_true (x : In) : ∀ (l : List In) (acc : List In), (∀ y ∈ l, ltN x y = true) → l.foldl (stepP x) (acc, true) = (acc ++ l, true)
  | [], acc, _ => by simp
  | y :: l, acc, h => by
    have hy := h y (by simp)
    have hne : ¬ (y.rep = x.rep ∧ y.slot = x.slot) := by rw [ltN_iff] at hy; omega
    have e : stepP x (acc, true) y = (acc ++ [y], true) := by simp [stepP, hne]
    rw [List.foldl_cons, e, foldP_true x l _ (fun z hz => h z (by simp [hz]))]
    simp
theorem foldP_false (x : In) : ∀ (l : List In) (acc : List In), SrtN l → endP x (l.foldl (stepP x) (acc, false)) = acc ++ putN l x
  | [], acc, _ => by simp [endP, putN]
  | y :: l, acc, hs => by
    have hyl := List.pairwise_cons.1 hs
    by_cases h1 : ltN y x = true
    · have hne : ¬ (y.rep = x.rep ∧ y.slot = x.slot) := by rw [ltN_iff] at h1; omega
      have e : stepP x (acc, false) y = (acc ++ [y], false) := by simp [stepP, hne, h1]
      have h2 := ltN_asym h1
      rw [List.foldl_cons, e, foldP_false x l _ hyl.2]
      simp [putN, h1, h2]
    · have h1' : ltN y x = false := by simpa using h1
      have hrest : ∀ z ∈ l, ltN x z = true := fun z hz => by
        have := hyl.1 z hz
        rw [ltN_no] at h1'
        rw [ltN_iff] at this ⊢
        omega
      have hrest2 : ∀ z ∈ l, ltN z x = false := fun z hz => ltN_asym (hrest z hz)
      have f1 : l.filter (fun y => ltN y x) = [] := List.filter_eq_nil_iff.2 (fun z hz => by rw [hrest2 z hz]; simp)
      have f2 : l.filter (fun y => ltN x y) = l := List.filter_eq_self.2 (fun z hz => hrest z hz)
      by_cases h2 : y.rep = x.rep ∧ y.slot = x.slot
      · have e : stepP x (acc, false) y = (acc ++ [x], true) := by simp [stepP, h2, h1']
        have hxy : ltN x y = false := by rw [ltN_no]; omega
        rw [List.foldl_cons, e, foldP_true x l _ hrest]
        simp [endP, putN, h1', hxy, f1, f2]
      · have e : stepP x (acc, false) y = (acc ++ [x] ++ [y], true) := by simp [stepP, h2, h1']
        have hxy : ltN x y = true := by rw [ltN_no] at h1'; rw [ltN_iff]; omega
        rw [List.foldl_cons, e, foldP_true x l _ hrest]
        simp [endP, putN, h1', hxy, f1, f2]
/-- What InstPut answers. -/
@[irreducible] def putX (l : List In) (x : In) : List In := if instsB l = true then (if instB x = true then putN l x else l) else []
theorem putX_none (l : List In) (x : In) (h : instsB l = false) : putX l x = [] := by unfold putX; rw [h]; rfl
theorem putX_keep (l : List In) (x : In) (h : instsB l = true) (h2 : instB x = false) : putX l x = l := by unfold putX; rw [if_pos h, h2]; rfl
theorem putX_put (l : List In) (x : In) (h : instsB l = true) (h2 : instB x = true) : putX l x = putN l x := by unfold putX; rw [if_pos h, if_pos h2]
theorem putX_ok (l : List In) (x : In) : instsB (putX l x) = true := by
  cases h : instsB l
  · rw [putX_none l x h]; exact instsB_yes [] (fun j hj => by simp at hj)
  · cases h2 : instB x
    · rw [putX_keep l x h h2]; exact h
    · rw [putX_put l x h h2, putN_ok h, h2]
end Go.Proofs.YtdokglckfabdaaaDoor
/- Rows of instances whose parts are others'. -/
namespace Go.Proofs.YtdokglckfabdaaaDoor
open Go.RowKit Go.PlainAid
set_option linter.unusedVariables false

/-- A row of the call's own; its elements' parts read in w0. -/
def PuR (w0 : World) (lo : Nat) (v : Value) (L : List In) (w : World) : Prop := ∃ TT : List Tr, TT.map Tr.x = L ∧ InRow w lo v TT ∧ ∀ t ∈ TT, t.ok ∧ Pts w0 t.x t.u t.d
theorem PuR.later {w0 w w' : World} {lo : Nat} {v : Value} {L : List In} (h : PuR w0 lo v L w) (hb : Below w.heap.size w w') : PuR w0 lo v L w' := by
  obtain ⟨TT, h1, h2, h3⟩ := h
  exact ⟨TT, h1, h2.later hb, h3⟩
theorem PuR.lt {w0 w : World} {lo : Nat} {v : Value} {L : List In} (h : PuR w0 lo v L w) (k : Nat) (hk : v.ownBlock = some k) : lo ≤ k ∧ k < w.heap.size := by
  obtain ⟨TT, h1, h2, h3⟩ := h
  exact h2.lt k hk
theorem PuR.nil (w0 w : World) (lo : Nat) (v : Value) (h : InRow w lo v []) : PuR w0 lo v [] w := ⟨[], rfl, h, fun t ht => by simp at ht⟩
theorem PuR.form {w0 w : World} {lo : Nat} {v : Value} {L : List In} (h : PuR w0 lo v L w) : ∃ a n cap, v = .slice a n cap := by
  obtain ⟨TT, h1, h2, h3⟩ := h
  obtain ⟨a, c, e⟩ := h2.form
  exact ⟨a, _, c, e⟩
theorem PuR.snoc {w0 w : World} {lo : Nat} {v : Value} {L : List In} {TT : List Tr} {t : Tr} (h1 : TT.map Tr.x = L) (h3 : ∀ t ∈ TT, t.ok ∧ Pts w0 t.x t.u t.d) (hr : InRow w lo v (TT ++ [t])) (ht : t.ok ∧ Pts w0 t.x t.u t.d) : PuR w0 lo v (L ++ [t.x]) w :=
  ⟨TT ++ [t], by rw [List.map_append, h1]; rfl, hr, fun s hs => by
    rcases List.mem_append.1 hs with hs | hs
    · exact h3 s hs
    · rw [List.mem_singleton] at hs
      subst hs
      exact ht⟩
theorem PuR.insts {w0 w : World} {lo : Nat} {v : Value} {L : List In} (h : PuR w0 lo v L w) (ha : Af w0 w) : Insts w v L := by
  obtain ⟨TT, h1, h2, h3⟩ := h
  have hl : L.length = TT.length := by rw [← h1, List.length_map]
  have hc := h2.cap
  by_cases h0 : 0 < TT.length
  · obtain ⟨g, cap, cur, rfl, q1, q2, q3, q4, q5⟩ := h2.open h0
    refine ⟨by omega, some ⟨g, 0, none⟩, cap, by rw [hl], by omega, fun _ => ⟨g, 0, rfl, (Array.getElem?_eq_some_iff.1 q3).1, fun j hj => ?_⟩⟩
    have hj' : j < TT.length := by omega
    have e1 := List.getElem?_eq_getElem hj'
    have e2 : L[j]? = some (TT[j]).x := by rw [← h1, List.getElem?_map, e1]; rfl
    rw [nth_of e2]
    exact ⟨_, _, InB.inC (q5 j _ e1) q3, ((h3 _ (List.getElem_mem hj')).2).later ha⟩
  · have e0 : TT = [] := List.eq_nil_of_length_eq_zero (by omega)
    subst e0
    obtain ⟨a, c, e⟩ := h2.form
    rw [e]
    have : L = [] := by rw [← h1]; rfl
    rw [this]
    exact insts_nil _ _ _
theorem take_filterN (p : In → Bool) (l : List In) (k : Nat) (hk : k < l.length) : (l.take (k + 1)).filter p = (l.take k).filter p ++ (if p (nth l k) = true then [nth l k] else []) := by
  have e : l.take (k + 1) = l.take k ++ [nth l k] := by
    rw [List.take_add_one, nth_get l k hk]
    rfl
  rw [e, List.filter_append]
  congr 1
  by_cases h : p (nth l k) = true
  · simp [h]
  · simp [h]
theorem filter_takeN (p : In → Bool) (l : List In) (k : Nat) : ((l.take k).filter p).length ≤ l.length := by
  have h1 := List.length_filter_le p (l.take k)
  have h2 := List.length_take_le k l
  have h3 : (l.take k).length ≤ l.length := by rw [List.length_take]; omega
  omega
end Go.Proofs.YtdokglckfabdaaaDoor
/- One instance put where it stands: the program. -/
namespace Go.Proofs.YtdokglckfabdaaaDoor
open Go.RowKit Go.PlainAid
set_option linter.unusedVariables false

attribute [local go_sem] blkI_eq aggI_eq okAI_mk World.setRow_alloc_new
attribute [local go_sem ↓] load_inst_pre store_inst_pre
set_option maxRecDepth 100000 in
set_option maxHeartbeats 4000000 in
theorem impl_putN (v : Value) (l : List In) (x : In) (xu xd : Value) (w : World) (hv : Insts w v l) (hp : Pts w x xu xd) (hl : l.length ≤ 1048576) :
    Calls Tryd.prog 25 #[v, .agg #[.int .i64 x.rep, .int .i64 x.slot, .int .i64 x.bal, .int .i64 x.vbal, .int .i64 x.st, .int .i64 x.cmd.kind, .int .i64 x.cmd.client, .int .i64 x.cmd.no, .string x.cmd.set, .string x.cmd.name, .string x.cmd.tag, .int .i64 x.cmd.n, xu, .int .i64 x.seq, xd, .bool x.same], .func (.func 26) #[] #[]] w fun e w' => (∃ u, e = .returned u ∧ Insts w' u (putN l x)) ∧ Below w.heap.size w w' := by
  obtain ⟨h1, a, ca, rfl, hca, ha⟩ := hv
  generalize hn : l.length = n at h1 ha hca hl
  have HN := Lib.hid hn
  have HA := Lib.hid ha
  have PX := Lib.hid hp
  obtain ⟨⟨x1, x2, x3, rfl⟩, x4, x5, x6, rfl⟩ := hp.form
  clear hn ha hca hp
  have X0 := Lib.hid (Bx.new w 40 #[.int .i64 x.rep, .int .i64 x.slot, .int .i64 x.bal, .int .i64 x.vbal, .int .i64 x.st, .int .i64 x.cmd.kind, .int .i64 x.cmd.client, .int .i64 x.cmd.no, .string x.cmd.set, .string x.cmd.name, .string x.cmd.tag, .int .i64 x.cmd.n, .slice x1 x2 x3, .int .i64 x.seq, .slice x4 x5 x6, .bool x.same] _ rfl)
  have A0 := Lib.hid ((Af.refl w).alloc (.cells #[.int .i64 x.rep, .int .i64 x.slot, .int .i64 x.bal, .int .i64 x.vbal, .int .i64 x.st, .int .i64 x.cmd.kind, .int .i64 x.cmd.client, .int .i64 x.cmd.no, .string x.cmd.set, .string x.cmd.name, .string x.cmd.tag, .int .i64 x.cmd.n, .slice x1 x2 x3, .int .i64 x.seq, .slice x4 x5 x6, .bool x.same] 40))
  go_enter Tryd.func25, Tryd.ntmps25
  go_wp2
  go_loopw [7, 14] (fun u i wr => ∃ (k : Nat) (a' : Option Addr) (n' c' : Nat), k ≤ n ∧ i = .int .i64 k ∧ u = .slice a' n' c' ∧ PuR w (w.heap.size + 1) (.slice a' n' c') ((l.take k).filter (fun y => ltN y x)) wr ∧ Bx wr w.heap.size 40 #[.int .i64 x.rep, .int .i64 x.slot, .int .i64 x.bal, .int .i64 x.vbal, .int .i64 x.st, .int .i64 x.cmd.kind, .int .i64 x.cmd.client, .int .i64 x.cmd.no, .string x.cmd.set, .string x.cmd.name, .string x.cmd.tag, .int .i64 x.cmd.n, .slice x1 x2 x3, .int .i64 x.seq, .slice x4 x5 x6, .bool x.same] ∧ Af w wr) (fun _ i _ => n - (intOf i).toNat)
  case atStart => exact ⟨0, _, _, _, by omega, rfl, rfl, by simpa using PuR.nil _ _ _ _ (inRow_nil _ _), X0.out, A0.out⟩
  case round =>
    obtain ⟨k, a', n', c', hk, rfl, rfl, hr, hx, haf⟩ := hrel
    have X := Lib.hid hx
    have A := Lib.hid haf
    have hsz : w.heap.size + 1 ≤ wr.heap.size := by have := hx.lt; omega
    clear hx haf
    by_cases hlt : k < n
    · have R := Lib.hid hr
      clear hr
      obtain ⟨b, o, rfl, hb, hcb⟩ := HA.out (by omega)
      obtain ⟨u, d, cc, pp⟩ := hcb k hlt
      obtain ⟨m0, m1, m2, m3, m4, m5, m6, m7, m8, m9, m10, m11, m12, m13, m14, m15⟩ := cc.below A.out hb
      have PQ := Lib.hid pp
      obtain ⟨⟨a1, n1, c1, rfl⟩, a2, n2, c2, rfl⟩ := pp.form
      obtain ⟨q, hq⟩ : ∃ q, nth l k = q := ⟨_, rfl⟩
      have HQ := Lib.hid hq
      rw [hq] at PQ m0 m1 m2 m3 m4 m5 m6 m7 m8 m9 m10 m11 m13 m15
      have XZ := Lib.hid (X.out.alloc (.cells #[.int .i64 q.rep, .int .i64 q.slot, .int .i64 q.bal, .int .i64 q.vbal, .int .i64 q.st, .int .i64 q.cmd.kind, .int .i64 q.cmd.client, .int .i64 q.cmd.no, .string q.cmd.set, .string q.cmd.name, .string q.cmd.tag, .int .i64 q.cmd.n, .slice a1 n1 c1, .int .i64 q.seq, .slice a2 n2 c2, .bool q.same] 40))
      have AZ := Lib.hid (A.out.alloc (.cells #[.int .i64 q.rep, .int .i64 q.slot, .int .i64 q.bal, .int .i64 q.vbal, .int .i64 q.st, .int .i64 q.cmd.kind, .int .i64 q.cmd.client, .int .i64 q.cmd.no, .string q.cmd.set, .string q.cmd.name, .string q.cmd.tag, .int .i64 q.cmd.n, .slice a1 n1 c1, .int .i64 q.seq, .slice a2 n2 c2, .bool q.same] 40))
      have RZ := Lib.hid (R.out.later ((Below.refl _ _).alloc (Nat.le_refl _) (.cells #[.int .i64 q.rep, .int .i64 q.slot, .int .i64 q.bal, .int .i64 q.vbal, .int .i64 q.st, .int .i64 q.cmd.kind, .int .i64 q.cmd.client, .int .i64 q.cmd.no, .string q.cmd.set, .string q.cmd.name, .string q.cmd.tag, .int .i64 q.cmd.n, .slice a1 n1 c1, .int .i64 q.seq, .slice a2 n2 c2, .bool q.same] 40)))
      have YZ := Lib.hid (Bx.new wr 40 #[.int .i64 q.rep, .int .i64 q.slot, .int .i64 q.bal, .int .i64 q.vbal, .int .i64 q.st, .int .i64 q.cmd.kind, .int .i64 q.cmd.client, .int .i64 q.cmd.no, .string q.cmd.set, .string q.cmd.name, .string q.cmd.tag, .int .i64 q.cmd.n, .slice a1 n1 c1, .int .i64 q.seq, .slice a2 n2 c2, .bool q.same] _ rfl)
      have PQ2 := Lib.hid (PQ.out.later AZ.out)
      have PX2 := Lib.hid (PX.out.later AZ.out)
      obtain ⟨⟨rk1, rk2⟩, ⟨ry1, ry2⟩, hzn⟩ := And.intro (XZ.out.rowI rfl) (And.intro (YZ.out.rowI rfl) (rowPI_new wr))
      have y1 : (k : Int) < (n : Int) := by omega
      have y0 : (0 : Int) ≤ (k : Int) := by omega
      clear hcb cc pp hq X A R
      go_wp2_with fail
      clear rk1 rk2 ry1 ry2 hzn m0 m1 m2 m3 m4 m5 m6 m7 m8 m9 m10 m11 m12 m13 m14 m15
      refine (impl_ilt q x _ _ _ _ _ PQ2.out PX2.out).mono ?_
      rintro e w2 ⟨rfl, b2⟩
      have X2 := Lib.hid (XZ.out.after b2)
      have Y2 := Lib.hid (YZ.out.after b2)
      have R2 := Lib.hid (RZ.out.later b2)
      have A2 := Lib.hid (AZ.out.after b2)
      have hsz2 : w.heap.size + 1 ≤ w2.heap.size := by have := b2.size; simp at this; omega
      clear b2 XZ YZ RZ AZ PQ2 PX2
      cases hq : ltN q x
      · have HF := Lib.hid (show (l.take (k + 1)).filter (fun y => ltN y x) = (l.take k).filter (fun y => ltN y x) by rw [take_filterN _ l k (by rw [HN.out]; exact hlt), HQ.out, if_neg (by rw [hq]; simp), List.append_nil])
        have hq' : ltB q.rep q.slot x.rep x.slot = false := hq
        rw [hq']
        clear hq hq'
        go_wp2
        go_roundw
        case rel => exact ⟨k + 1, a', n', c', by omega, by go_num, rfl, by rw [HF.out]; exact R2.out, X2.out, A2.out⟩
        case measure => simp only [intOf]; omega
      · have HF := Lib.hid (show (l.take (k + 1)).filter (fun y => ltN y x) = (l.take k).filter (fun y => ltN y x) ++ [q] by rw [take_filterN _ l k (by rw [HN.out]; exact hlt), HQ.out, if_pos hq])
        have hq' : ltB q.rep q.slot x.rep x.slot = true := hq
        rw [hq']
        clear hq hq'
        obtain ⟨TT, h1, h2, h3⟩ := R2.out
        have h1R := Lib.hid h1
        have h2R := Lib.hid h2
        have h3R := Lib.hid h3
        have hTl : TT.length ≤ 2097153 := by
          have e := congrArg List.length h1
          rw [List.length_map] at e
          have f1 := filter_takeN (fun y => ltN y x) l k
          rw [HN.out] at f1
          rw [e]; omega
        clear h1 h2 h3
        obtain ⟨rz1, rz2⟩ := Y2.out.rowI rfl
        go_wp2_with (at_builtin; refine wp_append_tr rfl (.tmp 22) (.tmp 24) rfl (w.heap.size + 1) (.slice a' n' c') TT ⟨q, .slice a1 n1 c1, .slice a2 n2 c2⟩ rfl (h2R.out.later ((Below.refl _ _).alloc (Nat.le_refl _) _)) w2.heap.size 1 rfl (Bx.new w2 _ _ _ rfl) ⟨⟨_, _, _, rfl⟩, _, _, _, rfl⟩ (by omega) (by simp; omega) ?_; intro v6 w6 hr6 hg6; have X6 := Lib.hid ((X2.out.alloc (.cells #[.int .i64 q.rep, .int .i64 q.slot, .int .i64 q.bal, .int .i64 q.vbal, .int .i64 q.st, .int .i64 q.cmd.kind, .int .i64 q.cmd.client, .int .i64 q.cmd.no, .string q.cmd.set, .string q.cmd.name, .string q.cmd.tag, .int .i64 q.cmd.n, .slice a1 n1 c1, .int .i64 q.seq, .slice a2 n2 c2, .bool q.same] 40)).keep hg6 (fun e => by have := (h2R.out.lt _ e.symm).1; omega)); have A6 := Lib.hid ((A2.out.alloc (.cells #[.int .i64 q.rep, .int .i64 q.slot, .int .i64 q.bal, .int .i64 q.vbal, .int .i64 q.st, .int .i64 q.cmd.kind, .int .i64 q.cmd.client, .int .i64 q.cmd.no, .string q.cmd.set, .string q.cmd.name, .string q.cmd.tag, .int .i64 q.cmd.n, .slice a1 n1 c1, .int .i64 q.seq, .slice a2 n2 c2, .bool q.same] 40)).grow hg6 (fun k hk => by have := (h2R.out.lt _ hk).1; omega)); have R6 := Lib.hid (PuR.snoc h1R.out h3R.out hr6 ⟨⟨⟨_, _, _, rfl⟩, _, _, _, rfl⟩, PQ.out⟩); obtain ⟨a6, n6, c6, hv6⟩ : ∃ aa nn cc, v6 = .slice aa nn cc := (by obtain ⟨aa, cc, ee⟩ := hr6.form; exact ⟨aa, _, cc, ee⟩); subst hv6; clear hr6 hg6)
        go_roundw
        case rel => exact ⟨k + 1, _, _, _, by omega, by go_num, rfl, by rw [HF.out]; exact R6.out, X6.out, A6.out⟩
        case measure => simp only [intOf]; omega
    · have hkn : n = k := by omega
      clear hlt
      subst hkn
      have HT := Lib.hid (show l.take n = l by rw [← HN.out, List.take_length])
      rw [HT.out] at hr
      have R := Lib.hid hr
      clear hr
      obtain ⟨TT, h1, h2, h3⟩ := R.out
      have h1R := Lib.hid h1
      have h2R := Lib.hid h2
      have h3R := Lib.hid h3
      have hTl : TT.length ≤ 2097153 := by
        have e := congrArg List.length h1
        rw [List.length_map] at e
        have f1 := List.length_filter_le (fun y => ltN y x) l
        rw [HN.out] at f1
        rw [e]
        omega
      clear h1 h2 h3 X0 A0
      obtain ⟨rz1, rz2⟩ := X.out.rowI rfl
      go_wp2_with (at_builtin; refine wp_append_tr rfl (.tmp 27) (.tmp 29) rfl (w.heap.size + 1) (.slice a' n' c') TT ⟨x, .slice x1 x2 x3, .slice x4 x5 x6⟩ rfl (h2R.out.later ((Below.refl _ _).alloc (Nat.le_refl _) _)) wr.heap.size 1 rfl (Bx.new wr _ _ _ rfl) ⟨⟨_, _, _, rfl⟩, _, _, _, rfl⟩ (by omega) (by simp; omega) ?_; intro v6 w6 hr6 hg6; have X6 := Lib.hid ((X.out.alloc (.cells #[.int .i64 x.rep, .int .i64 x.slot, .int .i64 x.bal, .int .i64 x.vbal, .int .i64 x.st, .int .i64 x.cmd.kind, .int .i64 x.cmd.client, .int .i64 x.cmd.no, .string x.cmd.set, .string x.cmd.name, .string x.cmd.tag, .int .i64 x.cmd.n, .slice x1 x2 x3, .int .i64 x.seq, .slice x4 x5 x6, .bool x.same] 40)).keep hg6 (fun e => by have := (h2R.out.lt _ e.symm).1; omega)); have A6 := Lib.hid ((A.out.alloc (.cells #[.int .i64 x.rep, .int .i64 x.slot, .int .i64 x.bal, .int .i64 x.vbal, .int .i64 x.st, .int .i64 x.cmd.kind, .int .i64 x.cmd.client, .int .i64 x.cmd.no, .string x.cmd.set, .string x.cmd.name, .string x.cmd.tag, .int .i64 x.cmd.n, .slice x1 x2 x3, .int .i64 x.seq, .slice x4 x5 x6, .bool x.same] 40)).grow hg6 (fun k hk => by have := (h2R.out.lt _ hk).1; omega)); have R6 := Lib.hid (PuR.snoc h1R.out h3R.out hr6 ⟨⟨⟨_, _, _, rfl⟩, _, _, _, rfl⟩, PX.out⟩); obtain ⟨a6, n6, c6, hv6⟩ : ∃ aa nn cc, v6 = .slice aa nn cc := (by obtain ⟨aa, cc, ee⟩ := hr6.form; exact ⟨aa, _, cc, ee⟩); subst hv6; clear hr6 hg6)
      clear rz1 rz2 X R A h1R h2R h3R hTl

      go_loopw [7, 33] (fun u i wr => ∃ (k : Nat) (a' : Option Addr) (n' c' : Nat), k ≤ n ∧ i = .int .i64 k ∧ u = .slice a' n' c' ∧ PuR w (w.heap.size + 1) (.slice a' n' c') (l.filter (fun y => ltN y x) ++ [x] ++ (l.take k).filter (fun y => ltN x y)) wr ∧ Bx wr w.heap.size 40 #[.int .i64 x.rep, .int .i64 x.slot, .int .i64 x.bal, .int .i64 x.vbal, .int .i64 x.st, .int .i64 x.cmd.kind, .int .i64 x.cmd.client, .int .i64 x.cmd.no, .string x.cmd.set, .string x.cmd.name, .string x.cmd.tag, .int .i64 x.cmd.n, .slice x1 x2 x3, .int .i64 x.seq, .slice x4 x5 x6, .bool x.same] ∧ Af w wr) (fun _ i _ => n - (intOf i).toNat)
      case atStart => exact ⟨0, _, _, _, by omega, rfl, rfl, by simpa using R6.out, X6.out, A6.out⟩
      case round =>
        obtain ⟨k, a', n', c', hk, rfl, rfl, hr, hx, haf⟩ := hrel
        have X := Lib.hid hx
        have A := Lib.hid haf
        have hsz : w.heap.size + 1 ≤ wr.heap.size := by have := hx.lt; omega
        clear hx haf
        by_cases hlt : k < n
        · have R := Lib.hid hr
          clear hr
          obtain ⟨b, o, rfl, hb, hcb⟩ := HA.out (by omega)
          obtain ⟨u, d, cc, pp⟩ := hcb k hlt
          obtain ⟨m0, m1, m2, m3, m4, m5, m6, m7, m8, m9, m10, m11, m12, m13, m14, m15⟩ := cc.below A.out hb
          have PQ := Lib.hid pp
          obtain ⟨⟨a1, n1, c1, rfl⟩, a2, n2, c2, rfl⟩ := pp.form
          obtain ⟨q, hq⟩ : ∃ q, nth l k = q := ⟨_, rfl⟩
          have HQ := Lib.hid hq
          rw [hq] at PQ m0 m1 m2 m3 m4 m5 m6 m7 m8 m9 m10 m11 m13 m15
          have XZ := Lib.hid (X.out.alloc (.cells #[.int .i64 q.rep, .int .i64 q.slot, .int .i64 q.bal, .int .i64 q.vbal, .int .i64 q.st, .int .i64 q.cmd.kind, .int .i64 q.cmd.client, .int .i64 q.cmd.no, .string q.cmd.set, .string q.cmd.name, .string q.cmd.tag, .int .i64 q.cmd.n, .slice a1 n1 c1, .int .i64 q.seq, .slice a2 n2 c2, .bool q.same] 40))
          have AZ := Lib.hid (A.out.alloc (.cells #[.int .i64 q.rep, .int .i64 q.slot, .int .i64 q.bal, .int .i64 q.vbal, .int .i64 q.st, .int .i64 q.cmd.kind, .int .i64 q.cmd.client, .int .i64 q.cmd.no, .string q.cmd.set, .string q.cmd.name, .string q.cmd.tag, .int .i64 q.cmd.n, .slice a1 n1 c1, .int .i64 q.seq, .slice a2 n2 c2, .bool q.same] 40))
          have RZ := Lib.hid (R.out.later ((Below.refl _ _).alloc (Nat.le_refl _) (.cells #[.int .i64 q.rep, .int .i64 q.slot, .int .i64 q.bal, .int .i64 q.vbal, .int .i64 q.st, .int .i64 q.cmd.kind, .int .i64 q.cmd.client, .int .i64 q.cmd.no, .string q.cmd.set, .string q.cmd.name, .string q.cmd.tag, .int .i64 q.cmd.n, .slice a1 n1 c1, .int .i64 q.seq, .slice a2 n2 c2, .bool q.same] 40)))
          have YZ := Lib.hid (Bx.new wr 40 #[.int .i64 q.rep, .int .i64 q.slot, .int .i64 q.bal, .int .i64 q.vbal, .int .i64 q.st, .int .i64 q.cmd.kind, .int .i64 q.cmd.client, .int .i64 q.cmd.no, .string q.cmd.set, .string q.cmd.name, .string q.cmd.tag, .int .i64 q.cmd.n, .slice a1 n1 c1, .int .i64 q.seq, .slice a2 n2 c2, .bool q.same] _ rfl)
          have PQ2 := Lib.hid (PQ.out.later AZ.out)
          have PX2 := Lib.hid (PX.out.later AZ.out)
          obtain ⟨⟨rk1, rk2⟩, ⟨ry1, ry2⟩, hzn⟩ := And.intro (XZ.out.rowI rfl) (And.intro (YZ.out.rowI rfl) (rowPI_new wr))
          have y1 : (k : Int) < (n : Int) := by omega
          have y0 : (0 : Int) ≤ (k : Int) := by omega
          clear hcb cc pp hq X A R
          go_wp2_with fail
          clear rk1 rk2 ry1 ry2 hzn m0 m1 m2 m3 m4 m5 m6 m7 m8 m9 m10 m11 m12 m13 m14 m15
          refine (impl_ilt x q _ _ _ _ _ PX2.out PQ2.out).mono ?_
          rintro e w2 ⟨rfl, b2⟩
          have X2 := Lib.hid (XZ.out.after b2)
          have Y2 := Lib.hid (YZ.out.after b2)
          have R2 := Lib.hid (RZ.out.later b2)
          have A2 := Lib.hid (AZ.out.after b2)
          have hsz2 : w.heap.size + 1 ≤ w2.heap.size := by have := b2.size; simp at this; omega
          clear b2 XZ YZ RZ AZ PQ2 PX2
          cases hq : ltN x q
          · have HF := Lib.hid (show (l.take (k + 1)).filter (fun y => ltN x y) = (l.take k).filter (fun y => ltN x y) by rw [take_filterN _ l k (by rw [HN.out]; exact hlt), HQ.out, if_neg (by rw [hq]; simp), List.append_nil])
            have hq' : ltB x.rep x.slot q.rep q.slot = false := hq
            rw [hq']
            clear hq hq'
            go_wp2
            go_roundw
            case rel => exact ⟨k + 1, a', n', c', by omega, by go_num, rfl, by rw [HF.out]; exact R2.out, X2.out, A2.out⟩
            case measure => simp only [intOf]; omega
          · have HF := Lib.hid (show (l.take (k + 1)).filter (fun y => ltN x y) = (l.take k).filter (fun y => ltN x y) ++ [q] by rw [take_filterN _ l k (by rw [HN.out]; exact hlt), HQ.out, if_pos hq])
            have hq' : ltB x.rep x.slot q.rep q.slot = true := hq
            rw [hq']
            clear hq hq'
            obtain ⟨TT, h1, h2, h3⟩ := R2.out
            have h1R := Lib.hid h1
            have h2R := Lib.hid h2
            have h3R := Lib.hid h3
            have hTl : TT.length ≤ 2097153 := by
              have e := congrArg List.length h1
              rw [List.length_map] at e
              have f1 := filter_takeN (fun y => ltN x y) l k
              rw [HN.out] at f1
              have f2 := List.length_filter_le (fun y => ltN y x) l; rw [HN.out] at f2; rw [e]; simp only [List.length_append, List.length_singleton]; omega
            clear h1 h2 h3
            obtain ⟨rz1, rz2⟩ := Y2.out.rowI rfl
            go_wp2_with (at_builtin; refine wp_append_tr rfl (.tmp 41) (.tmp 43) rfl (w.heap.size + 1) (.slice a' n' c') TT ⟨q, .slice a1 n1 c1, .slice a2 n2 c2⟩ rfl (h2R.out.later ((Below.refl _ _).alloc (Nat.le_refl _) _)) w2.heap.size 1 rfl (Bx.new w2 _ _ _ rfl) ⟨⟨_, _, _, rfl⟩, _, _, _, rfl⟩ (by omega) (by simp; omega) ?_; intro v6 w6 hr6 hg6; have X6 := Lib.hid ((X2.out.alloc (.cells #[.int .i64 q.rep, .int .i64 q.slot, .int .i64 q.bal, .int .i64 q.vbal, .int .i64 q.st, .int .i64 q.cmd.kind, .int .i64 q.cmd.client, .int .i64 q.cmd.no, .string q.cmd.set, .string q.cmd.name, .string q.cmd.tag, .int .i64 q.cmd.n, .slice a1 n1 c1, .int .i64 q.seq, .slice a2 n2 c2, .bool q.same] 40)).keep hg6 (fun e => by have := (h2R.out.lt _ e.symm).1; omega)); have A6 := Lib.hid ((A2.out.alloc (.cells #[.int .i64 q.rep, .int .i64 q.slot, .int .i64 q.bal, .int .i64 q.vbal, .int .i64 q.st, .int .i64 q.cmd.kind, .int .i64 q.cmd.client, .int .i64 q.cmd.no, .string q.cmd.set, .string q.cmd.name, .string q.cmd.tag, .int .i64 q.cmd.n, .slice a1 n1 c1, .int .i64 q.seq, .slice a2 n2 c2, .bool q.same] 40)).grow hg6 (fun k hk => by have := (h2R.out.lt _ hk).1; omega)); have R6 := Lib.hid (PuR.snoc h1R.out h3R.out hr6 ⟨⟨⟨_, _, _, rfl⟩, _, _, _, rfl⟩, PQ.out⟩); obtain ⟨a6, n6, c6, hv6⟩ : ∃ aa nn cc, v6 = .slice aa nn cc := (by obtain ⟨aa, cc, ee⟩ := hr6.form; exact ⟨aa, _, cc, ee⟩); subst hv6; clear hr6 hg6)
            go_roundw
            case rel => exact ⟨k + 1, _, _, _, by omega, by go_num, rfl, by rw [HF.out]; rw [← List.append_assoc]; exact R6.out, X6.out, A6.out⟩
            case measure => simp only [intOf]; omega
        · have hkn : n = k := by omega
          clear hlt
          subst hkn
          have HT := Lib.hid (show l.take n = l by rw [← HN.out, List.take_length])
          rw [HT.out] at hr
          have R := Lib.hid hr
          clear hr
          go_wp2
          go_ret
          exact ⟨⟨_, rfl, by have h := R.out.insts A.out; unfold putN; rw [← List.append_assoc]; exact h⟩, A.out⟩
end Go.Proofs.YtdokglckfabdaaaDoor
/- One instance put where it stands: the model. -/
namespace Go.Proofs.YtdokglckfabdaaaDoor
open Go.RowKit Go.PlainAid
set_option linter.unusedVariables false

theorem stepP_len (x : In) (s : List In × Bool) (y : In) : (stepP x s y).1.length ≤ s.1.length + 2 := by
  unfold stepP
  dsimp only
  split <;> split <;> simp <;> omega
theorem foldP_len (x : In) : ∀ (l : List In) (s : List In × Bool), (l.foldl (stepP x) s).1.length ≤ s.1.length + 2 * l.length
  | [], s => by simp
  | y :: l, s => by
    have h1 := foldP_len x l (stepP x s y)
    have h2 := stepP_len x s y
    rw [List.foldl_cons, List.length_cons]
    omega
theorem foldP_step (x : In) (l : List In) (k : Nat) (h : k < l.length) : (l.take (k + 1)).foldl (stepP x) ([], false) = stepP x ((l.take k).foldl (stepP x) ([], false)) (nth l k) := by
  rw [List.take_add_one, nth_get l k h, List.foldl_append]
  rfl
theorem stepP_eq (x y : In) (acc : List In) (p b : Bool) (hb : (!p && !ltN y x) = b) (s1 : List In) (p1 : Bool) (h1 : (s1, p1) = if b = true then (acc ++ [x], true) else (acc, p)) :
    stepP x (acc, p) y = if y.rep = x.rep ∧ y.slot = x.slot then (s1, p1) else (s1 ++ [y], p1) := by
  unfold stepP
  dsimp only
  rw [hb, ← h1]
attribute [local go_sem] blkI_eq aggI_eq okAI_mk World.setRow_alloc_new
attribute [local go_sem ↓] load_inst_pre store_inst_pre
set_option maxRecDepth 100000 in
set_option maxHeartbeats 8000000 in
theorem spec_putN (v : Value) (l : List In) (x : In) (xu xd : Value) (w : World) (hv : Insts w v l) (hp : Pts w x xu xd) (hl : l.length ≤ 1048576) (hsr : SrtN l) :
    Calls Tryd.prog 20 #[v, .agg #[.int .i64 x.rep, .int .i64 x.slot, .int .i64 x.bal, .int .i64 x.vbal, .int .i64 x.st, .int .i64 x.cmd.kind, .int .i64 x.cmd.client, .int .i64 x.cmd.no, .string x.cmd.set, .string x.cmd.name, .string x.cmd.tag, .int .i64 x.cmd.n, xu, .int .i64 x.seq, xd, .bool x.same]] w fun e w' => (∃ u, e = .returned u ∧ Insts w' u (putN l x)) ∧ Below w.heap.size w w' := by
  obtain ⟨h1, a, ca, rfl, hca, ha⟩ := hv
  generalize hn : l.length = n at h1 ha hca hl
  have HN := Lib.hid hn
  have HA := Lib.hid ha
  have PX := Lib.hid hp
  have HSR := Lib.hid hsr
  obtain ⟨⟨x1, x2, x3, rfl⟩, x4, x5, x6, rfl⟩ := hp.form
  clear hn ha hca hp hsr
  have X0 := Lib.hid (Bx.new w 40 #[.int .i64 x.rep, .int .i64 x.slot, .int .i64 x.bal, .int .i64 x.vbal, .int .i64 x.st, .int .i64 x.cmd.kind, .int .i64 x.cmd.client, .int .i64 x.cmd.no, .string x.cmd.set, .string x.cmd.name, .string x.cmd.tag, .int .i64 x.cmd.n, .slice x1 x2 x3, .int .i64 x.seq, .slice x4 x5 x6, .bool x.same] _ rfl)
  have A0 := Lib.hid ((Af.refl w).alloc (.cells #[.int .i64 x.rep, .int .i64 x.slot, .int .i64 x.bal, .int .i64 x.vbal, .int .i64 x.st, .int .i64 x.cmd.kind, .int .i64 x.cmd.client, .int .i64 x.cmd.no, .string x.cmd.set, .string x.cmd.name, .string x.cmd.tag, .int .i64 x.cmd.n, .slice x1 x2 x3, .int .i64 x.seq, .slice x4 x5 x6, .bool x.same] 40))
  go_enter Tryd.func20, Tryd.ntmps20
  go_wp2
  go_loopw [5, 6, 7] (fun u p i wr => ∃ (k : Nat) (a' : Option Addr) (n' c' : Nat) (pb : Bool) (acc : List In), k ≤ n ∧ i = .int .i64 k ∧ p = .bool pb ∧ u = .slice a' n' c' ∧ PuR w (w.heap.size + 1) (.slice a' n' c') acc wr ∧ (l.take k).foldl (stepP x) ([], false) = (acc, pb) ∧ Bx wr w.heap.size 40 #[.int .i64 x.rep, .int .i64 x.slot, .int .i64 x.bal, .int .i64 x.vbal, .int .i64 x.st, .int .i64 x.cmd.kind, .int .i64 x.cmd.client, .int .i64 x.cmd.no, .string x.cmd.set, .string x.cmd.name, .string x.cmd.tag, .int .i64 x.cmd.n, .slice x1 x2 x3, .int .i64 x.seq, .slice x4 x5 x6, .bool x.same] ∧ Af w wr) (fun _ _ i _ => n - (intOf i).toNat)
  case atStart => exact ⟨0, _, _, _, false, [], by omega, rfl, rfl, rfl, PuR.nil _ _ _ _ (by have h := inRow_new (w.alloc (.cells #[.int .i64 x.rep, .int .i64 x.slot, .int .i64 x.bal, .int .i64 x.vbal, .int .i64 x.st, .int .i64 x.cmd.kind, .int .i64 x.cmd.client, .int .i64 x.cmd.no, .string x.cmd.set, .string x.cmd.name, .string x.cmd.tag, .int .i64 x.cmd.n, .slice x1 x2 x3, .int .i64 x.seq, .slice x4 x5 x6, .bool x.same] 40)) (w.heap.size + 1) (by simp); simpa using h), rfl, X0.out.alloc _, A0.out.alloc _⟩
  case round =>
    clear X0 A0
    obtain ⟨k, a', n', c', pb, acc, hk, rfl, rfl, rfl, hr, hf, hx, haf⟩ := hrel
    have R := Lib.hid hr
    have X := Lib.hid hx
    have A := Lib.hid haf
    have HF := Lib.hid hf
    have hsz : w.heap.size + 1 ≤ wr.heap.size := by have := hx.lt; omega
    have hal : acc.length ≤ 2 * n := by
      have e := foldP_len x (l.take k) ([], false)
      rw [hf] at e
      simp only [List.length_nil, List.length_take] at e
      omega
    clear hr hx haf hf
    by_cases hlt : k < n
    · obtain ⟨b, o, rfl, hb, hcb⟩ := HA.out (by omega)
      obtain ⟨u, d, cc, pp⟩ := hcb k hlt
      have PQ := Lib.hid pp
      obtain ⟨⟨a1, n1, c1, rfl⟩, a2, n2, c2, rfl⟩ := pp.form
      obtain ⟨q, hq⟩ : ∃ q, nth l k = q := ⟨_, rfl⟩
      have HQ := Lib.hid hq
      rw [hq] at PQ cc
      have HCK := Lib.hid (fun W (h : Af w W) => cc.below h hb)
      have y1 : (k : Int) < (n : Int) := by omega
      have y0 : (0 : Int) ≤ (k : Int) := by omega
      have HL := Lib.hid (fun W (h : LatI wr W) => And.intro (HCK.out W (A.out.after h)) (X.out.after h).c16)
      clear hcb cc pp hq
      obtain ⟨bb, hbb⟩ : ∃ bb : Bool, (!pb && !ltN q x) = bb := ⟨_, rfl⟩
      have HBB := Lib.hid hbb
      go_upto_region 6 with fail
      go_cut [27] from 9 to 46 (fun s wx => s = .bool bb ∧ LatI wr wx)
      case first =>
        cases pb
        · cases hq : ltN q x
          · have hbt : bb = true := by rw [← hbb, hq]; rfl
            have hq' : ltB q.rep q.slot x.rep x.slot = false := hq
            have HC := Lib.hid (fun W (h : LatI wr W) => l_spec_lt _ _ _ _ _ hq' wr W h)
            clear hq hq' hbb
            refine wp_region_quiet (C := LatI wr) (by kernel_rfl) (by kernel_rfl) (show LatI wr (World.drew _) from Below.drew (Below.refl _ _)) ?_
            dsimp only
            repeat (first | go_big_quiet_skip | (go_big_quiet_want; go_big_quiet_op; (first | go_big_quiet_on | (refine ⟨_, fun _ _ => rfl, ?_⟩; go_big_quiet_on) | (refine ⟨.agg #[.int .i64 q.rep, .int .i64 q.slot], ?_, ?_⟩; intro w' hw'; obtain ⟨⟨e0, e1, e2, e3, e4, e5, e6, e7, e8, e9, e10, e11, e12, e13, e14, e15⟩, i0, i1, i2, i3, i4, i5, i6, i7, i8, i9, i10, i11, i12, i13, i14, i15⟩ := HL.out w' hw'; simp [e0, e1, Result.andThen]; go_big_quiet_on) | (refine ⟨.agg #[.int .i64 x.rep, .int .i64 x.slot], ?_, ?_⟩; intro w' hw'; obtain ⟨⟨e0, e1, e2, e3, e4, e5, e6, e7, e8, e9, e10, e11, e12, e13, e14, e15⟩, i0, i1, i2, i3, i4, i5, i6, i7, i8, i9, i10, i11, i12, i13, i14, i15⟩ := HL.out w' hw'; simp [i0, i1, Result.andThen]; go_big_quiet_on) | (refine ⟨_, fun w' hw' => HC.out w' hw', ?_⟩; go_big_quiet_on))))
            refine wpQuiet_nil ?_
            intro w2 L2
            go_wp2
            go_meet
            case rel => exact ⟨by rw [hbt], L2⟩
          · have hbt : bb = false := by rw [← hbb, hq]; rfl
            have hq' : ltB q.rep q.slot x.rep x.slot = true := hq
            have HC := Lib.hid (fun W (h : LatI wr W) => l_spec_lt _ _ _ _ _ hq' wr W h)
            clear hq hq' hbb
            refine wp_region_quiet (C := LatI wr) (by kernel_rfl) (by kernel_rfl) (show LatI wr (World.drew _) from Below.drew (Below.refl _ _)) ?_
            dsimp only
            repeat (first | go_big_quiet_skip | (go_big_quiet_want; go_big_quiet_op; (first | go_big_quiet_on | (refine ⟨_, fun _ _ => rfl, ?_⟩; go_big_quiet_on) | (refine ⟨.agg #[.int .i64 q.rep, .int .i64 q.slot], ?_, ?_⟩; intro w' hw'; obtain ⟨⟨e0, e1, e2, e3, e4, e5, e6, e7, e8, e9, e10, e11, e12, e13, e14, e15⟩, i0, i1, i2, i3, i4, i5, i6, i7, i8, i9, i10, i11, i12, i13, i14, i15⟩ := HL.out w' hw'; simp [e0, e1, Result.andThen]; go_big_quiet_on) | (refine ⟨.agg #[.int .i64 x.rep, .int .i64 x.slot], ?_, ?_⟩; intro w' hw'; obtain ⟨⟨e0, e1, e2, e3, e4, e5, e6, e7, e8, e9, e10, e11, e12, e13, e14, e15⟩, i0, i1, i2, i3, i4, i5, i6, i7, i8, i9, i10, i11, i12, i13, i14, i15⟩ := HL.out w' hw'; simp [i0, i1, Result.andThen]; go_big_quiet_on) | (refine ⟨_, fun w' hw' => HC.out w' hw', ?_⟩; go_big_quiet_on))))
            refine wpQuiet_nil ?_
            intro w2 L2
            go_wp2
            go_meet
            case rel => exact ⟨by rw [hbt], L2⟩
        · have hbt : bb = false := by rw [← hbb]; rfl
          clear hbb
          refine wp_region_quiet (C := LatI wr) (by kernel_rfl) (by kernel_rfl) (show LatI wr (World.drew _) from Below.drew (Below.refl _ _)) ?_
          dsimp only
          repeat (first | go_big_quiet_skip | (go_big_quiet_want; go_big_quiet_op; (first | go_big_quiet_on | (refine ⟨_, fun _ _ => rfl, ?_⟩; go_big_quiet_on) | (refine ⟨.agg #[.int .i64 q.rep, .int .i64 q.slot], ?_, ?_⟩; intro w' hw'; obtain ⟨⟨e0, e1, e2, e3, e4, e5, e6, e7, e8, e9, e10, e11, e12, e13, e14, e15⟩, i0, i1, i2, i3, i4, i5, i6, i7, i8, i9, i10, i11, i12, i13, i14, i15⟩ := HL.out w' hw'; simp [e0, e1, Result.andThen]; go_big_quiet_on) | (refine ⟨.agg #[.int .i64 x.rep, .int .i64 x.slot], ?_, ?_⟩; intro w' hw'; obtain ⟨⟨e0, e1, e2, e3, e4, e5, e6, e7, e8, e9, e10, e11, e12, e13, e14, e15⟩, i0, i1, i2, i3, i4, i5, i6, i7, i8, i9, i10, i11, i12, i13, i14, i15⟩ := HL.out w' hw'; simp [i0, i1, Result.andThen]; go_big_quiet_on))))
          refine wpQuiet_nil ?_
          intro w2 L2
          go_wp2
          go_meet
          case rel => exact ⟨by rw [hbt], L2⟩
      case rest =>
        clear hbb
        obtain ⟨rfl, hL⟩ := hcut
        have X := Lib.hid (X.out.after hL)
        have A := Lib.hid (A.out.after hL)
        have R := Lib.hid (R.out.later hL)
        have hsz : w.heap.size + 1 ≤ wc.heap.size := by have := hL.size; omega
        clear hL HL
        go_upto_if 27 with fail
        go_cut [5, 6] from 9 to 46 (fun ov pv wx => ∃ (a1 : Option Addr) (n1 c1 : Nat) (acc2 : List In) (p2 : Bool), ov = .slice a1 n1 c1 ∧ pv = .bool p2 ∧ PuR w (w.heap.size + 1) (.slice a1 n1 c1) acc2 wx ∧ (acc2, p2) = (if bb = true then (acc ++ [x], true) else (acc, pb)) ∧ acc2.length ≤ 2 * n + 1 ∧ Bx wx w.heap.size 40 #[.int .i64 x.rep, .int .i64 x.slot, .int .i64 x.bal, .int .i64 x.vbal, .int .i64 x.st, .int .i64 x.cmd.kind, .int .i64 x.cmd.client, .int .i64 x.cmd.no, .string x.cmd.set, .string x.cmd.name, .string x.cmd.tag, .int .i64 x.cmd.n, .slice x1 x2 x3, .int .i64 x.seq, .slice x4 x5 x6, .bool x.same] ∧ Af w wx)
        case first =>
          cases bb
          · go_wp2
            go_meet
            case rel => exact ⟨_, _, _, acc, pb, rfl, rfl, R.out, rfl, by omega, X.out, A.out⟩
          · obtain ⟨TT, h1, h2, h3⟩ := R.out
            have h1R := Lib.hid h1
            have h2R := Lib.hid h2
            have h3R := Lib.hid h3
            have hTl : TT.length ≤ 4194304 := by
              have e := congrArg List.length h1
              rw [List.length_map] at e
              omega
            clear h1 h2 h3
            obtain ⟨rz1, rz2⟩ := X.out.rowI rfl
            go_wp2_with (at_builtin; refine wp_append_tr rfl (.tmp 28) (.tmp 30) rfl (w.heap.size + 1) (.slice a' n' c') TT ⟨x, .slice x1 x2 x3, .slice x4 x5 x6⟩ rfl (h2R.out.later ((Below.refl _ _).alloc (Nat.le_refl _) _)) wc.heap.size 1 rfl (Bx.new wc _ _ _ rfl) ⟨⟨_, _, _, rfl⟩, _, _, _, rfl⟩ (by omega) (by simp; omega) ?_; intro v6 w6 hr6 hg6; have X6 := Lib.hid ((X.out.alloc (.cells #[.int .i64 x.rep, .int .i64 x.slot, .int .i64 x.bal, .int .i64 x.vbal, .int .i64 x.st, .int .i64 x.cmd.kind, .int .i64 x.cmd.client, .int .i64 x.cmd.no, .string x.cmd.set, .string x.cmd.name, .string x.cmd.tag, .int .i64 x.cmd.n, .slice x1 x2 x3, .int .i64 x.seq, .slice x4 x5 x6, .bool x.same] 40)).keep hg6 (fun e => by have := (h2R.out.lt _ e.symm).1; omega)); have A6 := Lib.hid ((A.out.alloc (.cells #[.int .i64 x.rep, .int .i64 x.slot, .int .i64 x.bal, .int .i64 x.vbal, .int .i64 x.st, .int .i64 x.cmd.kind, .int .i64 x.cmd.client, .int .i64 x.cmd.no, .string x.cmd.set, .string x.cmd.name, .string x.cmd.tag, .int .i64 x.cmd.n, .slice x1 x2 x3, .int .i64 x.seq, .slice x4 x5 x6, .bool x.same] 40)).grow hg6 (fun k hk => by have := (h2R.out.lt _ hk).1; omega)); have R6 := Lib.hid (PuR.snoc h1R.out h3R.out hr6 ⟨⟨⟨_, _, _, rfl⟩, _, _, _, rfl⟩, PX.out⟩); obtain ⟨a6, n6, c6, hv6⟩ : ∃ aa nn cc, v6 = .slice aa nn cc := (by obtain ⟨aa, cc, ee⟩ := hr6.form; exact ⟨aa, _, cc, ee⟩); subst hv6; clear hr6 hg6)
            go_wp2
            go_meet
            case rel => exact ⟨_, _, _, _, true, rfl, rfl, R6.out, rfl, by simp; omega, X6.out, A6.out⟩
        case rest =>
          clear X A R
          obtain ⟨a', n', c', acc2, p2, rfl, rfl, hr, hs1, hal2, hx, haf⟩ := hcut
          have R := Lib.hid hr
          have X := Lib.hid hx
          have A := Lib.hid haf
          have HS1 := Lib.hid hs1
          clear hr hx haf hs1
          have hsz : w.heap.size + 1 ≤ wc.heap.size := by have := X.out.lt; omega
          have HL := Lib.hid (fun W (h : LatI wc W) => And.intro (HCK.out W (A.out.after h)) (X.out.after h).c16)
          have HST := Lib.hid (show (l.take (k + 1)).foldl (stepP x) ([], false) = if q.rep = x.rep ∧ q.slot = x.slot then (acc2, p2) else (acc2 ++ [q], p2) from by
            rw [foldP_step x l k (by rw [HN.out]; exact hlt), HQ.out, HF.out]
            exact stepP_eq x q acc pb bb HBB.out acc2 p2 HS1.out)
          obtain ⟨sb, hsb⟩ : ∃ sb : Bool, decide (q.rep = x.rep ∧ q.slot = x.slot) = sb := ⟨_, rfl⟩
          have HSB := Lib.hid hsb
          go_upto_region 9 with fail
          go_cut [39] from 9 to 46 (fun s wx => s = .bool (!sb) ∧ LatI wc wx)
          case first =>
            by_cases hr1 : q.rep = x.rep
            · have hs1 : (q.rep == x.rep) = true := by simpa using hr1
              by_cases hr2 : q.slot = x.slot
              · have hs2 : (q.slot == x.slot) = true := by simpa using hr2
                have hbt : sb = true := by rw [← hsb]; exact dec_t ⟨hr1, hr2⟩
                clear hr1 hr2 hsb
                refine wp_region_quiet (C := LatI wc) (by kernel_rfl) (by kernel_rfl) (show LatI wc (World.drew _) from Below.drew (Below.refl _ _)) ?_
                dsimp only
                repeat (first | go_big_quiet_skip | (go_big_quiet_want; go_big_quiet_op; (first | go_big_quiet_on | (refine ⟨_, fun _ _ => rfl, ?_⟩; go_big_quiet_on) | (refine ⟨.agg #[.int .i64 q.rep, .int .i64 q.slot], ?_, ?_⟩; intro w' hw'; obtain ⟨⟨e0, e1, e2, e3, e4, e5, e6, e7, e8, e9, e10, e11, e12, e13, e14, e15⟩, i0, i1, i2, i3, i4, i5, i6, i7, i8, i9, i10, i11, i12, i13, i14, i15⟩ := HL.out w' hw'; simp [e0, e1, Result.andThen]; go_big_quiet_on) | (refine ⟨.agg #[.int .i64 x.rep, .int .i64 x.slot], ?_, ?_⟩; intro w' hw'; obtain ⟨⟨e0, e1, e2, e3, e4, e5, e6, e7, e8, e9, e10, e11, e12, e13, e14, e15⟩, i0, i1, i2, i3, i4, i5, i6, i7, i8, i9, i10, i11, i12, i13, i14, i15⟩ := HL.out w' hw'; simp [i0, i1, Result.andThen]; go_big_quiet_on))))
                refine wpQuiet_nil ?_
                intro w2 L2
                go_wp2
                go_meet
                case rel => exact ⟨by rw [hbt]; first | rfl | simp [hs1, hs2], L2⟩
              · have hs2 : (q.slot == x.slot) = false := ine_no hr2
                have hbt : sb = false := by rw [← hsb]; exact dec_f (fun h => hr2 h.2)
                clear hr1 hr2 hsb
                refine wp_region_quiet (C := LatI wc) (by kernel_rfl) (by kernel_rfl) (show LatI wc (World.drew _) from Below.drew (Below.refl _ _)) ?_
                dsimp only
                repeat (first | go_big_quiet_skip | (go_big_quiet_want; go_big_quiet_op; (first | go_big_quiet_on | (refine ⟨_, fun _ _ => rfl, ?_⟩; go_big_quiet_on) | (refine ⟨.agg #[.int .i64 q.rep, .int .i64 q.slot], ?_, ?_⟩; intro w' hw'; obtain ⟨⟨e0, e1, e2, e3, e4, e5, e6, e7, e8, e9, e10, e11, e12, e13, e14, e15⟩, i0, i1, i2, i3, i4, i5, i6, i7, i8, i9, i10, i11, i12, i13, i14, i15⟩ := HL.out w' hw'; simp [e0, e1, Result.andThen]; go_big_quiet_on) | (refine ⟨.agg #[.int .i64 x.rep, .int .i64 x.slot], ?_, ?_⟩; intro w' hw'; obtain ⟨⟨e0, e1, e2, e3, e4, e5, e6, e7, e8, e9, e10, e11, e12, e13, e14, e15⟩, i0, i1, i2, i3, i4, i5, i6, i7, i8, i9, i10, i11, i12, i13, i14, i15⟩ := HL.out w' hw'; simp [i0, i1, Result.andThen]; go_big_quiet_on))))
                refine wpQuiet_nil ?_
                intro w2 L2
                go_wp2
                go_meet
                case rel => exact ⟨by rw [hbt]; first | rfl | simp [hs1, hs2], L2⟩
            · have hs1 : (q.rep == x.rep) = false := ine_no hr1
              have hbt : sb = false := by rw [← hsb]; exact dec_f (fun h => hr1 h.1)
              clear hr1 hsb
              refine wp_region_quiet (C := LatI wc) (by kernel_rfl) (by kernel_rfl) (show LatI wc (World.drew _) from Below.drew (Below.refl _ _)) ?_
              dsimp only
              repeat (first | go_big_quiet_skip | (go_big_quiet_want; go_big_quiet_op; (first | go_big_quiet_on | (refine ⟨_, fun _ _ => rfl, ?_⟩; go_big_quiet_on) | (refine ⟨.agg #[.int .i64 q.rep, .int .i64 q.slot], ?_, ?_⟩; intro w' hw'; obtain ⟨⟨e0, e1, e2, e3, e4, e5, e6, e7, e8, e9, e10, e11, e12, e13, e14, e15⟩, i0, i1, i2, i3, i4, i5, i6, i7, i8, i9, i10, i11, i12, i13, i14, i15⟩ := HL.out w' hw'; simp [e0, e1, Result.andThen]; go_big_quiet_on) | (refine ⟨.agg #[.int .i64 x.rep, .int .i64 x.slot], ?_, ?_⟩; intro w' hw'; obtain ⟨⟨e0, e1, e2, e3, e4, e5, e6, e7, e8, e9, e10, e11, e12, e13, e14, e15⟩, i0, i1, i2, i3, i4, i5, i6, i7, i8, i9, i10, i11, i12, i13, i14, i15⟩ := HL.out w' hw'; simp [i0, i1, Result.andThen]; go_big_quiet_on))))
              refine wpQuiet_nil ?_
              intro w2 L2
              go_wp2
              go_meet
              case rel => exact ⟨by rw [hbt]; first | rfl | simp [hs1], L2⟩
          case rest =>
            clear hsb
            obtain ⟨rfl, hL⟩ := hcut
            have X := Lib.hid (X.out.after hL)
            have A := Lib.hid (A.out.after hL)
            have R := Lib.hid (R.out.later hL)
            have hsz : w.heap.size + 1 ≤ wc.heap.size := by have := X.out.lt; omega
            clear hL HL
            cases sb
            · have HF1 := Lib.hid (show (l.take (k + 1)).foldl (stepP x) ([], false) = (acc2 ++ [q], p2) by rw [HST.out, if_neg (of_decide_eq_false HSB.out)])
              obtain ⟨TT, h1, h2, h3⟩ := R.out
              have h1R := Lib.hid h1
              have h2R := Lib.hid h2
              have h3R := Lib.hid h3
              have hTl : TT.length ≤ 4194304 := by
                have e := congrArg List.length h1
                rw [List.length_map] at e
                omega
              clear h1 h2 h3
              obtain ⟨m0, m1, m2, m3, m4, m5, m6, m7, m8, m9, m10, m11, m12, m13, m14, m15⟩ := HCK.out _ A.out
              go_wp2_with (at_builtin; refine wp_append_tr rfl (.tmp 40) (.tmp 45) rfl (w.heap.size + 1) (.slice a' n' c') TT ⟨q, .slice a1 n1 c1, .slice a2 n2 c2⟩ rfl (h2R.out.later ((Below.refl _ _).alloc (Nat.le_refl _) _)) wc.heap.size 1 rfl (Bx.new wc _ _ _ rfl) ⟨⟨_, _, _, rfl⟩, _, _, _, rfl⟩ (by omega) (by simp; omega) ?_; intro v6 w6 hr6 hg6; have X6 := Lib.hid ((X.out.alloc (.cells #[.int .i64 q.rep, .int .i64 q.slot, .int .i64 q.bal, .int .i64 q.vbal, .int .i64 q.st, .int .i64 q.cmd.kind, .int .i64 q.cmd.client, .int .i64 q.cmd.no, .string q.cmd.set, .string q.cmd.name, .string q.cmd.tag, .int .i64 q.cmd.n, .slice a1 n1 c1, .int .i64 q.seq, .slice a2 n2 c2, .bool q.same] 40)).keep hg6 (fun e => by have := (h2R.out.lt _ e.symm).1; omega)); have A6 := Lib.hid ((A.out.alloc (.cells #[.int .i64 q.rep, .int .i64 q.slot, .int .i64 q.bal, .int .i64 q.vbal, .int .i64 q.st, .int .i64 q.cmd.kind, .int .i64 q.cmd.client, .int .i64 q.cmd.no, .string q.cmd.set, .string q.cmd.name, .string q.cmd.tag, .int .i64 q.cmd.n, .slice a1 n1 c1, .int .i64 q.seq, .slice a2 n2 c2, .bool q.same] 40)).grow hg6 (fun k hk => by have := (h2R.out.lt _ hk).1; omega)); have R6 := Lib.hid (PuR.snoc h1R.out h3R.out hr6 ⟨⟨⟨_, _, _, rfl⟩, _, _, _, rfl⟩, PQ.out⟩); obtain ⟨a6, n6, c6, hv6⟩ : ∃ aa nn cc, v6 = .slice aa nn cc := (by obtain ⟨aa, cc, ee⟩ := hr6.form; exact ⟨aa, _, cc, ee⟩); subst hv6; clear hr6 hg6)
              clear m0 m1 m2 m3 m4 m5 m6 m7 m8 m9 m10 m11 m12 m13 m14 m15
              go_wp2
              go_roundw
              case rel => exact ⟨k + 1, _, _, _, p2, acc2 ++ [q], by omega, by go_num, rfl, rfl, R6.out, HF1.out, X6.out, A6.out⟩
              case measure => simp only [intOf]; omega
            · have HF1 := Lib.hid (show (l.take (k + 1)).foldl (stepP x) ([], false) = (acc2, p2) by rw [HST.out, if_pos (of_decide_eq_true HSB.out)])
              go_wp2
              go_roundw
              case rel => exact ⟨k + 1, _, _, _, p2, acc2, by omega, by go_num, rfl, rfl, R.out, HF1.out, X.out, A.out⟩
              case measure => simp only [intOf]; omega
    · have hkn : n = k := by omega
      clear hlt
      subst hkn
      have HT := Lib.hid (show l.take n = l by rw [← HN.out, List.take_length])
      have HE := Lib.hid (show endP x (acc, pb) = putN l x by
        have e := foldP_false x l [] HSR.out
        rw [← HT.out, HF.out, HT.out] at e
        simpa using e)
      cases pb
      · obtain ⟨TT, h1, h2, h3⟩ := R.out
        have h1R := Lib.hid h1
        have h2R := Lib.hid h2
        have h3R := Lib.hid h3
        have hTl : TT.length ≤ 4194304 := by
          have e := congrArg List.length h1
          rw [List.length_map] at e
          omega
        clear h1 h2 h3
        obtain ⟨rz1, rz2⟩ := X.out.rowI rfl
        go_wp2_with (at_builtin; refine wp_append_tr rfl (.tmp 49) (.tmp 51) rfl (w.heap.size + 1) (.slice a' n' c') TT ⟨x, .slice x1 x2 x3, .slice x4 x5 x6⟩ rfl (h2R.out.later ((Below.refl _ _).alloc (Nat.le_refl _) _)) wr.heap.size 1 rfl (Bx.new wr _ _ _ rfl) ⟨⟨_, _, _, rfl⟩, _, _, _, rfl⟩ (by omega) (by simp; omega) ?_; intro v6 w6 hr6 hg6; have X6 := Lib.hid ((X.out.alloc (.cells #[.int .i64 x.rep, .int .i64 x.slot, .int .i64 x.bal, .int .i64 x.vbal, .int .i64 x.st, .int .i64 x.cmd.kind, .int .i64 x.cmd.client, .int .i64 x.cmd.no, .string x.cmd.set, .string x.cmd.name, .string x.cmd.tag, .int .i64 x.cmd.n, .slice x1 x2 x3, .int .i64 x.seq, .slice x4 x5 x6, .bool x.same] 40)).keep hg6 (fun e => by have := (h2R.out.lt _ e.symm).1; omega)); have A6 := Lib.hid ((A.out.alloc (.cells #[.int .i64 x.rep, .int .i64 x.slot, .int .i64 x.bal, .int .i64 x.vbal, .int .i64 x.st, .int .i64 x.cmd.kind, .int .i64 x.cmd.client, .int .i64 x.cmd.no, .string x.cmd.set, .string x.cmd.name, .string x.cmd.tag, .int .i64 x.cmd.n, .slice x1 x2 x3, .int .i64 x.seq, .slice x4 x5 x6, .bool x.same] 40)).grow hg6 (fun k hk => by have := (h2R.out.lt _ hk).1; omega)); have R6 := Lib.hid (PuR.snoc h1R.out h3R.out hr6 ⟨⟨⟨_, _, _, rfl⟩, _, _, _, rfl⟩, PX.out⟩); obtain ⟨a6, n6, c6, hv6⟩ : ∃ aa nn cc, v6 = .slice aa nn cc := (by obtain ⟨aa, cc, ee⟩ := hr6.form; exact ⟨aa, _, cc, ee⟩); subst hv6; clear hr6 hg6)
        clear rz1 rz2
        go_wp2
        go_ret
        exact ⟨⟨_, rfl, by rw [← HE.out]; exact R6.out.insts A6.out⟩, A6.out⟩
      · go_wp2
        go_ret
        exact ⟨⟨_, rfl, by rw [← HE.out]; exact R.out.insts A.out⟩, A.out⟩
end Go.Proofs.YtdokglckfabdaaaDoor
