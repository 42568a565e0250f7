/- A bundle of texts: QTake, QMix, WwC, WwN, WwF, SwI. -/
import Derived.Test.YtkeoeempdkpafaaDoorRows
import Derived.WalkKit
import Derived.OrdersHeld
import Derived.StillTail
import Derived.Test.YtkeoeempdkpafaaDoorBx
import Derived.Lib.Builder
import Derived.Lib.OthersKept
import Derived.Deep.RegionHeld3
import Derived.Test.YtkeoeempdkpafaaDoorTextI
import Derived.Test.YtkeoeempdkpafaaDoorShowI
import Derived.Test.YtkeoeempdkpafaaDoorSwM
import Derived.Test.YtkeoeempdkpafaaDoorEm
/- A region that draws its order: what only reads is taken first; S is held up to the operations that wait for all of that. -/
namespace Go.Proofs.YtkeoeempdkpafaaDoor
open Go.RowKit
set_option linter.unusedVariables false
section
variable {P : Program} {ops : Array Oper} {Q : Exit → Act → World → Prop} {md : Region.Mode} {S : World → Prop} {T : Nat → Bool}
/-- Whatever order is picked; S holds behind each operation outside T. -/
def wpAnyT (P : Program) (md : Region.Mode) (ops : Array Oper) (Q : Exit → Act → World → Prop) (S : World → Prop) (T : Nat → Bool) : Nat → Array Bool → Act → World → Prop
  | 0, listed, a, w => Region.ready md ops listed = [] ∧ Q .normal a w
  | f + 1, listed, a, w => (Region.ready md ops listed = [] → Q .normal a w) ∧ ∀ i ∈ Region.ready md ops listed, wpOp P ops Q i (fun a' w' => (T i = false → S w') ∧ wpAnyT P md ops Q S T f (listed.setIfInBounds i true) a' w') a w
theorem wpAny_of_T : ∀ (f : Nat) (listed : Array Bool) (a : Act) (w : World), wpAnyT P md ops Q S T f listed a w → wpAny P md ops Q f listed a w
  | 0, _, _, _, h => h
  | f + 1, _, _, _, h => ⟨h.1, fun i hi => wpOp_mono (fun a' w' h' => wpAny_of_T f _ a' w' h'.2) (h.2 i hi)⟩
theorem wpAnyT_first {i : Nat} {oi : Oper} {v : Value} (hi : ops[i]? = some oi) (hsel : ∀ (j : Nat) (o : Oper) cs b, ops[j]? = some o → o.op ≠ .select cs b)
    (hQ : ∀ c a w, Q (.panic c) (a.put oi.dst v) w → Q (.panic c) a w) (hT : ∀ j oj, ops[j]? = some oj → T j = true → ∃ e ∈ oj.after, Region.binds md e = true ∧ e.on = i) (f : Nat) :
    ∀ (listed : Array Bool) (a : Act) (w : World), (∀ j oj, ops[j]? = some oj → j ≠ i → listed.getD j true = false → (∀ e ∈ oj.after, Region.binds md e = true → e.on ≠ i) → oi.apart ops oj = true) →
      i ∈ Region.ready md ops listed → YieldsIf P ops S oi v a → S w → wpAnyT P md ops Q S T f (listed.setIfInBounds i true) (a.put oi.dst v) w → wpAnyT P md ops Q S T (f + 1) listed a w := by
  induction f with
  | zero =>
    intro listed a w _ hr hy hS H
    refine ⟨fun h => absurd hr (by rw [h]; exact List.not_mem_nil), fun j hj => ?_⟩
    by_cases hji : j = i
    · subst hji; exact hy.wpOp hi hS ⟨fun _ => hS, H⟩
    · have := ready_mono hj hji
      rw [H.1] at this
      cases this
  | succ f ih =>
    intro listed a w hfree hr hy hS H
    refine ⟨fun h => absurd hr (by rw [h]; exact List.not_mem_nil), fun j hj => ?_⟩
    by_cases hji : j = i
    · subst hji; exact hy.wpOp hi hS ⟨fun _ => hS, H⟩
    · have h1 := H.2 j (ready_mono hj hji)
      obtain ⟨hjun, oj, hoj, hall⟩ := mem_ready.1 hj
      have hun : listed.getD i false = false := getD_both (mem_ready.1 hr).1
      have hnot : ∀ e ∈ oj.after, Region.binds md e = true → e.on ≠ i := fun e he hb heq => by
        have h2 := hall e he hb
        rw [heq, hun] at h2
        cases h2
      have htj : T j = false := by
        cases ht : T j with
        | false => rfl
        | true =>
          obtain ⟨e, he, hb, ho⟩ := hT j oj hoj ht
          exact absurd ho (hnot e he hb)
      have h2 := wpOp_putIf hoj (hfree j oj hoj hji hjun hnot) (fun cs b => hsel i oi cs b hi) (fun cs b => hsel j oj cs b hoj) hQ hy h1
      refine wpOp_mono (fun a' w' h3 => ⟨h3.2.1, ih (listed.setIfInBounds j true) a' w' (fun k ok hk hki hu hno => hfree k ok hk hki ?_ hno) (ready_mono hr (Ne.symm hji)) h3.1 (h3.2.1 htj) ?_⟩) h2
      · by_cases hjk : j = k
        · subst hjk; exact hjun
        · rw [getD_set_ne true hjk] at hu; exact hu
      · rw [Array.setIfInBounds_comm _ _ hji]
        exact h3.2.2
/-- In this very order. -/
def wpSeqT (P : Program) (ops : Array Oper) (Q : Exit → Act → World → Prop) (S : World → Prop) (T : Nat → Bool) : List Nat → Act → World → Prop
  | [], a, w => Q .normal a w
  | k :: r, a, w => wpOp P ops Q k (fun a' w' => (T k = false → S w') ∧ wpSeqT P ops Q S T r a' w') a w
def seqI (md : Region.Mode) (ops : Array Oper) : List Nat → Array Bool → Bool
  | [], listed => (Region.ready md ops listed).isEmpty
  | k :: r, listed => decide (Region.ready md ops listed = [k]) && seqI md ops r (listed.setIfInBounds k true)
theorem wpAnyT_of_seq : ∀ (r : List Nat) (listed : Array Bool) (a : Act) (w : World), seqI md ops r listed = true → wpSeqT P ops Q S T r a w → wpAnyT P md ops Q S T r.length listed a w
  | [], listed, a, w, hB, h => ⟨by simpa [seqI] using hB, h⟩
  | k :: r, listed, a, w, hB, h => by
    simp only [seqI, Bool.and_eq_true, decide_eq_true_eq] at hB
    refine ⟨fun h0 => absurd hB.1 (by rw [h0]; simp), fun i hi => ?_⟩
    rw [hB.1] at hi
    obtain rfl : i = k := by simpa using hi
    exact wpOp_mono (fun a' w' h' => ⟨h'.1, wpAnyT_of_seq r _ a' w' hB.2 h'.2⟩) h
def takeB (md : Region.Mode) (ops : Array Oper) (T : Nat → Bool) (r : List Nat) : List Nat → Array Bool → Bool
  | [], listed => seqI md ops r listed
  | k :: t, listed => (Region.ready md ops listed).contains k && Region.free md ops listed k && ((List.range ops.size).all fun j => !T j || Region.waitsFor md ops j k) && takeB md ops T r t (listed.setIfInBounds k true)
def wpTakes (P : Program) (ops : Array Oper) (Q : Exit → Act → World → Prop) (S : World → Prop) (T : Nat → Bool) (r : List Nat) : List Nat → Act → World → Prop
  | [], a, w => wpSeqT P ops Q S T r a w
  | k :: t, a, w => ∃ o v, ops[k]? = some o ∧ YieldsIf P ops S o v a ∧ wpTakes P ops Q S T r t (a.put o.dst v) w
theorem wpAnyT_takes {r : List Nat} (hsel : Region.noSelect ops = true) (hQ : ∀ c (a : Act) d v w, Q (.panic c) (a.put d v) w → Q (.panic c) a w) :
    ∀ (t : List Nat) (listed : Array Bool) (a : Act) (w : World), takeB md ops T r t listed = true → S w → wpTakes P ops Q S T r t a w → wpAnyT P md ops Q S T (t.length + r.length) listed a w
  | [], listed, a, w, hB, _, h => by rw [List.length_nil, Nat.zero_add]; exact wpAnyT_of_seq r listed a w hB h
  | k :: t, listed, a, w, hB, hS, h => by
    obtain ⟨o, v, ho, hy, hr⟩ := h
    simp only [takeB, Bool.and_eq_true] at hB
    obtain ⟨⟨⟨h1, h2⟩, h3⟩, h4⟩ := hB
    rw [List.length_cons, Nat.add_right_comm]
    refine wpAnyT_first ho (Region.noSelect_spec hsel) (fun c a w => hQ c a _ _ w) (fun j oj hj ht => ?_) _ listed a w (Region.free_spec ho h2) (by simpa using h1) hy hS (wpAnyT_takes hsel hQ t _ _ w h4 hS hr)
    have hjl : j < ops.size := (Array.getElem?_eq_some_iff.1 hj).1
    have h5 := List.all_eq_true.1 h3 j (List.mem_range.2 hjl)
    rw [ht] at h5
    obtain ⟨o', ho', e, he, hb, hon⟩ := Region.waitsFor_spec (show Region.waitsFor md ops j k = true by simpa using h5)
    rw [hj] at ho'
    cases ho'
    exact ⟨e, he, hb, hon⟩
theorem wp_region_takes {id : Nat} {a : Act} {w : World} (t r : List Nat) (hm : P.follows .mixedOrders = true) (hsel : Region.noSelect ops = true) (hlen : t.length + r.length = ops.size) (hB : takeB .any ops T r t (Array.replicate ops.size false) = true)
    (hQ : ∀ c (a : Act) d v w, Q (.panic c) (a.put d v) w → Q (.panic c) a w) (hS : S w.drew) (h : wpTakes P ops Q S T r t a w.drew) : (Code.region id ops true).wp P Q a w := by
  have H := wpAny_of_T _ _ _ _ (wpAnyT_takes hsel hQ t _ a w.drew hB hS h)
  rw [hlen] at H
  exact wp_region_any hm H
theorem op_then {o : Oper} {a : Act} {w : World} {K K2 : Act → World → Prop} (h : o.wp P a w K (Exit.then K2 Q)) : o.wp P a w K Q := by
  unfold Oper.wp at *
  generalize (execOp a.eval o).run P w = r at *
  cases r with
  | ok n w' =>
    cases n <;> simp only [Oper.upon] at h ⊢ <;>
      first
        | exact h
        | exact Calls.mono h (fun e w'' he => by cases e <;> exact he)
  | halt x w' => cases x <;> simp only [Oper.upon] at h ⊢ <;> exact h
theorem wpSeqT_step {k : Nat} {r : List Nat} {o : Oper} {a : Act} {w : World} (hk : ops[k]? = some o) (h : wpList P ops (Exit.then (fun a' w' => (T k = false → S w') ∧ wpSeqT P ops Q S T r a' w') Q) [o] a w) : wpSeqT P ops Q S T (k :: r) a w := by
  unfold wpSeqT wpOp
  unfold wpList at h
  simp only [hk]
  split
  · rename_i hw
    rw [if_pos hw] at h
    exact h.imp op_then id
  · rename_i hw
    rw [if_neg hw] at h
    exact h
theorem wpTakes_step {k : Nat} {r t : List Nat} {o : Oper} {v : Value} {a : Act} {w : World} (hk : ops[k]? = some o) (hg : Region.wanted o (yielded ops a.tmps) = true) (hv : ∀ w, S w → (execOp a.eval o).run P w = .ok (.value v) w) (h : wpTakes P ops Q S T r t (a.put o.dst v) w) : wpTakes P ops Q S T r (k :: t) a w :=
  ⟨o, v, hk, .inl ⟨hg, hv⟩, h⟩
end
end Go.Proofs.YtkeoeempdkpafaaDoor
/- A region that draws its order: what only reads is taken wherever it is ready; all else in its one order. -/
namespace Go.Proofs.YtkeoeempdkpafaaDoor
open Go.RowKit
set_option linter.unusedVariables false
section
variable {P : Program} {ops : Array Oper} {Q : Exit → Act → World → Prop} {md : Region.Mode} {S : World → Prop}
def mixB (md : Region.Mode) (ops : Array Oper) : List (Bool × Nat) → Array Bool → Bool
  | [], listed => (Region.ready md ops listed).isEmpty
  | (true, k) :: r, listed => (Region.ready md ops listed).contains k && Region.free md ops listed k && mixB md ops r (listed.setIfInBounds k true)
  | (false, k) :: r, listed => decide (Region.ready md ops listed = [k]) && mixB md ops r (listed.setIfInBounds k true)
def wpMix (P : Program) (ops : Array Oper) (Q : Exit → Act → World → Prop) (S : World → Prop) : List (Bool × Nat) → Act → World → Prop
  | [], a, w => Q .normal a w
  | (true, k) :: r, a, w => ∃ o v, ops[k]? = some o ∧ YieldsIf P ops S o v a ∧ wpMix P ops Q S r (a.put o.dst v) w
  | (false, k) :: r, a, w => wpOp P ops Q k (fun a' w' => S w' ∧ wpMix P ops Q S r a' w') a w
theorem wpAnyT_mix (hsel : Region.noSelect ops = true) (hQ : ∀ c (a : Act) d v w, Q (.panic c) (a.put d v) w → Q (.panic c) a w) :
    ∀ (t : List (Bool × Nat)) (listed : Array Bool) (a : Act) (w : World), mixB md ops t listed = true → S w → wpMix P ops Q S t a w → wpAnyT P md ops Q S (fun _ => false) t.length listed a w
  | [], listed, a, w, hB, _, h => ⟨by simpa [mixB] using hB, h⟩
  | (true, k) :: t, listed, a, w, hB, hS, h => by
    obtain ⟨o, v, ho, hy, hr⟩ := h
    simp only [mixB, Bool.and_eq_true] at hB
    obtain ⟨⟨h1, h2⟩, h4⟩ := hB
    exact wpAnyT_first ho (Region.noSelect_spec hsel) (fun c a w => hQ c a _ _ w) (fun j oj hj ht => by cases ht) _ listed a w (Region.free_spec ho h2) (by simpa using h1) hy hS (wpAnyT_mix hsel hQ t _ _ w h4 hS hr)
  | (false, k) :: t, listed, a, w, hB, hS, h => by
    simp only [mixB, Bool.and_eq_true, decide_eq_true_eq] at hB
    refine ⟨fun h0 => absurd hB.1 (by rw [h0]; simp), fun i hi => ?_⟩
    rw [hB.1] at hi
    obtain rfl : i = k := by simpa using hi
    exact wpOp_mono (fun a' w' h' => ⟨fun _ => h'.1, wpAnyT_mix hsel hQ t _ a' w' hB.2 h'.1 h'.2⟩) h
theorem wp_region_mix {id : Nat} {a : Act} {w : World} (t : List (Bool × Nat)) (hm : P.follows .mixedOrders = true) (hsel : Region.noSelect ops = true) (hlen : t.length = ops.size) (hB : mixB .any ops t (Array.replicate ops.size false) = true)
    (hQ : ∀ c (a : Act) d v w, Q (.panic c) (a.put d v) w → Q (.panic c) a w) (hS : S w.drew) (h : wpMix P ops Q S t a w.drew) : (Code.region id ops true).wp P Q a w := by
  have H := wpAny_of_T _ _ _ _ (wpAnyT_mix hsel hQ t _ a w.drew hB hS h)
  rw [hlen] at H
  exact wp_region_any hm H
theorem wpMix_take {k : Nat} {t : List (Bool × Nat)} {o : Oper} {v : Value} {a : Act} {w : World} (hk : ops[k]? = some o) (hg : Region.wanted o (yielded ops a.tmps) = true) (hv : ∀ w, S w → (execOp a.eval o).run P w = .ok (.value v) w) (h : wpMix P ops Q S t (a.put o.dst v) w) : wpMix P ops Q S ((true, k) :: t) a w :=
  ⟨o, v, hk, .inl ⟨hg, hv⟩, h⟩
theorem wpMix_step {k : Nat} {r : List (Bool × Nat)} {o : Oper} {a : Act} {w : World} (hk : ops[k]? = some o) (h : wpList P ops (Exit.then (fun a' w' => S w' ∧ wpMix P ops Q S r a' w') Q) [o] a w) : wpMix P ops Q S ((false, k) :: r) a w := by
  unfold wpMix wpOp
  unfold wpList at h
  simp only [hk]
  split
  · rename_i hw
    rw [if_pos hw] at h
    exact h.imp op_then id
  · rename_i hw
    rw [if_neg hw] at h
    exact h
end
end Go.Proofs.YtkeoeempdkpafaaDoor
/- A builder that lies in a writer of the program's own: what its methods do. -/
namespace Go.Proofs.YtkeoeempdkpafaaDoor
open Go.RowKit Go.PlainAid
set_option linter.unusedVariables false

abbrev WT : TypeId := 76
abbrev UT : TypeId := 5
theorem Tryd.bInfo : ∃ j, Tryd.prog.info? 72 = some j ∧ j.size = 2 := by
  have h : (Tryd.prog.info? 72).map (·.size) = some 2 := by kernel_rfl
  exact Option.map_eq_some_iff.1 h
theorem Tryd.bLies : liesAt Tryd.prog Tryd.prog.depth WT (2 / Tryd.prog.cellsOf WT) 0 72 1 = true := by kernel_rfl
/-- What a writer's method leaves as it was: all below B, and all else that is no row of bytes. -/
def Kp (B b : Nat) (w w' : World) : Prop := Below B w w' ∧ Lib.OthersKept UT (some b) w w'
theorem Kp.refl (B b : Nat) (w : World) : Kp B b w w := ⟨Below.refl _ _, Lib.OthersKept.refl _ _ _⟩
theorem Kp.trans {B b : Nat} {w w' w'' : World} (h : Kp B b w w') (k : Kp B b w' w'') : Kp B b w w'' := ⟨h.1.trans k.1, h.2.trans k.2⟩
theorem Kp.mono {B B' b : Nat} {w w' : World} (h : Kp B b w w') (hb : B' ≤ B) : Kp B' b w w' := ⟨h.1.mono hb, h.2⟩
theorem Kp.setCell {B b : Nat} {w w' : World} (h : Kp B b w w') (i : Nat) (hB : B ≤ b) (x : Value) : Kp B b w (w'.setCell ⟨b, i, none⟩ x) :=
  ⟨h.1.setCell (p := ⟨b, i, none⟩) hB x, h.2.setCell _ rfl x⟩
theorem Kp.cell {B b : Nat} {w w' : World} (h : Kp B b w w') {g : Nat} {t : TypeId} {c : Array Value} (hg : w.heap[g]? = some (.cells c t (0, 0))) (hne : g ≠ b) (ht : t ≠ UT) : w'.heap[g]? = some (.cells c t (0, 0)) :=
  h.2 g _ hg (by simpa using hne) (fun c' fz e => ht (by injection e))
set_option maxRecDepth 100000 in
set_option maxHeartbeats 1000000 in
theorem copyCheck_c (B b : Nat) (bs : List Value) (w : World) (h : Lib.IsBuilder WT UT B b bs w) :
    Calls Tryd.prog 105 #[.pointer (some ⟨b, 0, none⟩)] w fun e w' => e = .returned (.tuple #[]) ∧ Lib.BuilderAt WT UT B b (.pointer (some ⟨b, 0, none⟩)) bs w' ∧ Kp B b w w' := by
  obtain ⟨j, hj, hjs⟩ := Tryd.bInfo
  have HL := Lib.hid Tryd.bLies
  rcases h with h | h
  · have h0 := h.cell0
    have hsh := h.shape
    have hfz := h.frozen0
    have H := Lib.hid h
    clear h
    go_enter Tryd.func105, Tryd.ntmps105
    go_wp2
    rw [Lib.run_to_unsafe w ⟨b, 0, none⟩ Tryd.underlying69 Tryd.underlying147 hj (by rw [hjs]; decide) hsh (Nat.zero_lt_succ 1)]
    simp only [Result.andThen]
    rw [Oper.upon_value]
    go_wp2
    rw [run_callFunc_extern Tryd.func125 (by kernel_rfl) (by kernel_rfl) (by kernel_rfl) (e := Extern.AbiNoEscape.same) (by kernel_rfl)]
    rw [Lib.run_noEscape]
    simp only [Result.andThen]
    rw [Oper.upon_value]
    go_wp2
    rw [Lib.run_from_unsafe w ⟨b, 0, none⟩ Tryd.underlying147 Tryd.underlying69 hj hsh HL.out]
    simp only [Result.andThen]
    rw [Oper.upon_value]
    go_wp2
    go_end0
    exact ⟨rfl, H.out.used _, (Kp.refl _ _ _).setCell 0 H.out.1 _⟩
  · have h0 := h.cell0
    have H := Lib.hid h
    clear h
    go_enter Tryd.func105, Tryd.ntmps105
    go_wp2
    rw [Lib.run_neq_ptr_same w _ Tryd.underlying69 hj]
    go_wp2
    go_end0
    exact ⟨rfl, H.out, Kp.refl _ _ _⟩
/-- The writer in block b holds S. -/
def Wr (B b : Nat) (S : ByteArray) (w : World) : Prop := Lib.IsBuilder WT UT B b (Lib.byteCells S.data.toList) w
theorem Wr.at_ {B b : Nat} {S : ByteArray} {w : World} (h : Wr B b S w) : ∃ p, Lib.BuilderAt WT UT B b p (Lib.byteCells S.data.toList) w ∧ (p = .pointer none ∨ p = .pointer (some ⟨b, 0, none⟩)) := by
  rcases h with h | h
  · exact ⟨_, h, .inl rfl⟩
  · exact ⟨_, h, .inr rfl⟩
theorem Wr.of {B b : Nat} {S : ByteArray} {w : World} {p : Value} (h : Lib.BuilderAt WT UT B b p (Lib.byteCells S.data.toList) w) (hp : p = .pointer none ∨ p = .pointer (some ⟨b, 0, none⟩)) : Wr B b S w := by
  rcases hp with rfl | rfl
  · exact .inl h
  · exact .inr h
theorem Wr.lt {B b : Nat} {S : ByteArray} {w : World} (h : Wr B b S w) : b < w.heap.size := by obtain ⟨p, h, _⟩ := h.at_; exact h.lt
theorem Wr.ge {B b : Nat} {S : ByteArray} {w : World} (h : Wr B b S w) : B ≤ b := by obtain ⟨p, h, _⟩ := h.at_; exact h.1
theorem Wr.grow {B b : Nat} {S : ByteArray} {w w' : World} (h : Wr B b S w) (hg : w.grownBy w' none) : Wr B b S w' := by
  obtain ⟨p, ⟨hB, v, hb, ho, hn⟩, hp⟩ := h.at_
  refine Wr.of (p := p) ⟨hB, v, ?_, ho.kept hg (by cases v.ownBlock <;> simp), hn⟩ hp
  rw [hg.block b (Array.getElem?_eq_some_iff.1 hb).1 (by simp)]
  exact hb
theorem Wr.after {B b : Nat} {S : ByteArray} {w w' : World} (h : Wr B b S w) (hb : Below w.heap.size w w') : Wr B b S w' :=
  h.grow ⟨hb.os, hb.tape, hb.output, hb.size, fun k hk _ => hb.block k hk⟩
theorem Wr.drew {B b : Nat} {S : ByteArray} {w : World} (h : Wr B b S w) : Wr B b S w.drew := h.after (Below.refl _ _).drew
theorem Wr.alloc {B b : Nat} {S : ByteArray} {w : World} (h : Wr B b S w) (o : Obj) : Wr B b S (w.alloc o) := h.after ((Below.refl _ _).alloc (Nat.le_refl _) o)
theorem Wr.new (w : World) : Wr w.heap.size w.heap.size ⟨#[]⟩ (w.alloc (.cells #[.pointer none, .slice none 0 0] WT)) := Lib.fresh_isBuilder WT UT w
theorem Kp.after {B b : Nat} {w w' w'' : World} (h : Kp B b w w') (hB : B ≤ w'.heap.size) (hb : Below w'.heap.size w' w'') : Kp B b w w'' :=
  ⟨h.1.trans (hb.mono hB), fun k o hk hne ht => by
    have h1 := h.2 k o hk hne ht
    rw [hb.block k (Array.getElem?_eq_some_iff.1 h1).1]
    exact h1⟩
set_option maxRecDepth 100000 in
set_option maxHeartbeats 1000000 in
theorem write_c (B b : Nat) (S s : ByteArray) (w : World) (h : Wr B b S w) (hlen : S.size + s.size ≤ 140737488355328) :
    Calls Tryd.prog 84 #[.pointer (some ⟨b, 0, none⟩), .string s] w fun e w' => e = .returned (.tuple #[.int .i64 s.size, .nilIface]) ∧ Wr B b (S ++ s) w' ∧ Kp B b w w' := by
  obtain ⟨i0, hi, hz0, hz1, hz2⟩ := info_parts (show (Tryd.prog.info? UT).map (fun i => (i.zero, i.size, i.bytes)) = some (some (.int .u8 0), 1, 1) by kernel_rfl)
  have hBw : B ≤ w.heap.size := by have := h.ge; have := h.lt; omega
  have H := Lib.hid h
  have hl0 : (Lib.byteCells S.data.toList).length = S.size := by rw [Lib.byteCells_length]; rfl
  have hcat : Lib.byteCells (S ++ s).data.toList = Lib.byteCells S.data.toList ++ Lib.strCells s := by rw [Lib.strCells_eq, ← Lib.byteCells_append]; simp
  have HC := Lib.hid hcat
  have HL0 := Lib.hid hl0
  clear h hcat hl0
  go_enter Tryd.func84, Tryd.ntmps84
  go_wp2_with fail
  refine (copyCheck_c B b _ _ H.out).mono ?_
  rintro e w1 ⟨rfl, ⟨hB, v, hbk, hown, hne⟩, k1⟩
  have c0 : w1.cell? ⟨b, 0, none⟩ = some (.pointer (some ⟨b, 0, none⟩)) := by rw [Lib.cell_of_heap hbk]; rfl
  have c1 : w1.cell? ⟨b, 1, none⟩ = some v := by rw [Lib.cell_of_heap hbk]; rfl
  go_wp2_with (at_builtin; refine Lib.wpList_append_own_string _ rfl _ _ 70 9 rfl B UT i0 Tryd.underlying70 Tryd.underlying9 hi hz0 hz1 hz2 _ _ _ rfl hown s rfl ?c3 ?c4 ?c5 ?_)
  case c3 => rw [HL0.out]; unfold maxLen; omega
  case c4 => rw [HL0.out]; omega
  case c5 => have := k1.1.size; omega
  intro v' w2 hown' hgrow _
  have hlt : b < w1.heap.size := (Array.getElem?_eq_some_iff.1 hbk).1
  have hb2 : w2.heap[b]? = some (.cells #[.pointer (some ⟨b, 0, none⟩), v] WT (0, 0)) := by
    rw [hgrow.block b hlt (fun e => hne e.symm)]
    exact hbk
  have d0 : w2.cell? ⟨b, 0, none⟩ = some (.pointer (some ⟨b, 0, none⟩)) := by rw [Lib.cell_of_heap hb2]; rfl
  have d1 : w2.cell? ⟨b, 1, none⟩ = some v := by rw [Lib.cell_of_heap hb2]; rfl
  have f1 : w2.frozen? ⟨b, 1, none⟩ = false := Lib.frozen_of_heap hb2 1
  have k2 : Kp B b w w2 := ⟨k1.1.grown hgrow (by have := k1.1.size; omega) (fun k hk => (hown.lt k hk).1), k1.2.grown hgrow (fun g hg => by obtain ⟨c, fz, h⟩ := Lib.ownsRowF_kind (World.ownsRowF_of hown) g hg; exact ⟨c, fz, h⟩)⟩
  have K2 := Lib.hid k2
  obtain ⟨ao, n', cap, rfl⟩ : ∃ ao n' cap, v' = .slice ao n' cap := by
    rcases hown'.2 with ⟨hv, _⟩ | ⟨g, cap, cur, hv, _⟩
    · exact ⟨_, _, _, hv⟩
    · exact ⟨_, _, _, hv⟩
  have HO := Lib.hid hown'
  have HB2 := Lib.hid hb2
  clear k1 k2 hgrow hown hown' hbk c0 c1
  go_wp2
  go_ret2
  refine ⟨rfl, Wr.of (p := .pointer (some ⟨b, 0, none⟩)) ?_ (.inr rfl), K2.out.setCell 1 hB _⟩
  rw [HC.out]
  exact Lib.BuilderAt.put (T := WT) (e := UT) hB HB2.out (bs' := Lib.byteCells S.data.toList ++ Lib.strCells s) (by simpa [Lib.strCells_length] using HO.out) (by decide)
set_option maxRecDepth 100000 in
set_option maxHeartbeats 1000000 in
theorem string_c (B b : Nat) (S : ByteArray) (w : World) (h : Wr B b S w) (h0 : S.size ≠ 0) :
    Calls Tryd.prog 43 #[.pointer (some ⟨b, 0, none⟩)] w fun e w' => e = .returned (.string S) ∧ Below B w w' := by
  obtain ⟨p, ⟨hB, v, hbk, hown, hne⟩, _⟩ := h.at_
  have hl : (Lib.byteCells S.data.toList).length = S.data.toList.length := by rw [Lib.byteCells_length]
  rw [hl] at hown
  have hl0 : S.data.toList.length ≠ 0 := h0
  obtain ⟨g, cap, cur, rfl, hbg, hg, hnc, hcm, hcs, htake⟩ : ∃ g cap cur, v = .slice (some ⟨g, 0, none⟩) S.data.toList.length cap ∧ B ≤ g ∧ w.heap[g]? = some (.cells cur UT (0, 0)) ∧ S.data.toList.length ≤ cap ∧ cap ≤ maxLen ∧ cur.size = cap * 1 ∧ cur.toList.take (S.data.toList.length * 1) = Lib.byteCells S.data.toList := by
    rcases hown.2 with ⟨_, hz⟩ | ⟨g, cap, cur, hv, r⟩
    · exact absurd hz hl0
    · exact ⟨g, cap, cur, hv, r⟩
  have c1 : w.drew.cell? ⟨b, 1, none⟩ = some (.slice (some ⟨g, 0, none⟩) S.data.toList.length cap) := by
    have : w.drew.heap[b]? = some (.cells #[p, .slice (some ⟨g, 0, none⟩) S.data.toList.length cap] WT (0, 0)) := hbk
    rw [Lib.cell_of_heap this]; rfl
  have hSD : (Builtin.unsafeSliceData_ #[70] 124 #[.slice (some ⟨g, 0, none⟩) S.data.toList.length cap]).run Tryd.prog w.drew = .ok (.pointer (some ⟨g, 0, none⟩)) w.drew :=
    Lib.run_unsafeSliceData_row _ _ _ _ _ _ (by omega)
  have hUS : (Builtin.unsafeString_ #[124, 3] 9 #[.pointer (some ⟨g, 0, none⟩), .int .i64 S.data.toList.length]).run Tryd.prog w.drew = .ok (.string ⟨S.data.toList.toArray⟩) (w.drew.freeze ⟨g, 0, none⟩ S.data.toList.length) := by
    refine Lib.run_unsafeString_row w.drew 124 3 9 UT Tryd.underlying124 (by kernel_rfl) g cur.size (by have hg' : w.drew.heap[g]? = some (.cells cur UT (0, 0)) := hg; simp [World.shape?, hg']) S.data.toList (fun e => hl0 (by rw [e]; rfl)) (by omega) (by unfold maxLen at hcm; omega) ?_
    intro j x hx
    exact hown.cells (g := g) rfl j (.int .u8 x.toNat) (by simp [Lib.byteCells, hx])
  have hSS : (⟨S.data.toList.toArray⟩ : ByteArray) = S := by simp
  rw [hSS] at hUS
  clear hSS
  have HBG := Lib.hid hbg
  clear h hown hl hl0 hbk htake hcs hcm hg hnc hne h0
  generalize S.data.toList.length = n at c1 hSD hUS
  go_enter Tryd.func43, Tryd.ntmps43
  go_wp2
  go_region
  all_goals (go_wp2; go_ret; exact ⟨rfl, Lib.below_freeze (Below.drew (Below.refl B w)) (p := ⟨g, 0, none⟩) HBG.out _⟩)
end Go.Proofs.YtkeoeempdkpafaaDoor
/- The writer of fields: numbers, texts, Ids. -/
namespace Go.Proofs.YtkeoeempdkpafaaDoor
open Go.RowKit Go.PlainAid
set_option linter.unusedVariables false

/-- S and the varints of the first k numbers of l behind it. -/
@[irreducible] def appL (S : ByteArray) (l : List Int) (k : Nat) : ByteArray := (l.take k).foldl (fun a x => a ++ varS x) S
theorem appL_zero (S : ByteArray) (l : List Int) : appL S l 0 = S := by unfold appL; rfl
theorem appL_succ (S : ByteArray) (l : List Int) (k : Nat) (x : Int) (h : l[k]? = some x) : appL S l (k + 1) = appL S l k ++ varS x := by
  unfold appL
  rw [List.take_add_one, h, List.foldl_append]
  rfl
theorem appL_size (S : ByteArray) (l : List Int) (k : Nat) (hk : k ≤ l.length) : (appL S l k).size ≤ S.size + 7 * k := by
  induction k with
  | zero => rw [appL_zero]; exact Nat.le_refl _
  | succ k ih =>
    obtain ⟨x, hx⟩ : ∃ x, l[k]? = some x := ⟨_, List.getElem?_eq_getElem (by omega)⟩
    rw [appL_succ S l k x hx, ByteArray.size_append]
    have := varS_size x
    have := ih (by omega)
    omega
theorem appL_1 (S : ByteArray) (a : Int) : appL S [a] 1 = S ++ varS a := by unfold appL; rfl
theorem appL_2 (S : ByteArray) (a b : Int) : appL S [a, b] 2 = S ++ varS a ++ varS b := by unfold appL; rfl
theorem appL_3 (S : ByteArray) (a b c : Int) : appL S [a, b, c] 3 = S ++ varS a ++ varS b ++ varS c := by unfold appL; rfl
set_option maxRecDepth 100000 in
set_option maxHeartbeats 1000000 in
theorem numbers_c (B b : Nat) (S : ByteArray) (l : List Int) (g cap : Nat) (t : TypeId) (w : World) (h : Wr B b S w) (hg : w.heap[g]? = some (.cells (l.map fun x => Value.int .i64 x).toArray t (0, 0))) (ht : t ≠ UT) (hne : g ≠ b)
    (hr : ∀ x ∈ l, 0 ≤ x ∧ x ≤ 562949953421311) (hn : l.length ≤ 1048576) (hsz : S.size ≤ 70368744177664) :
    Calls Tryd.prog 37 #[.pointer (some ⟨b, 0, none⟩), .slice (some ⟨g, 0, none⟩) l.length cap] w fun e w' => e = .returned (.tuple #[]) ∧ Wr B b (appL S l l.length) w' ∧ Kp B b w w' := by
  have H := Lib.hid h
  have HG := Lib.hid hg
  have HR := Lib.hid hr
  obtain ⟨n, hln⟩ : ∃ n, l.length = n := ⟨_, rfl⟩
  have HN := Lib.hid hln
  rw [hln] at hn ⊢
  clear h hg hr hln
  go_enter Tryd.func37, Tryd.ntmps37
  go_wp2
  go_loopw [8] (fun i wr => ∃ k : Nat, k ≤ n ∧ i = .int .i64 k ∧ Wr B b (appL S l k) wr ∧ Kp B b w wr) (fun i _ => n - (intOf i).toNat)
  case atStart => exact ⟨0, by omega, rfl, by rw [appL_zero]; exact H.out, Kp.refl _ _ _⟩
  case round =>
    obtain ⟨k, hk, rfl, h1, hkp⟩ := hrel
    have H1 := Lib.hid h1
    have K1 := Lib.hid hkp
    clear h1 hkp
    by_cases hlt : k < n
    · obtain ⟨x, hx⟩ : ∃ x, l[k]? = some x := ⟨_, List.getElem?_eq_getElem (by rw [HN.out]; exact hlt)⟩
      have hb := HR.out x (List.mem_of_getElem? hx)
      have hc : wr.cell? ⟨g, 0 + k, none⟩ = some (.int .i64 x) := by
        rw [Lib.cell_of_heap (K1.out.cell HG.out hne ht)]
        simp [hx]
      rw [Nat.zero_add] at hc
      have hs1 := appL_size S l k (by rw [HN.out]; omega)
      have HS := Lib.hid (appL_succ S l k x hx)
      have HX := Lib.hid hb
      have y1 : (k : Int) < (n : Int) := by omega
      have y0 : (0 : Int) ≤ (k : Int) := by omega
      have hs2 : (appL S l k).size + (varS x).size ≤ 140737488355328 := by have := varS_size x; omega
      have HS2 := Lib.hid hs2
      have hBr : B ≤ wr.heap.size := by have := H1.out.ge; have := H1.out.lt; omega
      have HBR := Lib.hid hBr
      clear hx hb hs1 hs2 hBr
      go_wp2_with fail
      go_region_held3 (fun w' => True) (first | trivial | go_keep)
        (first
          | (go_at_call 85; refine (impl_varS x _ HX.out.1 HX.out.2).mono ?_; rintro e w1 ⟨rfl, bb⟩; have K1 := Lib.hid (K1.out.after HBR.out ((Below.refl _ _).drew.trans bb)); have H1 := Lib.hid (H1.out.drew.after bb); clear bb)
          | (go_at_call 84; refine (write_c B b _ _ _ H1.out HS2.out).mono ?_; rintro e w2 ⟨rfl, h2, k2⟩; have H2 := Lib.hid h2; have K2 := Lib.hid (K1.out.trans k2); clear h2 k2))
      go_wp2
      go_roundw
      case rel => exact ⟨k + 1, by omega, by go_num, by rw [HS.out]; exact H2.out, K2.out⟩
      case measure => simp only [intOf]; omega
    · obtain rfl : k = n := by omega
      go_wp2
      go_end0
      exact ⟨rfl, H1.out, K1.out⟩
end Go.Proofs.YtkeoeempdkpafaaDoor
/- The writer of a message's fields. -/
namespace Go.Proofs.YtkeoeempdkpafaaDoor
open Go.RowKit Go.PlainAid
set_option linter.unusedVariables false

theorem bapp (a b c : ByteArray) : a ++ b ++ c = a ++ (b ++ c) := ByteArray.append_assoc
theorem app_nil (S : ByteArray) : S ++ (⟨#[]⟩ : ByteArray) = S := ByteArray.ext (by simp)
theorem bx2 {w : World} {g : Nat} {t : TypeId} {x0 x1 : Value} (h : Bx w g t #[x0, x1]) : w.cell? ⟨g, 0, none⟩ = some x0 ∧ w.cell? ⟨g, 1, none⟩ = some x1 := ⟨h.cell 0 _ rfl, h.cell 1 _ rfl⟩
theorem Kp.drew {B b : Nat} {w w' : World} (h : Kp B b w w') : Kp B b w w'.drew := ⟨h.1.drew, h.2.drew⟩
theorem wr_ge {B b : Nat} {S : ByteArray} {w : World} (h : Wr B b S w) : B ≤ w.heap.size := by have := h.ge; have := h.lt; omega
/-- numbers, at a slice that was made last. -/
theorem numbers_new (B b : Nat) (S : ByteArray) (l : List Int) (n : Nat) (hn : l.length = n) (c : Array Value) (hc : c = (l.map fun x => Value.int .i64 x).toArray) (w : World) (g : Nat) (hg : w.heap.size = g) (h : Wr B b S w) (hr : ∀ x ∈ l, 0 ≤ x ∧ x ≤ 562949953421311) (hl : n ≤ 1048576) (hsz : S.size ≤ 70368744177664) :
    Calls Tryd.prog 37 #[.pointer (some ⟨b, 0, none⟩), .slice (some ⟨g, 0, none⟩) n n] (w.alloc (.cells c 3)) fun e w' => e = .returned (.tuple #[]) ∧ Wr B b (appL S l n) w' ∧ Kp B b w w' := by
  subst hn hc hg
  refine (numbers_c B b S l w.heap.size l.length 3 _ (h.alloc _) (heap_alloc_new w _) (by decide) (by have := h.lt; omega) hr hl hsz).mono fun e w' hh => ⟨hh.1, hh.2.1, ?_⟩
  exact ((Kp.refl B b w).after (wr_ge h) ((Below.refl _ _).alloc (Nat.le_refl _) _)).trans hh.2.2
set_option maxHeartbeats 1000000 in
theorem text_w (B b : Nat) (S s : ByteArray) (w : World) (h : Wr B b S w) (hs : s.size ≤ 1048576) (hsz : S.size ≤ 70368744177664) :
    Calls Tryd.prog 86 #[.pointer (some ⟨b, 0, none⟩), .string s] w fun e w' => e = .returned (.tuple #[]) ∧ Wr B b (S ++ showT s) w' ∧ Kp B b w w' := by
  have H := Lib.hid h
  have HBR := Lib.hid (wr_ge h)
  have HS2 := Lib.hid (show S.size + (showT s).size ≤ 140737488355328 by have := showT_size s; omega)
  clear h
  go_enter Tryd.func86, Tryd.ntmps86
  go_wp2_with fail
  go_region_held3 (fun w' => True) (first | trivial | go_keep)
    (first
      | (go_at_call 107; refine (show_text s _ hs).mono ?_; rintro e w1 ⟨rfl, bb⟩; have K1 := Lib.hid ((Kp.refl B b w).after HBR.out ((Below.refl _ _).drew.trans bb)); have H1 := Lib.hid (H.out.drew.after bb); clear bb)
      | (go_at_call 84; refine (write_c B b _ _ _ H1.out HS2.out).mono ?_; rintro e w2 ⟨rfl, h2, k2⟩; have H2 := Lib.hid h2; have K2 := Lib.hid (K1.out.trans k2); clear h2 k2))
  go_wp2
  go_end0
  exact ⟨rfl, H2.out, K2.out⟩
set_option maxRecDepth 100000 in
set_option maxHeartbeats 2000000 in
theorem cmd_w (B b : Nat) (S : ByteArray) (c : CmdM) (v : Value) (a : Addr) (w w0 : World) (h : Wr B b S w) (hv : Strs w v c.ch) (hS : Sent w a) (hs : c.set.size ≤ 9223372036854775807) (hn : c.name.size ≤ 9223372036854775807) (ht : c.tag.size ≤ 9223372036854775807) (hsz : S.size ≤ 70368744177664) :
    Calls Tryd.prog 41 #[.pointer (some ⟨b, 0, none⟩), .agg #[.int .i64 c.kind, .int .i64 c.client, .int .i64 c.no, .string c.set, .string c.name, .string c.tag, .int .i64 c.n, v]] w fun e w' => e = .returned (.tuple #[]) ∧ Wr B b (S ++ showT (showS c)) w' ∧ Kp B b w w' := by
  have H := Lib.hid (h.alloc (.cells #[.int .i64 c.kind, .int .i64 c.client, .int .i64 c.no, .string c.set, .string c.name, .string c.tag, .int .i64 c.n, v] 33))
  have HBR := Lib.hid (wr_ge h)
  have KA := Lib.hid (Has.new w 33 c v _ rfl hv)
  have K0 := Lib.hid ((Kp.refl B b w).after (wr_ge h) ((Below.refl _ _).alloc (Nat.le_refl _) (.cells #[.int .i64 c.kind, .int .i64 c.client, .int .i64 c.no, .string c.set, .string c.name, .string c.tag, .int .i64 c.n, v] 33)))
  have HS := Lib.hid (hS.alloc (.cells #[.int .i64 c.kind, .int .i64 c.client, .int .i64 c.no, .string c.set, .string c.name, .string c.tag, .int .i64 c.n, v] 33))
  have H5 := Lib.hid (showS_size c)
  have HNE := Lib.hid (show w.heap.size ≠ b by have := h.lt; omega)
  clear h hv hS
  go_enter Tryd.func41, Tryd.ntmps41
  go_wp2_with fail
  have KA := Lib.hid KA.out.drew
  have H := Lib.hid H.out.drew
  have K0 := Lib.hid K0.out.drew
  have HS := Lib.hid HS.out.drew
  go_region_held3 (fun w' => w'.cell? ⟨w.heap.size, 0, none⟩ = some (.int .i64 c.kind) ∧ w'.cell? ⟨w.heap.size, 1, none⟩ = some (.int .i64 c.client) ∧ w'.cell? ⟨w.heap.size, 2, none⟩ = some (.int .i64 c.no) ∧ w'.cell? ⟨w.heap.size, 3, none⟩ = some (.string c.set) ∧ w'.cell? ⟨w.heap.size, 4, none⟩ = some (.string c.name) ∧ w'.cell? ⟨w.heap.size, 5, none⟩ = some (.string c.tag) ∧ w'.cell? ⟨w.heap.size, 6, none⟩ = some (.int .i64 c.n) ∧ w'.cell? ⟨w.heap.size, 7, none⟩ = some v)
    (first | (exact KB.out) | (exact Has.cells KA.out))
    (first
      | (go_at_call 87; refine (impl_show c v a _ KA.out.2 HS.out hs hn ht).mono ?_; rintro e w1 ⟨rfl, bb⟩; have K1 := Lib.hid (K0.out.after (wr_ge H.out) bb); have H1 := Lib.hid (H.out.after bb); have KA := Lib.hid (KA.out.after bb); clear bb)
      | (go_at_call 86; refine (text_w B b _ _ _ H1.out (by have := H5.out; omega) hsz).mono ?_; rintro e w2 ⟨rfl, h2, k2⟩; have H2 := Lib.hid h2; have K2 := Lib.hid (K1.out.trans k2); have KB := Lib.hid (Box.cells8 (show Box w2 w.heap.size 33 _ from k2.cell KA.out.1 HNE.out (by decide))); clear h2 k2))
  go_wp2
  go_end0
  exact ⟨rfl, H2.out, K2.out⟩
set_option maxRecDepth 100000 in
set_option maxHeartbeats 2000000 in
theorem id_w (B b : Nat) (S : ByteArray) (r s : Int) (w : World) (h : Wr B b S w) (hr : 0 ≤ r ∧ r ≤ 562949953421311) (hs : 0 ≤ s ∧ s ≤ 562949953421311) (hsz : S.size ≤ 70368744177664) :
    Calls Tryd.prog 38 #[.pointer (some ⟨b, 0, none⟩), .agg #[.int .i64 r, .int .i64 s]] w fun e w' => e = .returned (.tuple #[]) ∧ Wr B b (S ++ varS r ++ varS s) w' ∧ Kp B b w w' := by
  have H := Lib.hid ((h.alloc (.cells #[.int .i64 r, .int .i64 s] 32)).drew)
  have X := Lib.hid ((Bx.new w 32 #[.int .i64 r, .int .i64 s] _ rfl).drew)
  have K0 := Lib.hid (((Kp.refl B b w).after (wr_ge h) ((Below.refl _ _).alloc (Nat.le_refl _) (.cells #[.int .i64 r, .int .i64 s] 32))).drew)
  have HNE := Lib.hid (show w.heap.size ≠ b by have := h.lt; omega)
  clear h
  go_enter Tryd.func38, Tryd.ntmps38
  go_wp2_with fail
  refine wp_region_noPanic ?_
  refine wp_region_takes (T := fun _ => false) (S := fun w' => w'.cell? ⟨w.heap.size, 0, none⟩ = some (.int .i64 r) ∧ w'.cell? ⟨w.heap.size, 1, none⟩ = some (.int .i64 s)) [0, 1, 2, 3, 4, 5, 6] [7, 8] (by kernel_rfl) (by kernel_rfl) (by kernel_rfl) (by kernel_rfl) (fun _ _ _ _ _ h => h) (bx2 X.out) ?_
  iterate 7 (refine wpTakes_step (v := ?_) rfl rfl ?_ ?_; rotate_left; (intro w' hS'; (try dsimp only at hS'); go_simp; (try with_reducible rfl)); simp only [List.getElem_toArray, List.getElem_cons_succ, List.getElem_cons_zero, Act.put, List.setIfInBounds_toArray, List.set_cons_zero, List.set_cons_succ])
  unfold wpTakes
  refine wpSeqT_step rfl ?_
  go_wp2
  refine ⟨fun _ => bx2 (X.out.alloc _), ?_⟩
  refine wpSeqT_step rfl ?_
  go_wp2_with fail
  refine (numbers_new B b S [r, s] 2 rfl #[.int .i64 r, .int .i64 s] rfl _ _ (by simp) H.out (by simp; omega) (by decide) hsz).mono ?_
  rintro e w2 ⟨rfl, h2, k2⟩
  have H2 := Lib.hid h2
  have K2 := Lib.hid (K0.out.trans k2)
  have X2 := Lib.hid (show Bx w2 w.heap.size 32 #[.int .i64 r, .int .i64 s] from k2.cell X.out HNE.out (by decide))
  clear h2 k2
  go_wp2
  refine ⟨fun _ => bx2 X2.out, ?_⟩
  unfold wpSeqT
  refine NoPanic.normal ?_
  go_wp2
  go_end0
  exact ⟨rfl, by have := H2.out; rw [appL_2] at this; exact this, K2.out⟩
set_option maxHeartbeats 1000000 in
theorem ballot_w (B b : Nat) (S : ByteArray) (n : Int) (w : World) (h : Wr B b S w) (hn : -1 ≤ n ∧ n ≤ 1048576) (hsz : S.size ≤ 70368744177664) :
    Calls Tryd.prog 39 #[.pointer (some ⟨b, 0, none⟩), .int .i64 n] w fun e w' => e = .returned (.tuple #[]) ∧ Wr B b (S ++ varS (n + 1)) w' ∧ Kp B b w w' := by
  have H := Lib.hid h
  clear h
  have hw : IntKind.i64.wrap (n - -1) = n + 1 := by rw [IntWalk.i64_in _ (by omega)]; omega
  go_enter Tryd.func39, Tryd.ntmps39
  go_wp2_with fail
  refine (numbers_new B b S [n + 1] 1 rfl #[.int .i64 (n + 1)] rfl _ _ (by first | rfl | simp) H.out (by simp; omega) (by decide) hsz).mono ?_
  rintro e w2 ⟨rfl, h2, k2⟩
  have H2 := Lib.hid h2
  have K2 := Lib.hid k2
  clear h2 k2
  go_wp2
  go_end0
  exact ⟨rfl, by have := H2.out; rw [appL_1] at this; exact this, K2.out⟩
set_option maxHeartbeats 1000000 in
theorem flag_w (B b : Nat) (S : ByteArray) (f : Bool) (w : World) (h : Wr B b S w) (hsz : S.size ≤ 70368744177664) :
    Calls Tryd.prog 40 #[.pointer (some ⟨b, 0, none⟩), .bool f] w fun e w' => e = .returned (.tuple #[]) ∧ Wr B b (S ++ flagS f) w' ∧ Kp B b w w' := by
  have H := Lib.hid h
  clear h
  cases f
  · go_enter Tryd.func40, Tryd.ntmps40
    go_wp2_with fail
    refine (numbers_new B b S [0] 1 rfl #[.int .i64 0] rfl _ _ (by first | rfl | simp) H.out (by simp) (by decide) hsz).mono ?_
    rintro e w2 ⟨rfl, h2, k2⟩
    have H2 := Lib.hid h2
    have K2 := Lib.hid k2
    clear h2 k2
    go_wp2
    go_end0
    exact ⟨rfl, by have := H2.out; rw [appL_1, varS_0] at this; exact this, K2.out⟩
  · go_enter Tryd.func40, Tryd.ntmps40
    go_wp2_with fail
    refine (numbers_new B b S [1] 1 rfl #[.int .i64 1] rfl _ _ (by first | rfl | simp) H.out (by simp) (by decide) hsz).mono ?_
    rintro e w2 ⟨rfl, h2, k2⟩
    have H2 := Lib.hid h2
    have K2 := Lib.hid k2
    clear h2 k2
    go_wp2
    go_end0
    exact ⟨rfl, by have := H2.out; rw [appL_1, varS_1] at this; exact this, K2.out⟩
set_option maxRecDepth 100000 in
set_option maxHeartbeats 2000000 in
theorem ids_w (B b : Nat) (S : ByteArray) (v : Value) (l : List Ii) (w0 w : World) (h : Wr B b S w) (hv : Ids w0 v l) (hB : w0.heap.size ≤ B) (h0 : Below w0.heap.size w0 w) (hl : l.length ≤ 1048576)
    (hr : ∀ j, j < l.length → (0 ≤ iR l j ∧ iR l j ≤ 562949953421311) ∧ (0 ≤ iS l j ∧ iS l j ≤ 562949953421311)) (hsz : S.size ≤ 35184372088832) :
    Calls Tryd.prog 42 #[.pointer (some ⟨b, 0, none⟩), v] w fun e w' => e = .returned (.tuple #[]) ∧ Wr B b (S ++ varS l.length ++ idsS l l.length) w' ∧ Kp B b w w' := by
  have H := Lib.hid h
  obtain ⟨h1, a, ca, rfl, hca, ha⟩ := hv
  obtain ⟨n, hln⟩ : ∃ n, l.length = n := ⟨_, rfl⟩
  rw [hln] at hl hr h1 ha hca ⊢
  have HA := Lib.hid ha
  have HR := Lib.hid hr
  have H0 := Lib.hid h0
  have HB := Lib.hid hB
  obtain ⟨S1, hS1⟩ : ∃ S1, S ++ varS (n : Int) = S1 := ⟨_, rfl⟩
  have HS1 := Lib.hid hS1
  have hz1 : S1.size ≤ 35184372088840 := by rw [← hS1, ByteArray.size_append]; have := varS_size (n : Int); omega
  have hsz' : S.size ≤ 70368744177664 := by omega
  rw [hS1]
  have HZ := Lib.hid hz1
  clear h ha hr h0 hB hS1 hca hz1 hsz
  go_enter Tryd.func42, Tryd.ntmps42
  go_wp2_with fail
  refine (numbers_new B b S [(n : Int)] 1 rfl #[.int .i64 (n : Int)] rfl _ _ (by first | rfl | simp) H.out (by simp; omega) (by decide) hsz').mono ?_
  rintro e w1 ⟨rfl, h2, k2⟩
  rw [appL_1, HS1.out] at h2
  have H1 := Lib.hid h2
  have K1 := Lib.hid k2
  clear h2 k2 hsz'
  go_wp2
  go_loopw [15] (fun i wr => ∃ k : Nat, k ≤ n ∧ i = .int .i64 k ∧ Wr B b (S1 ++ idsS l k) wr ∧ Kp B b w wr) (fun i _ => n - (intOf i).toNat)
  case atStart => exact ⟨0, by omega, rfl, by rw [idsS_zero, app_nil]; exact H1.out, K1.out⟩
  case round =>
    clear H1 K1
    obtain ⟨k, hk, rfl, h1, hkp⟩ := hrel
    have H1 := Lib.hid h1
    have K1 := Lib.hid hkp
    clear h1 hkp
    by_cases hlt : k < n
    · obtain ⟨x, o, rfl, hx, hcx⟩ := HA.out (by omega)
      obtain ⟨c1, c2⟩ := ((hcx k hlt).below H0.out hx).below (K1.out.1.mono HB.out) hx
      have hb := HR.out k hlt
      have hs1 := idsS_size l k
      have hs2 : (S1 ++ idsS l k).size ≤ 70368744177664 := by rw [ByteArray.size_append]; have := HZ.out; omega
      have HX := Lib.hid (And.intro hb hs2)
      have y1 : (k : Int) < (n : Int) := by omega
      have y0 : (0 : Int) ≤ (k : Int) := by omega
      have H2 := Lib.hid (H1.out.alloc (.cells #[.int .i64 (iR l k), .int .i64 (iS l k)] 32))
      have K2 := Lib.hid (K1.out.after (wr_ge H1.out) ((Below.refl _ _).alloc (Nat.le_refl _) (.cells #[.int .i64 (iR l k), .int .i64 (iS l k)] 32)))
      clear hcx hb hs1 hs2
      go_wp2_with fail
      refine (id_w B b _ _ _ _ H2.out HX.out.1.1 HX.out.1.2 HX.out.2).mono ?_
      rintro e w2 ⟨rfl, h3, k3⟩
      have H3 := Lib.hid h3
      have K3 := Lib.hid (K2.out.trans k3)
      clear h3 k3 c1 c2
      go_wp2
      go_roundw
      case rel => exact ⟨k + 1, by omega, by go_num, by rw [idsS_succ]; have := H3.out; rw [bapp, bapp] at this; rw [bapp]; exact this, K3.out⟩
      case measure => simp only [intOf]; omega
    · obtain rfl : k = n := by omega
      go_wp2
      go_end0
      exact ⟨rfl, H1.out, K1.out⟩
end Go.Proofs.YtkeoeempdkpafaaDoor
/- The encoding of a message: the program. -/
namespace Go.Proofs.YtkeoeempdkpafaaDoor
open Go.RowKit Go.PlainAid
set_option linter.unusedVariables false

attribute [local go_sem] blkO_eq aggO_eq
attribute [local go_sem ↓] load_emsg_pre
theorem nil_app (S : ByteArray) : (⟨#[]⟩ : ByteArray) ++ S = S := ByteArray.ext (by simp)
set_option maxRecDepth 100000 in
set_option maxHeartbeats 4000000 in
theorem impl_showE (x : Em) (u d : Value) (a : Addr) (w : World) (h : Pts w x.i u d) (hS : Sent w a) (hdl : x.i.deps.length ≤ 1048576) :
    Calls Tryd.prog 10 #[.agg #[.int .i64 x.kind, .int .i64 x.frm, .int .i64 x.dst, .int .i64 x.i.rep, .int .i64 x.i.slot, .int .i64 x.i.bal, .int .i64 x.i.cmd.kind, .int .i64 x.i.cmd.client, .int .i64 x.i.cmd.no, .string x.i.cmd.set, .string x.i.cmd.name, .string x.i.cmd.tag, .int .i64 x.i.cmd.n, u, .int .i64 x.i.seq, d, .int .i64 x.i.st, .int .i64 x.i.vbal, .bool x.i.same]] w fun e w' => e = .returned (.string (showE x)) ∧ Below w.heap.size w w' := by
  obtain ⟨⟨a1, n1, c1, rfl⟩, a2, n2, c2, rfl⟩ := h.form
  have P0 := Lib.hid h
  have HS0 := Lib.hid hS
  have X0 := Lib.hid (Bx.new w 36 #[.int .i64 x.kind, .int .i64 x.frm, .int .i64 x.dst, .int .i64 x.i.rep, .int .i64 x.i.slot, .int .i64 x.i.bal, .int .i64 x.i.cmd.kind, .int .i64 x.i.cmd.client, .int .i64 x.i.cmd.no, .string x.i.cmd.set, .string x.i.cmd.name, .string x.i.cmd.tag, .int .i64 x.i.cmd.n, .slice a1 n1 c1, .int .i64 x.i.seq, .slice a2 n2 c2, .int .i64 x.i.st, .int .i64 x.i.vbal, .bool x.i.same] _ rfl)
  have A0 := Lib.hid ((Af.refl w).alloc (.cells #[.int .i64 x.kind, .int .i64 x.frm, .int .i64 x.dst, .int .i64 x.i.rep, .int .i64 x.i.slot, .int .i64 x.i.bal, .int .i64 x.i.cmd.kind, .int .i64 x.i.cmd.client, .int .i64 x.i.cmd.no, .string x.i.cmd.set, .string x.i.cmd.name, .string x.i.cmd.tag, .int .i64 x.i.cmd.n, .slice a1 n1 c1, .int .i64 x.i.seq, .slice a2 n2 c2, .int .i64 x.i.st, .int .i64 x.i.vbal, .bool x.i.same] 36))
  clear h hS
  go_enter Tryd.func10, Tryd.ntmps10
  obtain ⟨rX1, rX2⟩ := X0.out.row rfl
  go_wp2_with fail
  clear rX1 rX2
  refine (impl_emsg x _ _ a _ (P0.out.later A0.out) (HS0.out.later A0.out)).mono ?_
  rintro e w1 ⟨rfl, bb⟩
  have X1 := Lib.hid ((X0.out.after bb).alloc (.cells #[.pointer none, .slice none 0 0] WT))
  have A1 := Lib.hid (A0.out.after bb)
  have W1 := Lib.hid (Wr.new w1)
  have hB : w.heap.size < w1.heap.size := (X0.out.after bb).lt
  clear bb X0 A0
  cases hb : emB x
  · have HF := Lib.hid (showE_no hb)
    clear W1 X1
    go_wp2
    go_ret
    exact ⟨by rw [HF.out]; rfl, A1.out⟩
  have HF := Lib.hid (showE_yes hb)
  have HE := Lib.hid (emB_fit hb)
  have A1 := Lib.hid (A1.out.alloc (.cells #[.pointer none, .slice none 0 0] WT))
  have HB := Lib.hid hB
  clear hb hB
  have Z1 := Lib.hid (show (⟨#[]⟩ : ByteArray).size ≤ 0 from Nat.le_refl _)
  obtain ⟨x0, x1, x2, x3, x4, x5, x6, x7, x8, x9, x10, x11, x12, x13, x14, x15, x16, x17, x18⟩ := X1.out.c19
  go_wp2_with fail
  clear x0 x1 x2 x3 x4 x5 x6 x7 x8 x9 x10 x11 x12 x13 x14 x15 x16 x17 x18
  refine (numbers_new w1.heap.size w1.heap.size _ [x.kind, x.frm, x.dst] 3 rfl #[.int .i64 x.kind, .int .i64 x.frm, .int .i64 x.dst] rfl _ _ (by first | rfl | simp) W1.out (by have := HE.out; simp; omega) (by decide) (by have := Z1.out; omega)).mono ?_
  rintro e w2 ⟨rfl, h2, k2⟩
  rw [appL_3] at h2
  obtain ⟨S2, hS2⟩ : ∃ S2, (⟨#[]⟩ : ByteArray) ++ varS x.kind ++ varS x.frm ++ varS x.dst = S2 := ⟨_, rfl⟩
  rw [hS2] at h2
  have Z2 := Lib.hid (show S2.size ≤ 21 by rw [← hS2]; simp only [ByteArray.size_append]; have := Z1.out; have := varS_size x.kind; have := varS_size x.frm; have := varS_size x.dst; omega)
  have E2 := Lib.hid hS2
  clear hS2
  have X2 := Lib.hid (X1.out.later k2.1 HB.out)
  have A2 := Lib.hid (show Af w w2 from Below.trans A1.out (k2.1.mono (by have := HB.out; omega)))
  have W2 := Lib.hid h2
  clear h2 k2 W1 X1 Z1 A1
  obtain ⟨x0, x1, x2, x3, x4, x5, x6, x7, x8, x9, x10, x11, x12, x13, x14, x15, x16, x17, x18⟩ := X2.out.c19
  go_wp2_with fail
  clear x0 x1 x2 x3 x4 x5 x6 x7 x8 x9 x10 x11 x12 x13 x14 x15 x16 x17 x18
  refine (id_w w1.heap.size w1.heap.size _ x.i.rep x.i.slot _ W2.out (by have := HE.out; omega) (by have := HE.out; omega) (by have := Z2.out; omega)).mono ?_
  rintro e w3 ⟨rfl, h2, k2⟩
  obtain ⟨S3, hS3⟩ : ∃ S3, S2 ++ varS x.i.rep ++ varS x.i.slot = S3 := ⟨_, rfl⟩
  rw [hS3] at h2
  have Z3 := Lib.hid (show S3.size ≤ 35 by rw [← hS3]; simp only [ByteArray.size_append]; have := Z2.out; have := varS_size x.i.rep; have := varS_size x.i.slot; omega)
  have E3 := Lib.hid hS3
  clear hS3
  have X3 := Lib.hid (X2.out.later k2.1 HB.out)
  have A3 := Lib.hid (show Af w w3 from Below.trans A2.out (k2.1.mono (by have := HB.out; omega)))
  have W3 := Lib.hid h2
  clear h2 k2 W2 X2 Z2 A2
  obtain ⟨x0, x1, x2, x3, x4, x5, x6, x7, x8, x9, x10, x11, x12, x13, x14, x15, x16, x17, x18⟩ := X3.out.c19
  go_wp2_with fail
  clear x0 x1 x2 x3 x4 x5 x6 x7 x8 x9 x10 x11 x12 x13 x14 x15 x16 x17 x18
  refine (numbers_new w1.heap.size w1.heap.size _ [x.i.bal, x.i.st] 2 rfl #[.int .i64 x.i.bal, .int .i64 x.i.st] rfl _ _ (by first | rfl | simp) W3.out (by have := HE.out; simp; omega) (by decide) (by have := Z3.out; omega)).mono ?_
  rintro e w4 ⟨rfl, h2, k2⟩
  rw [appL_2] at h2
  obtain ⟨S4, hS4⟩ : ∃ S4, S3 ++ varS x.i.bal ++ varS x.i.st = S4 := ⟨_, rfl⟩
  rw [hS4] at h2
  have Z4 := Lib.hid (show S4.size ≤ 49 by rw [← hS4]; simp only [ByteArray.size_append]; have := Z3.out; have := varS_size x.i.bal; have := varS_size x.i.st; omega)
  have E4 := Lib.hid hS4
  clear hS4
  have X4 := Lib.hid (X3.out.later k2.1 HB.out)
  have A4 := Lib.hid (show Af w w4 from Below.trans A3.out (k2.1.mono (by have := HB.out; omega)))
  have W4 := Lib.hid h2
  clear h2 k2 W3 X3 Z3 A3
  obtain ⟨x0, x1, x2, x3, x4, x5, x6, x7, x8, x9, x10, x11, x12, x13, x14, x15, x16, x17, x18⟩ := X4.out.c19
  go_wp2_with fail
  clear x0 x1 x2 x3 x4 x5 x6 x7 x8 x9 x10 x11 x12 x13 x14 x15 x16 x17 x18
  refine (ballot_w w1.heap.size w1.heap.size _ x.i.vbal _ W4.out (by have := HE.out; omega) (by have := Z4.out; omega)).mono ?_
  rintro e w5 ⟨rfl, h2, k2⟩
  obtain ⟨S5, hS5⟩ : ∃ S5, S4 ++ varS (x.i.vbal + 1) = S5 := ⟨_, rfl⟩
  rw [hS5] at h2
  have Z5 := Lib.hid (show S5.size ≤ 56 by rw [← hS5]; simp only [ByteArray.size_append]; have := Z4.out; have := varS_size (x.i.vbal + 1); omega)
  have E5 := Lib.hid hS5
  clear hS5
  have X5 := Lib.hid (X4.out.later k2.1 HB.out)
  have A5 := Lib.hid (show Af w w5 from Below.trans A4.out (k2.1.mono (by have := HB.out; omega)))
  have W5 := Lib.hid h2
  clear h2 k2 W4 X4 Z4 A4
  obtain ⟨x0, x1, x2, x3, x4, x5, x6, x7, x8, x9, x10, x11, x12, x13, x14, x15, x16, x17, x18⟩ := X5.out.c19
  go_wp2_with fail
  clear x0 x1 x2 x3 x4 x5 x6 x7 x8 x9 x10 x11 x12 x13 x14 x15 x16 x17 x18
  refine (numbers_new w1.heap.size w1.heap.size _ [x.i.seq] 1 rfl #[.int .i64 x.i.seq] rfl _ _ (by first | rfl | simp) W5.out (by have := HE.out; simp; omega) (by decide) (by have := Z5.out; omega)).mono ?_
  rintro e w6 ⟨rfl, h2, k2⟩
  rw [appL_1] at h2
  obtain ⟨S6, hS6⟩ : ∃ S6, S5 ++ varS x.i.seq = S6 := ⟨_, rfl⟩
  rw [hS6] at h2
  have Z6 := Lib.hid (show S6.size ≤ 63 by rw [← hS6]; simp only [ByteArray.size_append]; have := Z5.out; have := varS_size x.i.seq; omega)
  have E6 := Lib.hid hS6
  clear hS6
  have X6 := Lib.hid (X5.out.later k2.1 HB.out)
  have A6 := Lib.hid (show Af w w6 from Below.trans A5.out (k2.1.mono (by have := HB.out; omega)))
  have W6 := Lib.hid h2
  clear h2 k2 W5 X5 Z5 A5
  obtain ⟨x0, x1, x2, x3, x4, x5, x6, x7, x8, x9, x10, x11, x12, x13, x14, x15, x16, x17, x18⟩ := X6.out.c19
  go_wp2_with fail
  clear x0 x1 x2 x3 x4 x5 x6 x7 x8 x9 x10 x11 x12 x13 x14 x15 x16 x17 x18
  refine (flag_w w1.heap.size w1.heap.size _ x.i.same _ W6.out (by have := Z6.out; omega)).mono ?_
  rintro e w7 ⟨rfl, h2, k2⟩
  obtain ⟨S7, hS7⟩ : ∃ S7, S6 ++ flagS x.i.same = S7 := ⟨_, rfl⟩
  rw [hS7] at h2
  have Z7 := Lib.hid (show S7.size ≤ 64 by rw [← hS7]; simp only [ByteArray.size_append]; have := Z6.out; have := flagS_size x.i.same; omega)
  have E7 := Lib.hid hS7
  clear hS7
  have X7 := Lib.hid (X6.out.later k2.1 HB.out)
  have A7 := Lib.hid (show Af w w7 from Below.trans A6.out (k2.1.mono (by have := HB.out; omega)))
  have W7 := Lib.hid h2
  clear h2 k2 W6 X6 Z6 A6
  obtain ⟨x0, x1, x2, x3, x4, x5, x6, x7, x8, x9, x10, x11, x12, x13, x14, x15, x16, x17, x18⟩ := X7.out.c19
  go_wp2_with fail
  clear x0 x1 x2 x3 x4 x5 x6 x7 x8 x9 x10 x11 x12 x13 x14 x15 x16 x17 x18
  refine (cmd_w w1.heap.size w1.heap.size _ x.i.cmd _ a _ w W7.out (P0.out.later A7.out).1 (HS0.out.later A7.out) P0.out.2.2.1 P0.out.2.2.2.1 P0.out.2.2.2.2 (by have := Z7.out; omega)).mono ?_
  rintro e w8 ⟨rfl, h2, k2⟩
  obtain ⟨S8, hS8⟩ : ∃ S8, S7 ++ showT (showS x.i.cmd) = S8 := ⟨_, rfl⟩
  rw [hS8] at h2
  have Z8 := Lib.hid (show S8.size ≤ 183 by rw [← hS8]; simp only [ByteArray.size_append]; have := Z7.out; have := showT_size (showS x.i.cmd); have := showS_size x.i.cmd; omega)
  have E8 := Lib.hid hS8
  clear hS8
  have X8 := Lib.hid (X7.out.later k2.1 HB.out)
  have A8 := Lib.hid (show Af w w8 from Below.trans A7.out (k2.1.mono (by have := HB.out; omega)))
  have W8 := Lib.hid h2
  clear h2 k2 W7 X7 Z7 A7
  obtain ⟨x0, x1, x2, x3, x4, x5, x6, x7, x8, x9, x10, x11, x12, x13, x14, x15, x16, x17, x18⟩ := X8.out.c19
  go_wp2_with fail
  clear x0 x1 x2 x3 x4 x5 x6 x7 x8 x9 x10 x11 x12 x13 x14 x15 x16 x17 x18
  refine (ids_w w1.heap.size w1.heap.size _ _ x.i.deps w _ W8.out P0.out.2.1 (by have := HB.out; omega) A8.out hdl (fun j hj => by have := HE.out.2.2.2.2.2.2.2.2.2 j hj; omega) (by have := Z8.out; omega)).mono ?_
  rintro e w9 ⟨rfl, h2, k2⟩
  have A9 := Lib.hid (show Af w w9 from Below.trans A8.out (k2.1.mono (by have := HB.out; omega)))
  have W9 := Lib.hid h2
  clear h2 k2 W8 X8 Z8 A8
  have hfin : S8 ++ varS x.i.deps.length ++ idsS x.i.deps x.i.deps.length = showE x := by rw [HF.out, headW_eq, ← E8.out, ← E7.out, ← E6.out, ← E5.out, ← E4.out, ← E3.out, ← E2.out, nil_app]
  rw [hfin] at W9
  have hne : (showE x).size ≠ 0 := by rw [HF.out, headW_eq]; simp only [ByteArray.size_append]; have := varS_pos x.kind; omega
  clear hfin HF
  go_wp2_with fail
  refine (string_c _ _ _ _ W9.out hne).mono ?_
  rintro e w10 ⟨rfl, b9⟩
  have A10 := Lib.hid (show Af w w10 from Below.trans A9.out (b9.mono (by have := HB.out; omega)))
  clear b9 W9 A9
  go_wp2
  go_ret
  exact ⟨rfl, A10.out⟩
end Go.Proofs.YtkeoeempdkpafaaDoor
