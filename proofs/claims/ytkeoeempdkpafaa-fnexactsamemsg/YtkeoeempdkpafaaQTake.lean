/- A region that draws its order: what only reads is taken first; S is held up to the operations that wait for all of that. -/
import Derived.Test.YtkeoeempdkpafaaRows
import Derived.WalkKit
import Derived.OrdersHeld
import Derived.StillTail
namespace Go.Proofs.Ytkeoeempdkpafaa
open Go.RowKit
set_option linter.unusedVariables false
section
variable {P : Program} {ops : Array Oper} {Q : Exit → Act → World → Prop} {md : Region.Mode} {S : World → Prop} {T : Nat → Bool}
/-- Whatever order is picked; S holds behind each operation outside T. -/
def wpAnyT (P : Program) (md : Region.Mode) (ops : Array Oper) (Q : Exit → Act → World → Prop) (S : World → Prop) (T : Nat → Bool) : Nat → Array Bool → Act → World → Prop
  | 0, listed, a, w => Region.ready md ops listed = [] ∧ Q .normal a w
  | f + 1, listed, a, w => (Region.ready md ops listed = [] → Q .normal a w) ∧ ∀ i ∈ Region.ready md ops listed, wpOp P ops Q i (fun a' w' => (T i = false → S w') ∧ wpAnyT P md ops Q S T f (listed.setIfInBounds i true) a' w') a w
theorem wpAny_of_T : ∀ (f : Nat) (listed : Array Bool) (a : Act) (w : World), wpAnyT P md ops Q S T f listed a w → wpAny P md ops Q f listed a w
  | 0, _, _, _, h => h
  | f + 1, _, _, _, h => ⟨h.1, fun i hi => wpOp_mono (fun a' w' h' => wpAny_of_T f _ a' w' h'.2) (h.2 i hi)⟩
theorem wpAnyT_first {i : Nat} {oi : Oper} {v : Value} (hi : ops[i]? = some oi) (hsel : ∀ (j : Nat) (o : Oper) cs b, ops[j]? = some o → o.op ≠ .select cs b)
    (hQ : ∀ c a w, Q (.panic c) (a.put oi.dst v) w → Q (.panic c) a w) (hT : ∀ j oj, ops[j]? = some oj → T j = true → ∃ e ∈ oj.after, Region.binds md e = true ∧ e.on = i) (f : Nat) :
    ∀ (listed : Array Bool) (a : Act) (w : World), (∀ j oj, ops[j]? = some oj → j ≠ i → listed.getD j true = false → (∀ e ∈ oj.after, Region.binds md e = true → e.on ≠ i) → oi.apart ops oj = true) →
      i ∈ Region.ready md ops listed → YieldsIf P ops S oi v a → S w → wpAnyT P md ops Q S T f (listed.setIfInBounds i true) (a.put oi.dst v) w → wpAnyT P md ops Q S T (f + 1) listed a w := by
  induction f with
  | zero =>
    intro listed a w _ hr hy hS H
    refine ⟨fun h => absurd hr (by rw [h]; exact List.not_mem_nil), fun j hj => ?_⟩
    by_cases hji : j = i
    · subst hji; exact hy.wpOp hi hS ⟨fun _ => hS, H⟩
    · have := ready_mono hj hji
      rw [H.1] at this
      cases this
  | succ f ih =>
    intro listed a w hfree hr hy hS H
    refine ⟨fun h => absurd hr (by rw [h]; exact List.not_mem_nil), fun j hj => ?_⟩
    by_cases hji : j = i
    · subst hji; exact hy.wpOp hi hS ⟨fun _ => hS, H⟩
    · have h1 := H.2 j (ready_mono hj hji)
      obtain ⟨hjun, oj, hoj, hall⟩ := mem_ready.1 hj
      have hun : listed.getD i false = false := getD_both (mem_ready.1 hr).1
      have hnot : ∀ e ∈ oj.after, Region.binds md e = true → e.on ≠ i := fun e he hb heq => by
        have h2 := hall e he hb
        rw [heq, hun] at h2
        cases h2
      have htj : T j = false := by
        cases ht : T j with
        | false => rfl
        | true =>
          obtain ⟨e, he, hb, ho⟩ := hT j oj hoj ht
          exact absurd ho (hnot e he hb)
      have h2 := wpOp_putIf hoj (hfree j oj hoj hji hjun hnot) (fun cs b => hsel i oi cs b hi) (fun cs b => hsel j oj cs b hoj) hQ hy h1
      refine wpOp_mono (fun a' w' h3 => ⟨h3.2.1, ih (listed.setIfInBounds j true) a' w' (fun k ok hk hki hu hno => hfree k ok hk hki ?_ hno) (ready_mono hr (Ne.symm hji)) h3.1 (h3.2.1 htj) ?_⟩) h2
      · by_cases hjk : j = k
        · subst hjk; exact hjun
        · rw [getD_set_ne true hjk] at hu; exact hu
      · rw [Array.setIfInBounds_comm _ _ hji]
        exact h3.2.2
/-- In this very order. -/
def wpSeqT (P : Program) (ops : Array Oper) (Q : Exit → Act → World → Prop) (S : World → Prop) (T : Nat → Bool) : List Nat → Act → World → Prop
  | [], a, w => Q .normal a w
  | k :: r, a, w => wpOp P ops Q k (fun a' w' => (T k = false → S w') ∧ wpSeqT P ops Q S T r a' w') a w
def seqI (md : Region.Mode) (ops : Array Oper) : List Nat → Array Bool → Bool
  | [], listed => (Region.ready md ops listed).isEmpty
  | k :: r, listed => decide (Region.ready md ops listed = [k]) && seqI md ops r (listed.setIfInBounds k true)
theorem wpAnyT_of_seq : ∀ (r : List Nat) (listed : Array Bool) (a : Act) (w : World), seqI md ops r listed = true → wpSeqT P ops Q S T r a w → wpAnyT P md ops Q S T r.length listed a w
  | [], listed, a, w, hB, h => ⟨by simpa [seqI] using hB, h⟩
  | k :: r, listed, a, w, hB, h => by
    simp only [seqI, Bool.and_eq_true, decide_eq_true_eq] at hB
    refine ⟨fun h0 => absurd hB.1 (by rw [h0]; simp), fun i hi => ?_⟩
    rw [hB.1] at hi
    obtain rfl : i = k := by simpa using hi
    exact wpOp_mono (fun a' w' h' => ⟨h'.1, wpAnyT_of_seq r _ a' w' hB.2 h'.2⟩) h
def takeB (md : Region.Mode) (ops : Array Oper) (T : Nat → Bool) (r : List Nat) : List Nat → Array Bool → Bool
  | [], listed => seqI md ops r listed
  | k :: t, listed => (Region.ready md ops listed).contains k && Region.free md ops listed k && ((List.range ops.size).all fun j => !T j || Region.waitsFor md ops j k) && takeB md ops T r t (listed.setIfInBounds k true)
def wpTakes (P : Program) (ops : Array Oper) (Q : Exit → Act → World → Prop) (S : World → Prop) (T : Nat → Bool) (r : List Nat) : List Nat → Act → World → Prop
  | [], a, w => wpSeqT P ops Q S T r a w
  | k :: t, a, w => ∃ o v, ops[k]? = some o ∧ YieldsIf P ops S o v a ∧ wpTakes P ops Q S T r t (a.put o.dst v) w
theorem wpAnyT_takes {r : List Nat} (hsel : Region.noSelect ops = true) (hQ : ∀ c (a : Act) d v w, Q (.panic c) (a.put d v) w → Q (.panic c) a w) :
    ∀ (t : List Nat) (listed : Array Bool) (a : Act) (w : World), takeB md ops T r t listed = true → S w → wpTakes P ops Q S T r t a w → wpAnyT P md ops Q S T (t.length + r.length) listed a w
  | [], listed, a, w, hB, _, h => by rw [List.length_nil, Nat.zero_add]; exact wpAnyT_of_seq r listed a w hB h
  | k :: t, listed, a, w, hB, hS, h => by
    obtain ⟨o, v, ho, hy, hr⟩ := h
    simp only [takeB, Bool.and_eq_true] at hB
    obtain ⟨⟨⟨h1, h2⟩, h3⟩, h4⟩ := hB
    rw [List.length_cons, Nat.add_right_comm]
    refine wpAnyT_first ho (Region.noSelect_spec hsel) (fun c a w => hQ c a _ _ w) (fun j oj hj ht => ?_) _ listed a w (Region.free_spec ho h2) (by simpa using h1) hy hS (wpAnyT_takes hsel hQ t _ _ w h4 hS hr)
    have hjl : j < ops.size := (Array.getElem?_eq_some_iff.1 hj).1
    have h5 := List.all_eq_true.1 h3 j (List.mem_range.2 hjl)
    rw [ht] at h5
    obtain ⟨o', ho', e, he, hb, hon⟩ := Region.waitsFor_spec (show Region.waitsFor md ops j k = true by simpa using h5)
    rw [hj] at ho'
    cases ho'
    exact ⟨e, he, hb, hon⟩
theorem wp_region_takes {id : Nat} {a : Act} {w : World} (t r : List Nat) (hm : P.follows .mixedOrders = true) (hsel : Region.noSelect ops = true) (hlen : t.length + r.length = ops.size) (hB : takeB .any ops T r t (Array.replicate ops.size false) = true)
    (hQ : ∀ c (a : Act) d v w, Q (.panic c) (a.put d v) w → Q (.panic c) a w) (hS : S w.drew) (h : wpTakes P ops Q S T r t a w.drew) : (Code.region id ops true).wp P Q a w := by
  have H := wpAny_of_T _ _ _ _ (wpAnyT_takes hsel hQ t _ a w.drew hB hS h)
  rw [hlen] at H
  exact wp_region_any hm H
theorem op_then {o : Oper} {a : Act} {w : World} {K K2 : Act → World → Prop} (h : o.wp P a w K (Exit.then K2 Q)) : o.wp P a w K Q := by
  unfold Oper.wp at *
  generalize (execOp a.eval o).run P w = r at *
  cases r with
  | ok n w' =>
    cases n <;> simp only [Oper.upon] at h ⊢ <;>
      first
        | exact h
        | exact Calls.mono h (fun e w'' he => by cases e <;> exact he)
  | halt x w' => cases x <;> simp only [Oper.upon] at h ⊢ <;> exact h
theorem wpSeqT_step {k : Nat} {r : List Nat} {o : Oper} {a : Act} {w : World} (hk : ops[k]? = some o) (h : wpList P ops (Exit.then (fun a' w' => (T k = false → S w') ∧ wpSeqT P ops Q S T r a' w') Q) [o] a w) : wpSeqT P ops Q S T (k :: r) a w := by
  unfold wpSeqT wpOp
  unfold wpList at h
  simp only [hk]
  split
  · rename_i hw
    rw [if_pos hw] at h
    exact h.imp op_then id
  · rename_i hw
    rw [if_neg hw] at h
    exact h
theorem wpTakes_step {k : Nat} {r t : List Nat} {o : Oper} {v : Value} {a : Act} {w : World} (hk : ops[k]? = some o) (hg : Region.wanted o (yielded ops a.tmps) = true) (hv : ∀ w, S w → (execOp a.eval o).run P w = .ok (.value v) w) (h : wpTakes P ops Q S T r t (a.put o.dst v) w) : wpTakes P ops Q S T r (k :: t) a w :=
  ⟨o, v, hk, .inl ⟨hg, hv⟩, h⟩
end
end Go.Proofs.Ytkeoeempdkpafaa
