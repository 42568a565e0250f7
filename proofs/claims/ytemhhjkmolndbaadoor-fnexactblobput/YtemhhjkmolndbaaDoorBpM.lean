/- BlobPut, in plain words. -/
import Derived.Test.YtemhhjkmolndbaaDoorBdM
namespace Go.Proofs.YtemhhjkmolndbaaDoor
open Go.RowKit Go.PlainAid
set_option linter.unusedVariables false

abbrev lessP (x y : Bb) : Bool := Op.bytesLess y.id.toList x.id.toList
/-- One chunk of the model's loop. -/
def putA (x : Bb) (s : List Bb × Bool) (y : Bb) : List Bb × Bool := if s.2 = false ∧ lessP x y = false then (s.1 ++ [x], true) else s
def stepP (x : Bb) (s : List Bb × Bool) (y : Bb) : List Bb × Bool := if y.id = x.id then putA x s y else ((putA x s y).1 ++ [y], (putA x s y).2)
@[irreducible] def runP (l : List Bb) (x : Bb) (k : Nat) : List Bb × Bool := (l.take k).foldl (stepP x) ([], false)
theorem runP_eq (l : List Bb) (x : Bb) (k : Nat) : runP l x k = (l.take k).foldl (stepP x) ([], false) := by unfold runP; rfl
theorem runP_zero (l : List Bb) (x : Bb) : runP l x 0 = ([], false) := by rw [runP_eq]; rfl
theorem runP_succ (l : List Bb) (x : Bb) (k : Nat) (h : k < l.length) : runP l x (k + 1) = stepP x (runP l x k) ⟨bI l k, bD l k, bX l k⟩ := by
  rw [runP_eq, runP_eq, take_snoc l k h, List.foldl_append]
  rfl
theorem stepP_len (x : Bb) (s : List Bb × Bool) (y : Bb) : (stepP x s y).1.length ≤ s.1.length + 2 := by
  unfold stepP putA
  split <;> split <;> simp
theorem runP_len (l : List Bb) (x : Bb) (k : Nat) (h : k ≤ l.length) : (runP l x k).1.length ≤ 2 * k := by
  induction k with
  | zero => rw [runP_zero]; simp
  | succ k ih =>
    rw [runP_succ l x k (by omega)]
    have := stepP_len x (runP l x k) ⟨bI l k, bD l k, bX l k⟩
    have := ih (by omega)
    omega
/-- The list that the store would have. -/
@[irreducible] def putL (l : List Bb) (x : Bb) : List Bb := if (runP l x l.length).2 = true then (runP l x l.length).1 else (runP l x l.length).1 ++ [x]
theorem putL_yes {l : List Bb} {x : Bb} (h : (runP l x l.length).2 = true) : putL l x = (runP l x l.length).1 := by unfold putL; rw [if_pos h]
theorem putL_no {l : List Bb} {x : Bb} (h : (runP l x l.length).2 = false) : putL l x = (runP l x l.length).1 ++ [x] := by unfold putL; rw [h]; rfl
def insB (x : Bb) : List Bb → List Bb
  | [] => [x]
  | y :: r => if lessP x y = true then y :: insB x r else if y.id = x.id then x :: r else x :: y :: r
theorem ins_cons (x y : Bb) (r : List Bb) : insB x (y :: r) = if lessP x y = true then y :: insB x r else if y.id = x.id then x :: r else x :: y :: r := rfl
theorem less_le {x y : Bb} (h : lessP x y = false) : kOf x.id ≤ kOf y.id := List.not_lt.1 (fun hh => by have h2 : lessP x y = true := (less_iff _ _).2 hh; rw [h2] at h; cases h)
theorem less_ne {a b : ByteArray} (h : kOf a < kOf b) : a ≠ b := fun e => by rw [e] at h; exact List.lt_irrefl _ h
theorem foldT (x : Bb) : ∀ (l acc : List Bb), (∀ y ∈ l, y.id ≠ x.id) → l.foldl (stepP x) (acc, true) = (acc ++ l, true)
  | [], acc, _ => by simp
  | y :: r, acc, h => by
    have hy : stepP x (acc, true) y = (acc ++ [y], true) := by
      unfold stepP putA
      rw [if_neg (h y (by simp))]
      simp
    rw [List.foldl_cons, hy, foldT x r _ (fun z hz => h z (by simp [hz])), List.append_assoc]
    rfl
theorem foldF (x : Bb) : ∀ (l acc : List Bb), Asc l → (if (l.foldl (stepP x) (acc, false)).2 = true then (l.foldl (stepP x) (acc, false)).1 else (l.foldl (stepP x) (acc, false)).1 ++ [x]) = acc ++ insB x l
  | [], acc, _ => by simp [insB]
  | y :: r, acc, h => by
    obtain ⟨hy, hr⟩ := List.pairwise_cons.1 h
    rw [List.foldl_cons]
    cases hl : lessP x y with
    | true =>
      have e : stepP x (acc, false) y = (acc ++ [y], false) := by
        unfold stepP putA
        rw [if_neg (less_ne ((less_iff _ _).1 hl))]
        simp [hl]
      rw [e, foldF x r _ hr, ins_cons, if_pos hl, List.append_assoc]
      rfl
    | false =>
      have hle : kOf x.id ≤ kOf y.id := less_le hl
      have hrx : ∀ z ∈ r, z.id ≠ x.id := fun z hz e => by
        have := List.lt_of_le_of_lt hle (hy z hz)
        rw [e] at this
        exact List.lt_irrefl _ this
      by_cases e : y.id = x.id
      · have es : stepP x (acc, false) y = (acc ++ [x], true) := by
          unfold stepP putA
          rw [if_pos e]
          simp [hl]
        rw [es, foldT x r _ hrx, if_pos (show (acc ++ [x] ++ r, true).2 = true from rfl), ins_cons, if_neg (by rw [hl]; simp), if_pos e, List.append_assoc]
        rfl
      · have es : stepP x (acc, false) y = (acc ++ [x] ++ [y], true) := by
          unfold stepP putA
          rw [if_neg e]
          simp [hl]
        rw [es, foldT x r _ hrx, if_pos (show (acc ++ [x] ++ [y] ++ r, true).2 = true from rfl), ins_cons, if_neg (by rw [hl]; simp), if_neg e, List.append_assoc, List.append_assoc]
        rfl
theorem putL_ins {l : List Bb} (h : Asc l) (x : Bb) : putL l x = insB x l := by
  have e := foldF x l [] h
  rw [List.nil_append] at e
  unfold putL
  rw [runP_eq, List.take_of_length_le (Nat.le_refl _)]
  exact e
theorem ins_mem (x : Bb) : ∀ {l : List Bb}, Asc l → ∀ z, z ∈ insB x l ↔ z = x ∨ (z ∈ l ∧ z.id ≠ x.id)
  | [], _, z => by simp [insB]
  | y :: r, h, z => by
    obtain ⟨hy, hr⟩ := List.pairwise_cons.1 h
    rw [ins_cons]
    cases hl : lessP x y with
    | true =>
      have hne := less_ne ((less_iff _ _).1 hl)
      rw [if_pos rfl, List.mem_cons, List.mem_cons, ins_mem x hr z]
      constructor
      · rintro (rfl | rfl | ⟨a, b⟩)
        · exact .inr ⟨.inl rfl, hne⟩
        · exact .inl rfl
        · exact .inr ⟨.inr a, b⟩
      · rintro (rfl | ⟨rfl | a, b⟩)
        · exact .inr (.inl rfl)
        · exact .inl rfl
        · exact .inr (.inr ⟨a, b⟩)
    | false =>
      have hle : kOf x.id ≤ kOf y.id := less_le hl
      have hrx : ∀ z ∈ r, z.id ≠ x.id := fun z hz e => by
        have := List.lt_of_le_of_lt hle (hy z hz)
        rw [e] at this
        exact List.lt_irrefl _ this
      rw [if_neg (by simp)]
      by_cases e : y.id = x.id
      · rw [if_pos e, List.mem_cons, List.mem_cons]
        constructor
        · rintro (rfl | a)
          · exact .inl rfl
          · exact .inr ⟨.inr a, hrx z a⟩
        · rintro (rfl | ⟨rfl | a, b⟩)
          · exact .inl rfl
          · exact absurd e b
          · exact .inr a
      · rw [if_neg e, List.mem_cons, List.mem_cons]
        constructor
        · rintro (rfl | rfl | a)
          · exact .inl rfl
          · exact .inr ⟨.inl rfl, e⟩
          · exact .inr ⟨.inr a, hrx z a⟩
        · rintro (rfl | ⟨rfl | a, b⟩)
          · exact .inl rfl
          · exact .inr (.inl rfl)
          · exact .inr (.inr a)
theorem ins_asc (x : Bb) : ∀ {l : List Bb}, Asc l → Asc (insB x l)
  | [], _ => by simp [insB, Asc]
  | y :: r, h => by
    obtain ⟨hy, hr⟩ := List.pairwise_cons.1 h
    rw [ins_cons]
    cases hl : lessP x y with
    | true =>
      have hlt := (less_iff _ _).1 hl
      rw [if_pos rfl]
      refine List.pairwise_cons.2 ⟨fun z hz => ?_, ins_asc x hr⟩
      rcases (ins_mem x hr z).1 hz with rfl | ⟨a, _⟩
      · exact hlt
      · exact hy z a
    | false =>
      have hle : kOf x.id ≤ kOf y.id := less_le hl
      rw [if_neg (by simp)]
      by_cases e : y.id = x.id
      · rw [if_pos e]
        exact List.pairwise_cons.2 ⟨fun z hz => by rw [← e]; exact hy z hz, hr⟩
      · rw [if_neg e]
        have hlt : kOf x.id < kOf y.id := by
          rcases Classical.em (kOf x.id < kOf y.id) with hh | hh
          · exact hh
          · exact absurd (kOf_inj (List.le_antisymm (List.not_lt.1 hh) hle)) e
        refine List.pairwise_cons.2 ⟨fun z hz => ?_, h⟩
        rcases List.mem_cons.1 hz with rfl | a
        · exact hlt
        · exact List.lt_trans hlt (hy z a)
theorem ins_len (x : Bb) : ∀ (l : List Bb), (insB x l).length ≤ l.length + 1
  | [] => by simp [insB]
  | y :: r => by
    have := ins_len x r
    rw [ins_cons]
    split
    · simp; omega
    · split <;> simp
theorem getB_put {l : List Bb} (h : Asc l) (x : Bb) (k : ByteArray) : getB (putL l x) k = if k = x.id then some x else getB l k := by
  rw [putL_ins h]
  by_cases e : k = x.id
  · rw [if_pos e]
    exact (getB_iff (ins_asc x h)).2 ⟨(ins_mem x h x).2 (.inl rfl), e.symm⟩
  · rw [if_neg e]
    refine getB_ext (ins_asc x h) h fun z hz => ?_
    rw [ins_mem x h z]
    constructor
    · rintro (rfl | ⟨a, _⟩)
      · exact absurd hz.symm e
      · exact a
    · exact fun a => .inr ⟨a, by rw [hz]; exact e⟩
theorem put_asc {l : List Bb} (h : Asc l) (x : Bb) : Asc (putL l x) := by rw [putL_ins h]; exact ins_asc x h
theorem put_len {l : List Bb} (h : Asc l) (x : Bb) : (putL l x).length ≤ l.length + 1 := by rw [putL_ins h]; exact ins_len x l
theorem put_sml {l : List Bb} (h : Asc l) (hs : Sml l) {x : Bb} (h1 : x.id.size ≤ 1048576) (h2 : x.dat.size ≤ 1048576) : Sml (putL l x) := sml_sub hs fun z hz => by
  rw [putL_ins h] at hz
  rcases (ins_mem x h z).1 hz with rfl | ⟨a, _⟩
  · exact ⟨h1, h2⟩
  · exact sml_mem hs a
/-- What BlobPut answers: the list, the Id, the code. -/
abbrev newB (d : ByteArray) : Bb := ⟨sh8 d, d, false⟩
structure PR where
  l : List Bb
  i : ByteArray
  c : Nat
@[irreducible] def putR (q : Int) (l : List Bb) (d : ByteArray) : PR :=
  if okS q l = true then (if 40 < d.size then ⟨l, ⟨#[]⟩, 1⟩ else if (match getB l (sh8 d) with | some x => x.bad | none => true) = false then ⟨l, sh8 d, 0⟩ else if okS q (putL l (newB d)) = true then ⟨putL l (newB d), sh8 d, 0⟩ else ⟨l, ⟨#[]⟩, 2⟩) else ⟨[], ⟨#[]⟩, 1⟩
section
variable {q : Int} {l : List Bb} {d : ByteArray}
theorem putR_no (h : okS q l = false) : putR q l d = ⟨[], ⟨#[]⟩, 1⟩ := by unfold putR; rw [h]; rfl
theorem putR_long (h : okS q l = true) (h2 : 40 < d.size) : putR q l d = ⟨l, ⟨#[]⟩, 1⟩ := by unfold putR; rw [if_pos h, if_pos h2]
theorem putR_same {x : Bb} (h : okS q l = true) (h2 : ¬ 40 < d.size) (hx : getB l (sh8 d) = some x) (hb : x.bad = false) : putR q l d = ⟨l, sh8 d, 0⟩ := by unfold putR; rw [if_pos h, if_neg h2, hx, if_pos hb]
theorem putR_new (h : okS q l = true) (h2 : ¬ 40 < d.size) (hx : getB l (sh8 d) = none ∨ ∃ x, getB l (sh8 d) = some x ∧ x.bad = true) (ho : okS q (putL l (newB d)) = true) : putR q l d = ⟨putL l (newB d), sh8 d, 0⟩ := by
  unfold putR
  rw [if_pos h, if_neg h2]
  rcases hx with hx | ⟨x, hx, hb⟩
  · rw [hx, if_neg (by simp), if_pos ho]
  · rw [hx, if_neg (by simp [hb]), if_pos ho]
theorem putR_full (h : okS q l = true) (h2 : ¬ 40 < d.size) (hx : getB l (sh8 d) = none ∨ ∃ x, getB l (sh8 d) = some x ∧ x.bad = true) (ho : okS q (putL l (newB d)) = false) : putR q l d = ⟨l, ⟨#[]⟩, 2⟩ := by
  unfold putR
  rw [if_pos h, if_neg h2]
  rcases hx with hx | ⟨x, hx, hb⟩
  · rw [hx, if_neg (by simp), ho, if_neg (by simp)]
  · rw [hx, if_neg (by simp [hb]), ho, if_neg (by simp)]
theorem fit_put (hs : Sml l) (hd : d.size ≤ 1048576) : Sml (putR q l d).l ∧ (putR q l d).l.length ≤ l.length + 1 := by
  cases ho : okS q l with
  | false => rw [putR_no ho]; exact ⟨fun j hj => by simp at hj, by simp⟩
  | true =>
    have ha := asc_of_ok ho
    by_cases h2 : 40 < d.size
    · rw [putR_long ho h2]; exact ⟨hs, by simp⟩
    · have key : (getB l (sh8 d) = none ∨ ∃ x, getB l (sh8 d) = some x ∧ x.bad = true) ∨ ∃ x, getB l (sh8 d) = some x ∧ x.bad = false := by
        cases e : getB l (sh8 d) with
        | none => exact .inl (.inl rfl)
        | some x =>
          cases hb : x.bad with
          | true => exact .inl (.inr ⟨x, rfl, hb⟩)
          | false => exact .inr ⟨x, rfl, hb⟩
      rcases key with hx | ⟨x, hx, hb⟩
      · cases hp : okS q (putL l (newB d)) with
        | true => rw [putR_new ho h2 hx hp]; exact ⟨put_sml ha hs (by rw [sh8_size]; omega) hd, put_len ha _⟩
        | false => rw [putR_full ho h2 hx hp]; exact ⟨hs, by simp⟩
      · rw [putR_same ho h2 hx hb]; exact ⟨hs, by simp⟩
end
/-- A call hands back a store, an Id and a code. -/
def RetP (base : Nat) (q : Int) (l : List Bb) (i : ByteArray) (c : Int) (e : Ending) (w : World) : Prop := ∃ a k cc, e = .returned (.tuple #[.agg #[.int .i64 q, .slice a k cc], .string i, .int .i64 c]) ∧ BlOwn w base (.slice a k cc) l ∧ ∀ g, Value.ownBlock (.slice a k cc) = some g → base ≤ g ∧ g < w.heap.size
end Go.Proofs.YtemhhjkmolndbaaDoor
