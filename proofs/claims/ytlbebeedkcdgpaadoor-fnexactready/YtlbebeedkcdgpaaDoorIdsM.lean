/- Ids in plain words: which are valid, their order, their union. -/
import Derived.Test.YtlbebeedkcdgpaaDoorIdM
namespace Go.Proofs.YtlbebeedkcdgpaaDoor
set_option linter.unusedVariables false

/-- A valid Id. -/
@[irreducible] def idB (r s : Int) : Bool := decide (0 ≤ r) && (decide (r ≤ 2) && (decide (1 ≤ s) && decide (s ≤ 6)))
theorem idB_eq (r s : Int) : idB r s = (decide (0 ≤ r) && (decide (r ≤ 2) && (decide (1 ≤ s) && decide (s ≤ 6)))) := by unfold idB; rfl
/-- The order of Ids. -/
@[irreducible] def ltB (r s r' s' : Int) : Bool := if r = r' then decide (s < s') else decide (r < r')
theorem ltB_eq (r s r' s' : Int) : ltB r s r' s' = if r = r' then decide (s < s') else decide (r < r') := by unfold ltB; rfl
abbrev ltI (x y : Ii) : Bool := ltB x.rep x.slot y.rep y.slot
theorem ltI_iff (x y : Ii) : ltI x y = true ↔ x.rep < y.rep ∨ (x.rep = y.rep ∧ x.slot < y.slot) := by
  rw [ltI, ltB_eq]
  split
  · simp; omega
  · simp; omega
theorem ltI_no (x y : Ii) : ltI x y = false ↔ ¬ (x.rep < y.rep ∨ (x.rep = y.rep ∧ x.slot < y.slot)) := by
  rw [← ltI_iff]; simp
theorem ltI_tri (x y : Ii) (h : ltI x y = false) (h2 : ltI y x = false) : x = y := by
  rw [ltI_no] at h h2
  cases x; cases y
  simp only [Ii.mk.injEq] at *
  omega
theorem ltI_irr (x : Ii) : ltI x x = false := by rw [ltI_no]; omega
theorem ltI_trans {x y z : Ii} (h : ltI x y = true) (h2 : ltI y z = true) : ltI x z = true := by
  rw [ltI_iff] at *
  omega
theorem ltI_asym {x y : Ii} (h : ltI x y = true) : ltI y x = false := by
  rw [ltI_no]
  rw [ltI_iff] at h
  omega
theorem ltI_ne {x y : Ii} (h : ltI x y = true) : x ≠ y := fun e => by subst e; rw [ltI_irr] at h; cases h

/-- The Id at j is valid and behind the one ahead of it. -/
@[irreducible] def okAt (l : List Ii) (j : Nat) : Bool := idB (iR l j) (iS l j) && (decide (j = 0) || ltB (iR l (j - 1)) (iS l (j - 1)) (iR l j) (iS l j))
theorem okAt_eq (l : List Ii) (j : Nat) : okAt l j = (idB (iR l j) (iS l j) && (decide (j = 0) || ltB (iR l (j - 1)) (iS l (j - 1)) (iR l j) (iS l j))) := by unfold okAt; rfl
theorem okAt_zero (l : List Ii) : okAt l 0 = idB (iR l 0) (iS l 0) := by rw [okAt_eq]; simp
theorem okAt_succ (l : List Ii) (j : Nat) (h : 0 < j) : okAt l j = (idB (iR l j) (iS l j) && ltB (iR l (j - 1)) (iS l (j - 1)) (iR l j) (iS l j)) := by rw [okAt_eq, decide_eq_false (by omega : ¬ j = 0)]; simp
/-- IdsOk. -/
@[irreducible] def idlB (l : List Ii) : Bool := (List.range l.length).all (okAt l)
theorem idlB_eq (l : List Ii) : idlB l = (List.range l.length).all (okAt l) := by unfold idlB; rfl
theorem idlB_yes (l : List Ii) (h : ∀ j, j < l.length → okAt l j = true) : idlB l = true := by
  rw [idlB_eq, List.all_eq_true]
  intro j hj
  exact h j (by simpa using hj)
theorem idlB_no (l : List Ii) (k : Nat) (hk : k < l.length) (h : okAt l k = false) : idlB l = false := by
  rw [idlB_eq, List.all_eq_false]
  exact ⟨k, by simpa using hk, by rw [h]; simp⟩
theorem idlB_at {l : List Ii} (h : idlB l = true) (j : Nat) (hj : j < l.length) : okAt l j = true := by
  rw [idlB_eq, List.all_eq_true] at h
  exact h j (by simpa using hj)

/-! ### rising rows -/
def Srt (l : List Ii) : Prop := l.Pairwise fun x y => ltI x y = true
theorem srt_of_adj : ∀ l : List Ii, (∀ j, j + 1 < l.length → ltB (iR l j) (iS l j) (iR l (j + 1)) (iS l (j + 1)) = true) → Srt l
  | [], _ => List.Pairwise.nil
  | [x], _ => by simp [Srt]
  | x :: y :: l, h => by
    have hxy : ltI x y = true := by
      have := h 0 (by simp)
      rw [iR_of (x := x) rfl, iS_of (x := x) rfl, iR_of (x := y) rfl, iS_of (x := y) rfl] at this
      exact this
    have ih := srt_of_adj (y :: l) (fun j hj => by
      have := h (j + 1) (by simpa using hj)
      simp only [iR_eq, iS_eq, List.getD, List.getElem?_cons_succ] at this ⊢
      exact this)
    refine List.Pairwise.cons (fun z hz => ?_) ih
    rcases List.mem_cons.1 hz with rfl | hz
    · exact hxy
    · exact ltI_trans hxy (List.rel_of_pairwise_cons ih hz)
theorem srt_of_ok {l : List Ii} (h : idlB l = true) : Srt l := srt_of_adj l fun j hj => by
  have := idlB_at h (j + 1) hj
  rw [okAt_succ _ _ (by omega)] at this
  simp only [Bool.and_eq_true] at this
  exact this.2
theorem ids_of_ok {l : List Ii} (h : idlB l = true) (x : Ii) (hx : x ∈ l) : idB x.rep x.slot = true := by
  obtain ⟨j, hj, e⟩ := List.mem_iff_getElem.1 hx
  have := idlB_at h j hj
  rw [okAt_eq] at this
  simp only [Bool.and_eq_true] at this
  have e2 : l[j]? = some x := by rw [List.getElem?_eq_getElem hj, e]
  rw [iR_of e2, iS_of e2] at this
  exact this.1
theorem ok_of_srt {l : List Ii} (hs : Srt l) (h : ∀ x ∈ l, idB x.rep x.slot = true) : idlB l = true := by
  apply idlB_yes
  intro j hj
  have g := ii_get l j hj
  have hx := h _ (List.mem_iff_getElem?.2 ⟨j, g⟩)
  rw [okAt_eq, hx]
  by_cases e : j = 0
  · simp [e]
  · have g1 := ii_get l (j - 1) (by omega)
    have hp := List.pairwise_iff_getElem.1 hs (j - 1) j (by omega) hj (by omega)
    rw [List.getElem?_eq_getElem hj, Option.some.injEq] at g
    rw [List.getElem?_eq_getElem (by omega : j - 1 < l.length), Option.some.injEq] at g1
    rw [g, g1] at hp
    have hp' : ltB (iR l (j - 1)) (iS l (j - 1)) (iR l j) (iS l j) = true := hp
    rw [hp']
    simp
theorem srt_ext : ∀ (l m : List Ii), Srt l → Srt m → (∀ x, x ∈ l ↔ x ∈ m) → l = m
  | [], [], _, _, _ => rfl
  | [], y :: m, _, _, h => absurd ((h y).2 (by simp)) (by simp)
  | x :: l, [], _, _, h => absurd ((h x).1 (by simp)) (by simp)
  | x :: l, y :: m, hl, hm, h => by
    have hxl := List.pairwise_cons.1 hl
    have hym := List.pairwise_cons.1 hm
    have e : x = y := by
      rcases List.mem_cons.1 ((h x).1 (by simp)) with e | e
      · exact e
      · rcases List.mem_cons.1 ((h y).2 (by simp)) with e2 | e2
        · exact e2.symm
        · have a := hym.1 x e
          have b := hxl.1 y e2
          rw [ltI_asym a] at b
          cases b
    subst e
    rw [srt_ext l m hxl.2 hym.2 (fun z => ?_)]
    have hz := h z
    simp only [List.mem_cons] at hz
    constructor
    · intro hzl
      rcases hz.1 (.inr hzl) with e | e
      · subst e; have := hxl.1 z hzl; rw [ltI_irr] at this; cases this
      · exact e
    · intro hzm
      rcases hz.2 (.inr hzm) with e | e
      · subst e; have := hym.1 z hzm; rw [ltI_irr] at this; cases this
      · exact e

/-! ### one more, and the union -/
def putI (l : List Ii) (x : Ii) : List Ii := l.filter (fun y => ltI y x) ++ ([x] ++ l.filter (fun y => ltI x y))
theorem putI_mem (l : List Ii) (x z : Ii) : z ∈ putI l x ↔ z = x ∨ z ∈ l := by
  simp only [putI, List.mem_append, List.mem_filter, List.mem_singleton]
  constructor
  · rintro (⟨h, _⟩ | h | ⟨h, _⟩)
    · exact .inr h
    · exact .inl h
    · exact .inr h
  · rintro (h | h)
    · exact .inr (.inl h)
    · by_cases h1 : ltI z x = true
      · exact .inl ⟨h, h1⟩
      · by_cases h2 : ltI x z = true
        · exact .inr (.inr ⟨h, h2⟩)
        · exact .inr (.inl (ltI_tri z x (by simpa using h1) (by simpa using h2)))
theorem putI_srt {l : List Ii} (h : Srt l) (x : Ii) : Srt (putI l x) := by
  unfold Srt putI
  rw [List.pairwise_append, List.pairwise_append]
  refine ⟨List.Pairwise.filter _ h, ⟨by simp, List.Pairwise.filter _ h, fun a ha b hb => ?_⟩, fun a ha b hb => ?_⟩
  · simp only [List.mem_singleton] at ha
    simp only [List.mem_filter] at hb
    rw [ha]; exact hb.2
  · simp only [List.mem_filter] at ha
    simp only [List.mem_append, List.mem_singleton, List.mem_filter] at hb
    rcases hb with rfl | hb
    · exact ha.2
    · exact ltI_trans ha.2 hb.2
@[irreducible] def putsI (a b : List Ii) : List Ii := b.foldl putI a
theorem putsI_eq (a b : List Ii) : putsI a b = b.foldl putI a := by unfold putsI; rfl
theorem putsI_snoc (a b : List Ii) (x : Ii) : putsI a (b ++ [x]) = putI (putsI a b) x := by simp [putsI_eq, List.foldl_append]
theorem putsI_nil (a : List Ii) : putsI a [] = a := by simp [putsI_eq]
theorem putsI_mem (a b : List Ii) (z : Ii) : z ∈ putsI a b ↔ z ∈ a ∨ z ∈ b := by
  rw [putsI_eq]
  induction b generalizing a with
  | nil => simp
  | cons x b ih =>
    rw [List.foldl_cons, ih, putI_mem, List.mem_cons]
    constructor
    · rintro ((h | h) | h)
      · exact .inr (.inl h)
      · exact .inl h
      · exact .inr (.inr h)
    · rintro (h | h | h)
      · exact .inl (.inr h)
      · exact .inl (.inl h)
      · exact .inr h
theorem putsI_srt {a : List Ii} (b : List Ii) (h : Srt a) : Srt (putsI a b) := by
  rw [putsI_eq]
  induction b generalizing a with
  | nil => exact h
  | cons x b ih => rw [List.foldl_cons]; exact ih (putI_srt h x)
theorem putI_length (l : List Ii) (x : Ii) : (putI l x).length ≤ 2 * l.length + 1 := by
  have h1 := List.length_filter_le (fun y => ltI y x) l
  have h2 := List.length_filter_le (fun y => ltI x y) l
  simp only [putI, List.length_append, List.length_singleton]
  omega
/-- The union as the model makes it. -/
def mrg : List Ii → List Ii → List Ii
  | a, [] => a
  | [], y :: b => y :: b
  | x :: a, y :: b => if ltI x y = true then x :: mrg a (y :: b) else if x = y then y :: mrg a b else y :: mrg (x :: a) b
  termination_by a b => a.length + b.length
theorem mrg_nil (a : List Ii) : mrg a [] = a := by cases a <;> simp [mrg]
theorem mrg_nil_left (b : List Ii) : mrg [] b = b := by cases b <;> simp [mrg]
theorem mrg_lt {x y : Ii} (a b : List Ii) (h : ltI x y = true) : mrg (x :: a) (y :: b) = x :: mrg a (y :: b) := by rw [mrg, if_pos h]
theorem mrg_eq (y : Ii) (a b : List Ii) : mrg (y :: a) (y :: b) = y :: mrg a b := by rw [mrg, if_neg (by rw [ltI_irr]; simp), if_pos rfl]
theorem mrg_gt {x y : Ii} (a b : List Ii) (h : ltI x y = false) (hne : x ≠ y) : mrg (x :: a) (y :: b) = y :: mrg (x :: a) b := by rw [mrg, if_neg (by rw [h]; simp), if_neg hne]
theorem mrg_mem : ∀ (a b : List Ii) (z : Ii), z ∈ mrg a b ↔ z ∈ a ∨ z ∈ b
  | a, [], z => by simp [mrg_nil]
  | [], y :: b, z => by simp [mrg_nil_left]
  | x :: a, y :: b, z => by
    by_cases h : ltI x y = true
    · rw [mrg_lt a b h, List.mem_cons, mrg_mem a (y :: b) z, List.mem_cons (l := a), or_assoc]
    · by_cases e : x = y
      · subst e
        rw [mrg_eq, List.mem_cons, mrg_mem a b z, List.mem_cons, List.mem_cons]
        constructor
        · rintro (h | h | h) <;> simp [h]
        · rintro ((h | h) | (h | h)) <;> simp [h]
      · rw [mrg_gt a b (by simpa using h) e, List.mem_cons, mrg_mem (x :: a) b z, List.mem_cons, List.mem_cons]
        constructor
        · rintro (h | (h | h) | h) <;> simp [h]
        · rintro ((h | h) | (h | h)) <;> simp [h]
  termination_by a b => a.length + b.length
theorem mrg_srt : ∀ (a b : List Ii), Srt a → Srt b → Srt (mrg a b)
  | a, [], ha, _ => by rw [mrg_nil]; exact ha
  | [], y :: b, _, hb => by rw [mrg_nil_left]; exact hb
  | x :: a, y :: b, ha, hb => by
    have pa := List.pairwise_cons.1 ha
    have pb := List.pairwise_cons.1 hb
    by_cases h : ltI x y = true
    · rw [mrg_lt a b h]
      refine List.Pairwise.cons (fun z hz => ?_) (mrg_srt a (y :: b) pa.2 hb)
      rw [mrg_mem, List.mem_cons] at hz
      rcases hz with hz | rfl | hz
      · exact pa.1 z hz
      · exact h
      · exact ltI_trans h (pb.1 z hz)
    · have h' : ltI x y = false := by simpa using h
      by_cases e : x = y
      · subst e
        rw [mrg_eq]
        refine List.Pairwise.cons (fun z hz => ?_) (mrg_srt a b pa.2 pb.2)
        rw [mrg_mem] at hz
        rcases hz with hz | hz
        · exact pa.1 z hz
        · exact pb.1 z hz
      · rw [mrg_gt a b h' e]
        have hyx : ltI y x = true := by
          by_cases q : ltI y x = true
          · exact q
          · exact absurd (ltI_tri x y h' (by simpa using q)) e
        refine List.Pairwise.cons (fun z hz => ?_) (mrg_srt (x :: a) b ha pb.2)
        rw [mrg_mem, List.mem_cons] at hz
        rcases hz with (rfl | hz) | hz
        · exact hyx
        · exact ltI_trans hyx (pa.1 z hz)
        · exact pb.1 z hz
  termination_by a b => a.length + b.length
/-- The union as the program makes it is the model's. -/
theorem puts_mrg {a b : List Ii} (ha : Srt a) (hb : Srt b) : putsI a b = mrg a b :=
  srt_ext _ _ (putsI_srt b ha) (mrg_srt a b ha hb) fun z => by rw [putsI_mem, mrg_mem]
/-- JoinIds. -/
@[irreducible] def joinI (a b : List Ii) : List Ii := if idlB a && idlB b then mrg a b else []
theorem joinI_eq (a b : List Ii) : joinI a b = if idlB a && idlB b then mrg a b else [] := by unfold joinI; rfl
theorem joinI_comm (a b : List Ii) : joinI a b = joinI b a := by
  rw [joinI_eq, joinI_eq, Bool.and_comm]
  split
  case isTrue h =>
    simp only [Bool.and_eq_true] at h
    exact srt_ext _ _ (mrg_srt _ _ (srt_of_ok h.2) (srt_of_ok h.1)) (mrg_srt _ _ (srt_of_ok h.1) (srt_of_ok h.2)) fun z => by rw [mrg_mem, mrg_mem]; exact Or.comm
  case isFalse => rfl
theorem mrg_length : ∀ (a b : List Ii), (mrg a b).length ≤ a.length + b.length
  | a, [] => by simp [mrg_nil]
  | [], y :: b => by simp [mrg_nil_left]
  | x :: a, y :: b => by
    by_cases h : ltI x y = true
    · have := mrg_length a (y :: b)
      rw [mrg_lt a b h]; simp only [List.length_cons] at *; omega
    · by_cases e : x = y
      · subst e
        have := mrg_length a b
        rw [mrg_eq]; simp only [List.length_cons] at *; omega
      · have := mrg_length (x :: a) b
        rw [mrg_gt a b (by simpa using h) e]; simp only [List.length_cons] at *; omega
  termination_by a b => a.length + b.length
end Go.Proofs.YtlbebeedkcdgpaaDoor
