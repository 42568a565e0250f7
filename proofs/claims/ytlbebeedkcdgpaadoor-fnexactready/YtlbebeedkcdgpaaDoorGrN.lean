/- A bundle of texts: GrM, GrP, PtM. -/
import Derived.Test.YtlbebeedkcdgpaaDoorInL
import Derived.Maps.OwnSet
import Derived.DeepKeys5
/- Paths over committed instances, in plain words. -/
namespace Go.Proofs.YtlbebeedkcdgpaaDoor
set_option linter.unusedVariables false

abbrev idOf (x : In) : Ii := ⟨x.rep, x.slot⟩
/-- x is i's, and it is committed. -/
@[irreducible] def isC (r s : Int) (x : In) : Bool := x.rep == r && (x.slot == s && x.st == 3)
theorem isC_eq (r s : Int) (x : In) : isC r s x = (x.rep == r && (x.slot == s && x.st == 3)) := by unfold isC; rfl
theorem isC_iff (r s : Int) (x : In) : isC r s x = true ↔ x.rep = r ∧ x.slot = s ∧ x.st = 3 := by rw [isC_eq]; simp
/-- The committed instance of an Id. -/
@[irreducible] def comB (l : List In) (i : Ii) : Option In := l.find? (isC i.rep i.slot)
theorem comB_eq (l : List In) (i : Ii) : comB l i = l.find? (isC i.rep i.slot) := by unfold comB; rfl
@[irreducible] def dps (l : List In) (i : Ii) : List Ii := match comB l i with
  | some x => x.deps
  | none => []
theorem dps_some {l : List In} {i : Ii} {x : In} (h : comB l i = some x) : dps l i = x.deps := by unfold dps; rw [h]
theorem dps_none {l : List In} {i : Ii} (h : comB l i = none) : dps l i = [] := by unfold dps; rw [h]
theorem comB_none {l : List In} {i : Ii} (h : ∀ k, k < l.length → isC i.rep i.slot (nth l k) = false) : comB l i = none := by
  rw [comB_eq, List.find?_eq_none]
  intro x hx
  obtain ⟨k, hk, e⟩ := List.getElem_of_mem hx
  have h2 := nth_get l k hk
  rw [List.getElem?_eq_getElem hk, e] at h2
  rw [Option.some.inj h2, h k hk]
  simp
theorem comB_first {l : List In} {i : Ii} {k : Nat} (hk : k < l.length) (h : isC i.rep i.slot (nth l k) = true) (hb : ∀ j, j < k → isC i.rep i.slot (nth l j) = false) : comB l i = some (nth l k) := by
  rw [comB_eq, List.find?_eq_some_iff_getElem]
  refine ⟨h, k, hk, ?_, fun j hj => ?_⟩
  · have h2 := nth_get l k hk
    rw [List.getElem?_eq_getElem hk] at h2
    exact Option.some.inj h2
  · have h2 := nth_get l j (by omega)
    rw [List.getElem?_eq_getElem (by omega)] at h2
    rw [Option.some.inj h2, hb j hj]
    rfl
/-- The place of the committed instance of an Id; -1 where there is none. -/
@[irreducible] def fndB (l : List In) (r s : Int) : Int := if (l.findIdx (isC r s)) < l.length then (l.findIdx (isC r s) : Int) else -1
theorem fndB_none {l : List In} {r s : Int} (h : ∀ k, k < l.length → isC r s (nth l k) = false) : fndB l r s = -1 := by
  unfold fndB
  rw [if_neg]
  intro hlt
  have h2 := nth_get l _ hlt
  rw [List.getElem?_eq_getElem hlt] at h2
  have h3 : isC r s l[l.findIdx (isC r s)] = true := List.findIdx_getElem
  rw [Option.some.inj h2, h _ hlt] at h3
  cases h3
theorem fndB_first {l : List In} {r s : Int} {k : Nat} (hk : k < l.length) (h : isC r s (nth l k) = true) (hb : ∀ j, j < k → isC r s (nth l j) = false) : fndB l r s = (k : Int) := by
  have h2 := nth_get l k hk
  rw [List.getElem?_eq_getElem hk] at h2
  have e : l.findIdx (isC r s) = k := by
    rw [List.findIdx_eq hk]
    refine ⟨by rw [Option.some.inj h2, h], fun j hj => ?_⟩
    have h3 := nth_get l j (by omega)
    rw [List.getElem?_eq_getElem (by omega)] at h3
    rw [Option.some.inj h3, hb j hj]
  unfold fndB
  rw [e, if_pos hk]
/-- Either there is none, or it is the first. -/
theorem fnd_cases (l : List In) (r s : Int) : (fndB l r s = -1 ∧ comB l ⟨r, s⟩ = none) ∨ ∃ k : Nat, k < l.length ∧ fndB l r s = (k : Int) ∧ comB l ⟨r, s⟩ = some (nth l k) ∧ isC r s (nth l k) = true := by
  by_cases h : ∃ k, k < l.length ∧ isC r s (nth l k) = true
  · obtain ⟨k, ⟨hk, hc⟩, hb⟩ : ∃ k, (k < l.length ∧ isC r s (nth l k) = true) ∧ ∀ j, j < k → ¬ (j < l.length ∧ isC r s (nth l j) = true) := by
      obtain ⟨k, hk⟩ := h
      induction k using Nat.strongRecOn with
      | ind k ih =>
        by_cases hx : ∃ j, j < k ∧ j < l.length ∧ isC r s (nth l j) = true
        · obtain ⟨j, hj, hj2⟩ := hx
          exact ih j hj hj2
        · exact ⟨k, hk, fun j hj hh => hx ⟨j, hj, hh⟩⟩
    have hb' : ∀ j, j < k → isC r s (nth l j) = false := fun j hj => by
      cases e : isC r s (nth l j) with
      | false => rfl
      | true => exact absurd ⟨by omega, e⟩ (hb j hj)
    exact .inr ⟨k, hk, fndB_first hk hc hb', comB_first (i := ⟨r, s⟩) hk hc hb', hc⟩
  · have h' : ∀ k, k < l.length → isC r s (nth l k) = false := fun k hk => by
      cases e : isC r s (nth l k) with
      | false => rfl
      | true => exact absurd ⟨k, hk, e⟩ h
    exact .inl ⟨fndB_none h', comB_none (i := ⟨r, s⟩) h'⟩
theorem fnd_range (l : List In) (r s : Int) : -1 ≤ fndB l r s ∧ fndB l r s < l.length := by
  rcases fnd_cases l r s with ⟨h, _⟩ | ⟨k, hk, h, _⟩ <;> rw [h] <;> omega
/-- The Deps of a valid list's instances. -/
theorem deps_ok {l : List In} (h : instsB l = true) (k : Nat) (hk : k < l.length) : idlB (nth l k).deps = true := by
  have h1 := instsB_at h k hk
  rw [okIn_eq, instB_eq] at h1
  simp only [Bool.and_eq_true] at h1
  exact h1.1.2.2.2.2.2.2.1
theorem dps_ok {l : List In} (h : instsB l = true) (i : Ii) : idlB (dps l i) = true := by
  rcases fnd_cases l i.rep i.slot with ⟨_, e⟩ | ⟨k, hk, _, e, _⟩
  · rw [dps_none (i := i) e]
    exact idlB_yes _ (fun j hj => by simp at hj)
  · rw [dps_some (i := i) e]
    exact deps_ok h k hk

/-! ### how many Ids there are -/
def cod (x : Ii) : Int := 6 * x.rep + x.slot - 1
theorem asc_len : ∀ (X : List Int) (a b : Int), X.Pairwise (· < ·) → (∀ x ∈ X, a ≤ x ∧ x < b) → a ≤ b → (X.length : Int) ≤ b - a
  | [], a, b, _, _, hab => by simp; omega
  | x :: X, a, b, hp, hx, hab => by
    obtain ⟨h1, h2⟩ := List.pairwise_cons.1 hp
    have hx0 := hx x (by simp)
    have := asc_len X (x + 1) b h2 (fun y hy => ⟨by have := h1 y hy; omega, (hx y (by simp [hy])).2⟩) (by omega)
    simp only [List.length_cons]
    omega
theorem asc_full : ∀ (X : List Int) (a b : Int), X.Pairwise (· < ·) → (∀ x ∈ X, a ≤ x ∧ x < b) → a ≤ b → b - a ≤ (X.length : Int) → ∀ y, a ≤ y → y < b → y ∈ X
  | [], a, b, _, _, hab, hl, y, h1, h2 => by simp at hl; omega
  | x :: X, a, b, hp, hx, hab, hl, y, h1, h2 => by
    obtain ⟨p1, p2⟩ := List.pairwise_cons.1 hp
    have hx0 := hx x (by simp)
    have hin : ∀ y ∈ X, x + 1 ≤ y ∧ y < b := fun y hy => ⟨by have := p1 y hy; omega, (hx y (by simp [hy])).2⟩
    have hlen := asc_len X (x + 1) b p2 hin (by omega)
    simp only [List.length_cons] at hl
    have hxa : x = a := by omega
    by_cases e : y = x
    · simp [e]
    · exact List.mem_cons_of_mem _ (asc_full X (x + 1) b p2 hin (by omega) (by omega) y (by omega) h2)
theorem id_rng {r s : Int} (h : idB r s = true) : 0 ≤ r ∧ r ≤ 2 ∧ 1 ≤ s ∧ s ≤ 6 := by
  rw [idB_eq] at h
  simp only [Bool.and_eq_true, decide_eq_true_eq] at h
  omega
theorem cod_lt {x y : Ii} (hx : idB x.rep x.slot = true) (hy : idB y.rep y.slot = true) (h : ltI x y = true) : cod x < cod y := by
  have h1 := id_rng hx
  have h2 := id_rng hy
  rw [ltI_iff] at h
  unfold cod
  omega
theorem cod_asc {X : List Ii} (hs : Srt X) (hv : ∀ x ∈ X, idB x.rep x.slot = true) : (X.map cod).Pairwise (· < ·) :=
  List.pairwise_map.2 (List.Pairwise.imp_of_mem (fun {x y} hx hy h => cod_lt (hv x hx) (hv y hy) h) hs)
theorem cod_rng {X : List Ii} (hv : ∀ x ∈ X, idB x.rep x.slot = true) : ∀ z ∈ X.map cod, 0 ≤ z ∧ z < 18 := by
  intro z hz
  obtain ⟨x, hx, rfl⟩ := List.mem_map.1 hz
  have := id_rng (hv x hx)
  unfold cod
  omega
theorem ids_18 {X : List Ii} (h : idlB X = true) : X.length ≤ 18 := by
  have := asc_len (X.map cod) 0 18 (cod_asc (srt_of_ok h) (ids_of_ok h)) (cod_rng (ids_of_ok h)) (by omega)
  simp only [List.length_map] at this
  omega
theorem ids_full {X : List Ii} (h : idlB X = true) (hl : 18 ≤ X.length) (y : Ii) (hy : idB y.rep y.slot = true) : y ∈ X := by
  have h1 := id_rng hy
  have := asc_full (X.map cod) 0 18 (cod_asc (srt_of_ok h) (ids_of_ok h)) (cod_rng (ids_of_ok h)) (by omega) (by simp only [List.length_map]; omega) (cod y) (by unfold cod; omega) (by unfold cod; omega)
  obtain ⟨x, hx, e⟩ := List.mem_map.1 this
  have h2 := id_rng (ids_of_ok h x hx)
  have : x = y := by
    cases x; cases y
    simp only [cod, Ii.mk.injEq] at *
    omega
  exact this ▸ hx

/-! ### what is in reach -/
inductive Rch (l : List In) : Ii → Ii → Prop
  | one {i y : Ii} : y ∈ dps l i → Rch l i y
  | more {i y z : Ii} : Rch l i y → z ∈ dps l y → Rch l i z
theorem Rch.cons {l : List In} {i d y : Ii} (h : d ∈ dps l i) (h2 : Rch l d y) : Rch l i y := by
  induction h2 with
  | one h3 => exact .more (.one h) h3
  | more _ h3 ih => exact .more ih h3
theorem Rch.ok {l : List In} {i y : Ii} (hl : instsB l = true) (h : Rch l i y) : idB y.rep y.slot = true := by
  cases h with
  | one h3 => exact ids_of_ok (dps_ok hl i) _ h3
  | more _ h3 => exact ids_of_ok (dps_ok hl _) _ h3
/-- X is what is in reach of i, in order. -/
structure IsR (l : List In) (i : Ii) (X : List Ii) : Prop where
  srt : Srt X
  mem : ∀ y, y ∈ X ↔ Rch l i y
theorem IsR.uniq {l : List In} {i : Ii} {X Y : List Ii} (h : IsR l i X) (h2 : IsR l i Y) : X = Y :=
  srt_ext X Y h.srt h2.srt fun z => (h.mem z).trans (h2.mem z).symm
theorem IsR.of {l : List In} {i : Ii} {X : List Ii} (hs : Srt X) (h1 : ∀ y, y ∈ dps l i → y ∈ X) (h2 : ∀ y, y ∈ X → Rch l i y ∧ ∀ z, z ∈ dps l y → z ∈ X) : IsR l i X :=
  ⟨hs, fun y => ⟨fun h => (h2 y h).1, fun h => by
    induction h with
    | one h3 => exact h1 _ h3
    | more _ h3 ih => exact (h2 _ ih).2 _ h3⟩⟩
theorem IsR.ok {l : List In} {i : Ii} {X : List Ii} (hl : instsB l = true) (h : IsR l i X) : idlB X = true := ok_of_srt h.srt fun x hx => ((h.mem x).1 hx).ok hl

/-! ### the program's visit -/
/-- What a visit of i leaves of R: R'. -/
structure Vis (l : List In) (i : Ii) (R R' : List Ii) : Prop where
  ok : idlB R' = true
  sub : ∀ y, y ∈ R → y ∈ R'
  all : ∀ y, y ∈ dps l i → y ∈ R'
  new : ∀ y, y ∈ R' → y ∉ R → Rch l i y ∧ ∀ z, z ∈ dps l y → z ∈ R'
/-- .. of the first k of its Deps. -/
structure VisK (l : List In) (i : Ii) (k : Nat) (R R' : List Ii) : Prop where
  ok : idlB R' = true
  sub : ∀ y, y ∈ R → y ∈ R'
  all : ∀ j, j < k → ⟨iR (dps l i) j, iS (dps l i) j⟩ ∈ R'
  new : ∀ y, y ∈ R' → y ∉ R → Rch l i y ∧ ∀ z, z ∈ dps l y → z ∈ R'
theorem ii_mem (l : List Ii) (k : Nat) (h : k < l.length) : (⟨iR l k, iS l k⟩ : Ii) ∈ l := List.mem_of_getElem? (ii_get l k h)
theorem ii_ex {l : List Ii} {y : Ii} (h : y ∈ l) : ∃ k, k < l.length ∧ y = ⟨iR l k, iS l k⟩ := by
  obtain ⟨k, hk, e⟩ := List.getElem_of_mem h
  have h2 := ii_get l k hk
  rw [List.getElem?_eq_getElem hk] at h2
  exact ⟨k, hk, by rw [← e]; exact Option.some.inj h2⟩
theorem VisK.zero {l : List In} {i : Ii} {R : List Ii} (h : idlB R = true) : VisK l i 0 R R := ⟨h, fun _ h => h, fun j hj => by omega, fun y h h2 => absurd h h2⟩
theorem VisK.fin {l : List In} {i : Ii} {R R' : List Ii} (h : VisK l i (dps l i).length R R') : Vis l i R R' :=
  ⟨h.ok, h.sub, fun y hy => by obtain ⟨k, hk, rfl⟩ := ii_ex hy; exact h.all k hk, h.new⟩
theorem VisK.skip {l : List In} {i : Ii} {k : Nat} {R R' : List Ii} (h : VisK l i k R R') (hin : (⟨iR (dps l i) k, iS (dps l i) k⟩ : Ii) ∈ R') : VisK l i (k + 1) R R' :=
  ⟨h.ok, h.sub, fun j hj => by
    by_cases e : j = k
    · exact e ▸ hin
    · exact h.all j (by omega), h.new⟩
theorem put_ok {R : List Ii} (h : idlB R = true) (x : Ii) (hx : idB x.rep x.slot = true) : idlB (putI R x) = true :=
  ok_of_srt (putI_srt (srt_of_ok h) x) fun y hy => by
    rcases (putI_mem R x y).1 hy with rfl | hy
    · exact hx
    · exact ids_of_ok h y hy
theorem VisK.step {l : List In} {i : Ii} {k : Nat} {R R' R2 : List Ii} (hk : k < (dps l i).length) (h : VisK l i k R R')
    (hv : Vis l ⟨iR (dps l i) k, iS (dps l i) k⟩ (putI R' ⟨iR (dps l i) k, iS (dps l i) k⟩) R2) : VisK l i (k + 1) R R2 := by
  have hsub : ∀ y, y ∈ R' → y ∈ R2 := fun y hy => hv.sub y ((putI_mem _ _ _).2 (.inr hy))
  have hd := ii_mem (dps l i) k hk
  refine ⟨hv.ok, fun y hy => hsub y (h.sub y hy), fun j hj => ?_, fun y hy hn => ?_⟩
  · by_cases e : j = k
    · subst e
      exact hv.sub _ ((putI_mem _ _ _).2 (.inl rfl))
    · exact hsub _ (h.all j (by omega))
  · by_cases h1 : y ∈ R'
    · obtain ⟨a, b⟩ := h.new y h1 hn
      exact ⟨a, fun z hz => hsub z (b z hz)⟩
    · by_cases h2 : y = ⟨iR (dps l i) k, iS (dps l i) k⟩
      · subst h2
        exact ⟨.one hd, fun z hz => hv.all z hz⟩
      · obtain ⟨a, b⟩ := hv.new y hy (fun h3 => by
          rcases (putI_mem _ _ _).1 h3 with h3 | h3
          · exact h2 h3
          · exact h1 h3)
        exact ⟨a.cons hd, b⟩
theorem Vis.done {l : List In} {i : Ii} {R : List Ii} (h : Vis l i [] R) : IsR l i R := IsR.of (srt_of_ok h.ok) h.all fun y hy => h.new y hy (by simp)
theorem putI_grow {R : List Ii} (h : idlB R = true) {x : Ii} (hx : x ∉ R) (hv : idB x.rep x.slot = true) : R.length + 1 ≤ (putI R x).length := by
  have hs := srt_of_ok h
  have hs2 := putI_srt hs x
  have e : (putI R x).filter (fun y => decide (y ≠ x)) = R := srt_ext _ _ (hs2.filter _) hs fun z => by
    rw [List.mem_filter, putI_mem]
    constructor
    · rintro ⟨rfl | h1, h2⟩
      · simp at h2
      · exact h1
    · intro h1
      exact ⟨.inr h1, by simp; rintro rfl; exact hx h1⟩
  have h1 := List.length_filter_le (fun y => decide (y ≠ x)) (putI R x)
  rw [e] at h1
  have h2 : ¬ R.length = (putI R x).length := fun e2 => by
    have h3 := List.length_filter_eq_length_iff.1 ((congrArg List.length e).trans e2) x ((putI_mem _ _ _).2 (.inl rfl))
    simp at h3
  omega

/-! ### the model's rounds -/
@[irreducible] def stp (l : List In) (out : List Ii) (k : Nat) : List Ii := (out.take k).foldl (fun nx y => mrg nx (dps l y)) out
theorem stp_zero (l : List In) (out : List Ii) : stp l out 0 = out := by unfold stp; simp
theorem stp_succ (l : List In) (out : List Ii) (k : Nat) (h : k < out.length) : stp l out (k + 1) = mrg (stp l out k) (dps l ⟨iR out k, iS out k⟩) := by
  unfold stp
  rw [List.take_add_one, ii_get out k h, Option.toList_some, List.foldl_append]
  rfl
theorem stp_mem (l : List In) (out : List Ii) : ∀ k, k ≤ out.length → ∀ z, z ∈ stp l out k ↔ z ∈ out ∨ ∃ j, j < k ∧ z ∈ dps l ⟨iR out j, iS out j⟩
  | 0, _, z => by rw [stp_zero]; simp
  | k + 1, hk, z => by
    rw [stp_succ l out k (by omega), mrg_mem, stp_mem l out k (by omega)]
    constructor
    · rintro ((h | ⟨j, hj, h⟩) | h)
      · exact .inl h
      · exact .inr ⟨j, by omega, h⟩
      · exact .inr ⟨k, by omega, h⟩
    · rintro (h | ⟨j, hj, h⟩)
      · exact .inl (.inl h)
      · by_cases e : j = k
        · exact .inr (e ▸ h)
        · exact .inl (.inr ⟨j, by omega, h⟩)
theorem stp_ok {l : List In} (hl : instsB l = true) {out : List Ii} (h : idlB out = true) : ∀ k, k ≤ out.length → idlB (stp l out k) = true
  | 0, _ => by rw [stp_zero]; exact h
  | k + 1, hk => by
    have h1 := stp_ok hl h k (by omega)
    have h2 := dps_ok hl ⟨iR out k, iS out k⟩
    rw [stp_succ l out k (by omega)]
    exact ok_of_srt (mrg_srt _ _ (srt_of_ok h1) (srt_of_ok h2)) fun x hx => ((mrg_mem _ _ _).1 hx).elim (ids_of_ok h1 x) (ids_of_ok h2 x)
/-- Behind r rounds. -/
structure Rnd (l : List In) (i : Ii) (r : Nat) (out : List Ii) : Prop where
  ok : idlB out = true
  all : ∀ y, y ∈ dps l i → y ∈ out
  rch : ∀ y, y ∈ out → Rch l i y
  len : r ≤ out.length
theorem Rnd.zero {l : List In} (hl : instsB l = true) (i : Ii) : Rnd l i 0 (mrg [] (dps l i)) := by
  rw [mrg_nil_left]
  exact ⟨dps_ok hl i, fun _ h => h, fun _ h => .one h, by omega⟩
theorem stp_filter {l : List In} (hl : instsB l = true) {out : List Ii} (h : idlB out = true) : (stp l out out.length).filter (fun y => decide (y ∈ out)) = out :=
  srt_ext _ _ ((srt_of_ok (stp_ok hl h _ (Nat.le_refl _))).filter _) (srt_of_ok h) fun z => by
    rw [List.mem_filter, stp_mem l out _ (Nat.le_refl _)]
    simp only [decide_eq_true_eq]
    exact ⟨fun hh => hh.2, fun hh => ⟨.inl hh, hh⟩⟩
theorem Rnd.same {l : List In} (hl : instsB l = true) {i : Ii} {r : Nat} {out : List Ii} (h : Rnd l i r out) (he : (stp l out out.length).length = out.length) : IsR l i out := by
  refine IsR.of (srt_of_ok h.ok) h.all fun y hy => ⟨h.rch y hy, fun z hz => ?_⟩
  have h1 := List.length_filter_eq_length_iff.1 ((congrArg List.length (stp_filter hl h.ok)).trans he.symm) z (by
    rw [stp_mem l out _ (Nat.le_refl _)]
    obtain ⟨k, hk, rfl⟩ := ii_ex hy
    exact .inr ⟨k, hk, hz⟩)
  simpa using h1
theorem Rnd.grow {l : List In} (hl : instsB l = true) {i : Ii} {r : Nat} {out : List Ii} (h : Rnd l i r out) (he : (stp l out out.length).length ≠ out.length) : Rnd l i (r + 1) (stp l out out.length) := by
  refine ⟨stp_ok hl h.ok _ (Nat.le_refl _), fun y hy => (stp_mem l out _ (Nat.le_refl _) y).2 (.inl (h.all y hy)), fun y hy => ?_, ?_⟩
  · rcases (stp_mem l out _ (Nat.le_refl _) y).1 hy with h1 | ⟨j, hj, h1⟩
    · exact h.rch y h1
    · exact .more (h.rch _ (ii_mem out j hj)) h1
  · have h1 := List.length_filter_le (fun y => decide (y ∈ out)) (stp l out out.length)
    rw [stp_filter hl h.ok] at h1
    have := h.len
    omega
theorem Rnd.full {l : List In} (hl : instsB l = true) {i : Ii} {out : List Ii} (h : Rnd l i 18 out) : IsR l i out :=
  IsR.of (srt_of_ok h.ok) h.all fun y hy => ⟨h.rch y hy, fun z hz => ids_full h.ok h.len z (ids_of_ok (dps_ok hl y) z hz)⟩
end Go.Proofs.YtlbebeedkcdgpaaDoor
/- Maps from Ids to instances. -/
namespace Go.Proofs.YtlbebeedkcdgpaaDoor
open Go.RowKit Go.PlainAid Go.Maps
set_option linter.unusedVariables false

/-! ### keys -/
abbrev iV (r s : Int) : Value := .agg #[.int .i64 r, .int .i64 s]
/-- An Id of two numbers of the machine. -/
structure Wf (r s : Int) : Prop where
  r0 : -9223372036854775808 ≤ r
  r1 : r ≤ 9223372036854775807
  s0 : -9223372036854775808 ≤ s
  s1 : s ≤ 9223372036854775807
theorem Wf.of {r s : Int} (h : idB r s = true) : Wf r s := by
  have := id_rng h
  exact ⟨by omega, by omega, by omega, by omega⟩
theorem Tryd.keyTy : Tryd.prog.keyType 30 = true := by kernel_rfl
theorem Tryd.laidG : laidOutB Tryd.prog = true := by kernel_rfl
theorem Tryd.keyedId : Keyed Tryd.prog 30 := Keyed.of_law (deep_law_gate Tryd.laidG (of_decide_eq_true (by kernel_rfl)) (of_decide_eq_true (by kernel_rfl)) Tryd.keyTy (by kernel_rfl))
theorem wfI {n : Int} (h0 : -9223372036854775808 ≤ n) (h1 : n ≤ 9223372036854775807) : (Lit.int .i64 n).wf = true := by
  simp only [Lit.wf, Bool.and_eq_true, decide_eq_true_eq]
  exact ⟨h0, h1⟩
@[irreducible] def kL (r s : Int) : Lit := .string (keyBytes [.int .i64 r, .int .i64 s])
theorem kL_eq {r s : Int} (h : Wf r s) : keyOf Tryd.prog 30 (iV r s) = some (kL r s) := by
  have hr := wfI h.r0 h.r1
  have hs := wfI h.s0 h.s1
  have hc : Tryd.prog.cellsOf 30 = 2 := by kernel_rfl
  have hc3 : Tryd.prog.cellsOf 3 = 1 := by kernel_rfl
  have hf : (iV r s).formed Tryd.prog 30 = true := by
    unfold Value.formed
    rw [Tryd.underlying30, hc]
    rfl
  obtain ⟨d, hd⟩ : ∃ d, Tryd.prog.types.size = d + 1 := ⟨Tryd.prog.types.size - 1, by have h0 : 0 < Tryd.prog.types.size := of_decide_eq_true (by kernel_rfl); omega⟩
  unfold keyOf kL
  rw [Tryd.underlying30]
  dsimp only
  rw [Tryd.keyTy, hf, hd]
  simp [Program.keyLits, Tryd.underlying30, Tryd.underlying3, hc, hc3, hr, hs, Value.cells]
theorem kL_inj {r s r' s' : Int} (h : Wf r s) (h' : Wf r' s') (e : kL r s = kL r' s') : r = r' ∧ s = s' := by
  have e1 := Tryd.keyedId.inj (kL_eq h) (e ▸ kL_eq h')
  simpa using e1
theorem kL_key {r s : Int} (h : Wf r s) : WideAt.IsKeyLit (kL r s) := Tryd.keyedId.key (kL_eq h)

/-! ### the map -/
/-- An element reads as itself. -/
def vE (v : Value) : Option (DataW Value × List MemPlace) := some (.held v, [])
abbrev inz : Value := .agg #[.int .i64 in0.rep, .int .i64 in0.slot, .int .i64 in0.bal, .int .i64 in0.vbal, .int .i64 in0.st, .int .i64 in0.cmd.kind, .int .i64 in0.cmd.client, .int .i64 in0.cmd.no, .string in0.cmd.set, .string in0.cmd.name, .string in0.cmd.tag, .int .i64 in0.cmd.n, .slice none 0 0, .int .i64 in0.seq, .slice none 0 0, .bool in0.same]
theorem zero_inst (w : World) : (zeroValue 48).run Tryd.prog w = .ok inz w := Tryd.zeroValue48 w
/-- Block b is a map that has V's values. -/
def GMap (w : World) (b n : Nat) (V : Int → Int → Option Value) : Prop :=
  ∃ D : DataW Value, w.ownsMap Tryd.prog 30 vE b n D ∧ ∀ r s, Wf r s → has D (kL r s) = (V r s).isSome ∧ ∀ x, V r s = some x → D.atKey (kL r s) (.held inz) = .held x
theorem GMap.lt {w : World} {b n : Nat} {V : Int → Int → Option Value} (h : GMap w b n V) : b < w.heap.size := by
  obtain ⟨D, h1, _⟩ := h
  exact h1.lt
theorem GMap.keep {w w' : World} {b n : Nat} {V : Int → Int → Option Value} {row : Option Nat} (h : GMap w b n V) (hg : w.grownBy w' row) (hne : some b ≠ row) : GMap w' b n V := by
  obtain ⟨D, h1, h2⟩ := h
  exact ⟨D, h1.kept hg hne, h2⟩
theorem grown_allG {w w' : World} (hb : Below w.heap.size w w') (row : Option Nat) : w.grownBy w' row := ⟨hb.os, hb.tape, hb.output, hb.size, fun k hk _ => hb.block k hk⟩
theorem GMap.later {w w' : World} {b n : Nat} {V : Int → Int → Option Value} (h : GMap w b n V) (hb : Below w.heap.size w w') : GMap w' b n V := h.keep (grown_allG hb none) (by simp)
theorem gmap_made (w : World) : GMap (w.alloc (.map #[] 0)) w.heap.size 0 (fun _ _ => none) := ⟨_, World.ownsMap_made w _ _ _, fun r s _ => ⟨rfl, fun x hx => by cases hx⟩⟩
theorem GMap.look {w : World} {b n : Nat} {V : Int → Int → Option Value} (h : GMap w b n V) {r s : Int} (hw : Wf r s) :
    (∀ x, V r s = some x → (Instr.lookup 51 (.map (some b)) (iV r s) true).run Tryd.prog w = .ok (.tuple #[x, .bool true]) w ∧ (Instr.lookup 51 (.map (some b)) (iV r s) false).run Tryd.prog w = .ok x w) ∧
    (V r s = none → (Instr.lookup 51 (.map (some b)) (iV r s) true).run Tryd.prog w = .ok (.tuple #[inz, .bool false]) w ∧ (Instr.lookup 51 (.map (some b)) (iV r s) false).run Tryd.prog w = .ok inz w) := by
  obtain ⟨D, h1, h2⟩ := h
  obtain ⟨v, ps, hrun, hv⟩ := h1.look_ok Tryd.keyedId Tryd.underlying51 (zero_inst w) (rfl : vE inz = some (.held inz, [])) (kL_eq hw)
  obtain ⟨v', ps', hrun', hv'⟩ := h1.lookup Tryd.keyedId Tryd.underlying51 (zero_inst w) (rfl : vE inz = some (.held inz, [])) (kL_eq hw)
  obtain ⟨r1, r2⟩ := h2 r s hw
  simp only [vE, Option.some.injEq, Prod.mk.injEq] at hv hv'
  constructor
  · intro x hx
    rw [hx] at r1
    rw [r2 x hx] at hv hv'
    have e := DataW.held.inj hv.1
    have e' := DataW.held.inj hv'.1
    subst e e'
    rw [r1] at hrun
    exact ⟨hrun, hrun'⟩
  · intro hx
    rw [hx] at r1
    have hz : D.atKey (kL r s) (.held inz) = .held inz := atKey_of_not_has r1 _
    rw [hz] at hv hv'
    have e := DataW.held.inj hv.1
    have e' := DataW.held.inj hv'.1
    subst e e'
    rw [r1] at hrun
    exact ⟨hrun, hrun'⟩
theorem GMap.put {w : World} {b n : Nat} {V V' : Int → Int → Option Value} (h : GMap w b n V) {r s : Int} (hw : Wf r s) (x : Value) (hn : n ≤ 1048577) (hV : ∀ r' s', V' r' s' = if r' = r ∧ s' = s then some x else V r' s') :
    ∃ w', (Instr.mapUpdate 51 (.map (some b)) (iV r s) x).run Tryd.prog w = .ok () w' ∧ GMap w' b (n + 1) V' ∧ w.grownBy w' (some b) := by
  obtain ⟨D, h1, h2⟩ := h
  obtain ⟨w', hrun, h3, h4⟩ := h1.update Tryd.keyedId Tryd.underlying51 (by unfold maxLen; omega) (kL_eq hw) (rfl : vE x = some (.held x, []))
  refine ⟨w', hrun, ⟨_, h3, fun r' s' hw' => ?_⟩, h4⟩
  rw [hV r' s']
  by_cases e : r' = r ∧ s' = s
  · obtain ⟨rfl, rfl⟩ := e
    rw [if_pos ⟨rfl, rfl⟩]
    exact ⟨has_put_same h1.isMap (kL_key hw) _, fun y hy => by cases hy; exact atKey_put_same h1.isMap (kL_key hw) _ _⟩
  · rw [if_neg e]
    have hne : kL r' s' ≠ kL r s := fun e2 => e (kL_inj hw' hw e2)
    obtain ⟨r1, r2⟩ := h2 r' s' hw'
    exact ⟨by rw [has_put_other hne]; exact r1, fun y hy => by rw [atKey_put_other hne]; exact r2 y hy⟩

/-! ### the committed instances, by their Ids -/
/-- V has the values of l's committed instances. -/
def HasV (w : World) (l : List In) (V : Int → Int → Option Value) : Prop :=
  ∀ r s, Wf r s → (comB l ⟨r, s⟩ = none ∧ V r s = none) ∨ ∃ (x : In) (a : Option Addr) (n c : Nat) (d : Value), comB l ⟨r, s⟩ = some x ∧ V r s = some (.agg #[.int .i64 x.rep, .int .i64 x.slot, .int .i64 x.bal, .int .i64 x.vbal, .int .i64 x.st, .int .i64 x.cmd.kind, .int .i64 x.cmd.client, .int .i64 x.cmd.no, .string x.cmd.set, .string x.cmd.name, .string x.cmd.tag, .int .i64 x.cmd.n, .slice a n c, .int .i64 x.seq, d, .bool x.same]) ∧ Ids w d x.deps
theorem HasV.later {w w' : World} {l : List In} {V : Int → Int → Option Value} (h : HasV w l V) (hb : Below w.heap.size w w') : HasV w' l V := fun r s hw =>
  (h r s hw).imp (fun h => h) fun ⟨x, a, n, c, d, h1, h2, h3⟩ => ⟨x, a, n, c, d, h1, h2, h3.later hb⟩
/-- The value g is a map of l's committed instances. -/
def Grf (w : World) (g : Value) (l : List In) : Prop := ∃ b n V, g = .map (some b) ∧ GMap w b n V ∧ HasV w l V
theorem Grf.later {w w' : World} {g : Value} {l : List In} (h : Grf w g l) (hb : Below w.heap.size w w') : Grf w' g l := by
  obtain ⟨b, n, V, e, h1, h2⟩ := h
  exact ⟨b, n, V, e, h1.later hb, h2.later hb⟩
theorem Grf.get {w w' : World} {g : Value} {l : List In} (h : Grf w g l) (hb : Below w.heap.size w w') {r s : Int} (hw : Wf r s) :
    ∃ (b : Nat) (x : In) (a : Option Addr) (n c : Nat) (d : Value), g = .map (some b) ∧ (Instr.lookup 51 (.map (some b)) (iV r s) false).run Tryd.prog w' = .ok (.agg #[.int .i64 x.rep, .int .i64 x.slot, .int .i64 x.bal, .int .i64 x.vbal, .int .i64 x.st, .int .i64 x.cmd.kind, .int .i64 x.cmd.client, .int .i64 x.cmd.no, .string x.cmd.set, .string x.cmd.name, .string x.cmd.tag, .int .i64 x.cmd.n, .slice a n c, .int .i64 x.seq, d, .bool x.same]) w' ∧ Ids w d (dps l ⟨r, s⟩) := by
  obtain ⟨b, n, V, rfl, h1, h2⟩ := h
  rcases h2 r s hw with ⟨e, hv⟩ | ⟨x, a, n, c, d, e, hv, hi⟩
  · exact ⟨b, in0, none, 0, 0, .slice none 0 0, rfl, (((h1.later hb).look hw).2 hv).2, by rw [dps_none e]; exact ids_nil _ _ _⟩
  · exact ⟨b, x, a, n, c, d, rfl, (((h1.later hb).look hw).1 _ hv).2, by rw [dps_some e]; exact hi⟩
theorem Grf.ok {w w' : World} {g : Value} {l : List In} (h : Grf w g l) (hb : Below w.heap.size w w') {r s : Int} (hw : Wf r s) :
    ∃ b v, g = .map (some b) ∧ (Instr.lookup 51 (.map (some b)) (iV r s) true).run Tryd.prog w' = .ok (.tuple #[v, .bool (comB l ⟨r, s⟩).isSome]) w' := by
  obtain ⟨b, n, V, rfl, h1, h2⟩ := h
  rcases h2 r s hw with ⟨e, hv⟩ | ⟨x, a, n, c, d, e, hv, hi⟩
  · exact ⟨b, _, rfl, by rw [e]; exact (((h1.later hb).look hw).2 hv).1⟩
  · exact ⟨b, _, rfl, by rw [e]; exact (((h1.later hb).look hw).1 _ hv).1⟩
theorem grownG (w : World) (g o : Nat) (v : Value) : w.grownBy (w.setCell ⟨g, o, none⟩ v) (some g) :=
  ⟨rfl, rfl, rfl, by simp, fun k _ hk => heap_setCell_other w ⟨g, o, none⟩ k v (fun e => hk (by rw [e]))⟩
end Go.Proofs.YtlbebeedkcdgpaaDoor
/- InstPut in plain words. -/
namespace Go.Proofs.YtlbebeedkcdgpaaDoor
set_option linter.unusedVariables false

abbrev ltN (x y : In) : Bool := ltB x.rep x.slot y.rep y.slot
theorem ltN_iff (x y : In) : ltN x y = true ↔ x.rep < y.rep ∨ (x.rep = y.rep ∧ x.slot < y.slot) := ltI_iff ⟨x.rep, x.slot⟩ ⟨y.rep, y.slot⟩
theorem ltN_no (x y : In) : ltN x y = false ↔ ¬ (x.rep < y.rep ∨ (x.rep = y.rep ∧ x.slot < y.slot)) := by rw [← ltN_iff]; simp
theorem ltN_trans {x y z : In} (h : ltN x y = true) (h2 : ltN y z = true) : ltN x z = true := by
  rw [ltN_iff] at *
  omega
theorem ltN_asym {x y : In} (h : ltN x y = true) : ltN y x = false := by
  rw [ltN_no]
  rw [ltN_iff] at h
  omega
def SrtN (l : List In) : Prop := l.Pairwise fun x y => ltN x y = true
theorem srtN_of_adj : ∀ l : List In, (∀ j, j + 1 < l.length → ltN (nth l j) (nth l (j + 1)) = true) → SrtN l
  | [], _ => List.Pairwise.nil
  | [x], _ => by simp [SrtN]
  | x :: y :: l, h => by
    have hxy : ltN x y = true := by
      have := h 0 (by simp)
      rw [nth_of (x := x) rfl, nth_of (x := y) rfl] at this
      exact this
    have ih := srtN_of_adj (y :: l) (fun j hj => by
      have := h (j + 1) (by simpa using hj)
      simp only [nth_eq, List.getD, List.getElem?_cons_succ] at this ⊢
      exact this)
    refine List.Pairwise.cons (fun z hz => ?_) ih
    rcases List.mem_cons.1 hz with rfl | hz
    · exact hxy
    · exact ltN_trans hxy (List.rel_of_pairwise_cons ih hz)
theorem srtN_of_ok {l : List In} (h : instsB l = true) : SrtN l := srtN_of_adj l fun j hj => by
  have := instsB_at h (j + 1) hj
  rw [okIn_succ _ _ (by omega)] at this
  simp only [Bool.and_eq_true] at this
  exact this.2
theorem insts_of_ok {l : List In} (h : instsB l = true) (x : In) (hx : x ∈ l) : instB x = true := by
  obtain ⟨j, hj, e⟩ := List.mem_iff_getElem.1 hx
  have := instsB_at h j hj
  rw [okIn_eq] at this
  simp only [Bool.and_eq_true] at this
  have e2 : l[j]? = some x := by rw [List.getElem?_eq_getElem hj, e]
  rw [nth_of e2] at this
  exact this.1
theorem ok_of_srtN {l : List In} (hs : SrtN l) (h : ∀ x ∈ l, instB x = true) : instsB l = true := by
  apply instsB_yes
  intro j hj
  have g := nth_get l j hj
  have hx := h _ (List.mem_iff_getElem?.2 ⟨j, g⟩)
  rw [okIn_eq, hx]
  by_cases e : j = 0
  · simp [e]
  · have g1 := nth_get l (j - 1) (by omega)
    have hp := List.pairwise_iff_getElem.1 hs (j - 1) j (by omega) hj (by omega)
    rw [List.getElem?_eq_getElem hj, Option.some.injEq] at g
    rw [List.getElem?_eq_getElem (by omega : j - 1 < l.length), Option.some.injEq] at g1
    rw [g, g1] at hp
    have hp' : ltB (nth l (j - 1)).rep (nth l (j - 1)).slot (nth l j).rep (nth l j).slot = true := hp
    rw [hp']
    simp
/-- At most eighteen are valid and in order. -/
theorem insts_key {l : List In} (h : instsB l = true) : ∀ j, j < l.length → (j : Int) + 1 ≤ (nth l j).rep * 6 + (nth l j).slot
  | 0, hj => by
    have := instsB_at h 0 hj
    rw [okIn_zero] at this
    rw [instB_eq] at this
    simp only [Bool.and_eq_true] at this
    have h1 := this.1
    rw [idB_eq] at h1
    simp only [Bool.and_eq_true, decide_eq_true_eq] at h1
    omega
  | j + 1, hj => by
    have ih := insts_key h j (by omega)
    have := instsB_at h (j + 1) hj
    rw [okIn_succ _ _ (by omega)] at this
    simp only [Bool.and_eq_true, Nat.add_sub_cancel] at this
    obtain ⟨hv, hlt⟩ := this
    have hv0 := instsB_at h j (by omega)
    rw [okIn_eq] at hv0
    simp only [Bool.and_eq_true] at hv0
    have h0 := hv0.1
    rw [instB_eq] at hv h0
    simp only [Bool.and_eq_true] at hv h0
    have h1 := hv.1
    have h2 := h0.1
    rw [idB_eq] at h1 h2
    simp only [Bool.and_eq_true, decide_eq_true_eq] at h1 h2
    have h3 := (ltN_iff (nth l j) (nth l (j + 1))).1 hlt
    omega
theorem insts_len {l : List In} (h : instsB l = true) : l.length ≤ 18 := by
  by_cases h0 : l.length ≤ 18
  · exact h0
  · have a := insts_key h 18 (by omega)
    have hv := instsB_at h 18 (by omega)
    rw [okIn_eq] at hv
    simp only [Bool.and_eq_true] at hv
    have h1 := hv.1
    rw [instB_eq] at h1
    simp only [Bool.and_eq_true] at h1
    have h2 := h1.1
    rw [idB_eq] at h2
    simp only [Bool.and_eq_true, decide_eq_true_eq] at h2
    omega
/-- One put where it stands. -/
def putN (l : List In) (x : In) : List In := l.filter (fun y => ltN y x) ++ ([x] ++ l.filter (fun y => ltN x y))
theorem putN_srt {l : List In} (h : SrtN l) (x : In) : SrtN (putN l x) := by
  unfold SrtN putN
  rw [List.pairwise_append, List.pairwise_append]
  refine ⟨List.Pairwise.filter _ h, ⟨by simp, List.Pairwise.filter _ h, fun a ha b hb => ?_⟩, fun a ha b hb => ?_⟩
  · simp only [List.mem_singleton] at ha
    simp only [List.mem_filter] at hb
    rw [ha]; exact hb.2
  · simp only [List.mem_filter] at ha
    simp only [List.mem_append, List.mem_singleton, List.mem_filter] at hb
    rcases hb with rfl | hb
    · exact ha.2
    · exact ltN_trans ha.2 hb.2
theorem putN_ok {l : List In} (h : instsB l = true) (x : In) : instsB (putN l x) = instB x := by
  cases hx : instB x
  · cases hp : instsB (putN l x)
    · rfl
    · have := insts_of_ok hp x (by simp [putN])
      rw [hx] at this
      cases this
  · refine ok_of_srtN (putN_srt (srtN_of_ok h) x) (fun y hy => ?_)
    simp only [putN, List.mem_append, List.mem_singleton, List.mem_filter] at hy
    rcases hy with hy | rfl | hy
    · exact insts_of_ok h y hy.1
    · exact hx
    · exact insts_of_ok h y hy.1
theorem putN_length (l : List In) (x : In) : (putN l x).length ≤ 2 * l.length + 1 := by
  have h1 := List.length_filter_le (fun y => ltN y x) l
  have h2 := List.length_filter_le (fun y => ltN x y) l
  simp only [putN, List.length_append, List.length_singleton]
  omega
/-- The model's loop. -/
def stepP (x : In) (s : List In × Bool) (y : In) : List In × Bool :=
  let s1 := if !s.2 && !ltN y x then (s.1 ++ [x], true) else s
  if y.rep = x.rep ∧ y.slot = x.slot then s1 else (s1.1 ++ [y], s1.2)
def endP (x : In) (s : List In × Bool) : List In := if s.2 = true then s.1 else s.1 ++ [x]
theorem foldP_true (x : In) : ∀ (l : List In) (acc : List In), (∀ y ∈ l, ltN x y = true) → l.foldl (stepP x) (acc, true) = (acc ++ l, true)
  | [], acc, _ => by simp
  | y :: l, acc, h => by
    have hy := h y (by simp)
    have hne : ¬ (y.rep = x.rep ∧ y.slot = x.slot) := by rw [ltN_iff] at hy; omega
    have e : stepP x (acc, true) y = (acc ++ [y], true) := by simp [stepP, hne]
    rw [List.foldl_cons, e, foldP_true x l _ (fun z hz => h z (by simp [hz]))]
    simp
theorem foldP_false (x : In) : ∀ (l : List In) (acc : List In), SrtN l → endP x (l.foldl (stepP x) (acc, false)) = acc ++ putN l x
  | [], acc, _ => by simp [endP, putN]
  | y :: l, acc, hs => by
    have hyl := List.pairwise_cons.1 hs
    by_cases h1 : ltN y x = true
    · have hne : ¬ (y.rep = x.rep ∧ y.slot = x.slot) := by rw [ltN_iff] at h1; omega
      have e : stepP x (acc, false) y = (acc ++ [y], false) := by simp [stepP, hne, h1]
      have h2 := ltN_asym h1
      rw [List.foldl_cons, e, foldP_false x l _ hyl.2]
      simp [putN, h1, h2]
    · have h1' : ltN y x = false := by simpa using h1
      have hrest : ∀ z ∈ l, ltN x z = true := fun z hz => by
        have := hyl.1 z hz
        rw [ltN_no] at h1'
        rw [ltN_iff] at this ⊢
        omega
      have hrest2 : ∀ z ∈ l, ltN z x = false := fun z hz => ltN_asym (hrest z hz)
      have f1 : l.filter (fun y => ltN y x) = [] := List.filter_eq_nil_iff.2 (fun z hz => by rw [hrest2 z hz]; simp)
      have f2 : l.filter (fun y => ltN x y) = l := List.filter_eq_self.2 (fun z hz => hrest z hz)
      by_cases h2 : y.rep = x.rep ∧ y.slot = x.slot
      · have e : stepP x (acc, false) y = (acc ++ [x], true) := by simp [stepP, h2, h1']
        have hxy : ltN x y = false := by rw [ltN_no]; omega
        rw [List.foldl_cons, e, foldP_true x l _ hrest]
        simp [endP, putN, h1', hxy, f1, f2]
      · have e : stepP x (acc, false) y = (acc ++ [x] ++ [y], true) := by simp [stepP, h2, h1']
        have hxy : ltN x y = true := by rw [ltN_no] at h1'; rw [ltN_iff]; omega
        rw [List.foldl_cons, e, foldP_true x l _ hrest]
        simp [endP, putN, h1', hxy, f1, f2]
/-- What InstPut answers. -/
@[irreducible] def putX (l : List In) (x : In) : List In := if instsB l = true then (if instB x = true then putN l x else l) else []
theorem putX_none (l : List In) (x : In) (h : instsB l = false) : putX l x = [] := by unfold putX; rw [h]; rfl
theorem putX_keep (l : List In) (x : In) (h : instsB l = true) (h2 : instB x = false) : putX l x = l := by unfold putX; rw [if_pos h, h2]; rfl
theorem putX_put (l : List In) (x : In) (h : instsB l = true) (h2 : instB x = true) : putX l x = putN l x := by unfold putX; rw [if_pos h, if_pos h2]
theorem putX_ok (l : List In) (x : In) : instsB (putX l x) = true := by
  cases h : instsB l
  · rw [putX_none l x h]; exact instsB_yes [] (fun j hj => by simp at hj)
  · cases h2 : instB x
    · rw [putX_keep l x h h2]; exact h
    · rw [putX_put l x h h2, putN_ok h, h2]
end Go.Proofs.YtlbebeedkcdgpaaDoor
