import Derived.Test.YtmnglcidklckgaaDoorEnc
import Derived.Deep.RegionHeld3
import Derived.Deep.RegionWith
import Derived.Test.YtmnglcidklckgaaDoorWrt
import Derived.Laws.Concat
import Derived.Laws.BytesArg
/- Segments: how slices of them are read and owned. -/
namespace Go.Proofs.YtmnglcidklckgaaDoor
open Go.RowKit Go.PlainAid
set_option linter.unusedVariables false

/-- A segment, in plain words. -/
structure Sg where
  fst : Int
  txt : ByteArray
instance : DecidableEq Sg := fun a b => decidable_of_iff (a.fst = b.fst ∧ a.txt = b.txt) (by cases a; cases b; simp)
@[irreducible] def sF (l : List Sg) (j : Nat) : Int := (l.getD j ⟨0, ByteArray.empty⟩).fst
@[irreducible] def sT (l : List Sg) (j : Nat) : ByteArray := (l.getD j ⟨0, ByteArray.empty⟩).txt
theorem sF_eq (l : List Sg) (j : Nat) : sF l j = (l.getD j ⟨0, ByteArray.empty⟩).fst := by unfold sF; rfl
theorem sT_eq (l : List Sg) (j : Nat) : sT l j = (l.getD j ⟨0, ByteArray.empty⟩).txt := by unfold sT; rfl
theorem sg_get (l : List Sg) (j : Nat) (h : j < l.length) : l[j]? = some ⟨sF l j, sT l j⟩ := by
  rw [sF_eq, sT_eq, List.getD, List.getElem?_eq_getElem h]; rfl
theorem sF_of {l : List Sg} {j : Nat} {x : Sg} (h : l[j]? = some x) : sF l j = x.fst := by rw [sF_eq, List.getD, h]; rfl
theorem sT_of {l : List Sg} {j : Nat} {x : Sg} (h : l[j]? = some x) : sT l j = x.txt := by rw [sT_eq, List.getD, h]; rfl
theorem sg_ext (l m : List Sg) (h : l.length = m.length) (he : ∀ j, j < l.length → sF l j = sF m j ∧ sT l j = sT m j) : l = m := by
  apply List.ext_getElem?
  intro j
  by_cases hj : j < l.length
  · obtain ⟨a, b⟩ := he j hj
    rw [sg_get l j hj, sg_get m j (by omega), a, b]
  · rw [List.getElem?_eq_none (by omega), List.getElem?_eq_none (by omega)]
theorem sF_left (l m : List Sg) (j : Nat) (h : j < l.length) : sF (l ++ m) j = sF l j := by
  rw [sF_of (x := ⟨sF l j, sT l j⟩)]; rw [List.getElem?_append_left h]; exact sg_get l j h
theorem sT_left (l m : List Sg) (j : Nat) (h : j < l.length) : sT (l ++ m) j = sT l j := by
  rw [sT_of (x := ⟨sF l j, sT l j⟩)]; rw [List.getElem?_append_left h]; exact sg_get l j h
theorem sF_snoc (l : List Sg) (x : Sg) : sF (l ++ [x]) l.length = x.fst := sF_of (by simp)
theorem sT_snoc (l : List Sg) (x : Sg) : sT (l ++ [x]) l.length = x.txt := sT_of (by simp)
theorem sF_drop (l : List Sg) (d j : Nat) : sF (l.drop d) j = sF l (d + j) := by simp only [sF_eq, List.getD, List.getElem?_drop]
theorem sT_drop (l : List Sg) (d j : Nat) : sT (l.drop d) j = sT l (d + j) := by simp only [sT_eq, List.getD, List.getElem?_drop]
/-- Segment j turned to x. -/
theorem sF_set (l : List Sg) (j i : Nat) (x : Sg) (h : j < l.length) : sF (l.set j x) i = if i = j then x.fst else sF l i := by
  by_cases e : i = j
  · subst e; rw [if_pos rfl]; exact sF_of (by rw [List.getElem?_set_self h])
  · rw [if_neg e]; simp only [sF_eq, List.getD, List.getElem?_set_ne (Ne.symm e)]
theorem sT_set (l : List Sg) (j i : Nat) (x : Sg) (h : j < l.length) : sT (l.set j x) i = if i = j then x.txt else sT l i := by
  by_cases e : i = j
  · subst e; rw [if_pos rfl]; exact sT_of (by rw [List.getElem?_set_self h])
  · rw [if_neg e]; simp only [sT_eq, List.getD, List.getElem?_set_ne (Ne.symm e)]

/-- The value v is a slice of segments that reads as l. -/
structure Segs (w : World) (v : Value) (l : List Sg) : Prop where
  len : l.length ≤ 9223372036854775807
  size : ∀ j, j < l.length → (sT l j).size ≤ 9223372036854775807
  at_ : ∃ a cap, v = .slice a l.length cap ∧ l.length ≤ cap ∧ (0 < l.length → ∃ b o, a = some ⟨b, o, none⟩ ∧ b < w.heap.size ∧ ∀ j, j < l.length → w.cell? ⟨b, o + j * 2, none⟩ = some (.int .i64 (sF l j)) ∧ w.cell? ⟨b, o + j * 2 + 1, none⟩ = some (.string (sT l j)))
theorem Segs.form {w : World} {v : Value} {l : List Sg} (h : Segs w v l) : ∃ a n cap, v = .slice a n cap := by
  obtain ⟨_, _, a, cap, e, _⟩ := h
  exact ⟨a, _, cap, e⟩
theorem Segs.later {w w' : World} {v : Value} {l : List Sg} (h : Segs w v l) (hb : Below w.heap.size w w') : Segs w' v l := by
  obtain ⟨h1, h2, a, cap, e, hc, h3⟩ := h
  refine ⟨h1, h2, a, cap, e, hc, fun h0 => ?_⟩
  obtain ⟨b, o, ha, hbl, hcl⟩ := h3 h0
  exact ⟨b, o, ha, Nat.lt_of_lt_of_le hbl hb.size, fun j hj => by rw [hb.cell (p := ⟨b, o + j * 2, none⟩) hbl, hb.cell (p := ⟨b, o + j * 2 + 1, none⟩) hbl]; exact hcl j hj⟩
theorem Segs.alloc {w : World} {v : Value} {l : List Sg} (h : Segs w v l) (o : Obj) : Segs (w.alloc o) v l := h.later ((Below.refl _ _).alloc (Nat.le_refl _) _)
theorem Segs.drew {w : World} {v : Value} {l : List Sg} (h : Segs w v l) : Segs w.drew v l := h.later (Below.refl _ _).drew
theorem Segs.keep {w w' : World} {v : Value} {l : List Sg} {row : Option Nat} (h : Segs w v l) (hg : w.grownBy w' row) (hne : ∀ k, row = some k → v.ownBlock ≠ some k) : Segs w' v l := by
  obtain ⟨h1, h2, a, cap, e, hc, h3⟩ := h
  refine ⟨h1, h2, a, cap, e, hc, fun h0 => ?_⟩
  obtain ⟨b, o, ha, hbl, hcl⟩ := h3 h0
  subst e; subst ha
  have hk := hg.block b hbl (fun e => hne b e.symm rfl)
  exact ⟨b, o, rfl, Nat.lt_of_lt_of_le hbl hg.size, fun j hj => ⟨(World.cell?_of_block (w := w) (a := ⟨b, o + j * 2, none⟩) hk).trans (hcl j hj).1, (World.cell?_of_block (w := w) (a := ⟨b, o + j * 2 + 1, none⟩) hk).trans (hcl j hj).2⟩⟩
theorem Segs.block {w : World} {v : Value} {l : List Sg} (h : Segs w v l) (h0 : 0 < l.length) (k : Nat) (hk : v.ownBlock = some k) : k < w.heap.size := by
  obtain ⟨h1, h2, a, cap, rfl, hc, h3⟩ := h
  obtain ⟨b, o, rfl, hbl, hcl⟩ := h3 h0
  simp only [Value.ownBlock, Option.some.injEq] at hk
  omega
theorem segs_nil (w : World) (a : Option Addr) (cap : Nat) : Segs w (.slice a 0 cap) [] := ⟨by simp, fun j hj => by simp at hj, a, cap, rfl, by simp, fun h => by simp at h⟩
end Go.Proofs.YtmnglcidklckgaaDoor
/- The law's comparison of slices of strings. -/
namespace Go.Proofs.YtmnglcidklckgaaDoor
open Go.RowKit Go.PlainAid
set_option linter.unusedVariables false

theorem ne_list {a b : ByteArray} (h : a ≠ b) : (a.toList == b.toList) = false := by
  rw [beq_eq_false_iff_ne]; exact fun e => h (str_eq e)

set_option maxHeartbeats 400000 in
theorem eq_strs (v u : Value) (l m : List ByteArray) (w : World) (hv : Strs w v l) (hu : Strs w u m) :
    Calls Tryd.prog 29 #[v, u] w fun e w' => e = .returned (.bool (decide (l = m))) ∧ Below w.heap.size w w' := by
  obtain ⟨h1, h2, a, ca, rfl, hca, ha⟩ := hv
  obtain ⟨k1, k2, b, cb, rfl, hcb, hb⟩ := hu
  by_cases hlen : l.length = m.length
  · have HL := Lib.hid hlen
    rw [← hlen] at k1 k2 hb hcb ⊢
    generalize hn : l.length = n at h1 h2 ha hca k1 k2 hb hcb
    have HN := Lib.hid hn
    have HA := Lib.hid ha
    have HB := Lib.hid hb
    clear hlen hn h2 k2 ha hb hca hcb
    go_enter Tryd.func29, Tryd.ntmps29
    go_wp2
    go_loopw [5] (fun i wr => ∃ k : Nat, k ≤ n ∧ i = .int .i64 k ∧ (∀ j, j < k → el l j = el m j) ∧ Below w.heap.size w wr) (fun i _ => n - (intOf i).toNat)
    case atStart => exact ⟨0, by omega, rfl, fun j hj => by omega, Below.refl _ _⟩
    case round =>
      obtain ⟨k, hk, rfl, he, hbw⟩ := hrel
      have HE := Lib.hid he
      have HBW := Lib.hid hbw
      clear he hbw
      by_cases hlt : k < n
      · obtain ⟨x, o, rfl, hx, hcx⟩ := HA.out (by omega)
        obtain ⟨y, p, rfl, hy, hcy⟩ := HB.out (by omega)
        have c1 : wr.cell? ⟨x, o + k, none⟩ = some (.string (el l k)) := by rw [HBW.out.cell (p := ⟨x, o + k, none⟩) hx]; exact hcx k hlt
        have c2 : wr.cell? ⟨y, p + k, none⟩ = some (.string (el m k)) := by rw [HBW.out.cell (p := ⟨y, p + k, none⟩) hy]; exact hcy k hlt
        clear hcx hcy
        by_cases hke : el l k = el m k
        · have HKE := Lib.hid hke
          rw [← hke] at c2
          clear hke
          go_wp2
          go_quiet (fail)
          go_wp2
          go_roundw
          case rel =>
            refine ⟨k + 1, by omega, by go_num, fun j hj => ?_, dn HBW.out _⟩
            by_cases e : j = k
            · subst e; exact HKE.out
            · exact HE.out j (by omega)
          case measure => simp only [intOf]; omega
        · have hb := ne_list hke
          have HKE := Lib.hid hke
          clear hke
          go_wp2
          go_quiet (fail)
          go_wp2
          go_ret
          exact ⟨by rw [decide_eq_false (fun e => HKE.out (by rw [e]))]; rfl, dn HBW.out _⟩
      · obtain rfl : k = n := by omega
        go_wp2
        go_ret
        exact ⟨by rw [decide_eq_true (el_ext l m HL.out (fun j hj => HE.out j (by rw [← HN.out]; exact hj)))]; rfl, HBW.out⟩
  · have hne : l.length < m.length ∨ m.length < l.length := by omega
    have hlm : l ≠ m := fun e => hlen (by rw [e])
    have HL := Lib.hid hlm
    clear hlen hlm h2 k2 ha hb hca hcb
    generalize l.length = n at *
    generalize m.length = n' at *
    rcases hne with hne | hne
    all_goals
      go_enter Tryd.func29, Tryd.ntmps29
      go_wp2
      go_ret
      exact ⟨by rw [decide_eq_false HL.out]; rfl, Below.refl _ _⟩
end Go.Proofs.YtmnglcidklckgaaDoor
/- The law's comparison of segments, of slices of them and of logs. -/
namespace Go.Proofs.YtmnglcidklckgaaDoor
open Go.RowKit Go.PlainAid
set_option linter.unusedVariables false

theorem bcell {W w1 : World} (hb : Below W.heap.size W w1) : (∀ b o, b < W.heap.size → w1.cell? ⟨b, o, none⟩ = W.cell? ⟨b, o, none⟩) ∧ (∀ b o, b < W.heap.size → w1.frozen? ⟨b, o, none⟩ = W.frozen? ⟨b, o, none⟩) :=
  ⟨fun b o h => hb.cell (p := ⟨b, o, none⟩) h, fun b o h => hb.frozen (p := ⟨b, o, none⟩) h⟩
set_option maxHeartbeats 400000 in
theorem eq_seg_yes (f : Int) (t : ByteArray) (w : World) :
    Calls Tryd.prog 72 #[.agg #[.int .i64 f, .string t], .agg #[.int .i64 f, .string t]] w fun e w' => e = .returned (.bool true) ∧ Below w.heap.size w w' := by
  go_enter Tryd.func72, Tryd.ntmps72
  go_wp2
  go_ret
  exact ⟨rfl, ((Below.refl _ _).alloc (Nat.le_refl _) _).alloc (by simp) _⟩
set_option maxHeartbeats 400000 in
theorem eq_seg_no (f g : Int) (t u : ByteArray) (w : World) (h : ¬ (f = g ∧ t = u)) :
    Calls Tryd.prog 72 #[.agg #[.int .i64 f, .string t], .agg #[.int .i64 g, .string u]] w fun e w' => e = .returned (.bool false) ∧ Below w.heap.size w w' := by
  by_cases hf : f = g
  · subst hf
    have ht : t ≠ u := fun e => h ⟨rfl, e⟩
    have hb := ne_list ht
    clear h ht
    go_enter Tryd.func72, Tryd.ntmps72
    go_wp2
    go_ret
    exact ⟨rfl, ((Below.refl _ _).alloc (Nat.le_refl _) _).alloc (by simp) _⟩
  · have hb := beq_no hf
    clear h hf
    go_enter Tryd.func72, Tryd.ntmps72
    go_wp2
    go_ret
    exact ⟨rfl, ((Below.refl _ _).alloc (Nat.le_refl _) _).alloc (by simp) _⟩

set_option maxRecDepth 100000 in
set_option maxHeartbeats 1000000 in
theorem eq_segs (v u : Value) (l m : List Sg) (w : World) (hv : Segs w v l) (hu : Segs w u m) :
    Calls Tryd.prog 48 #[v, u] w fun e w' => e = .returned (.bool (decide (l = m))) ∧ Below w.heap.size w w' := by
  obtain ⟨h1, h2, a, ca, rfl, hca, ha⟩ := hv
  obtain ⟨k1, k2, b, cb, rfl, hcb, hb⟩ := hu
  by_cases hlen : l.length = m.length
  · have HL := Lib.hid hlen
    rw [← hlen] at k1 k2 hb hcb ⊢
    generalize hn : l.length = n at h1 h2 ha hca k1 k2 hb hcb
    have HN := Lib.hid hn
    have HA := Lib.hid ha
    have HB := Lib.hid hb
    clear hlen hn h2 k2 ha hb hca hcb
    go_enter Tryd.func48, Tryd.ntmps48
    go_wp2
    go_loopw [5] (fun i wr => ∃ k : Nat, k ≤ n ∧ i = .int .i64 k ∧ (∀ j, j < k → sF l j = sF m j ∧ sT l j = sT m j) ∧ Below w.heap.size w wr) (fun i _ => n - (intOf i).toNat)
    case atStart => exact ⟨0, by omega, rfl, fun j hj => by omega, Below.refl _ _⟩
    case round =>
      obtain ⟨k, hk, rfl, he, hbw⟩ := hrel
      have HE := Lib.hid he
      have HBW := Lib.hid hbw
      clear he hbw
      by_cases hlt : k < n
      · obtain ⟨x, o, rfl, hx, hcx⟩ := HA.out (by omega)
        obtain ⟨y, p, rfl, hy, hcy⟩ := HB.out (by omega)
        have c1 : wr.cell? ⟨x, o + k * 2, none⟩ = some (.int .i64 (sF l k)) := by rw [HBW.out.cell (p := ⟨x, o + k * 2, none⟩) hx]; exact (hcx k hlt).1
        have c2 : wr.cell? ⟨x, o + k * 2 + 1, none⟩ = some (.string (sT l k)) := by rw [HBW.out.cell (p := ⟨x, o + k * 2 + 1, none⟩) hx]; exact (hcx k hlt).2
        have d1 : wr.cell? ⟨y, p + k * 2, none⟩ = some (.int .i64 (sF m k)) := by rw [HBW.out.cell (p := ⟨y, p + k * 2, none⟩) hy]; exact (hcy k hlt).1
        have d2 : wr.cell? ⟨y, p + k * 2 + 1, none⟩ = some (.string (sT m k)) := by rw [HBW.out.cell (p := ⟨y, p + k * 2 + 1, none⟩) hy]; exact (hcy k hlt).2
        clear hcx hcy
        have y1 : (k : Int) < (n : Int) := by omega
        have y0 : (0 : Int) ≤ (k : Int) := by omega
        have hxr : x < wr.heap.size := Nat.lt_of_lt_of_le hx HBW.out.size
        have hyr : y < wr.heap.size := Nat.lt_of_lt_of_le hy HBW.out.size
        by_cases hke : sF l k = sF m k ∧ sT l k = sT m k
        · have HKE := Lib.hid hke
          obtain ⟨e1, e2⟩ := hke
          have CC := Lib.hid (⟨c1, c2, d1, d2⟩ : _ ∧ _ ∧ _ ∧ _)
          have HY := Lib.hid (fun W => (by have := eq_seg_yes (sF l k) (sT l k) W; rw (occs := .pos [2]) [e1] at this; rw (occs := .pos [2]) [e2] at this; exact this : Calls Tryd.prog 72 #[.agg #[.int .i64 (sF l k), .string (sT l k)], .agg #[.int .i64 (sF m k), .string (sT m k)]] W fun e w' => e = .returned (.bool true) ∧ Below W.heap.size W w'))
          clear e1 e2
          go_wp2_with fail
          go_region_held3 (fun w' => w'.cell? ⟨x, o + k * 2, none⟩ = some (.int .i64 (sF l k)) ∧ w'.cell? ⟨x, o + k * 2 + 1, none⟩ = some (.string (sT l k)) ∧ w'.cell? ⟨y, p + k * 2, none⟩ = some (.int .i64 (sF m k)) ∧ w'.cell? ⟨y, p + k * 2 + 1, none⟩ = some (.string (sT m k))) (first | (with_reducible exact ⟨c1, c2, d1, d2⟩) | (with_reducible exact CY.out) | go_keep)
            (first | (go_at_call 72; refine (HY.out _).mono ?_; rintro e w2 ⟨rfl, hb⟩; have CY := Lib.hid (show w2.cell? ⟨x, o + k * 2, none⟩ = some (.int .i64 (sF l k)) ∧ w2.cell? ⟨x, o + k * 2 + 1, none⟩ = some (.string (sT l k)) ∧ w2.cell? ⟨y, p + k * 2, none⟩ = some (.int .i64 (sF m k)) ∧ w2.cell? ⟨y, p + k * 2 + 1, none⟩ = some (.string (sT m k)) by rw [hb.cell (p := ⟨x, o + k * 2, none⟩) hxr, hb.cell (p := ⟨x, o + k * 2 + 1, none⟩) hxr, hb.cell (p := ⟨y, p + k * 2, none⟩) hyr, hb.cell (p := ⟨y, p + k * 2 + 1, none⟩) hyr]; exact CC.out); have HB2 := Lib.hid (HBW.out.trans (Below.mono (show Below wr.heap.size wr w2 from (Below.refl _ _).drew.trans hb) HBW.out.size)); clear hb))
          clear c1 c2 d1 d2
          go_wp2
          go_roundw
          case rel =>
            refine ⟨k + 1, by omega, by go_num, fun j hj => ?_, HB2.out⟩
            by_cases e : j = k
            · subst e; exact HKE.out
            · exact HE.out j (by omega)
          case measure => simp only [intOf]; omega
        · have HKE := Lib.hid hke
          have CC := Lib.hid (⟨c1, c2, d1, d2⟩ : _ ∧ _ ∧ _ ∧ _)
          have HY := Lib.hid (fun W => eq_seg_no (sF l k) (sF m k) (sT l k) (sT m k) W hke)
          clear hke
          go_wp2_with fail
          go_region_held3 (fun w' => w'.cell? ⟨x, o + k * 2, none⟩ = some (.int .i64 (sF l k)) ∧ w'.cell? ⟨x, o + k * 2 + 1, none⟩ = some (.string (sT l k)) ∧ w'.cell? ⟨y, p + k * 2, none⟩ = some (.int .i64 (sF m k)) ∧ w'.cell? ⟨y, p + k * 2 + 1, none⟩ = some (.string (sT m k))) (first | (with_reducible exact ⟨c1, c2, d1, d2⟩) | (with_reducible exact CY.out) | go_keep)
            (first | (go_at_call 72; refine (HY.out _).mono ?_; rintro e w2 ⟨rfl, hb⟩; have CY := Lib.hid (show w2.cell? ⟨x, o + k * 2, none⟩ = some (.int .i64 (sF l k)) ∧ w2.cell? ⟨x, o + k * 2 + 1, none⟩ = some (.string (sT l k)) ∧ w2.cell? ⟨y, p + k * 2, none⟩ = some (.int .i64 (sF m k)) ∧ w2.cell? ⟨y, p + k * 2 + 1, none⟩ = some (.string (sT m k)) by rw [hb.cell (p := ⟨x, o + k * 2, none⟩) hxr, hb.cell (p := ⟨x, o + k * 2 + 1, none⟩) hxr, hb.cell (p := ⟨y, p + k * 2, none⟩) hyr, hb.cell (p := ⟨y, p + k * 2 + 1, none⟩) hyr]; exact CC.out); have HB2 := Lib.hid (HBW.out.trans (Below.mono (show Below wr.heap.size wr w2 from (Below.refl _ _).drew.trans hb) HBW.out.size)); clear hb))
          clear c1 c2 d1 d2
          go_wp2
          go_ret
          exact ⟨by rw [decide_eq_false (fun e => HKE.out (by rw [e]; exact ⟨rfl, rfl⟩))]; rfl, HB2.out⟩
      · obtain rfl : k = n := by omega
        go_wp2
        go_ret
        exact ⟨by rw [decide_eq_true (sg_ext l m HL.out (fun j hj => HE.out j (by rw [← HN.out]; exact hj)))]; rfl, HBW.out⟩
  · have hne : l.length < m.length ∨ m.length < l.length := by omega
    have hlm : l ≠ m := fun e => hlen (by rw [e])
    have HL := Lib.hid hlm
    clear hlen hlm h2 k2 ha hb hca hcb
    generalize l.length = n at *
    generalize m.length = n' at *
    rcases hne with hne | hne
    all_goals
      go_enter Tryd.func48, Tryd.ntmps48
      go_wp2
      go_ret
      exact ⟨by rw [decide_eq_false HL.out]; rfl, Below.refl _ _⟩

theorem eq_segs_same (v u : Value) (l : List Sg) (w : World) (hv : Segs w v l) (hu : Segs w u l) :
    Calls Tryd.prog 48 #[v, u] w fun e w' => e = .returned (.bool true) ∧ Below w.heap.size w w' :=
  (eq_segs v u l l w hv hu).mono fun e w' h => ⟨by rw [h.1, decide_eq_true rfl], h.2⟩
set_option maxHeartbeats 400000 in
theorem eq_log_yes (v u : Value) (l : List Sg) (n m : Int) (w : World) (hv : Segs w v l) (hu : Segs w u l) :
    Calls Tryd.prog 24 #[.agg #[v, .int .i64 n, .int .i64 m], .agg #[u, .int .i64 n, .int .i64 m]] w fun e w' => e = .returned (.bool true) ∧ Below w.heap.size w w' := by
  have H := Lib.hid (eq_segs_same v u l _ ((hv.alloc (.cells #[v, .int .i64 n, .int .i64 m] 26)).alloc (.cells #[u, .int .i64 n, .int .i64 m] 26)) ((hu.alloc _).alloc _))
  obtain ⟨a, k, c, rfl⟩ := hv.form
  obtain ⟨a', k', c', rfl⟩ := hu.form
  clear hv hu
  go_enter Tryd.func24, Tryd.ntmps24
  go_wp2_with fail
  refine H.out.mono ?_
  rintro e w2 ⟨rfl, hb⟩
  obtain ⟨hc, hf⟩ := bcell hb
  have HB := Lib.hid hb
  clear hb
  go_wp2
  go_ret
  exact ⟨rfl, (((Below.refl _ _).alloc (Nat.le_refl _) _).alloc (by simp) _).trans (HB.out.mono (by simp; omega))⟩
end Go.Proofs.YtmnglcidklckgaaDoor
/- The laws' marks: the text of a number. -/
namespace Go.Proofs.YtmnglcidklckgaaDoor
open Go.RowKit Go.PlainAid
set_option linter.unusedVariables false

/-- The digits of k before what stands in o. -/
def finT : Nat → Nat → ByteArray → ByteArray
  | 0, _, o => o
  | f + 1, k, o => if k = 0 then o else finT f (k / 10) (strOfNums [48 + (k : Int) % 10] ++ o)
theorem finT_zero (f : Nat) (o : ByteArray) : finT f 0 o = o := by cases f <;> simp [finT]
theorem finT_step (f k : Nat) (o : ByteArray) (h : k ≠ 0) : finT (f + 1) k o = finT f (k / 10) (strOfNums [48 + (k : Int) % 10] ++ o) := by simp [finT, h]
theorem finT_size (f k : Nat) (o : ByteArray) : (finT f k o).size ≤ f + o.size := by
  induction f generalizing k o with
  | zero => simp [finT]
  | succ f ih =>
    unfold finT
    split
    · omega
    · have := ih (k / 10) (strOfNums [48 + (k : Int) % 10] ++ o)
      rw [ByteArray.size_append, strOfNums_size] at this
      simp at this
      omega
@[irreducible] def mkT (k : Nat) : ByteArray := ⟨#[109]⟩ ++ finT k k ⟨#[]⟩
set_option maxRecDepth 100000 in
set_option maxHeartbeats 1000000 in
theorem mark_text (k : Nat) (w : World) (h1 : 1 ≤ k) (h4 : k ≤ 4194305) : Calls Tryd.prog 53 #[.int .i64 k] w fun e w' => e = .returned (.string (mkT k)) ∧ Below w.heap.size w w' := by
  have hM : mkT k = ⟨#[109]⟩ ++ finT k k ⟨#[]⟩ := by unfold mkT; rfl
  rw [hM]
  have hconv := conv_one
  clear hM
  obtain ⟨R, hR⟩ : ∃ R, finT k k ⟨#[]⟩ = R := ⟨_, rfl⟩
  have HR := Lib.hid hR
  have hRz : R.size ≤ k + 0 := by rw [← hR]; exact finT_size k k _
  rw [hR]
  clear hR
  go_enter Tryd.func53, Tryd.ntmps53
  go_wp2
  go_loopw [0, 3] (fun a o wr => ∃ (f m : Nat) (t : ByteArray), m ≤ f ∧ f + t.size ≤ k ∧ a = .int .i64 m ∧ o = .string t ∧ finT f m t = R ∧ Below w.heap.size w wr) (fun a _ _ => (intOf a).toNat)
  case atStart => exact ⟨k, k, ⟨#[]⟩, Nat.le_refl _, Nat.le_refl _, rfl, rfl, HR.out, Below.refl _ _⟩
  case round =>
    obtain ⟨f, m, t, hmf, hft, rfl, rfl, hfin, hbw⟩ := hrel
    have HF := Lib.hid hfin
    have HB := Lib.hid hbw
    clear hfin hbw HR
    by_cases h0 : m = 0
    · subst h0
      have ht : t = R := by rw [← HF.out]; exact (finT_zero f t).symm
      subst ht
      have hss : ({ data := #[109] } : ByteArray).size + t.size ≤ 9223372036854775807 := by
        have e : ({ data := #[109] } : ByteArray).size = 1 := rfl
        rw [e]
        omega
      go_wp2
      go_ret
      exact ⟨rfl, HB.out⟩
    · have hm1 : 1 ≤ m := by omega
      obtain ⟨f', rfl⟩ : ∃ f', f = f' + 1 := ⟨f - 1, by omega⟩
      have hst := finT_step f' m t h0
      rw [HF.out] at hst
      have HST := Lib.hid hst
      have hz1 : (strOfNums [48 + (m : Int) % 10]).size = 1 := by rw [strOfNums_size]; rfl
      have hss : (strOfNums [48 + (m : Int) % 10]).size + t.size ≤ 9223372036854775807 := by rw [hz1]; omega
      clear hst HF h0
      go_wp2
      go_roundw
      case rel => exact ⟨f', m / 10, _, by omega, by rw [ByteArray.size_append, hz1]; omega, by go_num, rfl, HST.out.symm, HB.out.alloc HB.out.size _⟩
      case measure => simp only [intOf]; omega
theorem mkT_size (k : Nat) : (mkT k).size ≤ k + 1 := by
  unfold mkT
  rw [ByteArray.size_append]
  have := finT_size k k ⟨#[]⟩
  have e : (⟨#[]⟩ : ByteArray).size = 0 := rfl
  have e1 : (⟨#[109]⟩ : ByteArray).size = 1 := rfl
  rw [e] at this
  rw [e1]
  omega
end Go.Proofs.YtmnglcidklckgaaDoor
/- Blocks that are known whole, and worlds behind one another. -/
namespace Go.Proofs.YtmnglcidklckgaaDoor
open Go.RowKit Go.PlainAid
set_option linter.unusedVariables false

/-- Block g holds the cells cs. -/
def Bx (w : World) (g : Nat) (t : TypeId) (cs : Array Value) : Prop := w.heap[g]? = some (.cells cs t (0, 0))
theorem Bx.lt {w : World} {g : Nat} {t : TypeId} {cs : Array Value} (h : Bx w g t cs) : g < w.heap.size := (Array.getElem?_eq_some_iff.1 h).1
theorem Bx.cell {w : World} {g : Nat} {t : TypeId} {cs : Array Value} (h : Bx w g t cs) (j : Nat) (x : Value) (hx : cs[j]? = some x) : w.cell? ⟨g, j, none⟩ = some x := by
  rw [cell_of_row w g j _ t (0, 0) h, hx]
theorem Bx.frozen {w : World} {g : Nat} {t : TypeId} {cs : Array Value} (h : Bx w g t cs) (j : Nat) : w.frozen? ⟨g, j, none⟩ = false := frozen_of_row w g j _ t h
theorem Bx.later {w w' : World} {g B : Nat} {t : TypeId} {cs : Array Value} (h : Bx w g t cs) (hb : Below B w w') (hg : g < B) : Bx w' g t cs := by
  unfold Bx
  rw [hb.block g hg]
  exact h
theorem Bx.after {w w' : World} {g : Nat} {t : TypeId} {cs : Array Value} (h : Bx w g t cs) (hb : Below w.heap.size w w') : Bx w' g t cs := h.later hb h.lt
theorem Bx.alloc {w : World} {g : Nat} {t : TypeId} {cs : Array Value} (h : Bx w g t cs) (o : Obj) : Bx (w.alloc o) g t cs := h.after ((Below.refl _ _).alloc (Nat.le_refl _) _)
theorem Bx.drew {w : World} {g : Nat} {t : TypeId} {cs : Array Value} (h : Bx w g t cs) : Bx w.drew g t cs := h
theorem Bx.drewN {w : World} {g : Nat} {t : TypeId} {cs : Array Value} (h : Bx w g t cs) (m : Nat) : Bx (w.drewN m) g t cs := h
theorem Bx.new (w : World) (t : TypeId) (cs : Array Value) (g : Nat) (hg : w.heap.size = g) : Bx (w.alloc (.cells cs t)) g t cs := by
  subst hg
  exact heap_alloc_new w _
theorem Bx.keep {w w' : World} {g : Nat} {t : TypeId} {cs : Array Value} {row : Option Nat} (h : Bx w g t cs) (hb : w.grownBy w' row) (hne : some g ≠ row) : Bx w' g t cs := by
  have := h.lt
  unfold Bx at *
  rw [hb.block g this (by simpa using hne)]
  exact h
theorem Bx.set {w : World} {g : Nat} {t : TypeId} {cs : Array Value} (h : Bx w g t cs) (j : Nat) (x : Value) : Bx (w.setCell ⟨g, j, none⟩ x) g t (cs.setIfInBounds j x) := by
  unfold Bx at *
  rw [heap_setCell_same w g j _ _ _ h]
theorem Bx.set_other {w : World} {g : Nat} {t : TypeId} {cs : Array Value} (h : Bx w g t cs) (a : Addr) (x : Value) (hne : g ≠ a.block) : Bx (w.setCell a x) g t cs := by
  unfold Bx at *
  rw [heap_setCell_other w a g x hne]
  exact h
theorem Bx.cells3 {w : World} {g : Nat} {t : TypeId} {x0 x1 x2 : Value} (h : Bx w g t #[x0, x1, x2]) : w.cell? ⟨g, 0, none⟩ = some x0 ∧ w.cell? ⟨g, 1, none⟩ = some x1 ∧ w.cell? ⟨g, 2, none⟩ = some x2 :=
  ⟨h.cell 0 _ rfl, h.cell 1 _ rfl, h.cell 2 _ rfl⟩
theorem Bx.frozen3 {w : World} {g : Nat} {t : TypeId} {cs : Array Value} (h : Bx w g t cs) : w.frozen? ⟨g, 0, none⟩ = false ∧ w.frozen? ⟨g, 1, none⟩ = false ∧ w.frozen? ⟨g, 2, none⟩ = false := ⟨h.frozen 0, h.frozen 1, h.frozen 2⟩
/-- All that stood in w0 stands in w. -/
def Af (w0 w : World) : Prop := Below w0.heap.size w0 w
theorem Af.refl (w : World) : Af w w := Below.refl _ _
theorem Af.after {w0 w w' : World} (h : Af w0 w) (hb : Below w.heap.size w w') : Af w0 w' := Below.trans h (hb.mono (Below.size h))
theorem Af.trans {w0 w w' : World} (h : Af w0 w) (h2 : Af w w') : Af w0 w' := h.after h2
theorem Af.alloc {w0 w : World} (h : Af w0 w) (o : Obj) : Af w0 (w.alloc o) := h.after ((Below.refl _ _).alloc (Nat.le_refl _) _)
theorem Af.drew {w0 w : World} (h : Af w0 w) : Af w0 w.drew := Below.drew h
theorem Af.drewN {w0 w : World} (h : Af w0 w) (m : Nat) : Af w0 (w.drewN m) := dn h m
theorem Af.size {w0 w : World} (h : Af w0 w) : w0.heap.size ≤ w.heap.size := Below.size h
theorem Af.set {w0 w : World} (h : Af w0 w) {p : Addr} (hp : w0.heap.size ≤ p.block) (v : Value) : Af w0 (w.setCell p v) := Below.setCell h hp v
theorem Af.grow {w0 w w' : World} {row : Option Nat} (h : Af w0 w) (hb : w.grownBy w' row) (hr : ∀ k, row = some k → w0.heap.size ≤ k) : Af w0 w' := Below.grown h hb (Below.size h) hr
theorem wp_at {P : Program} {c : Code} {Q : Exit → Act → World → Prop} {a : Act} {w : World} (R : World → Prop) (hR : R w) (h : ∀ w1, R w1 → Code.wp P c Q a w1) : Code.wp P c Q a w := h w hR
end Go.Proofs.YtmnglcidklckgaaDoor
/- Segments that a call owns: the laws' marks on them. -/
namespace Go.Proofs.YtmnglcidklckgaaDoor
open Go.RowKit Go.PlainAid
set_option linter.unusedVariables false

/-- The slice v holds l, in a block of its own behind base. -/
def SegOwn (w : World) (base : Nat) (v : Value) (l : List Sg) : Prop :=
  ∃ a cap, v = .slice a l.length cap ∧ l.length ≤ cap ∧ l.length ≤ 9223372036854775807 ∧ (0 < l.length → ∃ g o cur, a = some ⟨g, o, none⟩ ∧ base ≤ g ∧ w.heap[g]? = some (.cells cur 51 (0, 0)) ∧ ∀ j, j < l.length → cur[o + j * 2]? = some (.int .i64 (sF l j)) ∧ cur[o + j * 2 + 1]? = some (.string (sT l j)))
theorem SegOwn.form {w : World} {base : Nat} {v : Value} {l : List Sg} (h : SegOwn w base v l) : ∃ a n cap, v = .slice a n cap := by
  obtain ⟨a, cap, e, _⟩ := h
  exact ⟨a, _, cap, e⟩
theorem SegOwn.mono {w : World} {base base' : Nat} {v : Value} {l : List Sg} (h : SegOwn w base v l) (hb : base' ≤ base) : SegOwn w base' v l := by
  obtain ⟨a, cap, e, h1, h2, h3⟩ := h
  exact ⟨a, cap, e, h1, h2, fun h0 => by obtain ⟨g, o, cur, r1, r2, r3⟩ := h3 h0; exact ⟨g, o, cur, r1, Nat.le_trans hb r2, r3⟩⟩
theorem SegOwn.segs {w : World} {base : Nat} {v : Value} {l : List Sg} (h : SegOwn w base v l) (hs : ∀ j, j < l.length → (sT l j).size ≤ 9223372036854775807) : Segs w v l := by
  obtain ⟨a, cap, e, h1, h2, h3⟩ := h
  refine ⟨h2, hs, a, cap, e, h1, fun h0 => ?_⟩
  obtain ⟨g, o, cur, r1, r2, r3, r4⟩ := h3 h0
  refine ⟨g, o, r1, (Array.getElem?_eq_some_iff.1 r3).1, fun j hj => ?_⟩
  rw [cell_of_row w g _ cur _ (0, 0) r3, cell_of_row w g _ cur _ (0, 0) r3]
  exact r4 j hj
theorem SegOwn.later {w w' : World} {base : Nat} {v : Value} {l : List Sg} (h : SegOwn w base v l) (hb : Below w.heap.size w w') : SegOwn w' base v l := by
  obtain ⟨a, cap, e, h1, h2, h3⟩ := h
  refine ⟨a, cap, e, h1, h2, fun h0 => ?_⟩
  obtain ⟨g, o, cur, r1, r2, r3, r4⟩ := h3 h0
  exact ⟨g, o, cur, r1, r2, by rw [hb.block g (Array.getElem?_eq_some_iff.1 r3).1]; exact r3, r4⟩
theorem SegOwn.alloc {w : World} {base : Nat} {v : Value} {l : List Sg} (h : SegOwn w base v l) (o : Obj) : SegOwn (w.alloc o) base v l := h.later ((Below.refl _ _).alloc (Nat.le_refl _) _)
theorem segOwn_nil (w : World) (base : Nat) (a : Option Addr) (cap : Nat) : SegOwn w base (.slice a 0 cap) [] := ⟨a, cap, rfl, by simp, by simp, fun h => by simp at h⟩
/-- A block that is written elsewhere. -/
theorem SegOwn.kept {w w' : World} {base : Nat} {v : Value} {l : List Sg} {row : Option Nat} (h : SegOwn w base v l) (hg : w.grownBy w' row) (hne : ∀ k, row = some k → k < base) : SegOwn w' base v l := by
  obtain ⟨a, cap, e, h1, h2, h3⟩ := h
  refine ⟨a, cap, e, h1, h2, fun h0 => ?_⟩
  obtain ⟨g, o, cur, r1, r2, r3, r4⟩ := h3 h0
  refine ⟨g, o, cur, r1, r2, ?_, r4⟩
  rw [hg.block g (Array.getElem?_eq_some_iff.1 r3).1 (fun e => by have := hne g e.symm; omega)]
  exact r3
/-- One field of one segment is written. -/
theorem SegOwn.setF {w : World} {base g o n cap : Nat} {l : List Sg} (h : SegOwn w base (.slice (some ⟨g, o, none⟩) n cap) l) (j : Nat) (z : Int) (hj : j < l.length) :
    SegOwn (w.setCell ⟨g, o + j * 2, none⟩ (.int .i64 z)) base (.slice (some ⟨g, o, none⟩) n cap) (l.set j ⟨z, sT l j⟩) := by
  obtain ⟨a, c, e, h1, h2, h3⟩ := h
  refine ⟨a, c, by rw [List.length_set]; exact e, by rw [List.length_set]; exact h1, by rw [List.length_set]; exact h2, fun _ => ?_⟩
  obtain ⟨g', o', cur, r1, r2, r3, r4⟩ := h3 (by omega)
  subst r1
  simp only [Value.slice.injEq, Option.some.injEq, Addr.mk.injEq] at e
  obtain ⟨⟨rfl, rfl, _⟩, _, _⟩ := e
  refine ⟨g, o, cur.setIfInBounds (o + j * 2) (.int .i64 z), rfl, r2, by rw [setCell_eq_setRow w g _ _ _ _ _ r3, setRow_heap w g _ _ _ _ r3], fun i hi => ?_⟩
  rw [List.length_set] at hi
  obtain ⟨q1, q2⟩ := r4 i hi
  have hz := (Array.getElem?_eq_some_iff.1 (r4 j hj).1).1
  rw [sF_set l j i _ hj, sT_set l j i _ hj, Array.getElem?_setIfInBounds, Array.getElem?_setIfInBounds]
  by_cases e : i = j
  · subst e
    rw [if_pos rfl, if_pos hz, if_pos rfl, if_neg (by omega), if_pos rfl]
    exact ⟨rfl, q2⟩
  · rw [if_neg (by omega), if_neg e, if_neg (by omega), if_neg e]
    exact ⟨q1, q2⟩
theorem SegOwn.setT {w : World} {base g o n cap : Nat} {l : List Sg} (h : SegOwn w base (.slice (some ⟨g, o, none⟩) n cap) l) (j : Nat) (t : ByteArray) (hj : j < l.length) :
    SegOwn (w.setCell ⟨g, o + j * 2 + 1, none⟩ (.string t)) base (.slice (some ⟨g, o, none⟩) n cap) (l.set j ⟨sF l j, t⟩) := by
  obtain ⟨a, c, e, h1, h2, h3⟩ := h
  refine ⟨a, c, by rw [List.length_set]; exact e, by rw [List.length_set]; exact h1, by rw [List.length_set]; exact h2, fun _ => ?_⟩
  obtain ⟨g', o', cur, r1, r2, r3, r4⟩ := h3 (by omega)
  subst r1
  simp only [Value.slice.injEq, Option.some.injEq, Addr.mk.injEq] at e
  obtain ⟨⟨rfl, rfl, _⟩, _, _⟩ := e
  refine ⟨g, o, cur.setIfInBounds (o + j * 2 + 1) (.string t), rfl, r2, by rw [setCell_eq_setRow w g _ _ _ _ _ r3, setRow_heap w g _ _ _ _ r3], fun i hi => ?_⟩
  rw [List.length_set] at hi
  obtain ⟨q1, q2⟩ := r4 i hi
  have hz := (Array.getElem?_eq_some_iff.1 (r4 j hj).2).1
  rw [sF_set l j i _ hj, sT_set l j i _ hj, Array.getElem?_setIfInBounds, Array.getElem?_setIfInBounds]
  by_cases e : i = j
  · subst e
    rw [if_neg (by omega), if_pos rfl, if_pos rfl, if_pos hz, if_pos rfl]
    exact ⟨q1, rfl⟩
  · rw [if_neg (by omega), if_neg e, if_neg (by omega), if_neg e]
    exact ⟨q1, q2⟩
/-- What may be read and written of it. -/
theorem SegOwn.cells {w : World} {base : Nat} {a : Option Addr} {n cap : Nat} {l : List Sg} (h : SegOwn w base (.slice a n cap) l) (h0 : 0 < l.length) :
    ∃ g o, a = some ⟨g, o, none⟩ ∧ n = l.length ∧ base ≤ g ∧ g < w.heap.size ∧ ∀ j, j < l.length → w.cell? ⟨g, o + j * 2, none⟩ = some (.int .i64 (sF l j)) ∧ w.cell? ⟨g, o + j * 2 + 1, none⟩ = some (.string (sT l j)) ∧ w.frozen? ⟨g, o + j * 2, none⟩ = false ∧ w.frozen? ⟨g, o + j * 2 + 1, none⟩ = false := by
  obtain ⟨a', c, e, h1, h2, h3⟩ := h
  obtain ⟨g, o, cur, rfl, r2, r3, r4⟩ := h3 h0
  simp only [Value.slice.injEq] at e
  obtain ⟨rfl, rfl, _⟩ := e
  refine ⟨g, o, rfl, rfl, r2, (Array.getElem?_eq_some_iff.1 r3).1, fun j hj => ?_⟩
  rw [cell_of_row w g _ cur _ (0, 0) r3, cell_of_row w g _ cur _ (0, 0) r3]
  exact ⟨(r4 j hj).1, (r4 j hj).2, frozen_of_row w g _ _ _ r3, frozen_of_row w g _ _ _ r3⟩
theorem grown_all {w w' : World} (hb : Below w.heap.size w w') (row : Option Nat) : w.grownBy w' row := ⟨hb.os, hb.tape, hb.output, hb.size, fun k hk _ => hb.block k hk⟩
theorem grownBy_set (w : World) (g o : Nat) (v : Value) : w.grownBy (w.setCell ⟨g, o, none⟩ v) (some g) :=
  ⟨rfl, rfl, rfl, by simp, fun k _ hne => heap_setCell_other w ⟨g, o, none⟩ k _ (fun e => hne (by simp [e]))⟩

theorem SegOwn.block {w : World} {base : Nat} {v : Value} {l : List Sg} (h : SegOwn w base v l) (h0 : 0 < l.length) (k : Nat) (hk : v.ownBlock = some k) : base ≤ k ∧ k < w.heap.size := by
  obtain ⟨a', c, rfl, h1, h2, h3⟩ := h
  obtain ⟨g, o, cur, rfl, r2, r3, r4⟩ := h3 h0
  simp only [Value.ownBlock, Option.some.injEq] at hk
  subst hk
  exact ⟨r2, (Array.getElem?_eq_some_iff.1 r3).1⟩

/-! ### a log is stored into a block -/
abbrev st3 (w : World) (g : Nat) (y0 y1 y2 : Value) : World := ((w.setCell ⟨g, 0, none⟩ y0).setCell ⟨g, 1, none⟩ y1).setCell ⟨g, 2, none⟩ y2
theorem grow_st3 (w : World) (g : Nat) (y0 y1 y2 : Value) : w.grownBy (st3 w g y0 y1 y2) (some g) := ((grownBy_set w g 0 y0).trans (grownBy_set _ g 1 y1)).trans (grownBy_set _ g 2 y2)
theorem Bx.st3 {w : World} {g : Nat} {t : TypeId} {x0 x1 x2 : Value} (h : Bx w g t #[x0, x1, x2]) (y0 y1 y2 : Value) : Bx (st3 w g y0 y1 y2) g t #[y0, y1, y2] := ((h.set 0 y0).set 1 y1).set 2 y2
theorem Bx.st3o {w : World} {g q : Nat} {t : TypeId} {cs : Array Value} (h : Bx w g t cs) (hne : g ≠ q) (y0 y1 y2 : Value) : Bx (Go.Proofs.YtmnglcidklckgaaDoor.st3 w q y0 y1 y2) g t cs := h.keep (grow_st3 w q y0 y1 y2) (by simpa using hne)
theorem SegOwn.st3 {w : World} {base q : Nat} {v : Value} {l : List Sg} (h : SegOwn w base v l) (hq : q < base) (y0 y1 y2 : Value) : SegOwn (Go.Proofs.YtmnglcidklckgaaDoor.st3 w q y0 y1 y2) base v l := h.kept (grow_st3 w q y0 y1 y2) (fun k hk => by cases hk; exact hq)
theorem SegOwn.setO {w : World} {base q o : Nat} {v : Value} {l : List Sg} (h : SegOwn w base v l) (hq : q < base) (y : Value) : SegOwn (w.setCell ⟨q, o, none⟩ y) base v l := h.kept (grownBy_set w q o y) (fun k hk => by cases hk; exact hq)
theorem SegOwn.keepB {w w' : World} {base : Nat} {v : Value} {l : List Sg} {row : Option Nat} (h : SegOwn w base v l) (hg : w.grownBy w' row) (hne : ∀ k, row = some k → v.ownBlock ≠ some k) : SegOwn w' base v l := by
  obtain ⟨a, cap, e, h1, h2, h3⟩ := h
  refine ⟨a, cap, e, h1, h2, fun h0 => ?_⟩
  obtain ⟨g, o, cur, r1, r2, r3, r4⟩ := h3 h0
  refine ⟨g, o, cur, r1, r2, ?_, r4⟩
  subst e; subst r1
  rw [hg.block g (Array.getElem?_eq_some_iff.1 r3).1 (fun e => hne g e.symm rfl)]
  exact r3
theorem Af.st3 {w0 w : World} {q : Nat} (h : Af w0 w) (hq : w0.heap.size ≤ q) (y0 y1 y2 : Value) : Af w0 (Go.Proofs.YtmnglcidklckgaaDoor.st3 w q y0 y1 y2) := h.grow (grow_st3 w q y0 y1 y2) (fun k hk => by cases hk; exact hq)

/-! ### the marks -/
/-- The first j segments are marks. -/
def mkG (l : List Sg) (j : Nat) : List Sg := (List.range l.length).map fun i => if i < j then ⟨2 * (i : Int) + 1, mkT (2 * i + 2)⟩ else ⟨sF l i, sT l i⟩
theorem mkG_length (l : List Sg) (j : Nat) : (mkG l j).length = l.length := by simp [mkG]
theorem mkG_get (l : List Sg) (j i : Nat) (h : i < l.length) : (mkG l j)[i]? = some (if i < j then ⟨2 * (i : Int) + 1, mkT (2 * i + 2)⟩ else ⟨sF l i, sT l i⟩) := by
  rw [mkG, List.getElem?_map, List.getElem?_range h]
  rfl
theorem mkG_zero (l : List Sg) : mkG l 0 = l := by
  apply List.ext_getElem?
  intro i
  by_cases h : i < l.length
  · rw [mkG_get l 0 i h, if_neg (by omega), sg_get l i h]
  · rw [List.getElem?_eq_none (by rw [mkG_length]; omega), List.getElem?_eq_none (by omega)]
theorem mkG_sF (l : List Sg) (j i : Nat) (h : i < l.length) : sF (mkG l j) i = if i < j then 2 * (i : Int) + 1 else sF l i := by
  rw [sF_of (mkG_get l j i h)]
  split <;> rfl
theorem mkG_sT (l : List Sg) (j i : Nat) (h : i < l.length) : sT (mkG l j) i = if i < j then mkT (2 * i + 2) else sT l i := by
  rw [sT_of (mkG_get l j i h)]
  split <;> rfl
theorem mkG_step (l : List Sg) (j : Nat) (h : j < l.length) (z : Int) (t : ByteArray) (hz : z = 2 * (j : Int) + 1) (ht : t = mkT (2 * j + 2)) : ((mkG l j).set j ⟨z, sT (mkG l j) j⟩).set j ⟨z, t⟩ = mkG l (j + 1) := by
  subst hz; subst ht
  rw [List.set_set]
  apply sg_ext
  · rw [List.length_set, mkG_length, mkG_length]
  · intro i hi
    rw [List.length_set, mkG_length] at hi
    rw [sF_set _ _ _ _ (by rw [mkG_length]; exact h), sT_set _ _ _ _ (by rw [mkG_length]; exact h), mkG_sF l _ i hi, mkG_sT l _ i hi, mkG_sF l _ i hi, mkG_sT l _ i hi]
    by_cases e : i = j
    · subst e; simp
    · by_cases e2 : i < j
      · simp [e, e2, show i < j + 1 by omega]
      · simp [e, e2, show ¬ i < j + 1 by omega]
theorem mkG_small (l : List Sg) (hl : l.length ≤ 1048577) (j : Nat) (hj : j < (mkG l l.length).length) : (sT (mkG l l.length) j).size ≤ 9223372036854775807 := by
  rw [mkG_length] at hj
  rw [mkG_sT l _ j hj, if_pos hj]
  have := mkT_size (2 * j + 2)
  omega

set_option maxRecDepth 100000 in
set_option maxHeartbeats 1000000 in
theorem mark_segs (v : Value) (l : List Sg) (base : Nat) (w : World) (hv : SegOwn w base v l) (hl : l.length ≤ 1048577) :
    Calls Tryd.prog 50 #[v, .int .i64 1] w fun e w' => e = .returned (.int .i64 (2 * (l.length : Int) + 1)) ∧ SegOwn w' base v (mkG l l.length) ∧ w.grownBy w' v.ownBlock := by
  obtain ⟨a, nv, cap, rfl⟩ := hv.form
  obtain ⟨n, hn⟩ : ∃ n, l.length = n := ⟨_, rfl⟩
  have hvn : nv = n := by
    obtain ⟨a', c', e, _⟩ := hv
    simp only [Value.slice.injEq] at e
    omega
  subst hvn
  have HN := Lib.hid hn
  rw [hn] at hl ⊢
  have HV0 := Lib.hid hv
  clear hn hv
  go_enter Tryd.func50, Tryd.ntmps50
  go_wp2
  go_loopw [1, 5] (fun kv i wr => ∃ j : Nat, j ≤ nv ∧ i = .int .i64 j ∧ kv = .int .i64 (2 * (j : Int) + 1) ∧ SegOwn wr base (.slice a nv cap) (mkG l j) ∧ w.grownBy wr (Value.ownBlock (.slice a nv cap))) (fun _ i _ => nv - (intOf i).toNat)
  case atStart => exact ⟨0, by omega, rfl, rfl, by rw [mkG_zero]; exact HV0.out, World.grownBy.refl _ _⟩
  case round =>
    obtain ⟨j, hj, rfl, rfl, hv, hb⟩ := hrel
    have HV := Lib.hid hv
    have HB := Lib.hid hb
    clear hb
    by_cases hlt : j < nv
    · obtain ⟨g, o, rfl, e2, hbg, hgw, hc⟩ := hv.cells (by rw [mkG_length, HN.out]; omega)
      obtain ⟨c1, c2, f1, f2⟩ := hc j (by rw [mkG_length, HN.out]; omega)
      have hm : ∀ W, Calls Tryd.prog 53 #[.int .i64 (2 * (j : Int) + 1 + 1)] W fun e w' => e = .returned (.string (mkT (2 * j + 2))) ∧ Below W.heap.size W w' := fun W => by
        have h := mark_text (2 * j + 2) W (by omega) (by omega)
        rwa [show ((2 * j + 2 : Nat) : Int) = 2 * (j : Int) + 1 + 1 by omega] at h
      have HM := Lib.hid hm
      have V1 := Lib.hid (hv.setF j (2 * (j : Int) + 1) (by rw [mkG_length, HN.out]; omega))
      clear hm hc e2 hv HV HV0
      go_wp2_with fail
      refine (HM.out _).mono ?_
      rintro e w2 ⟨rfl, hb2⟩
      have hv2 := V1.out.later hb2
      obtain ⟨g', o', e1, e3, _, hg2, hc2⟩ := hv2.cells (by rw [List.length_set, mkG_length, HN.out]; omega)
      simp only [Option.some.injEq, Addr.mk.injEq] at e1
      obtain ⟨rfl, rfl, _⟩ := e1
      obtain ⟨d1, d2, g1, g2⟩ := hc2 j (by rw [List.length_set, mkG_length, HN.out]; omega)
      have V2 := Lib.hid (hv2.setT j (mkT (2 * j + 2)) (by rw [List.length_set, mkG_length, HN.out]; omega))
      have B2 := Lib.hid ((HB.out.trans (grownBy_set wr g (o + j * 2) (.int .i64 (2 * (j : Int) + 1)))).trans ((grown_all hb2 (some g)).trans (grownBy_set w2 g (o + j * 2 + 1) (.string (mkT (2 * j + 2))))))
      clear hv2 hb2 hc2 V1 e3
      go_wp2
      go_roundw
      case rel =>
        refine ⟨j + 1, by omega, by go_num, by go_num, ?_, B2.out⟩
        have h := V2.out
        rw [sF_set _ _ _ _ (by rw [mkG_length, HN.out]; omega), if_pos rfl, mkG_step l j (by rw [HN.out]; omega) _ _ rfl rfl] at h
        exact h
      case measure => simp only [intOf]; omega
    · obtain rfl : j = nv := by omega
      go_wp2
      go_ret
      exact ⟨rfl, HV.out, HB.out⟩

set_option maxRecDepth 100000 in
set_option maxHeartbeats 1000000 in
theorem held_segs (v : Value) (l : List Sg) (w : World) (hv : Segs w v (mkG l l.length)) (hl : l.length ≤ 1048577) :
    Calls Tryd.prog 51 #[v, .int .i64 1] w fun e w' => e = .returned (.int .i64 (2 * (l.length : Int) + 1)) ∧ Below w.heap.size w w' := by
  obtain ⟨k1, k2, a, ca, rfl, hca, ha⟩ := hv
  rw [mkG_length] at k1 hca ha ⊢
  obtain ⟨n, hn⟩ : ∃ n, l.length = n := ⟨_, rfl⟩
  rw [hn] at k1 hl hca ha ⊢
  have HN := Lib.hid hn
  have HA := Lib.hid ha
  clear hn ha k2 hca
  go_enter Tryd.func51, Tryd.ntmps51
  go_wp2
  go_loopw [1, 5] (fun kv i wr => ∃ j : Nat, j ≤ n ∧ i = .int .i64 j ∧ kv = .int .i64 (2 * (j : Int) + 1) ∧ Below w.heap.size w wr) (fun _ i _ => n - (intOf i).toNat)
  case atStart => exact ⟨0, by omega, rfl, rfl, Below.refl _ _⟩
  case round =>
    obtain ⟨j, hj, rfl, rfl, hb⟩ := hrel
    have HB := Lib.hid hb
    clear hb
    by_cases hlt : j < n
    · obtain ⟨x, o, rfl, hx, hcx⟩ := HA.out (by omega)
      obtain ⟨cx0, cx1⟩ := hcx j hlt
      rw [mkG_sF l n j (by rw [HN.out]; exact hlt), if_pos hlt] at cx0
      rw [mkG_sT l n j (by rw [HN.out]; exact hlt), if_pos hlt] at cx1
      have c0 : wr.cell? ⟨x, o + j * 2, none⟩ = some (.int .i64 (2 * (j : Int) + 1)) := by rw [HB.out.cell (p := ⟨x, o + j * 2, none⟩) hx]; exact cx0
      have cx : wr.cell? ⟨x, o + j * 2 + 1, none⟩ = some (.string (mkT (2 * j + 2))) := by rw [HB.out.cell (p := ⟨x, o + j * 2 + 1, none⟩) hx]; exact cx1
      have CX := Lib.hid cx
      clear hcx cx0 cx1
      have hxr : x < wr.heap.size := Nat.lt_of_lt_of_le hx HB.out.size
      have hm : ∀ W, Calls Tryd.prog 53 #[.int .i64 (2 * (j : Int) + 1 + 1)] W fun e w' => e = .returned (.string (mkT (2 * j + 2))) ∧ Below W.heap.size W w' := fun W => by
        have h := mark_text (2 * j + 2) W (by omega) (by omega)
        rwa [show ((2 * j + 2 : Nat) : Int) = 2 * (j : Int) + 1 + 1 by omega] at h
      have HM := Lib.hid hm
      clear hm
      have y1 : (j : Int) < (n : Int) := by omega
      have y0 : (0 : Int) ≤ (j : Int) := by omega
      go_wp2_with fail
      go_region_held3 (fun w' => w'.cell? ⟨x, o + j * 2 + 1, none⟩ = some (.string (mkT (2 * j + 2)))) (first | (with_reducible exact cx) | (with_reducible exact CY.out) | go_keep)
        (first | (go_at_call 53; refine (HM.out _).mono ?_; rintro e w2 ⟨rfl, hb⟩; have CY := Lib.hid (show w2.cell? ⟨x, o + j * 2 + 1, none⟩ = some (.string (mkT (2 * j + 2))) by rw [hb.cell (p := ⟨x, o + j * 2 + 1, none⟩) hxr]; exact CX.out); have HB2 := Lib.hid (HB.out.trans (Below.mono (show Below wr.heap.size wr w2 from (Below.refl _ _).drew.trans hb) HB.out.size)); clear hb))
      clear cx
      go_wp2
      go_roundw
      case rel => exact ⟨j + 1, by omega, by go_num, by go_num, HB2.out⟩
      case measure => simp only [intOf]; omega
    · obtain rfl : j = n := by omega
      go_wp2
      go_ret
      exact ⟨rfl, HB.out⟩

/-! ### the same of a log -/
set_option maxHeartbeats 400000 in
theorem mark_log (v : Value) (l : List Sg) (n m : Int) (base : Nat) (w : World) (hv : SegOwn w base v l) (hl : l.length ≤ 1048577) :
    Calls Tryd.prog 26 #[.agg #[v, .int .i64 n, .int .i64 m], .int .i64 1] w fun e w' => e = .returned (.int .i64 (2 * (l.length : Int) + 1)) ∧ SegOwn w' base v (mkG l l.length) ∧ w.grownBy w' v.ownBlock := by
  have H := Lib.hid (mark_segs v l base _ (hv.alloc (.cells #[v, .int .i64 n, .int .i64 m] 26)) hl)
  obtain ⟨a, k, c, rfl⟩ := hv.form
  clear hv
  go_enter Tryd.func26, Tryd.ntmps26
  go_wp2_with fail
  refine H.out.mono ?_
  rintro e w2 ⟨rfl, h2, hb⟩
  have H2 := Lib.hid h2
  have HB := Lib.hid hb
  clear hb h2
  go_wp2
  go_ret
  exact ⟨rfl, H2.out, (World.grownBy_alloc _ _ _).trans HB.out⟩
set_option maxHeartbeats 400000 in
theorem held_log (v : Value) (l : List Sg) (n m : Int) (w : World) (hv : Segs w v (mkG l l.length)) (hl : l.length ≤ 1048577) :
    Calls Tryd.prog 27 #[.agg #[v, .int .i64 n, .int .i64 m], .int .i64 1] w fun e w' => e = .returned (.int .i64 (2 * (l.length : Int) + 1)) ∧ Below w.heap.size w w' := by
  have H := Lib.hid (held_segs v l _ (hv.alloc (.cells #[v, .int .i64 n, .int .i64 m] 26)) hl)
  obtain ⟨a, k, c, rfl⟩ := hv.form
  clear hv
  go_enter Tryd.func27, Tryd.ntmps27
  go_wp2_with fail
  refine H.out.mono ?_
  rintro e w2 ⟨rfl, hb⟩
  have HB := Lib.hid hb
  clear hb
  have hlt : decide (2 * (l.length : Int) + 1 < 0) = false := by simp; omega
  go_wp2
  go_ret
  exact ⟨rfl, ((Below.refl _ _).alloc (Nat.le_refl _) _).trans (HB.out.mono (by simp))⟩
end Go.Proofs.YtmnglcidklckgaaDoor
/- The law's measure of a log, and its copy of one. -/
namespace Go.Proofs.YtmnglcidklckgaaDoor
open Go.RowKit Go.PlainAid
set_option linter.unusedVariables false

theorem asAddr_pt (P : Program) (w : World) (a : Addr) : (asAddr (.pointer (some a))).run P w = .ok a w := rfl
theorem load_log (w : World) (g : Nat) (x0 x1 x2 : Value) (h : w.cell? ⟨g, 0, none⟩ = some x0 ∧ w.cell? ⟨g, 1, none⟩ = some x1 ∧ w.cell? ⟨g, 2, none⟩ = some x2) : (loadVar 26 ⟨g, 0, none⟩).run Tryd.prog w = .ok (.agg #[x0, x1, x2]) w := by
  obtain ⟨h0, h1, h2⟩ := h
  go_simp
theorem results_log {fn : Func} {p : Tmp} (h : fn.results = #[.cell p 26]) (tmps : Array Value) (w : World) (g : Nat) (x0 x1 x2 : Value)
    (hp : tmps.getD p undef = .pointer (some ⟨g, 0, none⟩)) (hc : w.cell? ⟨g, 0, none⟩ = some x0 ∧ w.cell? ⟨g, 1, none⟩ = some x1 ∧ w.cell? ⟨g, 2, none⟩ = some x2) : (results fn tmps).run Tryd.prog w = .ok (.agg #[x0, x1, x2]) w := by
  have e : (results fn tmps).run Tryd.prog w = ((asAddr (tmps.getD p undef)).run Tryd.prog w).andThen fun a w₁ => (loadVar 26 a).run Tryd.prog w₁ := by
    simp only [results, h]
    simp [Sem.run_bind, Result.andThen]
  rw [e, hp, asAddr_pt]
  simp only [Result.andThen]
  exact load_log w g x0 x1 x2 hc
theorem results_log2 {fn : Func} {p q : Tmp} (h : fn.results = #[.cell p 26, .tmp q]) (tmps : Array Value) (w : World) (g : Nat) (x0 x1 x2 : Value)
    (hp : tmps.getD p undef = .pointer (some ⟨g, 0, none⟩)) (hc : w.cell? ⟨g, 0, none⟩ = some x0 ∧ w.cell? ⟨g, 1, none⟩ = some x1 ∧ w.cell? ⟨g, 2, none⟩ = some x2) : (results fn tmps).run Tryd.prog w = .ok (.tuple #[.agg #[x0, x1, x2], tmps.getD q undef]) w := by
  have hl := load_log w g x0 x1 x2 hc
  have e : (results fn tmps).run Tryd.prog w = ((asAddr (tmps.getD p undef)).run Tryd.prog w).andThen fun a w₁ => ((loadVar 26 a).run Tryd.prog w₁).andThen fun x w₂ => .ok (.tuple #[x, tmps.getD q undef]) w₂ := by
    simp only [results, h]
    simp [Sem.run_bind, Result.andThen]
  rw [e, hp, asAddr_pt]
  simp only [Result.andThen, hl]

set_option maxHeartbeats 400000 in
theorem sz_seg_yes (f r : Int) (t : ByteArray) (w : World) (h : (t.size : Int) ≤ r) (hr : r ≤ 1048576) :
    Calls Tryd.prog 69 #[.agg #[.int .i64 f, .string t], .int .i64 r] w fun e w' => e = .returned (.int .i64 (r - t.size)) ∧ Below w.heap.size w w' := by
  have h0 : (0 : Int) ≤ t.size := by omega
  have hd : decide (r - (t.size : Int) < 0) = false := by simp; omega
  go_enter Tryd.func69, Tryd.ntmps69
  go_wp2
  go_ret
  exact ⟨rfl, (Below.refl _ _).alloc (Nat.le_refl _) _⟩
set_option maxHeartbeats 400000 in
theorem sz_seg_no (f r : Int) (t : ByteArray) (w : World) (h : r < (t.size : Int)) (h0 : 0 ≤ r) (hr : r ≤ 1048576) (ht : t.size ≤ 9223372036854775807) :
    Calls Tryd.prog 69 #[.agg #[.int .i64 f, .string t], .int .i64 r] w fun e w' => e = .returned (.int .i64 (-1)) ∧ Below w.heap.size w w' := by
  have hti : (t.size : Int) ≤ 9223372036854775807 := by omega
  have hd : decide (r - (t.size : Int) < 0) = true := by simp; omega
  go_enter Tryd.func69, Tryd.ntmps69
  go_wp2
  go_ret
  exact ⟨rfl, (Below.refl _ _).alloc (Nat.le_refl _) _⟩
/-- What is left when segments are measured. -/
def SzSegs (l : List Sg) (e : Ending) : Prop := e = .returned (.int .i64 (-1)) ∨ ∃ r : Int, e = .returned (.int .i64 r) ∧ 0 ≤ r ∧ l.length ≤ 1048576 ∧ ∀ j, j < l.length → (sT l j).size ≤ 1048576
set_option maxRecDepth 100000 in
set_option maxHeartbeats 1000000 in
theorem sz_segs (v : Value) (l : List Sg) (w : World) (hv : Segs w v l) :
    Calls Tryd.prog 45 #[v, .int .i64 1048576] w fun e w' => SzSegs l e ∧ Below w.heap.size w w' := by
  obtain ⟨k1, k2, a, ca, rfl, hca, ha⟩ := hv
  obtain ⟨n, hn⟩ : ∃ n, l.length = n := ⟨_, rfl⟩
  rw [hn] at k1 k2 hca ha ⊢
  have HN := Lib.hid hn
  have HA := Lib.hid ha
  have HK := Lib.hid k2
  clear hn ha k2 hca
  by_cases hbig : 1048576 < n
  · have hni : (1048576 : Int) < (n : Int) := by omega
    have hd : decide ((1048576 : Int) - (n : Int) < 0) = true := by simp; omega
    go_enter Tryd.func45, Tryd.ntmps45
    go_wp2
    go_ret
    exact ⟨.inl rfl, Below.refl _ _⟩
  · have hni : (n : Int) ≤ 1048576 := by omega
    have hd : decide ((1048576 : Int) - (n : Int) < 0) = false := by simp; omega
    go_enter Tryd.func45, Tryd.ntmps45
    go_wp2
    go_loopw [1, 5] (fun r i wr => ∃ (k : Nat) (x : Int), k ≤ n ∧ i = .int .i64 k ∧ r = .int .i64 x ∧ 0 ≤ x ∧ x ≤ 1048576 ∧ (∀ j, j < k → (sT l j).size ≤ 1048576) ∧ Below w.heap.size w wr) (fun _ i _ => n - (intOf i).toNat)
    case atStart => exact ⟨0, _, by omega, rfl, rfl, by omega, by omega, fun j hj => by omega, Below.refl _ _⟩
    case round =>
      obtain ⟨k, x, hk, rfl, rfl, hx0, hx1, he, hb⟩ := hrel
      have HE := Lib.hid he
      have HB := Lib.hid hb
      clear he hb hd
      by_cases hlt : k < n
      · obtain ⟨y, o, rfl, hy, hcy⟩ := HA.out (by omega)
        have c1 : wr.cell? ⟨y, o + k * 2, none⟩ = some (.int .i64 (sF l k)) := by rw [HB.out.cell (p := ⟨y, o + k * 2, none⟩) hy]; exact (hcy k hlt).1
        have c2 : wr.cell? ⟨y, o + k * 2 + 1, none⟩ = some (.string (sT l k)) := by rw [HB.out.cell (p := ⟨y, o + k * 2 + 1, none⟩) hy]; exact (hcy k hlt).2
        have hsz := HK.out k hlt
        clear hcy
        by_cases hfit : ((sT l k).size : Int) ≤ x
        · go_wp2_with fail
          refine (sz_seg_yes _ _ _ _ hfit hx1).mono ?_
          rintro e w2 ⟨rfl, hb2⟩
          have HB2 := Lib.hid (HB.out.trans (hb2.mono HB.out.size))
          have hd2 : decide (x - ((sT l k).size : Int) < 0) = false := by simp; omega
          have hq0 : 0 ≤ x - ((sT l k).size : Int) := by omega
          have hq1 : x - ((sT l k).size : Int) ≤ 1048576 := by omega
          have hq2 : (sT l k).size ≤ 1048576 := by omega
          clear hb2
          go_wp2
          go_roundw
          case rel =>
            refine ⟨k + 1, _, by omega, by go_num, rfl, hq0, hq1, fun j hj => ?_, HB2.out⟩
            by_cases e : j = k
            · subst e; exact hq2
            · exact HE.out j (by omega)
          case measure => simp only [intOf]; omega
        · go_wp2_with fail
          refine (sz_seg_no _ _ _ _ (by omega) hx0 hx1 hsz).mono ?_
          rintro e w2 ⟨rfl, hb2⟩
          have HB2 := Lib.hid (HB.out.trans (hb2.mono HB.out.size))
          clear hb2
          go_wp2
          go_ret
          exact ⟨.inl rfl, HB2.out⟩
      · obtain rfl : k = n := by omega
        go_wp2
        go_ret
        exact ⟨.inr ⟨x, rfl, hx0, by rw [HN.out]; omega, fun j hj => HE.out j (by rw [HN.out] at hj; exact hj)⟩, HB.out⟩
set_option maxHeartbeats 400000 in
theorem sz_log (v : Value) (l : List Sg) (n m : Int) (w : World) (hv : Segs w v l) :
    Calls Tryd.prog 21 #[.agg #[v, .int .i64 n, .int .i64 m], .int .i64 1048576] w fun e w' => SzSegs l e ∧ Below w.heap.size w w' := by
  have H := Lib.hid (sz_segs v l _ (hv.alloc (.cells #[v, .int .i64 n, .int .i64 m] 41)))
  obtain ⟨a, k, c, rfl⟩ := hv.form
  clear hv
  go_enter Tryd.func21, Tryd.ntmps21
  go_wp2_with fail
  refine H.out.mono ?_
  rintro e w2 ⟨(rfl | ⟨r, rfl, r0, r1, r2⟩), hb⟩
  · have HB := Lib.hid hb
    clear hb
    go_wp2
    go_ret
    exact ⟨.inl rfl, ((Below.refl _ _).alloc (Nat.le_refl _) _).trans (HB.out.mono (by simp))⟩
  · have HB := Lib.hid hb
    have R := Lib.hid r2
    have hd : decide (r < 0) = false := by simp; omega
    clear hb r2
    go_wp2
    go_ret
    exact ⟨.inr ⟨r, rfl, r0, r1, R.out⟩, ((Below.refl _ _).alloc (Nat.le_refl _) _).trans (HB.out.mono (by simp))⟩

/-! ### the copy -/
set_option maxHeartbeats 400000 in
theorem to_seg (f : Int) (t : ByteArray) (w : World) :
    Calls Tryd.prog 70 #[.agg #[.int .i64 f, .string t]] w fun e w' => e = .returned (.agg #[.int .i64 f, .string t]) ∧ Below w.heap.size w w' := by
  go_enter Tryd.func70, Tryd.ntmps70
  go_wp2
  exact bodyPost_ret (v := .agg #[.int .i64 f, .string t]) (by simp [results, Tryd.results70, go_sem]) rfl ⟨rfl, (((Below.refl _ _).alloc (Nat.le_refl _) _).alloc (by simp) _).alloc (by simp; omega) _⟩
/-- The first j segments are there, behind them empty ones. -/
def toG (l : List Sg) (j : Nat) : List Sg := (List.range l.length).map fun i => if i < j then ⟨sF l i, sT l i⟩ else ⟨0, ByteArray.empty⟩
theorem toG_length (l : List Sg) (j : Nat) : (toG l j).length = l.length := by simp [toG]
theorem toG_get (l : List Sg) (j i : Nat) (h : i < l.length) : (toG l j)[i]? = some (if i < j then ⟨sF l i, sT l i⟩ else ⟨0, ByteArray.empty⟩) := by
  rw [toG, List.getElem?_map, List.getElem?_range h]
  rfl
theorem toG_sF (l : List Sg) (j i : Nat) (h : i < l.length) : sF (toG l j) i = if i < j then sF l i else 0 := by
  rw [sF_of (toG_get l j i h)]
  split <;> rfl
theorem toG_sT (l : List Sg) (j i : Nat) (h : i < l.length) : sT (toG l j) i = if i < j then sT l i else ByteArray.empty := by
  rw [sT_of (toG_get l j i h)]
  split <;> rfl
theorem toG_all (l : List Sg) : toG l l.length = l :=
  sg_ext _ _ (toG_length l _) fun j hj => by rw [toG_length] at hj; rw [toG_sF l _ j hj, toG_sT l _ j hj, if_pos hj, if_pos hj]; exact ⟨rfl, rfl⟩
theorem toG_step (l : List Sg) (j : Nat) (h : j < l.length) : ((toG l j).set j ⟨sF l j, sT (toG l j) j⟩).set j ⟨sF l j, sT l j⟩ = toG l (j + 1) := by
  rw [List.set_set]
  apply sg_ext
  · rw [List.length_set, toG_length, toG_length]
  · intro i hi
    rw [List.length_set, toG_length] at hi
    rw [sF_set _ _ _ _ (by rw [toG_length]; exact h), sT_set _ _ _ _ (by rw [toG_length]; exact h), toG_sF l _ i hi, toG_sT l _ i hi, toG_sF l _ i hi, toG_sT l _ i hi]
    by_cases e : i = j
    · subst e; simp
    · by_cases e2 : i < j
      · simp [e, e2, show i < j + 1 by omega]
      · simp [e, e2, show ¬ i < j + 1 by omega]
theorem Tryd.infoSeg : (Tryd.prog.info? 51).map (fun i => (i.zero, i.size, i.bytes)) = some (some (.agg #[.int .i64 0, .string ⟨#[]⟩]), 2, 24) := by kernel_rfl
/-- make([]Seg, n). -/
theorem make_segs (w : World) (l : List Sg) (n : Nat) (hn : l.length = n) (hb : n ≤ 1048576) :
    ∃ w1, (Instr.makeSlice 24 (.int .i64 (n : Int)) (.int .i64 (n : Int))).run Tryd.prog w = .ok (.slice (some ⟨w.heap.size, 0, none⟩) n n) w1 ∧ SegOwn w1 w.heap.size (.slice (some ⟨w.heap.size, 0, none⟩) n n) (toG l 0) ∧ Below w.heap.size w w1 ∧ w.heap.size < w1.heap.size := by
  obtain ⟨i, hi, hz, hs, hby⟩ := info_parts Tryd.infoSeg
  have h := run_make (P := Tryd.prog) w 24 51 i _ Tryd.underlying24 hi hz .i64 .i64 n n (by omega) (Int.le_refl _) (by rw [hby]; omega) (by omega)
  simp only [Int.toNat_natCast, hs] at h
  refine ⟨_, h, ⟨_, n, by rw [toG_length, hn], by rw [toG_length, hn]; exact Nat.le_refl _, by rw [toG_length, hn]; omega, fun h0 => ⟨w.heap.size, 0, _, rfl, Nat.le_refl _, heap_alloc_new w _, fun j hj => ?_⟩⟩, (Below.refl _ _).alloc (Nat.le_refl _) _, by simp⟩
  rw [toG_length] at hj
  rw [toG_sF l 0 j hj, toG_sT l 0 j hj, if_neg (by omega), if_neg (by omega), Nat.zero_add]
  have hc : (Value.agg #[.int .i64 0, .string ⟨#[]⟩]).cells = #[.int .i64 0, .string ⟨#[]⟩] := rfl
  rw [hc]
  constructor
  · simp [madeCells, show j * 2 < n * 2 by omega, show j * 2 % 2 = 0 by omega]
  · simp [madeCells, show j * 2 + 1 < n * 2 by omega, show (j * 2 + 1) % 2 = 1 by omega]
    rfl

set_option maxRecDepth 100000 in
set_option maxHeartbeats 1000000 in
theorem to_segs (v : Value) (l : List Sg) (w : World) (hv : Segs w v l) (hl : l.length ≤ 1048576) :
    Calls Tryd.prog 46 #[v] w fun e w' => ∃ u, e = .returned u ∧ SegOwn w' w.heap.size u l ∧ Below w.heap.size w w' ∧ ∀ k, u.ownBlock = some k → w.heap.size ≤ k ∧ k < w'.heap.size := by
  obtain ⟨k1, k2, a, ca, rfl, hca, ha⟩ := hv
  obtain ⟨n, hn⟩ : ∃ n, l.length = n := ⟨_, rfl⟩
  obtain ⟨w1, hmk, hown, hb1, hlt1⟩ := make_segs w l n hn (by omega)
  rw [hn] at k1 k2 hca ha hl ⊢
  have HN := Lib.hid hn
  have HA := Lib.hid ha
  have HO := Lib.hid hown
  have HB := Lib.hid hb1
  obtain ⟨g, hg⟩ : ∃ g, g = w.heap.size := ⟨_, rfl⟩
  rw [← hg] at hmk HO HB hlt1 ⊢
  have HLT := Lib.hid hlt1
  have HG := Lib.hid hg
  clear hn ha k2 hca hown hb1 hg hlt1
  go_enter Tryd.func46, Tryd.ntmps46
  go_wp2
  clear hmk
  go_loopw [4] (fun i wr => ∃ k : Nat, k ≤ n ∧ i = .int .i64 k ∧ SegOwn wr g (.slice (some ⟨g, 0, none⟩) n n) (toG l k) ∧ Below g w wr ∧ g < wr.heap.size) (fun i _ => n - (intOf i).toNat)
  case atStart => exact ⟨0, by omega, rfl, HO.out, HB.out, HLT.out⟩
  case round =>
    clear HO HB HLT
    obtain ⟨k, hk, rfl, ho, hb, hlt1⟩ := hrel
    have HLT := Lib.hid hlt1
    clear hlt1
    have HO := Lib.hid ho
    have HB := Lib.hid hb
    clear hb
    by_cases hlt : k < n
    · obtain ⟨y, o, rfl, hy, hcy⟩ := HA.out (by omega)
      have hyg : y < g := by rw [HG.out]; exact hy
      have c1 : wr.cell? ⟨y, o + k * 2, none⟩ = some (.int .i64 (sF l k)) := by rw [HB.out.cell (p := ⟨y, o + k * 2, none⟩) hyg]; exact (hcy k hlt).1
      have c2 : wr.cell? ⟨y, o + k * 2 + 1, none⟩ = some (.string (sT l k)) := by rw [HB.out.cell (p := ⟨y, o + k * 2 + 1, none⟩) hyg]; exact (hcy k hlt).2
      clear hcy ho
      go_wp2_with fail
      refine (to_seg _ _ _).mono ?_
      rintro e w2 ⟨rfl, hb2⟩
      have ho2 := HO.out.later hb2
      have HB2 := Lib.hid (HB.out.trans (hb2.mono (by rw [HG.out]; rw [HG.out] at HB; exact HB.out.size)))
      obtain ⟨g', o', e1, e3, _, hg2, hc2⟩ := ho2.cells (by rw [toG_length, HN.out]; omega)
      simp only [Option.some.injEq, Addr.mk.injEq] at e1
      obtain ⟨rfl, rfl, _⟩ := e1
      obtain ⟨d1, d2, f1, f2⟩ := hc2 k (by rw [toG_length, HN.out]; omega)
      rw [Nat.zero_add] at d1 d2 f1 f2
      have HO2 := Lib.hid ho2
      clear ho2 hb2 hc2 e3 HO HB c1 c2
      go_wp2
      go_roundw
      case rel =>
        refine ⟨k + 1, by omega, by go_num, ?_, (HB2.out.setCell (p := ⟨g, k * 2, none⟩) (Nat.le_refl _) _).setCell (p := ⟨g, k * 2 + 1, none⟩) (Nat.le_refl _) _, by simpa using hg2⟩
        have h := (HO2.out.setF k (sF l k) (by rw [toG_length, HN.out]; omega)).setT k (sT l k) (by rw [List.length_set, toG_length, HN.out]; omega)
        rw [sF_set _ _ _ _ (by rw [toG_length, HN.out]; omega), if_pos rfl, toG_step l k (by rw [HN.out]; omega)] at h
        simp only [Nat.zero_add] at h
        exact h
      case measure => simp only [intOf]; omega
    · obtain rfl : k = n := by omega
      go_wp2
      go_ret
      exact ⟨_, rfl, by have h := HO.out; rw [← HN.out, toG_all] at h; rw [← HN.out]; exact h, HB.out, fun k hk => by cases hk; exact ⟨Nat.le_refl _, HLT.out⟩⟩
set_option maxHeartbeats 400000 in
theorem to_log (v : Value) (l : List Sg) (n m : Int) (w : World) (hv : Segs w v l) (hl : l.length ≤ 1048576) :
    Calls Tryd.prog 22 #[.agg #[v, .int .i64 n, .int .i64 m]] w fun e w' => ∃ a k c, e = .returned (.agg #[.slice a k c, .int .i64 n, .int .i64 m]) ∧ SegOwn w' w.heap.size (.slice a k c) l ∧ Below w.heap.size w w' ∧ ∀ b, Value.ownBlock (.slice a k c) = some b → w.heap.size ≤ b ∧ b < w'.heap.size := by
  have H := Lib.hid (to_segs v l _ (((hv.alloc (.cells #[v, .int .i64 n, .int .i64 m] 41)).alloc (.cells #[.slice none 0 0, .int .i64 0, .int .i64 0] 26)).alloc (.cells #[.slice none 0 0, .int .i64 0, .int .i64 0] 26)) hl)
  obtain ⟨a, k, c, rfl⟩ := hv.form
  clear hv
  go_enter Tryd.func22, Tryd.ntmps22
  go_wp2_with fail
  refine H.out.mono ?_
  rintro e w2 ⟨u, rfl, h2, hb, hob⟩
  have OB := Lib.hid hob
  clear hob
  obtain ⟨hc, hf⟩ := bcell hb
  obtain ⟨a', k', c', rfl⟩ := h2.form
  have H2 := Lib.hid h2
  have HB := Lib.hid hb
  have hz : w.heap.size + 1 + 1 < w2.heap.size := by have := hb.size; simp at this; omega
  have X1 := Lib.hid ((((Bx.new (w.alloc (.cells #[.slice a k c, .int .i64 n, .int .i64 m] 41)) 26 #[.slice none 0 0, .int .i64 0, .int .i64 0] (w.heap.size + 1) (by simp)).alloc (.cells #[.slice none 0 0, .int .i64 0, .int .i64 0] 26))).after hb)
  have hA : Af w w2 := (((Af.refl w).alloc (.cells #[.slice a k c, .int .i64 n, .int .i64 m] 41)).alloc (.cells #[.slice none 0 0, .int .i64 0, .int .i64 0] 26)).alloc (.cells #[.slice none 0 0, .int .i64 0, .int .i64 0] 26) |>.after hb
  have HA := Lib.hid hA
  clear hb h2 hA
  go_wp2
  exact bodyPost_ret (results_log Tryd.results22 _ _ (w.heap.size + 1) _ _ _ rfl (((X1.out.st3o (by omega) _ _ _).st3 _ _ _)).cells3) rfl ⟨_, _, _, rfl, (((H2.out.st3 (by simp) _ _ _).st3 (by simp <;> omega) _ _ _)).mono (by simp <;> omega), (HA.out.st3 (by omega) _ _ _).st3 (by omega) _ _ _, fun b hb => by have h := OB.out b hb; simp at h ⊢; omega⟩
end Go.Proofs.YtmnglcidklckgaaDoor
