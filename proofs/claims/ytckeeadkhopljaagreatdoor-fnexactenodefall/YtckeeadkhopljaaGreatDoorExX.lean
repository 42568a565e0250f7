/- A bundle of texts: ExS, ExM, ExO. -/
import Derived.Test.YtckeeadkhopljaaGreatDoorMkB
import Derived.Test.YtckeeadkhopljaaGreatDoorInMx
/- The laws' marks on strings, from any number on: exact. -/
namespace Go.Proofs.YtckeeadkhopljaaGreatDoor
open Go.RowKit Go.PlainAid
set_option linter.unusedVariables false

/-- The first j strings are marks from s on. -/
def mkLs (s : Nat) (l : List ByteArray) (j : Nat) : List ByteArray := (List.range l.length).map fun i => if i < j then mkT (s + i) else el l i
theorem mkLs_length (s : Nat) (l : List ByteArray) (j : Nat) : (mkLs s l j).length = l.length := by simp [mkLs]
theorem mkLs_el (s : Nat) (l : List ByteArray) (j i : Nat) (h : i < l.length) : el (mkLs s l j) i = if i < j then mkT (s + i) else el l i := by
  rw [el_eq, List.getD, mkLs, List.getElem?_map, List.getElem?_range h]
  rfl
theorem mkLs_zero (s : Nat) (l : List ByteArray) : mkLs s l 0 = l := el_ext _ _ (mkLs_length s l 0) (fun j hj => by rw [mkLs_length] at hj; rw [mkLs_el s l 0 j hj]; simp)
theorem mkLs_set (s : Nat) (l : List ByteArray) (j : Nat) (h : j < l.length) : (strV (mkLs s l j)).set j (.string (mkT (s + j))) = strV (mkLs s l (j + 1)) := by
  apply List.ext_getElem?
  intro i
  by_cases hi : i < l.length
  · rw [strV_get (mkLs s l (j + 1)) i (by rw [mkLs_length]; exact hi), mkLs_el s l (j + 1) i hi, List.getElem?_set]
    by_cases e : j = i
    · subst e
      rw [if_pos rfl, if_pos (by unfold strV; rw [List.length_map, mkLs_length]; exact hi), if_pos (by omega)]
    · rw [if_neg e, strV_get (mkLs s l j) i (by rw [mkLs_length]; exact hi), mkLs_el s l j i hi]
      by_cases h2 : i < j
      · rw [if_pos h2, if_pos (by omega)]
      · rw [if_neg h2, if_neg (by omega)]
  · rw [List.getElem?_eq_none (by simp [strV, mkLs_length]; omega), List.getElem?_eq_none (by simp [strV, mkLs_length]; omega)]
theorem mkLs_small (s : Nat) (l : List ByteArray) (hs : s + l.length ≤ 35184372088832) : ∀ j, j < (mkLs s l l.length).length → (el (mkLs s l l.length) j).size ≤ 9223372036854775807 := by
  intro j hj
  rw [mkLs_length] at hj
  rw [mkLs_el s l _ j hj, if_pos hj]
  have := mkT_size (s + j)
  omega
set_option maxRecDepth 100000 in
set_option maxHeartbeats 1000000 in
theorem mark_strsX (v : Value) (l : List ByteArray) (base s : Nat) (w : World) (hv : GrowsS w base v l) (hl : l.length ≤ 1048576) (hs1 : 1 ≤ s) (hs2 : s ≤ 17592186044416) :
    Calls Tryz.prog 47 #[v, .int .i64 (s : Int)] w fun e w' => e = .returned (.int .i64 ((s : Int) + (l.length : Int))) ∧ GrowsS w' base v (mkLs s l l.length) ∧ w.grownBy w' v.ownBlock := by
  rcases hv.2 with ⟨rfl, h0⟩ | ⟨g, cap, cur, rfl, _⟩
  · have : l = [] := List.eq_nil_of_length_eq_zero h0
    subst this
    have HV := Lib.hid hv
    clear hv
    go_enter Tryz.func47, Tryz.ntmps47
    go_wp2
    go_loop [1, 5] (fun kv i => kv = .int .i64 (s : Int) ∧ i = .int .i64 0) (fun _ _ => 0)
    case atStart => exact ⟨rfl, rfl⟩
    case round =>
      obtain ⟨rfl, rfl⟩ := hrel
      go_wp2
      go_ret
      exact ⟨by simp, HV.out, World.grownBy.refl _ _⟩
  · have hg0 := (World.ownsRow.lt hv g rfl).2
    have HV0 := Lib.hid hv
    clear hv
    obtain ⟨n, hn⟩ : ∃ n, l.length = n := ⟨_, rfl⟩
    rw [hn] at hl HV0 ⊢
    have HN := Lib.hid hn
    clear hn
    go_enter Tryz.func47, Tryz.ntmps47
    go_wp2
    go_loopw [1, 5] (fun kv i wr => ∃ j : Nat, j ≤ n ∧ i = .int .i64 j ∧ kv = .int .i64 ((s : Int) + (j : Int)) ∧ GrowsS wr base (.slice (some ⟨g, 0, none⟩) n cap) (mkLs s l j) ∧ w.grownBy wr (some g)) (fun _ i _ => n - (intOf i).toNat)
    case atStart => exact ⟨0, by omega, rfl, by simp, by rw [mkLs_zero]; exact HV0.out, World.grownBy.refl _ _⟩
    case round =>
      clear HV0
      obtain ⟨j, hj, rfl, rfl, hv, hg⟩ := hrel
      have HV := Lib.hid hv
      have HG := Lib.hid hg
      clear hv hg
      by_cases hlt : j < n
      · have HM := Lib.hid (fun W => (by have := mark_textW (s + j) W (by omega) (by omega); rw [show ((s + j : Nat) : Int) = (s : Int) + (j : Int) by omega] at this; exact this))
        go_wp2_with fail
        refine (HM.out _).mono ?_
        rintro e w2 ⟨rfl, hb⟩
        have HV2 := Lib.hid (HV.out.later hb)
        have HG2 := Lib.hid (HG.out.trans (grown_of hb _))
        clear HV hb HG
        have hrow : w2.ownsRow base 9 1 (.slice (some ⟨g, 0, none⟩) n cap) n (strV (mkLs s l j)) := by
          have h := HV2.out
          unfold GrowsS at h
          rwa [mkLs_length, HN.out] at h
        have HRW := Lib.hid hrow
        have fz := World.ownsRow.frozenAt hrow j
        have cz : w2.cell? ⟨g, j, none⟩ = some (.string (el (mkLs s l j) j)) := by rw [World.ownsRow.cellAt hrow j (by omega), strV_get _ j (by rw [mkLs_length, HN.out]; exact hlt)]
        clear hrow
        go_wp2
        go_roundw
        case rel =>
          refine ⟨j + 1, by omega, by go_num, by go_num, ?_, ?_⟩
          · have h := World.ownsRow.stored HRW.out j (.string (mkT (s + j)))
            rw [mkLs_set s l j (by rw [HN.out]; exact hlt)] at h
            unfold GrowsS
            rw [mkLs_length, HN.out]
            exact h.1
          · exact HG2.out.trans ⟨rfl, rfl, rfl, by simp, fun k _ hne => heap_setCell_other w2 ⟨g, j, none⟩ k _ (fun e => hne (by simp [e]))⟩
        case measure => simp only [intOf]; omega
      · obtain rfl : j = n := by omega
        go_wp2
        go_ret
        exact ⟨rfl, HV.out, HG.out⟩
set_option maxRecDepth 100000 in
set_option maxHeartbeats 1000000 in
theorem held_strsX (v : Value) (l : List ByteArray) (s : Nat) (w : World) (hv : Strs w v (mkLs s l l.length)) (hl : l.length ≤ 1048576) (hs1 : 1 ≤ s) (hs2 : s ≤ 17592186044416) :
    Calls Tryz.prog 50 #[v, .int .i64 (s : Int)] w fun e w' => e = .returned (.int .i64 ((s : Int) + (l.length : Int))) ∧ Below w.heap.size w w' := by
  obtain ⟨k1, k2, a, ca, rfl, hca, ha⟩ := hv
  rw [mkLs_length] at k1 hca ha ⊢
  obtain ⟨n, hn⟩ : ∃ n, l.length = n := ⟨_, rfl⟩
  rw [hn] at k1 hl hca ha ⊢
  have HN := Lib.hid hn
  have HA := Lib.hid ha
  clear hn ha k2 hca
  go_enter Tryz.func50, Tryz.ntmps50
  go_wp2
  go_loopw [1, 5] (fun kv i wr => ∃ j : Nat, j ≤ n ∧ i = .int .i64 j ∧ kv = .int .i64 ((s : Int) + (j : Int)) ∧ Below w.heap.size w wr) (fun _ i _ => n - (intOf i).toNat)
  case atStart => exact ⟨0, by omega, rfl, by simp, Below.refl _ _⟩
  case round =>
    obtain ⟨j, hj, rfl, rfl, hb⟩ := hrel
    have HB := Lib.hid hb
    clear hb
    by_cases hlt : j < n
    · obtain ⟨x, o, rfl, hx, hcx⟩ := HA.out (by omega)
      have cx0 := hcx j hlt
      rw [mkLs_el s l n j (by rw [HN.out]; exact hlt), if_pos hlt] at cx0
      have cx : wr.cell? ⟨x, o + j, none⟩ = some (.string (mkT (s + j))) := by rw [HB.out.cell (p := ⟨x, o + j, none⟩) hx]; exact cx0
      have CX := Lib.hid cx
      clear hcx cx0
      have hxr : x < wr.heap.size := Nat.lt_of_lt_of_le hx HB.out.size
      have HM := Lib.hid (fun W => (by have := mark_textW (s + j) W (by omega) (by omega); rw [show ((s + j : Nat) : Int) = (s : Int) + (j : Int) by omega] at this; exact this))
      have y1 : (j : Int) < (n : Int) := by omega
      have y0 : (0 : Int) ≤ (j : Int) := by omega
      go_wp2_with fail
      go_region_held3 (fun w' => w'.cell? ⟨x, o + j, none⟩ = some (.string (mkT (s + j)))) (first | (with_reducible exact cx) | (with_reducible exact CY.out) | go_keep)
        (first | (go_at_call 46; refine (HM.out _).mono ?_; rintro e w2 ⟨rfl, hb⟩; have CY := Lib.hid (show w2.cell? ⟨x, o + j, none⟩ = some (.string (mkT (s + j))) by rw [hb.cell (p := ⟨x, o + j, none⟩) hxr]; exact CX.out); have HB2 := Lib.hid (HB.out.trans (Below.mono (show Below wr.heap.size wr w2 from (Below.refl _ _).drew.trans hb) HB.out.size)); clear hb))
      clear cx
      go_wp2
      go_roundw
      case rel => exact ⟨j + 1, by omega, by go_num, by go_num, HB2.out⟩
      case measure => simp only [intOf]; omega
    · obtain rfl : j = n := by omega
      go_wp2
      go_ret
      exact ⟨rfl, HB.out⟩
end Go.Proofs.YtckeeadkhopljaaGreatDoor
/- Instances that a call owns, their parts in blocks apart. -/
namespace Go.Proofs.YtckeeadkhopljaaGreatDoor
open Go.RowKit Go.PlainAid
set_option linter.unusedVariables false

/-- One marked instance; its number begins at s. -/
def mkX (s : Nat) (x : In) : In :=
  ⟨(s : Int), (s : Int) + 1, (s : Int) + 1 + 1, (s : Int) + 1 + 1 + 1, (s : Int) + 1 + 1 + 1 + 1, ⟨(s : Int) + 1 + 1 + 1 + 1 + 1, (s : Int) + 1 + 1 + 1 + 1 + 1 + 1, (s : Int) + 1 + 1 + 1 + 1 + 1 + 1 + 1, mkT (s + 8), mkT (s + 9), mkT (s + 10), (s : Int) + 1 + 1 + 1 + 1 + 1 + 1 + 1 + 1 + 1 + 1 + 1, mkLs (s + 12) x.cmd.ch x.cmd.ch.length⟩,
    (s : Int) + 12 + (x.cmd.ch.length : Int), mkI ((s : Int) + 12 + (x.cmd.ch.length : Int) + 1) x.deps x.deps.length, ((s : Int) + 12 + (x.cmd.ch.length : Int) + 1 + 2 * (x.deps.length : Int)).tmod 3 == 0⟩
/-- How many numbers it takes. -/
def nmX (x : In) : Nat := 14 + x.cmd.ch.length + 2 * x.deps.length
/-- The number at which the k-th begins. -/
def snLR (l : List In) : Nat → Nat
  | 0 => 1
  | k + 1 => snLR l k + nmX (nth l k)
@[irreducible] def snL (l : List In) (k : Nat) : Nat := snLR l k
theorem snL_zero (l : List In) : snL l 0 = 1 := by unfold snL; rfl
theorem snL_succ (l : List In) (k : Nat) : snL l (k + 1) = snL l k + nmX (nth l k) := by unfold snL; rfl
theorem snL_le {l : List In} (h : ∀ j, j < l.length → (nth l j).cmd.ch.length ≤ 1048576 ∧ (nth l j).deps.length ≤ 1048576) : ∀ k, k ≤ l.length → 1 ≤ snL l k ∧ snL l k ≤ 1 + k * 4194304
  | 0, _ => by rw [snL_zero]; omega
  | k + 1, hk => by
    have ih := snL_le h k (by omega)
    have := h k (by omega)
    rw [snL_succ]
    unfold nmX
    omega
/-- The first k are marked. -/
def mkXs (l : List In) (k : Nat) : List In := (List.range l.length).map fun i => if i < k then mkX (snL l i) (nth l i) else nth l i
theorem mkXs_length (l : List In) (k : Nat) : (mkXs l k).length = l.length := by simp [mkXs]
theorem mkXs_at (l : List In) (k i : Nat) (h : i < l.length) : nth (mkXs l k) i = if i < k then mkX (snL l i) (nth l i) else nth l i := by
  rw [nth_eq, List.getD, mkXs, List.getElem?_map, List.getElem?_range h]
  rfl
theorem mkXs_zero (l : List In) : mkXs l 0 = l := nth_ext _ _ (mkXs_length l 0) (fun j hj => by rw [mkXs_length] at hj; rw [mkXs_at l 0 j hj]; simp)
/-- The sixteen cells of a row from o on. -/
def InBv (cur : Array Value) (o : Nat) (vs : List Value) : Prop := ∀ i, i < 16 → cur[o + i]? = vs[i]?
theorem InBv.set {cur : Array Value} {o : Nat} {vs : List Value} (h : InBv cur o vs) (hl : vs.length = 16) (hs : o + 16 ≤ cur.size) (a : Nat) (ha : a < 16) (y : Value) : InBv (cur.setIfInBounds (o + a) y) o (vs.set a y) := by
  intro i hi
  rw [Array.getElem?_setIfInBounds, List.getElem?_set]
  by_cases e : a = i
  · subst e
    rw [if_pos rfl, if_pos rfl, if_pos (by omega), if_pos (by omega)]
  · rw [if_neg (by omega), if_neg e]
    exact h i hi
theorem InBv.other {cur : Array Value} {o q : Nat} {vs : List Value} (h : InBv cur o vs) (y : Value) (hne : q < o ∨ o + 16 ≤ q) : InBv (cur.setIfInBounds q y) o vs := by
  intro i hi
  rw [Array.getElem?_setIfInBounds, if_neg (by omega)]
  exact h i hi
theorem PtO.keptT {w w' : World} {lo hi : Nat} {x : In} {u d : Value} {row : Option Nat} (h : PtO w lo hi x u d) (hg : w.grownBy w' row) (h1 : ∀ k, row = some k → u.ownBlock ≠ some k) (h2 : 0 < x.deps.length → ∀ k, row = some k → d.ownBlock ≠ some k) : PtO w' lo hi x u d :=
  ⟨⟨h.st.1.keepB hg h1, h.st.2⟩, h.ids.keepB hg h2, h.bu, h.bd, h.fit⟩
/-- Blocks of three types are three blocks. -/
theorem grows_type {w : World} {lo : Nat} {v : Value} {l : List ByteArray} (h : GrowsS w lo v l) (k : Nat) (hk : v.ownBlock = some k) : ∃ cur, w.heap[k]? = some (.cells cur 9 (0, 0)) := by
  rcases h.2 with ⟨hn, _⟩ | ⟨g', cap', cur', hn, hb', hh, _⟩
  · rw [hn] at hk; cases hk
  · rw [hn] at hk
    have e1 : g' = k := Option.some.inj hk
    rw [e1] at hh
    exact ⟨_, hh⟩
theorem ids_type {w : World} {lo : Nat} {v : Value} {l : List Ii} (h : IdOwn w lo v l) (h0 : 0 < l.length) (k : Nat) (hk : v.ownBlock = some k) : ∃ cur, w.heap[k]? = some (.cells cur 63 (0, 0)) := by
  obtain ⟨a, cap, rfl, _, _, h3⟩ := h
  obtain ⟨g, o, cur, rfl, _, r3, _⟩ := h3 h0
  have e2 : g = k := Option.some.inj hk
  subst e2
  exact ⟨_, r3⟩
theorem type_ne {w : World} {k : Nat} {c c' : Array Value} {t t' : TypeId} (h : w.heap[k]? = some (.cells c t (0, 0))) (h' : w.heap[k]? = some (.cells c' t' (0, 0))) : t = t' := by
  rw [h] at h'
  simp only [Option.some.injEq, Obj.cells.injEq] at h'
  exact h'.2.1
/-- The slice v holds l, and all of it is the call's own; each instance's parts lie in blocks apart from the others'. -/
def InOwnX (w : World) (lo hi : Nat) (v : Value) (l : List In) : Prop :=
  ∃ a cap, v = .slice a l.length cap ∧ l.length ≤ cap ∧ l.length ≤ 9223372036854775807 ∧ (0 < l.length → ∃ (g o : Nat) (cur : Array Value) (U D : Nat → Value) (b : Nat → Nat), a = some ⟨g, o, none⟩ ∧ (lo ≤ g ∧ g < hi ∧ o + cap * 16 ≤ cur.size) ∧ w.heap[g]? = some (.cells cur 67 (0, 0)) ∧ (∀ i, b i ≤ b (i + 1)) ∧ lo ≤ b 0 ∧ b l.length ≤ hi ∧ ∀ j, j < l.length → InBv cur (o + j * 16) (inA (nth l j) (U j) (D j)) ∧ PtO w (b j) (b (j + 1)) (nth l j) (U j) (D j))
theorem mono_of {b : Nat → Nat} (h : ∀ i, b i ≤ b (i + 1)) : ∀ {i j : Nat}, i ≤ j → b i ≤ b j := by
  intro i j hij
  induction hij with
  | refl => exact Nat.le_refl _
  | step _ ih => exact Nat.le_trans ih (h _)
theorem InOwnX.form {w : World} {lo hi : Nat} {v : Value} {l : List In} (h : InOwnX w lo hi v l) : ∃ a n cap, v = .slice a n cap := by
  obtain ⟨a, cap, e, _⟩ := h
  exact ⟨a, _, cap, e⟩
theorem InOwnX.insts {w : World} {lo hi : Nat} {v : Value} {l : List In} (h : InOwnX w lo hi v l) : Insts w v l := by
  obtain ⟨a, cap, e, h1, h2, h3⟩ := h
  refine ⟨h2, a, cap, e, h1, fun h0 => ?_⟩
  obtain ⟨g, o, cur, U, D, b, r1, r2, r3, _, _, _, r4⟩ := h3 h0
  refine ⟨g, o, r1, (Array.getElem?_eq_some_iff.1 r3).1, fun j hj => ?_⟩
  obtain ⟨q1, q2⟩ := r4 j hj
  exact ⟨_, _, InB.inC q1 r3, q2.pts⟩
theorem InOwnX.later {w w' : World} {lo hi : Nat} {v : Value} {l : List In} (h : InOwnX w lo hi v l) (hb : Below w.heap.size w w') : InOwnX w' lo hi v l := by
  obtain ⟨a, cap, e, h1, h2, h3⟩ := h
  refine ⟨a, cap, e, h1, h2, fun h0 => ?_⟩
  obtain ⟨g, o, cur, U, D, b, r1, r2, r3, r5, r6, r7, r4⟩ := h3 h0
  refine ⟨g, o, cur, U, D, b, r1, r2, (hb.block g (Array.getElem?_eq_some_iff.1 r3).1).trans r3, r5, r6, r7, fun j hj => ?_⟩
  obtain ⟨q1, q2⟩ := r4 j hj
  exact ⟨q1, q2.later hb⟩
theorem InOwnX.mono {w : World} {lo hi lo' hi' : Nat} {v : Value} {l : List In} (h : InOwnX w lo hi v l) (h1 : lo' ≤ lo) (h2 : hi ≤ hi') : InOwnX w lo' hi' v l := by
  obtain ⟨a, cap, e, q1, q2, h3⟩ := h
  refine ⟨a, cap, e, q1, q2, fun h0 => ?_⟩
  obtain ⟨g, o, cur, U, D, b, r1, r2, r3, r5, r6, r7, r4⟩ := h3 h0
  exact ⟨g, o, cur, U, D, b, r1, ⟨by omega, by omega, r2.2.2⟩, r3, r5, by omega, by omega, r4⟩
theorem inOwnX_nil (w : World) (lo hi : Nat) (a : Option Addr) (cap : Nat) : InOwnX w lo hi (.slice a 0 cap) [] := ⟨a, cap, rfl, by simp, by simp, fun h => by simp at h⟩
/-- From w to w' only blocks of [lo, hi) are written. -/
structure Out (lo hi : Nat) (w w' : World) : Prop where
  os : w'.os = w.os
  tape : w'.tape = w.tape
  output : w'.output = w.output
  size : w.heap.size ≤ w'.heap.size
  out : ∀ k, k < w.heap.size → (k < lo ∨ hi ≤ k) → w'.heap[k]? = w.heap[k]?
theorem Out.refl (lo hi : Nat) (w : World) : Out lo hi w w := ⟨rfl, rfl, rfl, Nat.le_refl _, fun _ _ _ => rfl⟩
theorem Out.trans {lo hi : Nat} {w w1 w2 : World} (h : Out lo hi w w1) (h2 : Out lo hi w1 w2) : Out lo hi w w2 :=
  ⟨h2.os.trans h.os, h2.tape.trans h.tape, h2.output.trans h.output, Nat.le_trans h.size h2.size, fun k hk hr => (h2.out k (Nat.lt_of_lt_of_le hk h.size) hr).trans (h.out k hk hr)⟩
theorem out_below {lo hi : Nat} {w w' : World} (hb : Below w.heap.size w w') : Out lo hi w w' := ⟨hb.os, hb.tape, hb.output, hb.size, fun k hk _ => hb.block k hk⟩
theorem out_grown {lo hi : Nat} {w w' : World} {row : Option Nat} (hg : w.grownBy w' row) (hr : ∀ k, row = some k → lo ≤ k ∧ k < hi) : Out lo hi w w' :=
  ⟨hg.os, hg.tape, hg.output, hg.size, fun k hk hh => hg.block k hk (fun e => by have := hr k e.symm; omega)⟩
theorem Af.outr {w0 w w' : World} {lo hi : Nat} (h : Af w0 w) (hc : Out lo hi w w') (hl : w0.heap.size ≤ lo) : Af w0 w' :=
  Below.trans h ⟨hc.os, hc.tape, hc.output, hc.size, fun k hk => hc.out k (Nat.lt_of_lt_of_le hk h.size) (.inl (by omega))⟩
theorem Bx.outr {w w' : World} {lo hi g : Nat} {t : TypeId} {cs : Array Value} (h : Bx w g t cs) (hc : Out lo hi w w') (hr : g < lo ∨ hi ≤ g) : Bx w' g t cs := by
  have := h.lt
  unfold Bx at *
  rw [hc.out g this hr]
  exact h
theorem GrowsS.same {w w' : World} {lo : Nat} {v : Value} {l : List ByteArray} (h : GrowsS w lo v l) (hs : ∀ k, v.ownBlock = some k → w'.heap[k]? = w.heap[k]?) : GrowsS w' lo v l := by
  obtain ⟨h1, h2⟩ := h
  refine ⟨h1, h2.imp (fun h => h) fun ⟨g, cap, cur, e, hb', hg', r⟩ => ⟨g, cap, cur, e, hb', ?_, r⟩⟩
  subst e
  rw [hs g rfl]
  exact hg'
theorem IdOwn.same {w w' : World} {base : Nat} {v : Value} {l : List Ii} (h : IdOwn w base v l) (hs : 0 < l.length → ∀ k, v.ownBlock = some k → w'.heap[k]? = w.heap[k]?) : IdOwn w' base v l := by
  obtain ⟨a, cap, e, h1, h2, h3⟩ := h
  refine ⟨a, cap, e, h1, h2, fun h0 => ?_⟩
  obtain ⟨g, o, cur, r1, r2, r3, r4⟩ := h3 h0
  refine ⟨g, o, cur, r1, r2, ?_, r4⟩
  subst e; subst r1
  rw [hs h0 g rfl]
  exact r3
theorem PtO.outr {w w' : World} {lo hi lo' hi' : Nat} {x : In} {u d : Value} (h : PtO w lo' hi' x u d) (hc : Out lo hi w w') (hz : hi' ≤ w.heap.size) (hr : hi' ≤ lo ∨ hi ≤ lo') : PtO w' lo' hi' x u d :=
  ⟨⟨h.st.1.same (fun k hk => by have := h.bu k hk; exact hc.out k (by omega) (by omega)), h.st.2⟩, h.ids.same (fun _ k hk => by have := h.bd k hk; exact hc.out k (by omega) (by omega)), h.bu, h.bd, h.fit⟩
theorem InOwnX.outr {w w' : World} {lo hi lo' hi' : Nat} {v : Value} {l : List In} (h : InOwnX w lo' hi' v l) (hc : Out lo hi w w') (hz : hi' ≤ w.heap.size) (hr : hi' ≤ lo ∨ hi ≤ lo') : InOwnX w' lo' hi' v l := by
  obtain ⟨a, cap, e, h1, h2, h3⟩ := h
  refine ⟨a, cap, e, h1, h2, fun h0 => ?_⟩
  obtain ⟨g, o, cur, U, D, b, r1, r2, r3, r5, r6, r7, r4⟩ := h3 h0
  refine ⟨g, o, cur, U, D, b, r1, r2, (hc.out g (by omega) (by omega)).trans r3, r5, r6, r7, fun j hj => ?_⟩
  obtain ⟨q1, q2⟩ := r4 j hj
  have a1 := mono_of r5 (Nat.zero_le j)
  have a2 := mono_of r5 (show j + 1 ≤ l.length by omega)
  exact ⟨q1, q2.outr hc (by omega) (by omega)⟩
/-- The k-th is being marked: its cells are vs, its parts are x's; the others are as l says. -/
def MkE (l : List In) (U D : Nat → Value) (b : Nat → Nat) (g o c k : Nat) (vs : List Value) (x : In) (w : World) : Prop :=
  ∃ cur : Array Value, w.heap[g]? = some (.cells cur 67 (0, 0)) ∧ o + c * 16 ≤ cur.size ∧ l.length ≤ c ∧ k < l.length ∧ vs.length = 16 ∧ InBv cur (o + k * 16) vs ∧ (∀ i, b i ≤ b (i + 1)) ∧ PtO w (b k) (b (k + 1)) x (U k) (D k) ∧ ∀ j, j < l.length → j ≠ k → InBv cur (o + j * 16) (inA (nth l j) (U j) (D j)) ∧ PtO w (b j) (b (j + 1)) (nth l j) (U j) (D j)
theorem MkE.later {l : List In} {U D : Nat → Value} {b : Nat → Nat} {g o c k : Nat} {vs : List Value} {x : In} {w w' : World} (h : MkE l U D b g o c k vs x w) (hb : Below w.heap.size w w') : MkE l U D b g o c k vs x w' := by
  obtain ⟨cur, r1, r2, r0, r3, r4, r5, r6, r8, r7⟩ := h
  exact ⟨cur, (hb.block g (Array.getElem?_eq_some_iff.1 r1).1).trans r1, r2, r0, r3, r4, r5, r6, r8.later hb, fun j hj hne => ⟨(r7 j hj hne).1, (r7 j hj hne).2.later hb⟩⟩
theorem PtO.ne_row {w : World} {lo hi g : Nat} {x : In} {u d : Value} {cur : Array Value} (h : PtO w lo hi x u d) (hg : w.heap[g]? = some (.cells cur 67 (0, 0))) : u.ownBlock ≠ some g ∧ (0 < x.deps.length → d.ownBlock ≠ some g) := by
  refine ⟨fun e => ?_, fun h0 e => ?_⟩
  · obtain ⟨c, hc⟩ := grows_type h.st.1 g e
    have := type_ne hc hg
    cases this
  · obtain ⟨c, hc⟩ := ids_type h.ids h0 g e
    have := type_ne hc hg
    cases this
theorem ptO_put {w : World} {lo hi g o : Nat} {x : In} {u d : Value} {cur : Array Value} (h : PtO w lo hi x u d) (hg : w.heap[g]? = some (.cells cur 67 (0, 0))) (y : Value) : PtO (w.setCell ⟨g, o, none⟩ y) lo hi x u d := by
  obtain ⟨n1, n2⟩ := h.ne_row hg
  exact h.keptT (grownBy_put w g _ y) (fun k' hk => by cases hk; exact n1) (fun h0 k' hk => by cases hk; exact n2 h0)
theorem MkE.set {l : List In} {U D : Nat → Value} {b : Nat → Nat} {g o c k : Nat} {vs : List Value} {x : In} {w : World} (h : MkE l U D b g o c k vs x w) (i : Nat) (hi : i < 16) (y : Value) : MkE l U D b g o c k (vs.set i y) x (w.setCell ⟨g, o + k * 16 + i, none⟩ y) := by
  obtain ⟨cur, r1, r2, r0, r3, r4, r5, r6, r8, r7⟩ := h
  exact ⟨_, heap_setCell_same w g (o + k * 16 + i) cur _ y r1, by simpa using r2, r0, r3, by simpa using r4, r5.set r4 (by omega) i hi y, r6, ptO_put r8 r1 y, fun j hj hne => ⟨(r7 j hj hne).1.other y (by omega), ptO_put (r7 j hj hne).2 r1 y⟩⟩
/-- A block of the k-th's parts is written. -/
theorem MkE.part {l : List In} {U D : Nat → Value} {b : Nat → Nat} {g o c k : Nat} {vs : List Value} {x x' : In} {w w' : World} (h : MkE l U D b g o c k vs x w) (p : Option Nat) (hg : w.grownBy w' p) (hp : ∀ q, p = some q → q ≠ g ∧ b k ≤ q ∧ q < b (k + 1)) (hx : PtO w' (b k) (b (k + 1)) x' (U k) (D k)) : MkE l U D b g o c k vs x' w' := by
  obtain ⟨cur, r1, r2, r0, r3, r4, r5, r6, r8, r7⟩ := h
  refine ⟨cur, ?_, r2, r0, r3, r4, r5, r6, hx, fun j hj hne => ⟨(r7 j hj hne).1, ?_⟩⟩
  · rw [hg.block g (Array.getElem?_eq_some_iff.1 r1).1 (fun e => (hp g e.symm).1 rfl)]
    exact r1
  · have q2 := (r7 j hj hne).2
    have far : ∀ q, p = some q → ¬ (b j ≤ q ∧ q < b (j + 1)) := fun q hq => by
      obtain ⟨_, p1, p2⟩ := hp q hq
      rcases Nat.lt_or_gt_of_ne hne with hlt | hgt
      · have := mono_of r6 (show j + 1 ≤ k by omega); omega
      · have := mono_of r6 (show k + 1 ≤ j by omega); omega
    exact q2.keptT hg (fun q hq e => far q hq (q2.bu q e)) (fun _ q hq e => far q hq (q2.bd q e))
theorem MkE.cells {l : List In} {U D : Nat → Value} {b : Nat → Nat} {g o c k : Nat} {z0 z1 z2 z3 z4 z5 z6 z7 z8 z9 z10 z11 z12 z13 z14 z15 : Value} {x : In} {w : World} (h : MkE l U D b g o c k [z0, z1, z2, z3, z4, z5, z6, z7, z8, z9, z10, z11, z12, z13, z14, z15] x w) :
    (w.cell? ⟨g, o + k * 16, none⟩ = some z0 ∧ w.cell? ⟨g, o + k * 16 + 1, none⟩ = some z1 ∧ w.cell? ⟨g, o + k * 16 + 2, none⟩ = some z2 ∧ w.cell? ⟨g, o + k * 16 + 3, none⟩ = some z3 ∧ w.cell? ⟨g, o + k * 16 + 4, none⟩ = some z4 ∧ w.cell? ⟨g, o + k * 16 + 5, none⟩ = some z5 ∧ w.cell? ⟨g, o + k * 16 + 6, none⟩ = some z6 ∧ w.cell? ⟨g, o + k * 16 + 7, none⟩ = some z7 ∧ w.cell? ⟨g, o + k * 16 + 8, none⟩ = some z8 ∧ w.cell? ⟨g, o + k * 16 + 9, none⟩ = some z9 ∧ w.cell? ⟨g, o + k * 16 + 10, none⟩ = some z10 ∧ w.cell? ⟨g, o + k * 16 + 11, none⟩ = some z11 ∧ w.cell? ⟨g, o + k * 16 + 12, none⟩ = some z12 ∧ w.cell? ⟨g, o + k * 16 + 13, none⟩ = some z13 ∧ w.cell? ⟨g, o + k * 16 + 14, none⟩ = some z14 ∧ w.cell? ⟨g, o + k * 16 + 15, none⟩ = some z15) ∧ w.frozen? ⟨g, o + k * 16, none⟩ = false ∧ w.frozen? ⟨g, o + k * 16 + 1, none⟩ = false ∧ w.frozen? ⟨g, o + k * 16 + 2, none⟩ = false ∧ w.frozen? ⟨g, o + k * 16 + 3, none⟩ = false ∧ w.frozen? ⟨g, o + k * 16 + 4, none⟩ = false ∧ w.frozen? ⟨g, o + k * 16 + 5, none⟩ = false ∧ w.frozen? ⟨g, o + k * 16 + 6, none⟩ = false ∧ w.frozen? ⟨g, o + k * 16 + 7, none⟩ = false ∧ w.frozen? ⟨g, o + k * 16 + 8, none⟩ = false ∧ w.frozen? ⟨g, o + k * 16 + 9, none⟩ = false ∧ w.frozen? ⟨g, o + k * 16 + 10, none⟩ = false ∧ w.frozen? ⟨g, o + k * 16 + 11, none⟩ = false ∧ w.frozen? ⟨g, o + k * 16 + 12, none⟩ = false ∧ w.frozen? ⟨g, o + k * 16 + 13, none⟩ = false ∧ w.frozen? ⟨g, o + k * 16 + 14, none⟩ = false ∧ w.frozen? ⟨g, o + k * 16 + 15, none⟩ = false := by
  obtain ⟨cur, r1, r2, r0, r3, r4, r5, r6, r8, r7⟩ := h
  have hc : ∀ i, i < 16 → w.cell? ⟨g, o + k * 16 + i, none⟩ = [z0, z1, z2, z3, z4, z5, z6, z7, z8, z9, z10, z11, z12, z13, z14, z15][i]? := fun i hi => by rw [cell_of_row w g _ cur _ (0, 0) r1]; exact r5 i hi
  have hf : ∀ i, w.frozen? ⟨g, i, none⟩ = false := fun i => frozen_of_row w g i _ _ r1
  exact ⟨⟨hc 0 (by omega), hc 1 (by omega), hc 2 (by omega), hc 3 (by omega), hc 4 (by omega), hc 5 (by omega), hc 6 (by omega), hc 7 (by omega), hc 8 (by omega), hc 9 (by omega), hc 10 (by omega), hc 11 (by omega), hc 12 (by omega), hc 13 (by omega), hc 14 (by omega), hc 15 (by omega)⟩, hf _, hf _, hf _, hf _, hf _, hf _, hf _, hf _, hf _, hf _, hf _, hf _, hf _, hf _, hf _, hf _⟩
theorem MkE.row {l : List In} {U D : Nat → Value} {b : Nat → Nat} {g o c k : Nat} {vs : List Value} {x : In} {w : World} (h : MkE l U D b g o c k vs x w) : ∃ cur, w.heap[g]? = some (.cells cur 67 (0, 0)) := by
  obtain ⟨cur, r1, _⟩ := h
  exact ⟨cur, r1⟩
theorem MkE.pts {l : List In} {U D : Nat → Value} {b : Nat → Nat} {g o c k : Nat} {vs : List Value} {x : In} {w : World} (h : MkE l U D b g o c k vs x w) : PtO w (b k) (b (k + 1)) x (U k) (D k) := by
  obtain ⟨cur, r1, r2, r0, r3, r4, r5, r6, r8, r7⟩ := h
  exact r8
theorem mkXs_ne (l : List In) (k i : Nat) (h : i < l.length) (hne : i ≠ k) : nth (mkXs l (k + 1)) i = nth (mkXs l k) i := by
  rw [mkXs_at l (k + 1) i h, mkXs_at l k i h]
  by_cases e : i < k
  · rw [if_pos e, if_pos (by omega)]
  · rw [if_neg e, if_neg (by omega)]
theorem mkXs_self (l : List In) (k : Nat) (h : k < l.length) : nth (mkXs l (k + 1)) k = mkX (snL l k) (nth l k) := by rw [mkXs_at l (k + 1) k h, if_pos (by omega)]
end Go.Proofs.YtckeeadkhopljaaGreatDoor
/- One instance that a call owns is marked: nothing beside its parts changes. -/
namespace Go.Proofs.YtckeeadkhopljaaGreatDoor
open Go.RowKit Go.PlainAid
set_option linter.unusedVariables false

theorem Chg.toOut {m : TypeId → Bool} {lo hi : Nat} {w w' : World} (h : Chg m lo hi w w') : Out lo hi w w' := ⟨h.os, h.tape, h.output, h.size, h.out⟩
end Go.Proofs.YtckeeadkhopljaaGreatDoor
