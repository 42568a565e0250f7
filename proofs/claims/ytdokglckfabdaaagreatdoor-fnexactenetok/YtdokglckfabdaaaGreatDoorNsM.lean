/- Integers in slices: how they are read, copied and compared. -/
import Derived.Test.YtdokglckfabdaaaGreatDoorIdTo
namespace Go.Proofs.YtdokglckfabdaaaGreatDoor
open Go.RowKit Go.PlainAid
set_option linter.unusedVariables false

@[irreducible] def nI (l : List Int) (j : Nat) : Int := l.getD j 0
theorem nI_eq (l : List Int) (j : Nat) : nI l j = l.getD j 0 := by unfold nI; rfl
theorem nI_get (l : List Int) (j : Nat) (h : j < l.length) : l[j]? = some (nI l j) := by
  rw [nI_eq, List.getD, List.getElem?_eq_getElem h]; rfl
theorem nI_of {l : List Int} {j : Nat} {x : Int} (h : l[j]? = some x) : nI l j = x := by rw [nI_eq, List.getD, h]; rfl
theorem nI_ext (l m : List Int) (h : l.length = m.length) (he : ∀ j, j < l.length → nI l j = nI m j) : l = m := by
  apply List.ext_getElem?
  intro j
  by_cases hj : j < l.length
  · rw [nI_get l j hj, nI_get m j (by omega), he j hj]
  · rw [List.getElem?_eq_none (by omega), List.getElem?_eq_none (by omega)]
/-- The value v is a slice of integers that reads as l. -/
structure Ns (w : World) (v : Value) (l : List Int) : Prop where
  len : l.length ≤ 9223372036854775807
  at_ : ∃ a cap, v = .slice a l.length cap ∧ l.length ≤ cap ∧ (0 < l.length → ∃ b o, a = some ⟨b, o, none⟩ ∧ b < w.heap.size ∧ ∀ j, j < l.length → w.cell? ⟨b, o + j, none⟩ = some (.int .i64 (nI l j)))
theorem Ns.form {w : World} {v : Value} {l : List Int} (h : Ns w v l) : ∃ a n cap, v = .slice a n cap := by
  obtain ⟨_, a, cap, e, _⟩ := h
  exact ⟨a, _, cap, e⟩
theorem Ns.later {w w' : World} {v : Value} {l : List Int} (h : Ns w v l) (hb : Below w.heap.size w w') : Ns w' v l := by
  obtain ⟨h1, a, cap, e, hc, h3⟩ := h
  refine ⟨h1, a, cap, e, hc, fun h0 => ?_⟩
  obtain ⟨b, o, ha, hbl, hcl⟩ := h3 h0
  exact ⟨b, o, ha, Nat.lt_of_lt_of_le hbl hb.size, fun j hj => by rw [hb.cell (p := ⟨b, o + j, none⟩) hbl]; exact hcl j hj⟩
theorem Ns.alloc {w : World} {v : Value} {l : List Int} (h : Ns w v l) (o : Obj) : Ns (w.alloc o) v l := h.later ((Below.refl _ _).alloc (Nat.le_refl _) _)
theorem ns_nil (w : World) (a : Option Addr) (cap : Nat) : Ns w (.slice a 0 cap) [] := ⟨by simp, a, cap, rfl, by simp, fun h => by simp at h⟩
/-- The slice v holds l, in a block of its own behind base. -/
def NsOwn (w : World) (base : Nat) (v : Value) (l : List Int) : Prop :=
  ∃ a cap, v = .slice a l.length cap ∧ l.length ≤ cap ∧ l.length ≤ 9223372036854775807 ∧ (0 < l.length → ∃ g o cur, a = some ⟨g, o, none⟩ ∧ (base ≤ g ∧ o + cap ≤ cur.size) ∧ w.heap[g]? = some (.cells cur 3 (0, 0)) ∧ ∀ j, j < l.length → cur[o + j]? = some (.int .i64 (nI l j)))
theorem NsOwn.form {w : World} {base : Nat} {v : Value} {l : List Int} (h : NsOwn w base v l) : ∃ a n cap, v = .slice a n cap := by
  obtain ⟨a, cap, e, _⟩ := h
  exact ⟨a, _, cap, e⟩
theorem NsOwn.mono {w : World} {base base' : Nat} {v : Value} {l : List Int} (h : NsOwn w base v l) (hb : base' ≤ base) : NsOwn w base' v l := by
  obtain ⟨a, cap, e, h1, h2, h3⟩ := h
  exact ⟨a, cap, e, h1, h2, fun h0 => by obtain ⟨g, o, cur, r1, r2, r3⟩ := h3 h0; exact ⟨g, o, cur, r1, ⟨Nat.le_trans hb r2.1, r2.2⟩, r3⟩⟩
theorem NsOwn.ns {w : World} {base : Nat} {v : Value} {l : List Int} (h : NsOwn w base v l) : Ns w v l := by
  obtain ⟨a, cap, e, h1, h2, h3⟩ := h
  refine ⟨h2, a, cap, e, h1, fun h0 => ?_⟩
  obtain ⟨g, o, cur, r1, r2, r3, r4⟩ := h3 h0
  refine ⟨g, o, r1, (Array.getElem?_eq_some_iff.1 r3).1, fun j hj => ?_⟩
  rw [cell_of_row w g _ cur _ (0, 0) r3]
  exact r4 j hj
theorem NsOwn.keepB {w w' : World} {base : Nat} {v : Value} {l : List Int} {row : Option Nat} (h : NsOwn w base v l) (hg : w.grownBy w' row) (hne : 0 < l.length → ∀ k, row = some k → v.ownBlock ≠ some k) : NsOwn w' base v l := by
  obtain ⟨a, cap, e, h1, h2, h3⟩ := h
  refine ⟨a, cap, e, h1, h2, fun h0 => ?_⟩
  obtain ⟨g, o, cur, r1, r2, r3, r4⟩ := h3 h0
  refine ⟨g, o, cur, r1, r2, ?_, r4⟩
  subst e; subst r1
  rw [hg.block g (Array.getElem?_eq_some_iff.1 r3).1 (fun e => hne h0 g e.symm rfl)]
  exact r3
theorem NsOwn.later {w w' : World} {base : Nat} {v : Value} {l : List Int} (h : NsOwn w base v l) (hb : Below w.heap.size w w') : NsOwn w' base v l := h.keepB (grown_of hb none) (fun _ k hk => by cases hk)
theorem nsOwn_nil (w : World) (base : Nat) (a : Option Addr) (cap : Nat) : NsOwn w base (.slice a 0 cap) [] := ⟨a, cap, rfl, by simp, by simp, fun h => by simp at h⟩
theorem NsOwn.kept {w w' : World} {base : Nat} {v : Value} {l : List Int} {row : Option Nat} (h : NsOwn w base v l) (hg : w.grownBy w' row) (hne : ∀ k, row = some k → k < base) : NsOwn w' base v l := by
  obtain ⟨a, cap, e, h1, h2, h3⟩ := h
  refine ⟨a, cap, e, h1, h2, fun h0 => ?_⟩
  obtain ⟨g, o, cur, r1, r2, r3, r4⟩ := h3 h0
  refine ⟨g, o, cur, r1, r2, ?_, r4⟩
  rw [hg.block g (Array.getElem?_eq_some_iff.1 r3).1 (fun e => by have := hne g e.symm; omega)]
  exact r3

/-! ### the laws' measure, copy and comparison -/
set_option maxHeartbeats 400000 in
theorem sz_ns_yes (v : Value) (l : List Int) (r : Int) (w : World) (hv : Ns w v l) (h : (l.length : Int) ≤ r) (hr : r ≤ 1048576) :
    Calls Tryz.prog 96 #[v, .int .i64 r] w fun e w' => e = .returned (.int .i64 (r - l.length)) ∧ Below w.heap.size w w' := by
  obtain ⟨k1, a, ca, rfl, hca, ha⟩ := hv
  generalize l.length = n at *
  have hd : decide (r - (n : Int) < 0) = false := by simp; omega
  clear ha hca
  go_enter Tryz.func96, Tryz.ntmps96
  go_wp2
  go_ret
  exact ⟨rfl, Below.refl _ _⟩
set_option maxHeartbeats 400000 in
theorem sz_ns_no (v : Value) (l : List Int) (r : Int) (w : World) (hv : Ns w v l) (h : r < (l.length : Int)) (h0 : 0 ≤ r) (hr : r ≤ 1048576) :
    Calls Tryz.prog 96 #[v, .int .i64 r] w fun e w' => e = .returned (.int .i64 (-1)) ∧ Below w.heap.size w w' := by
  obtain ⟨k1, a, ca, rfl, hca, ha⟩ := hv
  generalize l.length = n at *
  have hd : decide (r - (n : Int) < 0) = true := by simp; omega
  have hni : (n : Int) ≤ 9223372036854775807 := by omega
  clear ha hca
  go_enter Tryz.func96, Tryz.ntmps96
  go_wp2
  go_ret
  exact ⟨rfl, Below.refl _ _⟩
theorem Tryz.infoInt : (Tryz.prog.info? 3).map (fun i => (i.zero, i.size, i.bytes)) = some (some (.int .i64 0), 1, 8) := by kernel_rfl
theorem make_ns (w : World) (n : Nat) (hb : n ≤ 1048576) :
    ∃ w1 cur, (Instr.makeSlice 75 (.int .i64 (n : Int)) (.int .i64 (n : Int))).run Tryz.prog w = .ok (.slice (some ⟨w.heap.size, 0, none⟩) n n) w1 ∧ w1.heap[w.heap.size]? = some (.cells cur 3 (0, 0)) ∧ cur.size = n ∧ Below w.heap.size w w1 ∧ w.heap.size < w1.heap.size := by
  obtain ⟨i, hi, hz, hs, hby⟩ := info_parts Tryz.infoInt
  have h := run_make (P := Tryz.prog) w 75 3 i _ Tryz.underlying75 hi hz .i64 .i64 n n (by omega) (Int.le_refl _) (by rw [hby]; omega) (by omega)
  simp only [Int.toNat_natCast, hs] at h
  exact ⟨_, _, h, heap_alloc_new w _, by simp [madeCells], (Below.refl _ _).alloc (Nat.le_refl _) _, by simp⟩
set_option maxRecDepth 100000 in
set_option maxHeartbeats 1000000 in
theorem to_ns (v : Value) (l : List Int) (w : World) (hv : Ns w v l) (hl : l.length ≤ 1048576) :
    Calls Tryz.prog 97 #[v] w fun e w' => ∃ u, e = .returned u ∧ NsOwn w' w.heap.size u l ∧ Below w.heap.size w w' ∧ ∀ k, u.ownBlock = some k → w.heap.size ≤ k ∧ k < w'.heap.size := by
  obtain ⟨k1, a, ca, rfl, hca, ha⟩ := hv
  obtain ⟨n, hn⟩ : ∃ n, l.length = n := ⟨_, rfl⟩
  obtain ⟨w1, cur0, hmk, hrow, hcs, hb1, hlt1⟩ := make_ns w n (by omega)
  rw [hn] at k1 hca ha hl ⊢
  have HN := Lib.hid hn
  have HA := Lib.hid ha
  have HR := Lib.hid (And.intro hrow hcs)
  have HB := Lib.hid hb1
  obtain ⟨g, hg⟩ : ∃ g, g = w.heap.size := ⟨_, rfl⟩
  rw [← hg] at hmk HR HB hlt1 ⊢
  have HG := Lib.hid hg
  clear hn ha hca hrow hcs hb1 hg hlt1
  go_enter Tryz.func97, Tryz.ntmps97
  go_wp2
  clear hmk
  go_loopw [4] (fun i wr => ∃ (k : Nat) (cur : Array Value), k ≤ n ∧ i = .int .i64 k ∧ wr.heap[g]? = some (.cells cur 3 (0, 0)) ∧ cur.size = n ∧ (∀ j, j < k → cur[j]? = some (.int .i64 (nI l j))) ∧ Below g w wr) (fun i _ => n - (intOf i).toNat)
  case atStart => exact ⟨0, cur0, by omega, rfl, HR.out.1, HR.out.2, fun j hj => by omega, HB.out⟩
  case round =>
    clear HR HB
    obtain ⟨k, cur, hk, rfl, hrow, hcs, hel, hb⟩ := hrel
    have HROW := Lib.hid hrow
    have HEL := Lib.hid hel
    have HB := Lib.hid hb
    have hgr : g < wr.heap.size := (Array.getElem?_eq_some_iff.1 hrow).1
    clear hel
    by_cases hlt : k < n
    · obtain ⟨y, o, rfl, hy, hcy⟩ := HA.out (by omega)
      have hyg : y < g := by rw [HG.out]; exact hy
      have c1 : wr.cell? ⟨y, o + k, none⟩ = some (.int .i64 (nI l k)) := by rw [hb.cell (p := ⟨y, o + k, none⟩) hyg]; exact hcy k hlt
      have d1 : wr.cell? ⟨g, k, none⟩ = some (cur[k]?.getD undef) := by rw [cell_of_row wr g _ cur _ (0, 0) hrow, Array.getElem?_eq_getElem (by omega)]; rfl
      have f1 := frozen_of_row wr g k _ _ hrow
      have hcs2 : k < cur.size := by omega
      clear hcy hb hrow
      go_wp2
      go_roundw
      case rel =>
        refine ⟨k + 1, cur.setIfInBounds k (.int .i64 (nI l k)), by omega, by go_num, heap_setCell_same wr g k cur _ _ HROW.out, by simpa using hcs, fun j hj => ?_, HB.out.setCell (Nat.le_refl _) _⟩
        rw [Array.getElem?_setIfInBounds]
        by_cases e : k = j
        · subst e; rw [if_pos rfl, if_pos hcs2]
        · rw [if_neg e]; exact HEL.out j (by omega)
      case measure => simp only [intOf]; omega
    · obtain rfl : k = n := by omega
      clear hb hrow
      go_wp2
      go_ret
      exact ⟨_, rfl, ⟨_, k, by rw [HN.out]; rfl, by rw [HN.out]; exact Nat.le_refl _, by rw [HN.out]; omega, fun h0 => ⟨g, 0, cur, rfl, ⟨Nat.le_refl _, by omega⟩, HROW.out, fun j hj => by rw [Nat.zero_add]; exact HEL.out j (by rw [HN.out] at hj; exact hj)⟩⟩, HB.out, fun k hk => by cases hk; exact ⟨Nat.le_refl _, hgr⟩⟩
set_option maxRecDepth 100000 in
set_option maxHeartbeats 1000000 in
theorem eq_ns_same (v u : Value) (l : List Int) (w : World) (hv : Ns w v l) (hu : Ns w u l) :
    Calls Tryz.prog 111 #[v, u] w fun e w' => e = .returned (.bool true) ∧ Below w.heap.size w w' := by
  obtain ⟨h1, a, ca, rfl, hca, ha⟩ := hv
  obtain ⟨k1, b, cb, rfl, hcb, hb⟩ := hu
  generalize hn : l.length = n at h1 ha hca k1 hb hcb
  have HA := Lib.hid ha
  have HB := Lib.hid hb
  clear hn ha hb hca hcb
  go_enter Tryz.func111, Tryz.ntmps111
  go_wp2
  go_loopw [5] (fun i wr => ∃ k : Nat, k ≤ n ∧ i = .int .i64 k ∧ Below w.heap.size w wr) (fun i _ => n - (intOf i).toNat)
  case atStart => exact ⟨0, by omega, rfl, Below.refl _ _⟩
  case round =>
    obtain ⟨k, hk, rfl, hbw⟩ := hrel
    have HBW := Lib.hid hbw
    by_cases hlt : k < n
    · obtain ⟨x, o, rfl, hx, hcx⟩ := HA.out (by omega)
      obtain ⟨y, p, rfl, hy, hcy⟩ := HB.out (by omega)
      have c1 : wr.cell? ⟨x, o + k, none⟩ = some (.int .i64 (nI l k)) := by rw [hbw.cell (p := ⟨x, o + k, none⟩) hx]; exact hcx k hlt
      have d1 : wr.cell? ⟨y, p + k, none⟩ = some (.int .i64 (nI l k)) := by rw [hbw.cell (p := ⟨y, p + k, none⟩) hy]; exact hcy k hlt
      have y1 : (k : Int) < (n : Int) := by omega
      have y0 : (0 : Int) ≤ (k : Int) := by omega
      clear hcx hcy hbw
      go_wp2
      go_quiet (fail)
      go_wp2
      go_roundw
      case rel => exact ⟨k + 1, by omega, by go_num, dn HBW.out _⟩
      case measure => simp only [intOf]; omega
    · obtain rfl : k = n := by omega
      clear hbw
      go_wp2
      go_ret
      exact ⟨rfl, HBW.out⟩
end Go.Proofs.YtdokglckfabdaaaGreatDoor
