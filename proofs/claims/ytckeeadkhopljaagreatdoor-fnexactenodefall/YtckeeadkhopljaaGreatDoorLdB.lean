/- A bundle of texts: NsM, LdM, LdTo. -/
import Derived.Test.YtckeeadkhopljaaGreatDoorIdX
import Derived.Test.YtckeeadkhopljaaGreatDoorInCs
/- Integers in slices: how they are read, copied and compared. -/
namespace Go.Proofs.YtckeeadkhopljaaGreatDoor
open Go.RowKit Go.PlainAid
set_option linter.unusedVariables false

@[irreducible] def nI (l : List Int) (j : Nat) : Int := l.getD j 0
theorem nI_eq (l : List Int) (j : Nat) : nI l j = l.getD j 0 := by unfold nI; rfl
theorem nI_get (l : List Int) (j : Nat) (h : j < l.length) : l[j]? = some (nI l j) := by
  rw [nI_eq, List.getD, List.getElem?_eq_getElem h]; rfl
theorem nI_of {l : List Int} {j : Nat} {x : Int} (h : l[j]? = some x) : nI l j = x := by rw [nI_eq, List.getD, h]; rfl
theorem nI_ext (l m : List Int) (h : l.length = m.length) (he : ∀ j, j < l.length → nI l j = nI m j) : l = m := by
  apply List.ext_getElem?
  intro j
  by_cases hj : j < l.length
  · rw [nI_get l j hj, nI_get m j (by omega), he j hj]
  · rw [List.getElem?_eq_none (by omega), List.getElem?_eq_none (by omega)]
/-- The value v is a slice of integers that reads as l. -/
structure Ns (w : World) (v : Value) (l : List Int) : Prop where
  len : l.length ≤ 9223372036854775807
  at_ : ∃ a cap, v = .slice a l.length cap ∧ l.length ≤ cap ∧ (0 < l.length → ∃ b o, a = some ⟨b, o, none⟩ ∧ b < w.heap.size ∧ ∀ j, j < l.length → w.cell? ⟨b, o + j, none⟩ = some (.int .i64 (nI l j)))
theorem Ns.form {w : World} {v : Value} {l : List Int} (h : Ns w v l) : ∃ a n cap, v = .slice a n cap := by
  obtain ⟨_, a, cap, e, _⟩ := h
  exact ⟨a, _, cap, e⟩
theorem Ns.later {w w' : World} {v : Value} {l : List Int} (h : Ns w v l) (hb : Below w.heap.size w w') : Ns w' v l := by
  obtain ⟨h1, a, cap, e, hc, h3⟩ := h
  refine ⟨h1, a, cap, e, hc, fun h0 => ?_⟩
  obtain ⟨b, o, ha, hbl, hcl⟩ := h3 h0
  exact ⟨b, o, ha, Nat.lt_of_lt_of_le hbl hb.size, fun j hj => by rw [hb.cell (p := ⟨b, o + j, none⟩) hbl]; exact hcl j hj⟩
theorem Ns.alloc {w : World} {v : Value} {l : List Int} (h : Ns w v l) (o : Obj) : Ns (w.alloc o) v l := h.later ((Below.refl _ _).alloc (Nat.le_refl _) _)
theorem ns_nil (w : World) (a : Option Addr) (cap : Nat) : Ns w (.slice a 0 cap) [] := ⟨by simp, a, cap, rfl, by simp, fun h => by simp at h⟩
/-- The slice v holds l, in a block of its own behind base. -/
def NsOwn (w : World) (base : Nat) (v : Value) (l : List Int) : Prop :=
  ∃ a cap, v = .slice a l.length cap ∧ l.length ≤ cap ∧ l.length ≤ 9223372036854775807 ∧ (0 < l.length → ∃ g o cur, a = some ⟨g, o, none⟩ ∧ (base ≤ g ∧ o + cap ≤ cur.size) ∧ w.heap[g]? = some (.cells cur 3 (0, 0)) ∧ ∀ j, j < l.length → cur[o + j]? = some (.int .i64 (nI l j)))
theorem NsOwn.form {w : World} {base : Nat} {v : Value} {l : List Int} (h : NsOwn w base v l) : ∃ a n cap, v = .slice a n cap := by
  obtain ⟨a, cap, e, _⟩ := h
  exact ⟨a, _, cap, e⟩
theorem NsOwn.mono {w : World} {base base' : Nat} {v : Value} {l : List Int} (h : NsOwn w base v l) (hb : base' ≤ base) : NsOwn w base' v l := by
  obtain ⟨a, cap, e, h1, h2, h3⟩ := h
  exact ⟨a, cap, e, h1, h2, fun h0 => by obtain ⟨g, o, cur, r1, r2, r3⟩ := h3 h0; exact ⟨g, o, cur, r1, ⟨Nat.le_trans hb r2.1, r2.2⟩, r3⟩⟩
theorem NsOwn.ns {w : World} {base : Nat} {v : Value} {l : List Int} (h : NsOwn w base v l) : Ns w v l := by
  obtain ⟨a, cap, e, h1, h2, h3⟩ := h
  refine ⟨h2, a, cap, e, h1, fun h0 => ?_⟩
  obtain ⟨g, o, cur, r1, r2, r3, r4⟩ := h3 h0
  refine ⟨g, o, r1, (Array.getElem?_eq_some_iff.1 r3).1, fun j hj => ?_⟩
  rw [cell_of_row w g _ cur _ (0, 0) r3]
  exact r4 j hj
theorem NsOwn.keepB {w w' : World} {base : Nat} {v : Value} {l : List Int} {row : Option Nat} (h : NsOwn w base v l) (hg : w.grownBy w' row) (hne : 0 < l.length → ∀ k, row = some k → v.ownBlock ≠ some k) : NsOwn w' base v l := by
  obtain ⟨a, cap, e, h1, h2, h3⟩ := h
  refine ⟨a, cap, e, h1, h2, fun h0 => ?_⟩
  obtain ⟨g, o, cur, r1, r2, r3, r4⟩ := h3 h0
  refine ⟨g, o, cur, r1, r2, ?_, r4⟩
  subst e; subst r1
  rw [hg.block g (Array.getElem?_eq_some_iff.1 r3).1 (fun e => hne h0 g e.symm rfl)]
  exact r3
theorem NsOwn.later {w w' : World} {base : Nat} {v : Value} {l : List Int} (h : NsOwn w base v l) (hb : Below w.heap.size w w') : NsOwn w' base v l := h.keepB (grown_of hb none) (fun _ k hk => by cases hk)
theorem nsOwn_nil (w : World) (base : Nat) (a : Option Addr) (cap : Nat) : NsOwn w base (.slice a 0 cap) [] := ⟨a, cap, rfl, by simp, by simp, fun h => by simp at h⟩
theorem NsOwn.kept {w w' : World} {base : Nat} {v : Value} {l : List Int} {row : Option Nat} (h : NsOwn w base v l) (hg : w.grownBy w' row) (hne : ∀ k, row = some k → k < base) : NsOwn w' base v l := by
  obtain ⟨a, cap, e, h1, h2, h3⟩ := h
  refine ⟨a, cap, e, h1, h2, fun h0 => ?_⟩
  obtain ⟨g, o, cur, r1, r2, r3, r4⟩ := h3 h0
  refine ⟨g, o, cur, r1, r2, ?_, r4⟩
  rw [hg.block g (Array.getElem?_eq_some_iff.1 r3).1 (fun e => by have := hne g e.symm; omega)]
  exact r3

/-! ### the laws' measure, copy and comparison -/
set_option maxHeartbeats 400000 in
theorem sz_ns_yes (v : Value) (l : List Int) (r : Int) (w : World) (hv : Ns w v l) (h : (l.length : Int) ≤ r) (hr : r ≤ 1048576) :
    Calls Tryz.prog 55 #[v, .int .i64 r] w fun e w' => e = .returned (.int .i64 (r - l.length)) ∧ Below w.heap.size w w' := by
  obtain ⟨k1, a, ca, rfl, hca, ha⟩ := hv
  generalize l.length = n at *
  have hd : decide (r - (n : Int) < 0) = false := by simp; omega
  clear ha hca
  go_enter Tryz.func55, Tryz.ntmps55
  go_wp2
  go_ret
  exact ⟨rfl, Below.refl _ _⟩
set_option maxHeartbeats 400000 in
theorem sz_ns_no (v : Value) (l : List Int) (r : Int) (w : World) (hv : Ns w v l) (h : r < (l.length : Int)) (h0 : 0 ≤ r) (hr : r ≤ 1048576) :
    Calls Tryz.prog 55 #[v, .int .i64 r] w fun e w' => e = .returned (.int .i64 (-1)) ∧ Below w.heap.size w w' := by
  obtain ⟨k1, a, ca, rfl, hca, ha⟩ := hv
  generalize l.length = n at *
  have hd : decide (r - (n : Int) < 0) = true := by simp; omega
  have hni : (n : Int) ≤ 9223372036854775807 := by omega
  clear ha hca
  go_enter Tryz.func55, Tryz.ntmps55
  go_wp2
  go_ret
  exact ⟨rfl, Below.refl _ _⟩
theorem Tryz.infoInt : (Tryz.prog.info? 3).map (fun i => (i.zero, i.size, i.bytes)) = some (some (.int .i64 0), 1, 8) := by kernel_rfl
theorem make_ns (w : World) (n : Nat) (hb : n ≤ 1048576) :
    ∃ w1 cur, (Instr.makeSlice 57 (.int .i64 (n : Int)) (.int .i64 (n : Int))).run Tryz.prog w = .ok (.slice (some ⟨w.heap.size, 0, none⟩) n n) w1 ∧ w1.heap[w.heap.size]? = some (.cells cur 3 (0, 0)) ∧ cur.size = n ∧ Below w.heap.size w w1 ∧ w.heap.size < w1.heap.size := by
  obtain ⟨i, hi, hz, hs, hby⟩ := info_parts Tryz.infoInt
  have h := run_make (P := Tryz.prog) w 57 3 i _ Tryz.underlying57 hi hz .i64 .i64 n n (by omega) (Int.le_refl _) (by rw [hby]; omega) (by omega)
  simp only [Int.toNat_natCast, hs] at h
  exact ⟨_, _, h, heap_alloc_new w _, by simp [madeCells], (Below.refl _ _).alloc (Nat.le_refl _) _, by simp⟩
set_option maxRecDepth 100000 in
set_option maxHeartbeats 1000000 in
theorem to_ns (v : Value) (l : List Int) (w : World) (hv : Ns w v l) (hl : l.length ≤ 1048576) :
    Calls Tryz.prog 65 #[v] w fun e w' => ∃ u, e = .returned u ∧ NsOwn w' w.heap.size u l ∧ Below w.heap.size w w' ∧ ∀ k, u.ownBlock = some k → w.heap.size ≤ k ∧ k < w'.heap.size := by
  obtain ⟨k1, a, ca, rfl, hca, ha⟩ := hv
  obtain ⟨n, hn⟩ : ∃ n, l.length = n := ⟨_, rfl⟩
  obtain ⟨w1, cur0, hmk, hrow, hcs, hb1, hlt1⟩ := make_ns w n (by omega)
  rw [hn] at k1 hca ha hl ⊢
  have HN := Lib.hid hn
  have HA := Lib.hid ha
  have HR := Lib.hid (And.intro hrow hcs)
  have HB := Lib.hid hb1
  obtain ⟨g, hg⟩ : ∃ g, g = w.heap.size := ⟨_, rfl⟩
  rw [← hg] at hmk HR HB hlt1 ⊢
  have HG := Lib.hid hg
  clear hn ha hca hrow hcs hb1 hg hlt1
  go_enter Tryz.func65, Tryz.ntmps65
  go_wp2
  clear hmk
  go_loopw [4] (fun i wr => ∃ (k : Nat) (cur : Array Value), k ≤ n ∧ i = .int .i64 k ∧ wr.heap[g]? = some (.cells cur 3 (0, 0)) ∧ cur.size = n ∧ (∀ j, j < k → cur[j]? = some (.int .i64 (nI l j))) ∧ Below g w wr) (fun i _ => n - (intOf i).toNat)
  case atStart => exact ⟨0, cur0, by omega, rfl, HR.out.1, HR.out.2, fun j hj => by omega, HB.out⟩
  case round =>
    clear HR HB
    obtain ⟨k, cur, hk, rfl, hrow, hcs, hel, hb⟩ := hrel
    have HROW := Lib.hid hrow
    have HEL := Lib.hid hel
    have HB := Lib.hid hb
    have hgr : g < wr.heap.size := (Array.getElem?_eq_some_iff.1 hrow).1
    clear hel
    by_cases hlt : k < n
    · obtain ⟨y, o, rfl, hy, hcy⟩ := HA.out (by omega)
      have hyg : y < g := by rw [HG.out]; exact hy
      have c1 : wr.cell? ⟨y, o + k, none⟩ = some (.int .i64 (nI l k)) := by rw [hb.cell (p := ⟨y, o + k, none⟩) hyg]; exact hcy k hlt
      have d1 : wr.cell? ⟨g, k, none⟩ = some (cur[k]?.getD undef) := by rw [cell_of_row wr g _ cur _ (0, 0) hrow, Array.getElem?_eq_getElem (by omega)]; rfl
      have f1 := frozen_of_row wr g k _ _ hrow
      have hcs2 : k < cur.size := by omega
      clear hcy hb hrow
      go_wp2
      go_roundw
      case rel =>
        refine ⟨k + 1, cur.setIfInBounds k (.int .i64 (nI l k)), by omega, by go_num, heap_setCell_same wr g k cur _ _ HROW.out, by simpa using hcs, fun j hj => ?_, HB.out.setCell (Nat.le_refl _) _⟩
        rw [Array.getElem?_setIfInBounds]
        by_cases e : k = j
        · subst e; rw [if_pos rfl, if_pos hcs2]
        · rw [if_neg e]; exact HEL.out j (by omega)
      case measure => simp only [intOf]; omega
    · obtain rfl : k = n := by omega
      clear hb hrow
      go_wp2
      go_ret
      exact ⟨_, rfl, ⟨_, k, by rw [HN.out]; rfl, by rw [HN.out]; exact Nat.le_refl _, by rw [HN.out]; omega, fun h0 => ⟨g, 0, cur, rfl, ⟨Nat.le_refl _, by omega⟩, HROW.out, fun j hj => by rw [Nat.zero_add]; exact HEL.out j (by rw [HN.out] at hj; exact hj)⟩⟩, HB.out, fun k hk => by cases hk; exact ⟨Nat.le_refl _, hgr⟩⟩
set_option maxRecDepth 100000 in
set_option maxHeartbeats 1000000 in
theorem eq_ns_same (v u : Value) (l : List Int) (w : World) (hv : Ns w v l) (hu : Ns w u l) :
    Calls Tryz.prog 78 #[v, u] w fun e w' => e = .returned (.bool true) ∧ Below w.heap.size w w' := by
  obtain ⟨h1, a, ca, rfl, hca, ha⟩ := hv
  obtain ⟨k1, b, cb, rfl, hcb, hb⟩ := hu
  generalize hn : l.length = n at h1 ha hca k1 hb hcb
  have HA := Lib.hid ha
  have HB := Lib.hid hb
  clear hn ha hb hca hcb
  go_enter Tryz.func78, Tryz.ntmps78
  go_wp2
  go_loopw [5] (fun i wr => ∃ k : Nat, k ≤ n ∧ i = .int .i64 k ∧ Below w.heap.size w wr) (fun i _ => n - (intOf i).toNat)
  case atStart => exact ⟨0, by omega, rfl, Below.refl _ _⟩
  case round =>
    obtain ⟨k, hk, rfl, hbw⟩ := hrel
    have HBW := Lib.hid hbw
    by_cases hlt : k < n
    · obtain ⟨x, o, rfl, hx, hcx⟩ := HA.out (by omega)
      obtain ⟨y, p, rfl, hy, hcy⟩ := HB.out (by omega)
      have c1 : wr.cell? ⟨x, o + k, none⟩ = some (.int .i64 (nI l k)) := by rw [hbw.cell (p := ⟨x, o + k, none⟩) hx]; exact hcx k hlt
      have d1 : wr.cell? ⟨y, p + k, none⟩ = some (.int .i64 (nI l k)) := by rw [hbw.cell (p := ⟨y, p + k, none⟩) hy]; exact hcy k hlt
      have y1 : (k : Int) < (n : Int) := by omega
      have y0 : (0 : Int) ≤ (k : Int) := by omega
      clear hcx hcy hbw
      go_wp2
      go_quiet (fail)
      go_wp2
      go_roundw
      case rel => exact ⟨k + 1, by omega, by go_num, dn HBW.out _⟩
      case measure => simp only [intOf]; omega
    · obtain rfl : k = n := by omega
      clear hbw
      go_wp2
      go_ret
      exact ⟨rfl, HBW.out⟩
end Go.Proofs.YtckeeadkhopljaaGreatDoor
/- Leads: how slices of them are read. -/
namespace Go.Proofs.YtckeeadkhopljaaGreatDoor
open Go.RowKit Go.PlainAid
set_option linter.unusedVariables false

/-- A Lead, in plain words. -/
structure Ld where
  rep : Int
  slot : Int
  bal : Int
  ph : Int
  seq : Int
  deps : List Ii
  frm : List Int
  same : Bool
abbrev ld0 : Ld := ⟨0, 0, 0, 0, 0, [], [], false⟩
instance : Inhabited Ld := ⟨ld0⟩
@[irreducible] def nthL (l : List Ld) (j : Nat) : Ld := l.getD j ld0
theorem nthL_eq (l : List Ld) (j : Nat) : nthL l j = l.getD j ld0 := by unfold nthL; rfl
theorem nthL_get (l : List Ld) (j : Nat) (h : j < l.length) : l[j]? = some (nthL l j) := by
  rw [nthL_eq, List.getD, List.getElem?_eq_getElem h]; rfl
theorem nthL_of {l : List Ld} {j : Nat} {x : Ld} (h : l[j]? = some x) : nthL l j = x := by rw [nthL_eq, List.getD, h]; rfl
/-- The eight cells of a Lead at o in block b. -/
def LdC (w : World) (b o : Nat) (x : Ld) (d f : Value) : Prop :=
  w.cell? ⟨b, o, none⟩ = some (.int .i64 x.rep) ∧ w.cell? ⟨b, o + 1, none⟩ = some (.int .i64 x.slot) ∧ w.cell? ⟨b, o + 2, none⟩ = some (.int .i64 x.bal) ∧ w.cell? ⟨b, o + 3, none⟩ = some (.int .i64 x.ph) ∧ w.cell? ⟨b, o + 4, none⟩ = some (.int .i64 x.seq) ∧ w.cell? ⟨b, o + 5, none⟩ = some (d) ∧ w.cell? ⟨b, o + 6, none⟩ = some (f) ∧ w.cell? ⟨b, o + 7, none⟩ = some (.bool x.same)
theorem LdC.below {w w' : World} {b o B : Nat} {x : Ld} {d f : Value} (h : LdC w b o x d f) (hb : Below B w w') (hlt : b < B) : LdC w' b o x d f := by
  unfold LdC
  rw [hb.cell (p := ⟨b, o, none⟩) hlt, hb.cell (p := ⟨b, o + 1, none⟩) hlt, hb.cell (p := ⟨b, o + 2, none⟩) hlt, hb.cell (p := ⟨b, o + 3, none⟩) hlt, hb.cell (p := ⟨b, o + 4, none⟩) hlt, hb.cell (p := ⟨b, o + 5, none⟩) hlt, hb.cell (p := ⟨b, o + 6, none⟩) hlt, hb.cell (p := ⟨b, o + 7, none⟩) hlt]
  exact h
theorem Bx.c8L {w : World} {g : Nat} {t : TypeId} {x : Ld} {d f : Value} (h : Bx w g t #[.int .i64 x.rep, .int .i64 x.slot, .int .i64 x.bal, .int .i64 x.ph, .int .i64 x.seq, d, f, .bool x.same]) : w.cell? ⟨g, 0, none⟩ = some (.int .i64 x.rep) ∧ w.cell? ⟨g, 1, none⟩ = some (.int .i64 x.slot) ∧ w.cell? ⟨g, 2, none⟩ = some (.int .i64 x.bal) ∧ w.cell? ⟨g, 3, none⟩ = some (.int .i64 x.ph) ∧ w.cell? ⟨g, 4, none⟩ = some (.int .i64 x.seq) ∧ w.cell? ⟨g, 5, none⟩ = some (d) ∧ w.cell? ⟨g, 6, none⟩ = some (f) ∧ w.cell? ⟨g, 7, none⟩ = some (.bool x.same) :=
  ⟨h.cell 0 _ rfl, h.cell 1 _ rfl, h.cell 2 _ rfl, h.cell 3 _ rfl, h.cell 4 _ rfl, h.cell 5 _ rfl, h.cell 6 _ rfl, h.cell 7 _ rfl⟩
theorem cells8 {w : World} {g : Nat} {t : TypeId} {x0 x1 x2 x3 x4 x5 x6 x7 : Value} (h : Bx w g t #[x0, x1, x2, x3, x4, x5, x6, x7]) : w.cell? ⟨g, 0, none⟩ = some x0 ∧ w.cell? ⟨g, 1, none⟩ = some x1 ∧ w.cell? ⟨g, 2, none⟩ = some x2 ∧ w.cell? ⟨g, 3, none⟩ = some x3 ∧ w.cell? ⟨g, 4, none⟩ = some x4 ∧ w.cell? ⟨g, 5, none⟩ = some x5 ∧ w.cell? ⟨g, 6, none⟩ = some x6 ∧ w.cell? ⟨g, 7, none⟩ = some x7 :=
  ⟨h.cell 0 _ rfl, h.cell 1 _ rfl, h.cell 2 _ rfl, h.cell 3 _ rfl, h.cell 4 _ rfl, h.cell 5 _ rfl, h.cell 6 _ rfl, h.cell 7 _ rfl⟩
theorem froz8 {w : World} {g : Nat} {t : TypeId} {cs : Array Value} (h : Bx w g t cs) : w.frozen? ⟨g, 0, none⟩ = false ∧ w.frozen? ⟨g, 1, none⟩ = false ∧ w.frozen? ⟨g, 2, none⟩ = false ∧ w.frozen? ⟨g, 3, none⟩ = false ∧ w.frozen? ⟨g, 4, none⟩ = false ∧ w.frozen? ⟨g, 5, none⟩ = false ∧ w.frozen? ⟨g, 6, none⟩ = false ∧ w.frozen? ⟨g, 7, none⟩ = false :=
  ⟨h.frozen 0, h.frozen 1, h.frozen 2, h.frozen 3, h.frozen 4, h.frozen 5, h.frozen 6, h.frozen 7⟩
set_option maxHeartbeats 400000 in
theorem load_lead (w : World) (g : Nat) (x0 x1 x2 x3 x4 x5 x6 x7 : Value) (h : w.cell? ⟨g, 0, none⟩ = some x0 ∧ w.cell? ⟨g, 1, none⟩ = some x1 ∧ w.cell? ⟨g, 2, none⟩ = some x2 ∧ w.cell? ⟨g, 3, none⟩ = some x3 ∧ w.cell? ⟨g, 4, none⟩ = some x4 ∧ w.cell? ⟨g, 5, none⟩ = some x5 ∧ w.cell? ⟨g, 6, none⟩ = some x6 ∧ w.cell? ⟨g, 7, none⟩ = some x7) : (loadVar 70 ⟨g, 0, none⟩).run Tryz.prog w = .ok (.agg #[x0, x1, x2, x3, x4, x5, x6, x7]) w := by
  obtain ⟨h0, h1, h2, h3, h4, h5, h6, h7⟩ := h
  go_simp
theorem results_lead {fn : Func} {p : Tmp} (h : fn.results = #[.cell p 70]) (tmps : Array Value) (w : World) (g : Nat) (x0 x1 x2 x3 x4 x5 x6 x7 : Value)
    (hp : tmps.getD p undef = .pointer (some ⟨g, 0, none⟩)) (hc : w.cell? ⟨g, 0, none⟩ = some x0 ∧ w.cell? ⟨g, 1, none⟩ = some x1 ∧ w.cell? ⟨g, 2, none⟩ = some x2 ∧ w.cell? ⟨g, 3, none⟩ = some x3 ∧ w.cell? ⟨g, 4, none⟩ = some x4 ∧ w.cell? ⟨g, 5, none⟩ = some x5 ∧ w.cell? ⟨g, 6, none⟩ = some x6 ∧ w.cell? ⟨g, 7, none⟩ = some x7) : (results fn tmps).run Tryz.prog w = .ok (.agg #[x0, x1, x2, x3, x4, x5, x6, x7]) w := by
  have e : (results fn tmps).run Tryz.prog w = ((asAddr (tmps.getD p undef)).run Tryz.prog w).andThen fun a w₁ => (loadVar 70 a).run Tryz.prog w₁ := by
    simp only [results, h]
    simp [Sem.run_bind, Result.andThen]
  rw [e, hp, asAddr_ptr]
  simp only [Result.andThen]
  exact load_lead w g x0 x1 x2 x3 x4 x5 x6 x7 hc
/-- The parts of a Lead read as they should. -/
def LPts (w : World) (x : Ld) (d f : Value) : Prop := Ids w d x.deps ∧ Ns w f x.frm
theorem LPts.later {w w' : World} {x : Ld} {d f : Value} (h : LPts w x d f) (hb : Below w.heap.size w w') : LPts w' x d f := ⟨h.1.later hb, h.2.later hb⟩
theorem LPts.alloc {w : World} {x : Ld} {d f : Value} (h : LPts w x d f) (o : Obj) : LPts (w.alloc o) x d f := h.later ((Below.refl _ _).alloc (Nat.le_refl _) _)
theorem LPts.form {w : World} {x : Ld} {d f : Value} (h : LPts w x d f) : (∃ a n c, d = .slice a n c) ∧ ∃ a n c, f = .slice a n c := ⟨h.1.form, h.2.form⟩
/-- The value v is a slice of Leads that reads as l. -/
structure Leads (w : World) (v : Value) (l : List Ld) : Prop where
  len : l.length ≤ 9223372036854775807
  at_ : ∃ a cap, v = .slice a l.length cap ∧ l.length ≤ cap ∧ (0 < l.length → ∃ b o, a = some ⟨b, o, none⟩ ∧ b < w.heap.size ∧ ∀ j, j < l.length → ∃ d f, LdC w b (o + j * 8) (nthL l j) d f ∧ LPts w (nthL l j) d f)
theorem Leads.form {w : World} {v : Value} {l : List Ld} (h : Leads w v l) : ∃ a n cap, v = .slice a n cap := by
  obtain ⟨_, a, cap, e, _⟩ := h
  exact ⟨a, _, cap, e⟩
theorem Leads.later {w w' : World} {v : Value} {l : List Ld} (h : Leads w v l) (hb : Below w.heap.size w w') : Leads w' v l := by
  obtain ⟨h1, a, cap, e, hc, h3⟩ := h
  refine ⟨h1, a, cap, e, hc, fun h0 => ?_⟩
  obtain ⟨b, o, ha, hbl, hcl⟩ := h3 h0
  refine ⟨b, o, ha, Nat.lt_of_lt_of_le hbl hb.size, fun j hj => ?_⟩
  obtain ⟨d, f, q1, q2⟩ := hcl j hj
  exact ⟨d, f, q1.below hb hbl, q2.later hb⟩
theorem Leads.alloc {w : World} {v : Value} {l : List Ld} (h : Leads w v l) (o : Obj) : Leads (w.alloc o) v l := h.later ((Below.refl _ _).alloc (Nat.le_refl _) _)
theorem leads_nil (w : World) (a : Option Addr) (cap : Nat) : Leads w (.slice a 0 cap) [] := ⟨by simp, a, cap, rfl, by simp, fun h => by simp at h⟩
end Go.Proofs.YtckeeadkhopljaaGreatDoor
/- The law's measure of Leads, and its copy of one. -/
namespace Go.Proofs.YtckeeadkhopljaaGreatDoor
open Go.RowKit Go.PlainAid
set_option linter.unusedVariables false

/-- The cells of a Lead. -/
abbrev ldA (x : Ld) (d f : Value) : List Value := [.int .i64 x.rep, .int .i64 x.slot, .int .i64 x.bal, .int .i64 x.ph, .int .i64 x.seq, d, f, .bool x.same]
/-- The cells of a Lead lie at o in a row. -/
def LdB (cur : Array Value) (o : Nat) (x : Ld) (d f : Value) : Prop := ∀ i, i < 8 → cur[o + i]? = (ldA x d f)[i]?
theorem LdB.ldC {w : World} {g o : Nat} {t : TypeId} {cur : Array Value} {x : Ld} {d f : Value} (h : LdB cur o x d f) (hg : w.heap[g]? = some (.cells cur t (0, 0))) : LdC w g o x d f := by
  have hc : ∀ i, i < 8 → w.cell? ⟨g, o + i, none⟩ = (ldA x d f)[i]? := fun i hi => by rw [cell_of_row w g _ cur _ (0, 0) hg]; exact h i hi
  exact ⟨hc 0 (by omega), hc 1 (by omega), hc 2 (by omega), hc 3 (by omega), hc 4 (by omega), hc 5 (by omega), hc 6 (by omega), hc 7 (by omega)⟩
/-- The parts of a Lead, owned: their blocks lie in [lo, hi). -/
structure LPO (w : World) (lo hi : Nat) (x : Ld) (d f : Value) : Prop where
  ids : IdOwn w lo d x.deps
  ns : NsOwn w lo f x.frm
  bd : ∀ k, d.ownBlock = some k → lo ≤ k ∧ k < hi
  bf : ∀ k, f.ownBlock = some k → lo ≤ k ∧ k < hi
theorem LPO.pts {w : World} {lo hi : Nat} {x : Ld} {d f : Value} (h : LPO w lo hi x d f) : LPts w x d f := ⟨h.ids.ids, h.ns.ns⟩
theorem LPO.later {w w' : World} {lo hi : Nat} {x : Ld} {d f : Value} (h : LPO w lo hi x d f) (hb : Below w.heap.size w w') : LPO w' lo hi x d f := ⟨h.ids.later hb, h.ns.later hb, h.bd, h.bf⟩
theorem LPO.mono {w : World} {lo hi lo' hi' : Nat} {x : Ld} {d f : Value} (h : LPO w lo hi x d f) (h1 : lo' ≤ lo) (h2 : hi ≤ hi') : LPO w lo' hi' x d f :=
  ⟨h.ids.mono h1, h.ns.mono h1, fun k hk => by have := h.bd k hk; omega, fun k hk => by have := h.bf k hk; omega⟩
theorem LPO.kept {w w' : World} {lo hi : Nat} {x : Ld} {d f : Value} {row : Option Nat} (h : LPO w lo hi x d f) (hg : w.grownBy w' row) (h1 : ∀ k, row = some k → d.ownBlock ≠ some k ∧ f.ownBlock ≠ some k) : LPO w' lo hi x d f :=
  ⟨h.ids.keepB hg (fun _ k hk => (h1 k hk).1), h.ns.keepB hg (fun _ k hk => (h1 k hk).2), h.bd, h.bf⟩
/-- The slice v holds l, and all of it is the call's own, in blocks of [lo, hi). -/
def LdOwn (w : World) (lo hi : Nat) (v : Value) (l : List Ld) : Prop :=
  ∃ a cap, v = .slice a l.length cap ∧ l.length ≤ cap ∧ l.length ≤ 9223372036854775807 ∧ (0 < l.length → ∃ g o cur, a = some ⟨g, o, none⟩ ∧ (lo ≤ g ∧ g < hi ∧ o + cap * 8 ≤ cur.size) ∧ w.heap[g]? = some (.cells cur 70 (0, 0)) ∧ ∀ j, j < l.length → ∃ d f, LdB cur (o + j * 8) (nthL l j) d f ∧ LPO w lo hi (nthL l j) d f ∧ d.ownBlock ≠ some g ∧ f.ownBlock ≠ some g)
theorem LdOwn.form {w : World} {lo hi : Nat} {v : Value} {l : List Ld} (h : LdOwn w lo hi v l) : ∃ a n cap, v = .slice a n cap := by
  obtain ⟨a, cap, e, _⟩ := h
  exact ⟨a, _, cap, e⟩
theorem LdOwn.leads {w : World} {lo hi : Nat} {v : Value} {l : List Ld} (h : LdOwn w lo hi v l) : Leads w v l := by
  obtain ⟨a, cap, e, h1, h2, h3⟩ := h
  refine ⟨h2, a, cap, e, h1, fun h0 => ?_⟩
  obtain ⟨g, o, cur, r1, r2, r3, r4⟩ := h3 h0
  refine ⟨g, o, r1, (Array.getElem?_eq_some_iff.1 r3).1, fun j hj => ?_⟩
  obtain ⟨d, f, q1, q2, _⟩ := r4 j hj
  exact ⟨d, f, q1.ldC r3, q2.pts⟩
theorem LdOwn.later {w w' : World} {lo hi : Nat} {v : Value} {l : List Ld} (h : LdOwn w lo hi v l) (hb : Below w.heap.size w w') : LdOwn w' lo hi v l := by
  obtain ⟨a, cap, e, h1, h2, h3⟩ := h
  refine ⟨a, cap, e, h1, h2, fun h0 => ?_⟩
  obtain ⟨g, o, cur, r1, r2, r3, r4⟩ := h3 h0
  refine ⟨g, o, cur, r1, r2, (hb.block g (Array.getElem?_eq_some_iff.1 r3).1).trans r3, fun j hj => ?_⟩
  obtain ⟨u, d, q1, q2, q3⟩ := r4 j hj
  exact ⟨u, d, q1, q2.later hb, q3⟩
theorem ldOwn_nil (w : World) (lo hi : Nat) (a : Option Addr) (cap : Nat) : LdOwn w lo hi (.slice a 0 cap) [] := ⟨a, cap, rfl, by simp, by simp, fun h => by simp at h⟩
set_option maxRecDepth 100000 in
set_option maxHeartbeats 1600000 in
theorem to_lead (x : Ld) (d f : Value) (w : World) (h : LPts w x d f) (h1 : x.deps.length ≤ 1048576) (h2 : x.frm.length ≤ 1048576) :
    Calls Tryz.prog 34 #[.agg #[.int .i64 x.rep, .int .i64 x.slot, .int .i64 x.bal, .int .i64 x.ph, .int .i64 x.seq, d, f, .bool x.same]] w fun e w' => (∃ a n c a' n' c', e = .returned (.agg #[.int .i64 x.rep, .int .i64 x.slot, .int .i64 x.bal, .int .i64 x.ph, .int .i64 x.seq, .slice a n c, .slice a' n' c', .bool x.same]) ∧ LPO w' w.heap.size w'.heap.size x (.slice a n c) (.slice a' n' c')) ∧ Below w.heap.size w w' := by
  obtain ⟨⟨a1, n1, c1, rfl⟩, a2, n2, c2, rfl⟩ := h.form
  have PH := Lib.hid h
  have X := Lib.hid (((Bx.new w 59 #[.int .i64 x.rep, .int .i64 x.slot, .int .i64 x.bal, .int .i64 x.ph, .int .i64 x.seq, .slice a1 n1 c1, .slice a2 n2 c2, .bool x.same] _ rfl).alloc (.cells #[.int .i64 0, .int .i64 0, .int .i64 0, .int .i64 0, .int .i64 0, .slice none 0 0, .slice none 0 0, .bool false] 70)).alloc (.cells #[.int .i64 0, .int .i64 0, .int .i64 0, .int .i64 0, .int .i64 0, .slice none 0 0, .slice none 0 0, .bool false] 70))
  have Y := Lib.hid ((Bx.new (w.alloc (.cells #[.int .i64 x.rep, .int .i64 x.slot, .int .i64 x.bal, .int .i64 x.ph, .int .i64 x.seq, .slice a1 n1 c1, .slice a2 n2 c2, .bool x.same] 59)) 70 #[.int .i64 0, .int .i64 0, .int .i64 0, .int .i64 0, .int .i64 0, .slice none 0 0, .slice none 0 0, .bool false] (w.heap.size + 1) (by simp)).alloc (.cells #[.int .i64 0, .int .i64 0, .int .i64 0, .int .i64 0, .int .i64 0, .slice none 0 0, .slice none 0 0, .bool false] 70))
  have V := Lib.hid (Bx.new ((w.alloc (.cells #[.int .i64 x.rep, .int .i64 x.slot, .int .i64 x.bal, .int .i64 x.ph, .int .i64 x.seq, .slice a1 n1 c1, .slice a2 n2 c2, .bool x.same] 59)).alloc (.cells #[.int .i64 0, .int .i64 0, .int .i64 0, .int .i64 0, .int .i64 0, .slice none 0 0, .slice none 0 0, .bool false] 70)) 70 #[.int .i64 0, .int .i64 0, .int .i64 0, .int .i64 0, .int .i64 0, .slice none 0 0, .slice none 0 0, .bool false] (w.heap.size + 1 + 1) (by simp))
  have A := Lib.hid ((((Af.refl w).alloc (.cells #[.int .i64 x.rep, .int .i64 x.slot, .int .i64 x.bal, .int .i64 x.ph, .int .i64 x.seq, .slice a1 n1 c1, .slice a2 n2 c2, .bool x.same] 59)).alloc (.cells #[.int .i64 0, .int .i64 0, .int .i64 0, .int .i64 0, .int .i64 0, .slice none 0 0, .slice none 0 0, .bool false] 70)).alloc (.cells #[.int .i64 0, .int .i64 0, .int .i64 0, .int .i64 0, .int .i64 0, .slice none 0 0, .slice none 0 0, .bool false] 70))
  clear h
  go_enter Tryz.func34, Tryz.ntmps34
  go_wp2_with fail
  refine (to_id x.rep x.slot _).mono ?_
  rintro e w1 ⟨rfl, b1⟩
  have X1 := Lib.hid (X.out.after b1)
  have Y1 := Lib.hid (Y.out.after b1)
  have V1 := Lib.hid (V.out.after b1)
  have A1 := Lib.hid (A.out.after b1)
  clear b1 X Y V A
  obtain ⟨x0, x1, x2, x3, x4, x5, x6, x7⟩ := X1.out.c8L
  obtain ⟨v0, v1, v2, v3, v4, v5, v6, v7⟩ := cells8 V1.out
  obtain ⟨f0, f1, f2, f3, f4, f5, f6, f7⟩ := froz8 V1.out
  have lv := V1.out.lt
  go_wp2_with fail
  clear x0 x1 x2 x3 x4 x5 x6 x7 v0 v1 v2 v3 v4 v5 v6 v7 f0 f1 f2 f3 f4 f5 f6 f7 lv
  have A1s := Lib.hid (((((A1.out.set (p := ⟨w.heap.size + 1 + 1, 0, none⟩) (by simp <;> omega) (.int .i64 x.rep)).set (p := ⟨w.heap.size + 1 + 1, 1, none⟩) (by simp <;> omega) (.int .i64 x.slot)).set (p := ⟨w.heap.size + 1 + 1, 2, none⟩) (by simp <;> omega) (.int .i64 x.bal)).set (p := ⟨w.heap.size + 1 + 1, 3, none⟩) (by simp <;> omega) (.int .i64 x.ph)).set (p := ⟨w.heap.size + 1 + 1, 4, none⟩) (by simp <;> omega) (.int .i64 x.seq))
  refine (to_idL _ x.deps _ (PH.out.later A1s.out).1 h1).mono ?_
  rintro e w3 ⟨ud, rfl, o3, b3, ob3⟩
  have X3 := Lib.hid ((((((X1.out.set_other ⟨w.heap.size + 1 + 1, 0, none⟩ _ (by simp <;> omega)).set_other ⟨w.heap.size + 1 + 1, 1, none⟩ _ (by simp <;> omega)).set_other ⟨w.heap.size + 1 + 1, 2, none⟩ _ (by simp <;> omega)).set_other ⟨w.heap.size + 1 + 1, 3, none⟩ _ (by simp <;> omega)).set_other ⟨w.heap.size + 1 + 1, 4, none⟩ _ (by simp <;> omega)).after b3)
  have Y3 := Lib.hid ((((((Y1.out.set_other ⟨w.heap.size + 1 + 1, 0, none⟩ _ (by simp <;> omega)).set_other ⟨w.heap.size + 1 + 1, 1, none⟩ _ (by simp <;> omega)).set_other ⟨w.heap.size + 1 + 1, 2, none⟩ _ (by simp <;> omega)).set_other ⟨w.heap.size + 1 + 1, 3, none⟩ _ (by simp <;> omega)).set_other ⟨w.heap.size + 1 + 1, 4, none⟩ _ (by simp <;> omega)).after b3)
  have V3 := Lib.hid (show Bx w3 (w.heap.size + 1 + 1) 70 #[.int .i64 x.rep, .int .i64 x.slot, .int .i64 x.bal, .int .i64 x.ph, .int .i64 x.seq, .slice none 0 0, .slice none 0 0, .bool false] from (((((V1.out.set 0 (.int .i64 x.rep)).set 1 (.int .i64 x.slot)).set 2 (.int .i64 x.bal)).set 3 (.int .i64 x.ph)).set 4 (.int .i64 x.seq)).after b3)
  have A3 := Lib.hid (A1s.out.after b3)
  have hz1 : w.heap.size + 1 + 1 < w1.heap.size := by have := V1.out.lt; omega
  simp only [World.size_setCell] at o3 ob3
  obtain ⟨a3, n3, c3, rfl⟩ := o3.form
  have O3 := Lib.hid o3
  have OB3 := Lib.hid ob3
  have hz3 : w1.heap.size ≤ w3.heap.size := by have := b3.size; simp only [World.size_setCell] at this; exact this
  clear b3 o3 ob3 X1 Y1 V1 A1 A1s
  obtain ⟨x0, x1, x2, x3, x4, x5, x6, x7⟩ := X3.out.c8L
  obtain ⟨v0, v1, v2, v3, v4, v5, v6, v7⟩ := cells8 V3.out
  obtain ⟨f0, f1, f2, f3, f4, f5, f6, f7⟩ := froz8 V3.out
  have lv := V3.out.lt
  go_wp2_with fail
  clear x0 x1 x2 x3 x4 x5 x6 x7 v0 v1 v2 v3 v4 v5 v6 v7 f0 f1 f2 f3 f4 f5 f6 f7 lv
  have A3s := Lib.hid (A3.out.set (p := ⟨w.heap.size + 1 + 1, 5, none⟩) (by simp <;> omega) (.slice a3 n3 c3))
  refine (to_ns _ x.frm _ (PH.out.later A3s.out).2 h2).mono ?_
  rintro e w4 ⟨uf, rfl, o4, b4, ob4⟩
  have Y4 := Lib.hid ((Y3.out.set_other ⟨w.heap.size + 1 + 1, 5, none⟩ _ (by simp <;> omega)).after b4)
  have X4 := Lib.hid ((X3.out.set_other ⟨w.heap.size + 1 + 1, 5, none⟩ _ (by simp <;> omega)).after b4)
  have V4 := Lib.hid (show Bx w4 (w.heap.size + 1 + 1) 70 #[.int .i64 x.rep, .int .i64 x.slot, .int .i64 x.bal, .int .i64 x.ph, .int .i64 x.seq, .slice a3 n3 c3, .slice none 0 0, .bool false] from (V3.out.set 5 (.slice a3 n3 c3)).after b4)
  have A4 := Lib.hid (A3s.out.after b4)
  have O3b := Lib.hid ((O3.out.kept (grownBy_put w3 (w.heap.size + 1 + 1) 5 (.slice a3 n3 c3)) (fun k hk => by cases hk; omega)).later b4)
  simp only [World.size_setCell] at o4 ob4
  obtain ⟨a4, n4, c4, rfl⟩ := o4.form
  have O4 := Lib.hid o4
  have OB4 := Lib.hid ob4
  have hz4 : w3.heap.size ≤ w4.heap.size := by have := b4.size; simp only [World.size_setCell] at this; exact this
  clear b4 o4 ob4 X3 Y3 V3 A3 A3s O3
  obtain ⟨x0, x1, x2, x3, x4, x5, x6, x7⟩ := X4.out.c8L
  obtain ⟨v0, v1, v2, v3, v4, v5, v6, v7⟩ := cells8 V4.out
  obtain ⟨f0, f1, f2, f3, f4, f5, f6, f7⟩ := froz8 V4.out
  obtain ⟨y0, y1, y2, y3, y4, y5, y6, y7⟩ := cells8 Y4.out
  obtain ⟨q0, q1, q2, q3, q4, q5, q6, q7⟩ := froz8 Y4.out
  have lv := V4.out.lt
  go_wp2
  have G3 := Lib.hid (setL_grown (w.heap.size + 1 + 1) [.slice a4 n4 c4, .bool x.same] w4 6)
  have G4 := Lib.hid (setL_grown (w.heap.size + 1) (ldA x (.slice a3 n3 c3) (.slice a4 n4 c4)) (setL w4 (w.heap.size + 1 + 1) 6 [.slice a4 n4 c4, .bool x.same]) 0)
  have F4 := Lib.hid (show Bx (setL (setL w4 (w.heap.size + 1 + 1) 6 [.slice a4 n4 c4, .bool x.same]) (w.heap.size + 1) 0 (ldA x (.slice a3 n3 c3) (.slice a4 n4 c4))) (w.heap.size + 1) 70 #[.int .i64 x.rep, .int .i64 x.slot, .int .i64 x.bal, .int .i64 x.ph, .int .i64 x.seq, .slice a3 n3 c3, .slice a4 n4 c4, .bool x.same] by have := setL_heap (ldA x (.slice a3 n3 c3) (.slice a4 n4 c4)) (setL w4 (w.heap.size + 1 + 1) 6 [.slice a4 n4 c4, .bool x.same]) #[.int .i64 0, .int .i64 0, .int .i64 0, .int .i64 0, .int .i64 0, .slice none 0 0, .slice none 0 0, .bool false] 0 (Y4.out.keep G3.out (by simp <;> omega)); rw [updL_eq (ldA x (.slice a3 n3 c3) (.slice a4 n4 c4)) #[.int .i64 0, .int .i64 0, .int .i64 0, .int .i64 0, .int .i64 0, .slice none 0 0, .slice none 0 0, .bool false] 0 (show 0 + 8 ≤ 8 by omega)] at this; exact this)
  have I5 := Lib.hid ((O3b.out.kept G3.out (fun k hk => by cases hk; omega)).kept G4.out (fun k hk => by cases hk; omega))
  have N5 := Lib.hid ((O4.out.kept G3.out (fun k hk => by cases hk; omega)).kept G4.out (fun k hk => by cases hk; omega))
  have A5 := Lib.hid ((A4.out.grow G3.out (fun k hk => by cases hk; omega)).grow G4.out (fun k hk => by cases hk; omega))
  have Z5 := Lib.hid (show (setL (setL w4 (w.heap.size + 1 + 1) 6 [.slice a4 n4 c4, .bool x.same]) (w.heap.size + 1) 0 (ldA x (.slice a3 n3 c3) (.slice a4 n4 c4))).heap.size = w4.heap.size by rw [setL_size, setL_size])
  have BD5 := Lib.hid (fun k (hk : Value.ownBlock (.slice a3 n3 c3) = some k) => (show w.heap.size ≤ k ∧ k < (setL (setL w4 (w.heap.size + 1 + 1) 6 [.slice a4 n4 c4, .bool x.same]) (w.heap.size + 1) 0 (ldA x (.slice a3 n3 c3) (.slice a4 n4 c4))).heap.size by have h9 := OB3.out k hk; rw [Z5.out]; omega))
  have BF5 := Lib.hid (fun k (hk : Value.ownBlock (.slice a4 n4 c4) = some k) => (show w.heap.size ≤ k ∧ k < (setL (setL w4 (w.heap.size + 1 + 1) 6 [.slice a4 n4 c4, .bool x.same]) (w.heap.size + 1) 0 (ldA x (.slice a3 n3 c3) (.slice a4 n4 c4))).heap.size by have h9 := OB4.out k hk; rw [Z5.out]; omega))
  clear x0 x1 x2 x3 x4 x5 x6 x7 v0 v1 v2 v3 v4 v5 v6 v7 f0 f1 f2 f3 f4 f5 f6 f7 y0 y1 y2 y3 y4 y5 y6 y7 q0 q1 q2 q3 q4 q5 q6 q7
  exact bodyPost_ret (results_lead Tryz.results34 _ _ (w.heap.size + 1) _ _ _ _ _ _ _ _ rfl (cells8 F4.out)) rfl ⟨⟨_, _, _, _, _, _, rfl, ⟨I5.out.mono (by omega), N5.out.mono (by omega), BD5.out, BF5.out⟩⟩, A5.out⟩

/-! ### the measure -/
def SzLd (x : Ld) (left : Int) (e : Ending) : Prop := e = .returned (.int .i64 (-1)) ∨ ∃ r : Int, e = .returned (.int .i64 r) ∧ 0 ≤ r ∧ r ≤ left ∧ (x.deps.length : Int) ≤ left ∧ (x.frm.length : Int) ≤ left
set_option maxRecDepth 100000 in
set_option maxHeartbeats 2000000 in
theorem sz_lead (x : Ld) (d f : Value) (left : Int) (w : World) (h : LPts w x d f) (h0 : 0 ≤ left) (h1 : left ≤ 1048576) :
    Calls Tryz.prog 26 #[.agg #[.int .i64 x.rep, .int .i64 x.slot, .int .i64 x.bal, .int .i64 x.ph, .int .i64 x.seq, d, f, .bool x.same], .int .i64 left] w fun e w' => SzLd x left e ∧ Below w.heap.size w w' := by
  obtain ⟨⟨a1, n1, c1, rfl⟩, a2, n2, c2, rfl⟩ := h.form
  have X := Lib.hid (Bx.new w 59 #[.int .i64 x.rep, .int .i64 x.slot, .int .i64 x.bal, .int .i64 x.ph, .int .i64 x.seq, .slice a1 n1 c1, .slice a2 n2 c2, .bool x.same] _ rfl)
  have P := Lib.hid (h.alloc (.cells #[.int .i64 x.rep, .int .i64 x.slot, .int .i64 x.bal, .int .i64 x.ph, .int .i64 x.seq, .slice a1 n1 c1, .slice a2 n2 c2, .bool x.same] 59))
  have A := Lib.hid ((Af.refl w).alloc (.cells #[.int .i64 x.rep, .int .i64 x.slot, .int .i64 x.bal, .int .i64 x.ph, .int .i64 x.seq, .slice a1 n1 c1, .slice a2 n2 c2, .bool x.same] 59))
  clear h
  go_enter Tryz.func26, Tryz.ntmps26
  go_wp2_with fail
  by_cases hf : (x.deps.length : Int) ≤ left
  case neg =>
    refine (sz_idL_no _ x.deps left _ P.out.1 (by omega) h0 (by omega)).mono ?_
    rintro e w1 ⟨rfl, b1⟩
    have A1 := Lib.hid (A.out.after b1)
    clear b1
    go_wp2
    go_ret
    exact ⟨.inl rfl, A1.out⟩
  refine (sz_idL_yes _ x.deps left _ P.out.1 hf (by omega)).mono ?_
  rintro e w1 ⟨rfl, b1⟩
  have X1 := Lib.hid (X.out.after b1)
  have P1 := Lib.hid (P.out.later b1)
  have A1 := Lib.hid (A.out.after b1)
  obtain ⟨r, hr⟩ : ∃ r : Int, left - (x.deps.length : Int) = r := ⟨_, rfl⟩
  rw [hr]
  have r0 : 0 ≤ r := by omega
  have r1 : r ≤ left := by omega
  have r2 : (x.deps.length : Int) ≤ left := hf
  have hd : decide (r < 0) = false := decide_eq_false (by omega)
  clear b1 X P A hr hf
  obtain ⟨x0, x1, x2, x3, x4, x5, x6, x7⟩ := X1.out.c8L
  go_wp2_with fail
  clear x0 x1 x2 x3 x4 x5 x6 x7
  by_cases hf : (x.frm.length : Int) ≤ r
  · refine (sz_ns_yes _ x.frm r _ P1.out.2 hf (by omega)).mono ?_
    rintro e w2 ⟨rfl, b2⟩
    have A2 := Lib.hid (A1.out.after b2)
    obtain ⟨q, hq⟩ : ∃ q : Int, r - (x.frm.length : Int) = q := ⟨_, rfl⟩
    rw [hq]
    have hd2 : decide (q < 0) = false := decide_eq_false (by omega)
    have hq0 : 0 ≤ q := by omega
    have hq1 : q ≤ left := by omega
    have hq2 : (x.frm.length : Int) ≤ left := by omega
    clear b2 hq hd X1 P1 A1
    go_wp2
    go_ret
    exact ⟨.inr ⟨q, rfl, hq0, hq1, r2, hq2⟩, A2.out⟩
  · refine (sz_ns_no _ x.frm r _ P1.out.2 (by omega) r0 (by omega)).mono ?_
    rintro e w2 ⟨rfl, b2⟩
    have A2 := Lib.hid (A1.out.after b2)
    clear b2 hd X1 P1 A1
    go_wp2
    go_ret
    exact ⟨.inl rfl, A2.out⟩
def SmL (l : List Ld) : Prop := l.length ≤ 1048576 ∧ ∀ j, j < l.length → (nthL l j).deps.length ≤ 1048576 ∧ (nthL l j).frm.length ≤ 1048576
def SzLdL (l : List Ld) (left : Int) (e : Ending) : Prop := e = .returned (.int .i64 (-1)) ∨ ∃ r : Int, e = .returned (.int .i64 r) ∧ 0 ≤ r ∧ r ≤ left ∧ SmL l
set_option maxRecDepth 100000 in
set_option maxHeartbeats 2000000 in
theorem sz_leads (v : Value) (l : List Ld) (left : Int) (w : World) (hv : Leads w v l) (h0 : 0 ≤ left) (hl1 : left ≤ 1048576) :
    Calls Tryz.prog 12 #[v, .int .i64 left] w fun e w' => SzLdL l left e ∧ Below w.heap.size w w' := by
  obtain ⟨k1, a, ca, rfl, hca, ha⟩ := hv
  obtain ⟨n, hn⟩ : ∃ n, l.length = n := ⟨_, rfl⟩
  rw [hn] at k1 hca ha ⊢
  have HN := Lib.hid hn
  have HA := Lib.hid ha
  clear hn ha hca
  by_cases hbig : left < n
  · have hd : decide (left - (n : Int) < 0) = true := by simp; omega
    have hni : (n : Int) ≤ 9223372036854775807 := by omega
    go_enter Tryz.func12, Tryz.ntmps12
    go_wp2
    go_ret
    exact ⟨.inl rfl, Below.refl _ _⟩
  · have hd : decide (left - (n : Int) < 0) = false := by simp; omega
    have hni : (n : Int) ≤ left := by omega
    have hn1 : n ≤ 1048576 := by omega
    go_enter Tryz.func12, Tryz.ntmps12
    go_wp2
    go_loopw [1, 5] (fun r i wr => ∃ (k : Nat) (q : Int), k ≤ n ∧ i = .int .i64 k ∧ r = .int .i64 q ∧ 0 ≤ q ∧ q ≤ left ∧ (∀ j, j < k → (nthL l j).deps.length ≤ 1048576 ∧ (nthL l j).frm.length ≤ 1048576) ∧ Below w.heap.size w wr) (fun _ i _ => n - (intOf i).toNat)
    case atStart => exact ⟨0, _, by omega, rfl, rfl, by omega, by omega, fun j hj => by omega, Below.refl _ _⟩
    case round =>
      obtain ⟨k, q, hk, rfl, rfl, hq0, hq1, he, hb⟩ := hrel
      have HE := Lib.hid he
      have HB := Lib.hid hb
      clear he hb hd
      by_cases hlt : k < n
      · obtain ⟨y, o, rfl, hy, hcy⟩ := HA.out (by omega)
        obtain ⟨d, f, cc, pp⟩ := hcy k hlt
        obtain ⟨c0, c1, c2, c3, c4, c5, c6, c7⟩ := cc.below HB.out hy
        have P := Lib.hid (pp.later HB.out)
        clear hcy cc pp
        go_wp2_with fail
        clear c0 c1 c2 c3 c4 c5 c6 c7
        refine (sz_lead (nthL l k) d f q _ P.out hq0 (by omega)).mono ?_
        rintro e w2 ⟨(rfl | ⟨r, rfl, r0, r1, r2, r3⟩), hb2⟩
        · have HB2 := Lib.hid (HB.out.trans (hb2.mono HB.out.size))
          clear hb2
          go_wp2
          go_ret
          exact ⟨.inl rfl, HB2.out⟩
        · have HB2 := Lib.hid (HB.out.trans (hb2.mono HB.out.size))
          have hd2 : decide (r < 0) = false := by simp; omega
          have HQ := Lib.hid (show (nthL l k).deps.length ≤ 1048576 ∧ (nthL l k).frm.length ≤ 1048576 by omega)
          have hr1 : r ≤ left := by omega
          clear hb2 r1 r2 r3
          go_wp2
          go_roundw
          case rel =>
            refine ⟨k + 1, r, by omega, by go_num, rfl, r0, hr1, fun j hj => ?_, HB2.out⟩
            by_cases e : j = k
            · subst e; exact HQ.out
            · exact HE.out j (by omega)
          case measure => simp only [intOf]; omega
      · obtain rfl : k = n := by omega
        go_wp2
        go_ret
        exact ⟨.inr ⟨q, rfl, hq0, hq1, by rw [HN.out]; omega, fun j hj => HE.out j (by rw [HN.out] at hj; exact hj)⟩, HB.out⟩
end Go.Proofs.YtckeeadkhopljaaGreatDoor
