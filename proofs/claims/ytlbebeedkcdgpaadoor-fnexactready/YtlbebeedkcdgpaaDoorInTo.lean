/- The law's measure of instances, and its copy of them. -/
import Derived.Test.YtlbebeedkcdgpaaDoorInE
import Derived.Test.YtlbebeedkcdgpaaDoorStrG
namespace Go.Proofs.YtlbebeedkcdgpaaDoor
open Go.RowKit Go.PlainAid
set_option linter.unusedVariables false

/-! ### cells that are written in a row -/
def setL (w : World) (g off : Nat) : List Value → World
  | [] => w
  | v :: vs => setL (w.setCell ⟨g, off, none⟩ v) g (off + 1) vs
def updL (cur : Array Value) (off : Nat) : List Value → Array Value
  | [] => cur
  | v :: vs => updL (cur.setIfInBounds off v) (off + 1) vs
theorem setL_heap {g : Nat} {t : TypeId} : ∀ (vs : List Value) (w : World) (cur : Array Value) (off : Nat), w.heap[g]? = some (.cells cur t (0, 0)) → (setL w g off vs).heap[g]? = some (.cells (updL cur off vs) t (0, 0))
  | [], _, _, _, h => h
  | v :: vs, w, cur, off, h => setL_heap vs _ _ _ (heap_setCell_same w g off cur _ v h)
theorem setL_grown (g : Nat) : ∀ (vs : List Value) (w : World) (off : Nat), w.grownBy (setL w g off vs) (some g)
  | [], w, _ => World.grownBy.refl _ _
  | v :: vs, w, off => (grownBy_put w g off v).trans (setL_grown g vs _ _)
theorem setL_size (g : Nat) : ∀ (vs : List Value) (w : World) (off : Nat), (setL w g off vs).heap.size = w.heap.size
  | [], w, _ => rfl
  | v :: vs, w, off => by rw [setL, setL_size g vs]; simp
theorem updL_size : ∀ (vs : List Value) (cur : Array Value) (off : Nat), (updL cur off vs).size = cur.size
  | [], _, _ => rfl
  | v :: vs, cur, off => by rw [updL, updL_size vs]; simp
theorem updL_get : ∀ (vs : List Value) (cur : Array Value) (off i : Nat), off + vs.length ≤ cur.size → (updL cur off vs)[i]? = if off ≤ i ∧ i < off + vs.length then vs[i - off]? else cur[i]?
  | [], cur, off, i, _ => by rw [updL, if_neg (by simp only [List.length_nil]; omega)]
  | v :: vs, cur, off, i, h => by
    simp only [List.length_cons] at h
    rw [updL, updL_get vs _ _ i (by rw [Array.size_setIfInBounds]; omega)]
    by_cases e : i = off
    · subst e
      rw [if_neg (by omega), if_pos (by simp only [List.length_cons]; omega), Array.getElem?_setIfInBounds, if_pos rfl, if_pos (by omega)]
      simp
    · by_cases e2 : off + 1 ≤ i ∧ i < off + 1 + vs.length
      · rw [if_pos e2, if_pos (by simp only [List.length_cons]; omega), show i - off = (i - (off + 1)) + 1 by omega, List.getElem?_cons_succ]
      · rw [if_neg e2, if_neg (by simp only [List.length_cons]; omega), Array.getElem?_setIfInBounds, if_neg (fun h => e h.symm)]
theorem row16 {w : World} {g off : Nat} {t : TypeId} {cur : Array Value} (h : w.heap[g]? = some (.cells cur t (0, 0))) (hs : off + 16 ≤ cur.size) :
    ∃ z0 z1 z2 z3 z4 z5 z6 z7 z8 z9 z10 z11 z12 z13 z14 z15 : Value, (w.cell? ⟨g, off, none⟩ = some z0 ∧ w.cell? ⟨g, off + 1, none⟩ = some z1 ∧ w.cell? ⟨g, off + 2, none⟩ = some z2 ∧ w.cell? ⟨g, off + 3, none⟩ = some z3 ∧ w.cell? ⟨g, off + 4, none⟩ = some z4 ∧ w.cell? ⟨g, off + 5, none⟩ = some z5 ∧ w.cell? ⟨g, off + 6, none⟩ = some z6 ∧ w.cell? ⟨g, off + 7, none⟩ = some z7 ∧ w.cell? ⟨g, off + 8, none⟩ = some z8 ∧ w.cell? ⟨g, off + 9, none⟩ = some z9 ∧ w.cell? ⟨g, off + 10, none⟩ = some z10 ∧ w.cell? ⟨g, off + 11, none⟩ = some z11 ∧ w.cell? ⟨g, off + 12, none⟩ = some z12 ∧ w.cell? ⟨g, off + 13, none⟩ = some z13 ∧ w.cell? ⟨g, off + 14, none⟩ = some z14 ∧ w.cell? ⟨g, off + 15, none⟩ = some z15) ∧ w.frozen? ⟨g, off, none⟩ = false ∧ w.frozen? ⟨g, off + 1, none⟩ = false ∧ w.frozen? ⟨g, off + 2, none⟩ = false ∧ w.frozen? ⟨g, off + 3, none⟩ = false ∧ w.frozen? ⟨g, off + 4, none⟩ = false ∧ w.frozen? ⟨g, off + 5, none⟩ = false ∧ w.frozen? ⟨g, off + 6, none⟩ = false ∧ w.frozen? ⟨g, off + 7, none⟩ = false ∧ w.frozen? ⟨g, off + 8, none⟩ = false ∧ w.frozen? ⟨g, off + 9, none⟩ = false ∧ w.frozen? ⟨g, off + 10, none⟩ = false ∧ w.frozen? ⟨g, off + 11, none⟩ = false ∧ w.frozen? ⟨g, off + 12, none⟩ = false ∧ w.frozen? ⟨g, off + 13, none⟩ = false ∧ w.frozen? ⟨g, off + 14, none⟩ = false ∧ w.frozen? ⟨g, off + 15, none⟩ = false := by
  have hc : ∀ i, i < 16 → w.cell? ⟨g, off + i, none⟩ = some (cur[off + i]?.getD undef) := fun i hi => by
    rw [cell_of_row w g _ cur _ (0, 0) h, Array.getElem?_eq_getElem (by omega)]; rfl
  have hf : ∀ i, w.frozen? ⟨g, i, none⟩ = false := fun i => frozen_of_row w g i _ _ h
  exact ⟨_, _, _, _, _, _, _, _, _, _, _, _, _, _, _, _, ⟨hc 0 (by omega), hc 1 (by omega), hc 2 (by omega), hc 3 (by omega), hc 4 (by omega), hc 5 (by omega), hc 6 (by omega), hc 7 (by omega), hc 8 (by omega), hc 9 (by omega), hc 10 (by omega), hc 11 (by omega), hc 12 (by omega), hc 13 (by omega), hc 14 (by omega), hc 15 (by omega)⟩, hf _, hf _, hf _, hf _, hf _, hf _, hf _, hf _, hf _, hf _, hf _, hf _, hf _, hf _, hf _, hf _⟩

/-! ### strings and commands that a call owns -/
theorem SRow.grows {w : World} {g n base : Nat} {f : Nat → ByteArray} (h : SRow w g n f) (l : List ByteArray) (hl : l.length = n) (hn : n ≤ 1048576) (hf : ∀ j, j < n → f j = el l j) (hb : base ≤ g) : GrowsS w base (.slice (some ⟨g, 0, none⟩) n n) l := by
  subst hl
  unfold SRow at h
  refine ⟨by simp [strV], .inr ⟨g, l.length, _, rfl, hb, h, Nat.le_refl _, by unfold maxLen; omega, by rw [strC_size]; omega, ?_⟩⟩
  apply List.ext_getElem?
  intro j
  by_cases hj : j < l.length
  · rw [List.getElem?_take, if_pos (by omega), strV_get l j hj]
    have := strC_get l.length f j hj
    rw [hf j hj] at this
    simpa using this
  · rw [List.getElem?_eq_none (by simp; omega), List.getElem?_eq_none (by simp [strV]; omega)]
theorem GrowsS.lt {w : World} {base : Nat} {v : Value} {l : List ByteArray} (h : GrowsS w base v l) (k : Nat) (hk : v.ownBlock = some k) : base ≤ k ∧ k < w.heap.size := World.ownsRow.lt h k hk
theorem GrowsS.keepB {w w' : World} {base : Nat} {v : Value} {l : List ByteArray} {row : Option Nat} (h : GrowsS w base v l) (hg : w.grownBy w' row) (hne : ∀ k, row = some k → v.ownBlock ≠ some k) : GrowsS w' base v l := by
  refine World.ownsRow.kept h hg ?_
  cases row with
  | none => cases v.ownBlock with
    | none => exact .inl rfl
    | some k => exact .inr (by simp)
  | some r => exact .inr (hne r rfl)
/-- Strings that a call owns, each no longer than a machine's can be. -/
def StO (w : World) (lo : Nat) (v : Value) (l : List ByteArray) : Prop := GrowsS w lo v l ∧ ∀ j, j < l.length → (el l j).size ≤ 9223372036854775807
theorem StO.strs {w : World} {lo : Nat} {v : Value} {l : List ByteArray} (h : StO w lo v l) : Strs w v l := h.1.strs h.2
theorem StO.later {w w' : World} {lo : Nat} {v : Value} {l : List ByteArray} (h : StO w lo v l) (hb : Below w.heap.size w w') : StO w' lo v l := ⟨h.1.later hb, h.2⟩
theorem StO.mono {w : World} {lo lo' : Nat} {v : Value} {l : List ByteArray} (h : StO w lo v l) (hb : lo' ≤ lo) : StO w lo' v l := ⟨h.1.mono hb, h.2⟩
theorem StO.put {w : World} {lo q o : Nat} {v : Value} {l : List ByteArray} (h : StO w lo v l) (y : Value) (hq : q < lo) : StO (w.setCell ⟨q, o, none⟩ y) lo v l := ⟨h.1.kept (grownBy_put w q o y) hq, h.2⟩
set_option maxHeartbeats 400000 in
theorem to_strsO (v : Value) (l : List ByteArray) (w : World) (hv : Strs w v l) (hn1 : l.length ≤ 1048576) :
    Calls Tryd.prog 52 #[v] w fun e w' => (∃ g n cap, e = .returned (.slice (some ⟨g, 0, none⟩) n cap) ∧ w.heap.size ≤ g ∧ g < w'.heap.size ∧ StO w' w.heap.size (.slice (some ⟨g, 0, none⟩) n cap) l) ∧ Below w.heap.size w w' := by
  obtain ⟨k1, k2, a, ca, rfl, hca, ha⟩ := hv
  obtain ⟨n, hn⟩ : ∃ n, l.length = n := ⟨_, rfl⟩
  rw [hn] at k1 k2 ha hca hn1 ⊢
  have HN := Lib.hid hn
  have HA := Lib.hid ha
  have HK := Lib.hid k2
  clear hn k2 ha hca
  obtain ⟨w1, hmk, hrow, hb1⟩ := make_strs w n hn1
  obtain ⟨g, hg⟩ : ∃ g, g = w.heap.size := ⟨_, rfl⟩
  rw [← hg] at hmk hrow hb1 ⊢
  have HG := Lib.hid hg
  clear hg
  go_enter Tryd.func52, Tryd.ntmps52
  go_wp2
  clear hmk
  go_loopw [4] (fun i wr => ∃ k : Nat, k ≤ n ∧ i = .int .i64 k ∧ SRow wr g n (fun j => if j < k then el l j else ByteArray.empty) ∧ Below g w wr) (fun i _ => n - (intOf i).toNat)
  case atStart => exact ⟨0, by omega, rfl, by simpa using hrow, hb1⟩
  case round =>
    obtain ⟨k, hk, rfl, hr, hbw⟩ := hrel
    by_cases hlt : k < n
    · obtain ⟨x, o, rfl, hx, hcx⟩ := HA.out (by omega)
      have hxg : x < g := by rw [HG.out]; exact hx
      have c1 : wr.cell? ⟨x, o + k, none⟩ = some (.string (el l k)) := by rw [hbw.cell (p := ⟨x, o + k, none⟩) hxg]; exact hcx k hlt
      have f1 := hr.frozen k
      have c2 := hr.cell k hlt
      have HR := Lib.hid hr
      have HBW := Lib.hid hbw
      clear hcx hr hbw
      go_wp2
      go_roundw
      case rel =>
        refine ⟨k + 1, by omega, by go_num, ?_, HBW.out.setCell (Nat.le_refl _) _⟩
        have h := HR.out.set k (el l k)
        have e : (fun i => if i = k then el l k else if i < k then el l i else ByteArray.empty) = (fun j => if j < k + 1 then el l j else ByteArray.empty) := by
          funext i
          by_cases e1 : i = k
          · subst e1; simp
          · by_cases e2 : i < k
            · rw [if_neg e1, if_pos e2, if_pos (by omega)]
            · rw [if_neg e1, if_neg e2, if_neg (by omega)]
        rw [e] at h
        exact h
      case measure => simp only [intOf]; omega
    · obtain rfl : k = n := by omega
      have HR := Lib.hid hr
      have HBW := Lib.hid hbw
      clear hr hbw
      go_wp2
      go_ret
      exact ⟨⟨g, _, _, rfl, Nat.le_refl _, HR.out.lt, HR.out.grows l HN.out hn1 (fun j hj => by rw [if_pos hj]) (Nat.le_refl _), fun j hj => HK.out j (by rw [HN.out] at hj; exact hj)⟩, HBW.out⟩
set_option maxHeartbeats 1000000 in
theorem to_cmdO (c : CmdM) (v : Value) (w : World) (hv : Strs w v c.ch) (hn : c.ch.length ≤ 1048576) :
    Calls Tryd.prog 36 #[.agg #[.int .i64 c.kind, .int .i64 c.client, .int .i64 c.no, .string c.set, .string c.name, .string c.tag, .int .i64 c.n, v]] w fun e w' => (∃ g n cap, e = .returned (.agg #[.int .i64 c.kind, .int .i64 c.client, .int .i64 c.no, .string c.set, .string c.name, .string c.tag, .int .i64 c.n, .slice (some ⟨g, 0, none⟩) n cap]) ∧ StO w' w.heap.size (.slice (some ⟨g, 0, none⟩) n cap) c.ch ∧ g < w'.heap.size) ∧ Below w.heap.size w w' := by
  have HV := Lib.hid hv
  clear hv
  go_enter Tryd.func36, Tryd.ntmps36
  go_wp2_with fail
  refine (to_strsO v c.ch _ (((HV.out.alloc _).alloc _).alloc _) hn).mono ?_
  rintro e w1 ⟨⟨g', n', cap', rfl, hg', hlt', hv'⟩, hb⟩
  have HV' := Lib.hid hv'
  have HB := Lib.hid hb
  have B1 := (((Box.new w 41 _ _ rfl).alloc _).alloc _).after hb
  have B2 := ((Box.new _ 46 _ _ rfl).alloc _).after hb
  have B3 := (Box.new _ 46 _ _ rfl).after hb
  clear hv' hb
  simp only [World.size_alloc] at B1 B2 B3
  obtain ⟨d0, d1, d2, d3, d4, d5, d6, d7⟩ := B3.cells8
  have f7 := B3.frozen 7
  have e0 := B2.frozen 0
  have e1 := B2.frozen 1
  have e2 := B2.frozen 2
  have e3 := B2.frozen 3
  have e4 := B2.frozen 4
  have e5 := B2.frozen 5
  have e6 := B2.frozen 6
  have e7 := B2.frozen 7
  obtain ⟨x0, x1, x2, x3, x4, x5, x6, x7⟩ := B2.cells8
  have l2 := B2.lt
  clear B1 B2 B3
  go_wp2
  refine bodyPost_ret (results_cmd Tryd.results36 _ _ (w.heap.size + 1) _ _ _ _ _ _ _ (.slice (some ⟨g', 0, none⟩) n' cap') rfl ⟨by go_simp, by go_simp, by go_simp, by go_simp, by go_simp, by go_simp, by go_simp, by go_simp⟩) rfl ⟨⟨_, _, _, rfl, ?_, ?_⟩, ?_⟩
  · simp only [World.size_alloc] at hg'
    refine StO.mono (lo := w.heap.size + 1 + 1 + 1) ?_ (by omega)
    have h3 := HV'.out
    simp only [World.size_alloc] at h3
    refine ((((((((h3.put _ ?_).put _ ?_).put _ ?_).put _ ?_).put _ ?_).put _ ?_).put _ ?_).put _ ?_).put _ ?_
    all_goals omega
  · simpa using hlt'
  · have hb := HB.out
    have hb0 : Below w.heap.size w w1 := ((((Below.refl _ _).alloc (Nat.le_refl _) _).alloc (by simp) _).alloc (by simp; omega) _).trans (hb.mono (by simp; omega))
    refine ((((((((hb0.setCell ?_ _).setCell ?_ _).setCell ?_ _).setCell ?_ _).setCell ?_ _).setCell ?_ _).setCell ?_ _).setCell ?_ _).setCell ?_ _
    all_goals (simp only; omega)

/-! ### the measure -/
def SzIn (x : In) (left : Int) (e : Ending) : Prop := e = .returned (.int .i64 (-1)) ∨ ∃ r : Int, e = .returned (.int .i64 r) ∧ 0 ≤ r ∧ r ≤ left ∧ (x.cmd.ch.length : Int) ≤ left ∧ (x.deps.length : Int) ≤ left
set_option maxRecDepth 100000 in
set_option maxHeartbeats 2000000 in
theorem sz_inst (x : In) (u d : Value) (left : Int) (w : World) (h : Pts w x u d) (h0 : 0 ≤ left) (h1 : left ≤ 1048576) :
    Calls Tryd.prog 17 #[.agg #[.int .i64 x.rep, .int .i64 x.slot, .int .i64 x.bal, .int .i64 x.vbal, .int .i64 x.st, .int .i64 x.cmd.kind, .int .i64 x.cmd.client, .int .i64 x.cmd.no, .string x.cmd.set, .string x.cmd.name, .string x.cmd.tag, .int .i64 x.cmd.n, u, .int .i64 x.seq, d, .bool x.same], .int .i64 left] w fun e w' => SzIn x left e ∧ Below w.heap.size w w' := by
  obtain ⟨⟨a1, n1, c1, rfl⟩, a2, n2, c2, rfl⟩ := h.form
  have X := Lib.hid (Bx.new w 44 #[.int .i64 x.rep, .int .i64 x.slot, .int .i64 x.bal, .int .i64 x.vbal, .int .i64 x.st, .int .i64 x.cmd.kind, .int .i64 x.cmd.client, .int .i64 x.cmd.no, .string x.cmd.set, .string x.cmd.name, .string x.cmd.tag, .int .i64 x.cmd.n, .slice a1 n1 c1, .int .i64 x.seq, .slice a2 n2 c2, .bool x.same] _ rfl)
  have P := Lib.hid (h.alloc (.cells #[.int .i64 x.rep, .int .i64 x.slot, .int .i64 x.bal, .int .i64 x.vbal, .int .i64 x.st, .int .i64 x.cmd.kind, .int .i64 x.cmd.client, .int .i64 x.cmd.no, .string x.cmd.set, .string x.cmd.name, .string x.cmd.tag, .int .i64 x.cmd.n, .slice a1 n1 c1, .int .i64 x.seq, .slice a2 n2 c2, .bool x.same] 44))
  have A := Lib.hid ((Af.refl w).alloc (.cells #[.int .i64 x.rep, .int .i64 x.slot, .int .i64 x.bal, .int .i64 x.vbal, .int .i64 x.st, .int .i64 x.cmd.kind, .int .i64 x.cmd.client, .int .i64 x.cmd.no, .string x.cmd.set, .string x.cmd.name, .string x.cmd.tag, .int .i64 x.cmd.n, .slice a1 n1 c1, .int .i64 x.seq, .slice a2 n2 c2, .bool x.same] 44))
  clear h
  go_enter Tryd.func17, Tryd.ntmps17
  go_wp2_with fail
  refine (sz_cmd x.cmd _ left _ P.out.1 h0 h1 P.out.2.2.1 P.out.2.2.2.1 P.out.2.2.2.2).mono ?_
  rintro e w1 ⟨(rfl | ⟨r, rfl, r0, r1, r2⟩), b1⟩
  · have A1 := Lib.hid (A.out.after b1)
    clear b1
    go_wp2
    go_ret
    exact ⟨.inl rfl, A1.out⟩
  have X1 := Lib.hid (X.out.after b1)
  have P1 := Lib.hid (P.out.later b1)
  have A1 := Lib.hid (A.out.after b1)
  have hd : decide (r < 0) = false := decide_eq_false (by omega)
  clear b1 X P A
  obtain ⟨x0, x1, x2, x3, x4, x5, x6, x7, x8, x9, x10, x11, x12, x13, x14, x15⟩ := X1.out.c16
  go_wp2_with fail
  clear x0 x1 x2 x3 x4 x5 x6 x7 x8 x9 x10 x11 x12 x13 x14 x15
  by_cases hf : (x.deps.length : Int) ≤ r
  · refine (sz_idL_yes _ x.deps r _ P1.out.2.1 hf (by omega)).mono ?_
    rintro e w2 ⟨rfl, b2⟩
    have A2 := Lib.hid (A1.out.after b2)
    obtain ⟨q, hq⟩ : ∃ q : Int, r - (x.deps.length : Int) = q := ⟨_, rfl⟩
    rw [hq]
    have hd2 : decide (q < 0) = false := decide_eq_false (by omega)
    have hq0 : 0 ≤ q := by omega
    have hq1 : q ≤ left := by omega
    have hq2 : (x.deps.length : Int) ≤ left := by omega
    clear b2 hq hd X1 P1 A1
    go_wp2
    go_ret
    exact ⟨.inr ⟨q, rfl, hq0, hq1, r2, hq2⟩, A2.out⟩
  · refine (sz_idL_no _ x.deps r _ P1.out.2.1 (by omega) r0 (by omega)).mono ?_
    rintro e w2 ⟨rfl, b2⟩
    have A2 := Lib.hid (A1.out.after b2)
    clear b2 hd X1 P1 A1
    go_wp2
    go_ret
    exact ⟨.inl rfl, A2.out⟩
/-- All of the list is within the law's measure. -/
def Sm (l : List In) : Prop := l.length ≤ 1048576 ∧ ∀ j, j < l.length → (nth l j).cmd.ch.length ≤ 1048576 ∧ (nth l j).deps.length ≤ 1048576
def SzInL (l : List In) (e : Ending) : Prop := e = .returned (.int .i64 (-1)) ∨ ∃ r : Int, e = .returned (.int .i64 r) ∧ 0 ≤ r ∧ r ≤ 1048576 ∧ Sm l
set_option maxRecDepth 100000 in
set_option maxHeartbeats 2000000 in
theorem sz_insts (v : Value) (l : List In) (w : World) (hv : Insts w v l) :
    Calls Tryd.prog 5 #[v, .int .i64 1048576] w fun e w' => SzInL l e ∧ Below w.heap.size w w' := by
  obtain ⟨k1, a, ca, rfl, hca, ha⟩ := hv
  obtain ⟨n, hn⟩ : ∃ n, l.length = n := ⟨_, rfl⟩
  rw [hn] at k1 hca ha ⊢
  have HN := Lib.hid hn
  have HA := Lib.hid ha
  clear hn ha hca
  by_cases hbig : 1048576 < n
  · have hni : (1048576 : Int) < (n : Int) := by omega
    have hd : decide ((1048576 : Int) - (n : Int) < 0) = true := by simp; omega
    go_enter Tryd.func5, Tryd.ntmps5
    go_wp2
    go_ret
    exact ⟨.inl rfl, Below.refl _ _⟩
  · have hni : (n : Int) ≤ 1048576 := by omega
    have hd : decide ((1048576 : Int) - (n : Int) < 0) = false := by simp; omega
    go_enter Tryd.func5, Tryd.ntmps5
    go_wp2
    go_loopw [1, 5] (fun r i wr => ∃ (k : Nat) (q : Int), k ≤ n ∧ i = .int .i64 k ∧ r = .int .i64 q ∧ 0 ≤ q ∧ q ≤ 1048576 ∧ (∀ j, j < k → (nth l j).cmd.ch.length ≤ 1048576 ∧ (nth l j).deps.length ≤ 1048576) ∧ Below w.heap.size w wr) (fun _ i _ => n - (intOf i).toNat)
    case atStart => exact ⟨0, _, by omega, rfl, rfl, by omega, by omega, fun j hj => by omega, Below.refl _ _⟩
    case round =>
      obtain ⟨k, q, hk, rfl, rfl, hq0, hq1, he, hb⟩ := hrel
      have HE := Lib.hid he
      have HB := Lib.hid hb
      clear he hb hd
      by_cases hlt : k < n
      · obtain ⟨y, o, rfl, hy, hcy⟩ := HA.out (by omega)
        obtain ⟨u, d, cc, pp⟩ := hcy k hlt
        obtain ⟨c0, c1, c2, c3, c4, c5, c6, c7, c8, c9, c10, c11, c12, c13, c14, c15⟩ := cc.below HB.out hy
        have P := Lib.hid (pp.later HB.out)
        clear hcy cc pp
        go_wp2_with fail
        clear c0 c1 c2 c3 c4 c5 c6 c7 c8 c9 c10 c11 c12 c13 c14 c15
        refine (sz_inst (nth l k) u d q _ P.out hq0 hq1).mono ?_
        rintro e w2 ⟨(rfl | ⟨r, rfl, r0, r1, r2, r3⟩), hb2⟩
        · have HB2 := Lib.hid (HB.out.trans (hb2.mono HB.out.size))
          clear hb2
          go_wp2
          go_ret
          exact ⟨.inl rfl, HB2.out⟩
        · have HB2 := Lib.hid (HB.out.trans (hb2.mono HB.out.size))
          have hd2 : decide (r < 0) = false := by simp; omega
          have HQ := Lib.hid (show (nth l k).cmd.ch.length ≤ 1048576 ∧ (nth l k).deps.length ≤ 1048576 by omega)
          have hr1 : r ≤ 1048576 := by omega
          clear hb2 r1 r2 r3
          go_wp2
          go_roundw
          case rel =>
            refine ⟨k + 1, r, by omega, by go_num, rfl, r0, hr1, fun j hj => ?_, HB2.out⟩
            by_cases e : j = k
            · subst e; exact HQ.out
            · exact HE.out j (by omega)
          case measure => simp only [intOf]; omega
      · obtain rfl : k = n := by omega
        go_wp2
        go_ret
        exact ⟨.inr ⟨q, rfl, hq0, hq1, by rw [HN.out]; omega, fun j hj => HE.out j (by rw [HN.out] at hj; exact hj)⟩, HB.out⟩
end Go.Proofs.YtlbebeedkcdgpaaDoor
