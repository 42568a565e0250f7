/- The law's measure of Ids, and its copy of them. -/
import Derived.Test.YtlbebeedkcdgpaaDoorIdO
namespace Go.Proofs.YtlbebeedkcdgpaaDoor
open Go.RowKit Go.PlainAid
set_option linter.unusedVariables false

/-! ### the measure -/
set_option maxHeartbeats 400000 in
theorem sz_idL_yes (v : Value) (l : List Ii) (r : Int) (w : World) (hv : Ids w v l) (h : (l.length : Int) ≤ r) (hr : r ≤ 1048576) :
    Calls Tryd.prog 31 #[v, .int .i64 r] w fun e w' => e = .returned (.int .i64 (r - l.length)) ∧ Below w.heap.size w w' := by
  obtain ⟨k1, a, ca, rfl, hca, ha⟩ := hv
  generalize l.length = n at *
  have hd : decide (r - (n : Int) < 0) = false := by simp; omega
  clear ha hca
  go_enter Tryd.func31, Tryd.ntmps31
  go_wp2
  go_ret
  exact ⟨rfl, Below.refl _ _⟩
set_option maxHeartbeats 400000 in
theorem sz_idL_no (v : Value) (l : List Ii) (r : Int) (w : World) (hv : Ids w v l) (h : r < (l.length : Int)) (h0 : 0 ≤ r) (hr : r ≤ 1048576) :
    Calls Tryd.prog 31 #[v, .int .i64 r] w fun e w' => e = .returned (.int .i64 (-1)) ∧ Below w.heap.size w w' := by
  obtain ⟨k1, a, ca, rfl, hca, ha⟩ := hv
  generalize l.length = n at *
  have hd : decide (r - (n : Int) < 0) = true := by simp; omega
  have hni : (n : Int) ≤ 9223372036854775807 := by omega
  clear ha hca
  go_enter Tryd.func31, Tryd.ntmps31
  go_wp2
  go_ret
  exact ⟨rfl, Below.refl _ _⟩

/-! ### the copy -/
set_option maxHeartbeats 400000 in
theorem to_id (f t : Int) (w : World) :
    Calls Tryd.prog 8 #[.agg #[.int .i64 f, .int .i64 t]] w fun e w' => e = .returned (.agg #[.int .i64 f, .int .i64 t]) ∧ Below w.heap.size w w' := by
  go_enter Tryd.func8, Tryd.ntmps8
  go_wp2
  exact bodyPost_ret (v := .agg #[.int .i64 f, .int .i64 t]) (by simp [results, Tryd.results8, go_sem]) rfl ⟨rfl, (((Below.refl _ _).alloc (Nat.le_refl _) _).alloc (by simp) _).alloc (by simp; omega) _⟩
/-- The first j Ids are there, behind them empty ones. -/
def toI (l : List Ii) (j : Nat) : List Ii := (List.range l.length).map fun i => if i < j then ⟨iR l i, iS l i⟩ else ii0
theorem toI_length (l : List Ii) (j : Nat) : (toI l j).length = l.length := by simp [toI]
theorem toI_get (l : List Ii) (j i : Nat) (h : i < l.length) : (toI l j)[i]? = some (if i < j then ⟨iR l i, iS l i⟩ else ii0) := by
  rw [toI, List.getElem?_map, List.getElem?_range h]
  rfl
theorem toI_at (l : List Ii) (j i : Nat) (h : i < l.length) : iR (toI l j) i = (if i < j then iR l i else 0) ∧ iS (toI l j) i = (if i < j then iS l i else 0) := by
  have g := toI_get l j i h
  rw [iR_of g, iS_of g]
  split <;> exact ⟨rfl, rfl⟩
theorem toI_all (l : List Ii) : toI l l.length = l :=
  ii_ext _ _ (toI_length l _) fun j hj => by rw [toI_length] at hj; obtain ⟨a, b⟩ := toI_at l l.length j hj; rw [a, b, if_pos hj, if_pos hj]; exact ⟨rfl, rfl⟩
theorem toI_step (l : List Ii) (j : Nat) (h : j < l.length) (x : Ii) (hx : x = ⟨iR l j, iS l j⟩) : (toI l j).set j x = toI l (j + 1) := by
  subst hx
  apply ii_ext
  · rw [List.length_set, toI_length, toI_length]
  · intro i hi
    rw [List.length_set, toI_length] at hi
    obtain ⟨a1, a2⟩ := ii_set (toI l j) j i ⟨iR l j, iS l j⟩ (by rw [toI_length]; exact h)
    obtain ⟨b1, b2⟩ := toI_at l j i hi
    obtain ⟨c1, c2⟩ := toI_at l (j + 1) i hi
    rw [a1, a2, b1, b2, c1, c2]
    by_cases e : i = j
    · subst e; simp
    · by_cases e2 : i < j
      · simp [e, e2, show i < j + 1 by omega]
      · simp [e, e2, show ¬ i < j + 1 by omega]
/-- An Id is written whole. -/
theorem IdOwn.put {w : World} {base g o n cap : Nat} {l : List Ii} (h : IdOwn w base (.slice (some ⟨g, o, none⟩) n cap) l) (j : Nat) (x : Ii) (hj : j < l.length) :
    IdOwn ((w.setCell ⟨g, o + j * 2, none⟩ (.int .i64 x.rep)).setCell ⟨g, o + j * 2 + 1, none⟩ (.int .i64 x.slot)) base (.slice (some ⟨g, o, none⟩) n cap) (l.set j x) := by
  have h1 := h.setR j x.rep hj
  have h2 := h1.setS j x.slot (by rw [List.length_set]; exact hj)
  rw [List.set_set] at h2
  obtain ⟨p1, p2⟩ := ii_set l j j ⟨x.rep, iS l j⟩ hj
  simp only [if_true] at p1 p2
  rw [p1] at h2
  exact h2
theorem Tryd.infoId : (Tryd.prog.info? 30).map (fun i => (i.zero, i.size, i.bytes)) = some (some (.agg #[.int .i64 0, .int .i64 0]), 2, 16) := by kernel_rfl
/-- make([]Id, n). -/
theorem make_ids (w : World) (l : List Ii) (n : Nat) (hn : l.length = n) (hb : n ≤ 1048576) :
    ∃ w1, (Instr.makeSlice 26 (.int .i64 (n : Int)) (.int .i64 (n : Int))).run Tryd.prog w = .ok (.slice (some ⟨w.heap.size, 0, none⟩) n n) w1 ∧ IdOwn w1 w.heap.size (.slice (some ⟨w.heap.size, 0, none⟩) n n) (toI l 0) ∧ Below w.heap.size w w1 ∧ w.heap.size < w1.heap.size := by
  obtain ⟨i, hi, hz, hs, hby⟩ := info_parts Tryd.infoId
  have h := run_make (P := Tryd.prog) w 26 30 i _ Tryd.underlying26 hi hz .i64 .i64 n n (by omega) (Int.le_refl _) (by rw [hby]; omega) (by omega)
  simp only [Int.toNat_natCast, hs] at h
  refine ⟨_, h, ⟨_, n, by rw [toI_length, hn], by rw [toI_length, hn]; exact Nat.le_refl _, by rw [toI_length, hn]; omega, fun h0 => ⟨w.heap.size, 0, _, rfl, ⟨Nat.le_refl _, by simp [madeCells]⟩, heap_alloc_new w _, fun j hj => ?_⟩⟩, (Below.refl _ _).alloc (Nat.le_refl _) _, by simp⟩
  rw [toI_length] at hj
  obtain ⟨a1, a2⟩ := toI_at l 0 j hj
  rw [a1, a2, if_neg (by omega), if_neg (by omega), Nat.zero_add]
  have hc : (Value.agg #[.int .i64 0, .int .i64 0]).cells = #[.int .i64 0, .int .i64 0] := rfl
  rw [hc]
  refine ⟨?_, ?_⟩
  · simp [madeCells, show j * 2 < n * 2 by omega, show j * 2 % 2 = 0 by omega]
  · simp [madeCells, show j * 2 + 1 < n * 2 by omega, show (j * 2 + 1) % 2 = 1 by omega]

set_option maxRecDepth 100000 in
set_option maxHeartbeats 1000000 in
theorem to_idL (v : Value) (l : List Ii) (w : World) (hv : Ids w v l) (hl : l.length ≤ 1048576) :
    Calls Tryd.prog 37 #[v] w fun e w' => ∃ u, e = .returned u ∧ IdOwn w' w.heap.size u l ∧ Below w.heap.size w w' ∧ ∀ k, u.ownBlock = some k → w.heap.size ≤ k ∧ k < w'.heap.size := by
  obtain ⟨k1, a, ca, rfl, hca, ha⟩ := hv
  obtain ⟨n, hn⟩ : ∃ n, l.length = n := ⟨_, rfl⟩
  obtain ⟨w1, hmk, hown, hb1, hlt1⟩ := make_ids w l n hn (by omega)
  rw [hn] at k1 hca ha hl ⊢
  have HN := Lib.hid hn
  have HA := Lib.hid ha
  have HO := Lib.hid hown
  have HB := Lib.hid hb1
  obtain ⟨g, hg⟩ : ∃ g, g = w.heap.size := ⟨_, rfl⟩
  rw [← hg] at hmk HO HB hlt1 ⊢
  have HLT := Lib.hid hlt1
  have HG := Lib.hid hg
  clear hn ha hca hown hb1 hg hlt1
  go_enter Tryd.func37, Tryd.ntmps37
  go_wp2
  clear hmk
  go_loopw [4] (fun i wr => ∃ k : Nat, k ≤ n ∧ i = .int .i64 k ∧ IdOwn wr g (.slice (some ⟨g, 0, none⟩) n n) (toI l k) ∧ Below g w wr ∧ g < wr.heap.size) (fun i _ => n - (intOf i).toNat)
  case atStart => exact ⟨0, by omega, rfl, HO.out, HB.out, HLT.out⟩
  case round =>
    clear HO HB HLT
    obtain ⟨k, hk, rfl, ho, hb, hlt1⟩ := hrel
    have HLT := Lib.hid hlt1
    clear hlt1
    have HO := Lib.hid ho
    have HB := Lib.hid hb
    clear hb
    by_cases hlt : k < n
    · obtain ⟨y, o, rfl, hy, hcy⟩ := HA.out (by omega)
      have hyg : y < g := by rw [HG.out]; exact hy
      obtain ⟨c1, c2⟩ := (hcy k hlt).below HB.out hyg
      clear hcy ho
      go_wp2_with fail
      refine (to_id _ _ _).mono ?_
      rintro e w2 ⟨rfl, hb2⟩
      have ho2 := HO.out.later hb2
      have HB2 := Lib.hid (HB.out.trans (hb2.mono (by rw [HG.out]; rw [HG.out] at HB; exact HB.out.size)))
      obtain ⟨g', o', e1, e3, _, hg2, hc2⟩ := ho2.cells (by rw [toI_length, HN.out]; omega)
      simp only [Option.some.injEq, Addr.mk.injEq] at e1
      obtain ⟨rfl, rfl, _⟩ := e1
      obtain ⟨⟨d1, d2⟩, f1, f2⟩ := hc2 k (by rw [toI_length, HN.out]; omega)
      rw [Nat.zero_add] at d1 d2 f1 f2
      have HO2 := Lib.hid ho2
      clear ho2 hb2 hc2 e3 HO HB c1 c2
      go_wp2
      go_roundw
      case rel =>
        refine ⟨k + 1, by omega, by go_num, ?_, (HB2.out.setCell (p := ⟨g, k * 2, none⟩) (Nat.le_refl _) _).setCell (p := ⟨g, k * 2 + 1, none⟩) (Nat.le_refl _) _, by simpa using hg2⟩
        have h := HO2.out.put k ⟨iR l k, iS l k⟩ (by rw [toI_length, HN.out]; omega)
        rw [toI_step l k (by rw [HN.out]; omega) _ rfl] at h
        simp only [Nat.zero_add] at h
        exact h
      case measure => simp only [intOf]; omega
    · obtain rfl : k = n := by omega
      go_wp2
      go_ret
      exact ⟨_, rfl, by have h := HO.out; rw [← HN.out, toI_all] at h; rw [← HN.out]; exact h, HB.out, fun k hk => by cases hk; exact ⟨Nat.le_refl _, HLT.out⟩⟩
end Go.Proofs.YtlbebeedkcdgpaaDoor
