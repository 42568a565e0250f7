/- The law's measure of a log, and its copy of one. -/
import Derived.Test.YtmnglcidklckgaaDoorSgO
namespace Go.Proofs.YtmnglcidklckgaaDoor
open Go.RowKit Go.PlainAid
set_option linter.unusedVariables false

theorem asAddr_pt (P : Program) (w : World) (a : Addr) : (asAddr (.pointer (some a))).run P w = .ok a w := rfl
theorem load_log (w : World) (g : Nat) (x0 x1 x2 : Value) (h : w.cell? ⟨g, 0, none⟩ = some x0 ∧ w.cell? ⟨g, 1, none⟩ = some x1 ∧ w.cell? ⟨g, 2, none⟩ = some x2) : (loadVar 26 ⟨g, 0, none⟩).run Tryd.prog w = .ok (.agg #[x0, x1, x2]) w := by
  obtain ⟨h0, h1, h2⟩ := h
  go_simp
theorem results_log {fn : Func} {p : Tmp} (h : fn.results = #[.cell p 26]) (tmps : Array Value) (w : World) (g : Nat) (x0 x1 x2 : Value)
    (hp : tmps.getD p undef = .pointer (some ⟨g, 0, none⟩)) (hc : w.cell? ⟨g, 0, none⟩ = some x0 ∧ w.cell? ⟨g, 1, none⟩ = some x1 ∧ w.cell? ⟨g, 2, none⟩ = some x2) : (results fn tmps).run Tryd.prog w = .ok (.agg #[x0, x1, x2]) w := by
  have e : (results fn tmps).run Tryd.prog w = ((asAddr (tmps.getD p undef)).run Tryd.prog w).andThen fun a w₁ => (loadVar 26 a).run Tryd.prog w₁ := by
    simp only [results, h]
    simp [Sem.run_bind, Result.andThen]
  rw [e, hp, asAddr_pt]
  simp only [Result.andThen]
  exact load_log w g x0 x1 x2 hc
theorem results_log2 {fn : Func} {p q : Tmp} (h : fn.results = #[.cell p 26, .tmp q]) (tmps : Array Value) (w : World) (g : Nat) (x0 x1 x2 : Value)
    (hp : tmps.getD p undef = .pointer (some ⟨g, 0, none⟩)) (hc : w.cell? ⟨g, 0, none⟩ = some x0 ∧ w.cell? ⟨g, 1, none⟩ = some x1 ∧ w.cell? ⟨g, 2, none⟩ = some x2) : (results fn tmps).run Tryd.prog w = .ok (.tuple #[.agg #[x0, x1, x2], tmps.getD q undef]) w := by
  have hl := load_log w g x0 x1 x2 hc
  have e : (results fn tmps).run Tryd.prog w = ((asAddr (tmps.getD p undef)).run Tryd.prog w).andThen fun a w₁ => ((loadVar 26 a).run Tryd.prog w₁).andThen fun x w₂ => .ok (.tuple #[x, tmps.getD q undef]) w₂ := by
    simp only [results, h]
    simp [Sem.run_bind, Result.andThen]
  rw [e, hp, asAddr_pt]
  simp only [Result.andThen, hl]

set_option maxHeartbeats 400000 in
theorem sz_seg_yes (f r : Int) (t : ByteArray) (w : World) (h : (t.size : Int) ≤ r) (hr : r ≤ 1048576) :
    Calls Tryd.prog 69 #[.agg #[.int .i64 f, .string t], .int .i64 r] w fun e w' => e = .returned (.int .i64 (r - t.size)) ∧ Below w.heap.size w w' := by
  have h0 : (0 : Int) ≤ t.size := by omega
  have hd : decide (r - (t.size : Int) < 0) = false := by simp; omega
  go_enter Tryd.func69, Tryd.ntmps69
  go_wp2
  go_ret
  exact ⟨rfl, (Below.refl _ _).alloc (Nat.le_refl _) _⟩
set_option maxHeartbeats 400000 in
theorem sz_seg_no (f r : Int) (t : ByteArray) (w : World) (h : r < (t.size : Int)) (h0 : 0 ≤ r) (hr : r ≤ 1048576) (ht : t.size ≤ 9223372036854775807) :
    Calls Tryd.prog 69 #[.agg #[.int .i64 f, .string t], .int .i64 r] w fun e w' => e = .returned (.int .i64 (-1)) ∧ Below w.heap.size w w' := by
  have hti : (t.size : Int) ≤ 9223372036854775807 := by omega
  have hd : decide (r - (t.size : Int) < 0) = true := by simp; omega
  go_enter Tryd.func69, Tryd.ntmps69
  go_wp2
  go_ret
  exact ⟨rfl, (Below.refl _ _).alloc (Nat.le_refl _) _⟩
/-- What is left when segments are measured. -/
def SzSegs (l : List Sg) (e : Ending) : Prop := e = .returned (.int .i64 (-1)) ∨ ∃ r : Int, e = .returned (.int .i64 r) ∧ 0 ≤ r ∧ l.length ≤ 1048576 ∧ ∀ j, j < l.length → (sT l j).size ≤ 1048576
set_option maxRecDepth 100000 in
set_option maxHeartbeats 1000000 in
theorem sz_segs (v : Value) (l : List Sg) (w : World) (hv : Segs w v l) :
    Calls Tryd.prog 45 #[v, .int .i64 1048576] w fun e w' => SzSegs l e ∧ Below w.heap.size w w' := by
  obtain ⟨k1, k2, a, ca, rfl, hca, ha⟩ := hv
  obtain ⟨n, hn⟩ : ∃ n, l.length = n := ⟨_, rfl⟩
  rw [hn] at k1 k2 hca ha ⊢
  have HN := Lib.hid hn
  have HA := Lib.hid ha
  have HK := Lib.hid k2
  clear hn ha k2 hca
  by_cases hbig : 1048576 < n
  · have hni : (1048576 : Int) < (n : Int) := by omega
    have hd : decide ((1048576 : Int) - (n : Int) < 0) = true := by simp; omega
    go_enter Tryd.func45, Tryd.ntmps45
    go_wp2
    go_ret
    exact ⟨.inl rfl, Below.refl _ _⟩
  · have hni : (n : Int) ≤ 1048576 := by omega
    have hd : decide ((1048576 : Int) - (n : Int) < 0) = false := by simp; omega
    go_enter Tryd.func45, Tryd.ntmps45
    go_wp2
    go_loopw [1, 5] (fun r i wr => ∃ (k : Nat) (x : Int), k ≤ n ∧ i = .int .i64 k ∧ r = .int .i64 x ∧ 0 ≤ x ∧ x ≤ 1048576 ∧ (∀ j, j < k → (sT l j).size ≤ 1048576) ∧ Below w.heap.size w wr) (fun _ i _ => n - (intOf i).toNat)
    case atStart => exact ⟨0, _, by omega, rfl, rfl, by omega, by omega, fun j hj => by omega, Below.refl _ _⟩
    case round =>
      obtain ⟨k, x, hk, rfl, rfl, hx0, hx1, he, hb⟩ := hrel
      have HE := Lib.hid he
      have HB := Lib.hid hb
      clear he hb hd
      by_cases hlt : k < n
      · obtain ⟨y, o, rfl, hy, hcy⟩ := HA.out (by omega)
        have c1 : wr.cell? ⟨y, o + k * 2, none⟩ = some (.int .i64 (sF l k)) := by rw [HB.out.cell (p := ⟨y, o + k * 2, none⟩) hy]; exact (hcy k hlt).1
        have c2 : wr.cell? ⟨y, o + k * 2 + 1, none⟩ = some (.string (sT l k)) := by rw [HB.out.cell (p := ⟨y, o + k * 2 + 1, none⟩) hy]; exact (hcy k hlt).2
        have hsz := HK.out k hlt
        clear hcy
        by_cases hfit : ((sT l k).size : Int) ≤ x
        · go_wp2_with fail
          refine (sz_seg_yes _ _ _ _ hfit hx1).mono ?_
          rintro e w2 ⟨rfl, hb2⟩
          have HB2 := Lib.hid (HB.out.trans (hb2.mono HB.out.size))
          have hd2 : decide (x - ((sT l k).size : Int) < 0) = false := by simp; omega
          have hq0 : 0 ≤ x - ((sT l k).size : Int) := by omega
          have hq1 : x - ((sT l k).size : Int) ≤ 1048576 := by omega
          have hq2 : (sT l k).size ≤ 1048576 := by omega
          clear hb2
          go_wp2
          go_roundw
          case rel =>
            refine ⟨k + 1, _, by omega, by go_num, rfl, hq0, hq1, fun j hj => ?_, HB2.out⟩
            by_cases e : j = k
            · subst e; exact hq2
            · exact HE.out j (by omega)
          case measure => simp only [intOf]; omega
        · go_wp2_with fail
          refine (sz_seg_no _ _ _ _ (by omega) hx0 hx1 hsz).mono ?_
          rintro e w2 ⟨rfl, hb2⟩
          have HB2 := Lib.hid (HB.out.trans (hb2.mono HB.out.size))
          clear hb2
          go_wp2
          go_ret
          exact ⟨.inl rfl, HB2.out⟩
      · obtain rfl : k = n := by omega
        go_wp2
        go_ret
        exact ⟨.inr ⟨x, rfl, hx0, by rw [HN.out]; omega, fun j hj => HE.out j (by rw [HN.out] at hj; exact hj)⟩, HB.out⟩
set_option maxHeartbeats 400000 in
theorem sz_log (v : Value) (l : List Sg) (n m : Int) (w : World) (hv : Segs w v l) :
    Calls Tryd.prog 21 #[.agg #[v, .int .i64 n, .int .i64 m], .int .i64 1048576] w fun e w' => SzSegs l e ∧ Below w.heap.size w w' := by
  have H := Lib.hid (sz_segs v l _ (hv.alloc (.cells #[v, .int .i64 n, .int .i64 m] 41)))
  obtain ⟨a, k, c, rfl⟩ := hv.form
  clear hv
  go_enter Tryd.func21, Tryd.ntmps21
  go_wp2_with fail
  refine H.out.mono ?_
  rintro e w2 ⟨(rfl | ⟨r, rfl, r0, r1, r2⟩), hb⟩
  · have HB := Lib.hid hb
    clear hb
    go_wp2
    go_ret
    exact ⟨.inl rfl, ((Below.refl _ _).alloc (Nat.le_refl _) _).trans (HB.out.mono (by simp))⟩
  · have HB := Lib.hid hb
    have R := Lib.hid r2
    have hd : decide (r < 0) = false := by simp; omega
    clear hb r2
    go_wp2
    go_ret
    exact ⟨.inr ⟨r, rfl, r0, r1, R.out⟩, ((Below.refl _ _).alloc (Nat.le_refl _) _).trans (HB.out.mono (by simp))⟩

/-! ### the copy -/
set_option maxHeartbeats 400000 in
theorem to_seg (f : Int) (t : ByteArray) (w : World) :
    Calls Tryd.prog 70 #[.agg #[.int .i64 f, .string t]] w fun e w' => e = .returned (.agg #[.int .i64 f, .string t]) ∧ Below w.heap.size w w' := by
  go_enter Tryd.func70, Tryd.ntmps70
  go_wp2
  exact bodyPost_ret (v := .agg #[.int .i64 f, .string t]) (by simp [results, Tryd.results70, go_sem]) rfl ⟨rfl, (((Below.refl _ _).alloc (Nat.le_refl _) _).alloc (by simp) _).alloc (by simp; omega) _⟩
/-- The first j segments are there, behind them empty ones. -/
def toG (l : List Sg) (j : Nat) : List Sg := (List.range l.length).map fun i => if i < j then ⟨sF l i, sT l i⟩ else ⟨0, ByteArray.empty⟩
theorem toG_length (l : List Sg) (j : Nat) : (toG l j).length = l.length := by simp [toG]
theorem toG_get (l : List Sg) (j i : Nat) (h : i < l.length) : (toG l j)[i]? = some (if i < j then ⟨sF l i, sT l i⟩ else ⟨0, ByteArray.empty⟩) := by
  rw [toG, List.getElem?_map, List.getElem?_range h]
  rfl
theorem toG_sF (l : List Sg) (j i : Nat) (h : i < l.length) : sF (toG l j) i = if i < j then sF l i else 0 := by
  rw [sF_of (toG_get l j i h)]
  split <;> rfl
theorem toG_sT (l : List Sg) (j i : Nat) (h : i < l.length) : sT (toG l j) i = if i < j then sT l i else ByteArray.empty := by
  rw [sT_of (toG_get l j i h)]
  split <;> rfl
theorem toG_all (l : List Sg) : toG l l.length = l :=
  sg_ext _ _ (toG_length l _) fun j hj => by rw [toG_length] at hj; rw [toG_sF l _ j hj, toG_sT l _ j hj, if_pos hj, if_pos hj]; exact ⟨rfl, rfl⟩
theorem toG_step (l : List Sg) (j : Nat) (h : j < l.length) : ((toG l j).set j ⟨sF l j, sT (toG l j) j⟩).set j ⟨sF l j, sT l j⟩ = toG l (j + 1) := by
  rw [List.set_set]
  apply sg_ext
  · rw [List.length_set, toG_length, toG_length]
  · intro i hi
    rw [List.length_set, toG_length] at hi
    rw [sF_set _ _ _ _ (by rw [toG_length]; exact h), sT_set _ _ _ _ (by rw [toG_length]; exact h), toG_sF l _ i hi, toG_sT l _ i hi, toG_sF l _ i hi, toG_sT l _ i hi]
    by_cases e : i = j
    · subst e; simp
    · by_cases e2 : i < j
      · simp [e, e2, show i < j + 1 by omega]
      · simp [e, e2, show ¬ i < j + 1 by omega]
theorem Tryd.infoSeg : (Tryd.prog.info? 51).map (fun i => (i.zero, i.size, i.bytes)) = some (some (.agg #[.int .i64 0, .string ⟨#[]⟩]), 2, 24) := by kernel_rfl
/-- make([]Seg, n). -/
theorem make_segs (w : World) (l : List Sg) (n : Nat) (hn : l.length = n) (hb : n ≤ 1048576) :
    ∃ w1, (Instr.makeSlice 24 (.int .i64 (n : Int)) (.int .i64 (n : Int))).run Tryd.prog w = .ok (.slice (some ⟨w.heap.size, 0, none⟩) n n) w1 ∧ SegOwn w1 w.heap.size (.slice (some ⟨w.heap.size, 0, none⟩) n n) (toG l 0) ∧ Below w.heap.size w w1 := by
  obtain ⟨i, hi, hz, hs, hby⟩ := info_parts Tryd.infoSeg
  have h := run_make (P := Tryd.prog) w 24 51 i _ Tryd.underlying24 hi hz .i64 .i64 n n (by omega) (Int.le_refl _) (by rw [hby]; omega) (by omega)
  simp only [Int.toNat_natCast, hs] at h
  refine ⟨_, h, ⟨_, n, by rw [toG_length, hn], by rw [toG_length, hn]; exact Nat.le_refl _, by rw [toG_length, hn]; omega, fun h0 => ⟨w.heap.size, 0, _, rfl, Nat.le_refl _, heap_alloc_new w _, fun j hj => ?_⟩⟩, (Below.refl _ _).alloc (Nat.le_refl _) _⟩
  rw [toG_length] at hj
  rw [toG_sF l 0 j hj, toG_sT l 0 j hj, if_neg (by omega), if_neg (by omega), Nat.zero_add]
  have hc : (Value.agg #[.int .i64 0, .string ⟨#[]⟩]).cells = #[.int .i64 0, .string ⟨#[]⟩] := rfl
  rw [hc]
  constructor
  · simp [madeCells, show j * 2 < n * 2 by omega, show j * 2 % 2 = 0 by omega]
  · simp [madeCells, show j * 2 + 1 < n * 2 by omega, show (j * 2 + 1) % 2 = 1 by omega]
    rfl

set_option maxRecDepth 100000 in
set_option maxHeartbeats 1000000 in
theorem to_segs (v : Value) (l : List Sg) (w : World) (hv : Segs w v l) (hl : l.length ≤ 1048576) :
    Calls Tryd.prog 46 #[v] w fun e w' => ∃ u, e = .returned u ∧ SegOwn w' w.heap.size u l ∧ Below w.heap.size w w' := by
  obtain ⟨k1, k2, a, ca, rfl, hca, ha⟩ := hv
  obtain ⟨n, hn⟩ : ∃ n, l.length = n := ⟨_, rfl⟩
  obtain ⟨w1, hmk, hown, hb1⟩ := make_segs w l n hn (by omega)
  rw [hn] at k1 k2 hca ha hl ⊢
  have HN := Lib.hid hn
  have HA := Lib.hid ha
  have HO := Lib.hid hown
  have HB := Lib.hid hb1
  obtain ⟨g, hg⟩ : ∃ g, g = w.heap.size := ⟨_, rfl⟩
  rw [← hg] at hmk HO HB ⊢
  have HG := Lib.hid hg
  clear hn ha k2 hca hown hb1 hg
  go_enter Tryd.func46, Tryd.ntmps46
  go_wp2
  clear hmk
  go_loopw [4] (fun i wr => ∃ k : Nat, k ≤ n ∧ i = .int .i64 k ∧ SegOwn wr g (.slice (some ⟨g, 0, none⟩) n n) (toG l k) ∧ Below g w wr) (fun i _ => n - (intOf i).toNat)
  case atStart => exact ⟨0, by omega, rfl, HO.out, HB.out⟩
  case round =>
    clear HO HB
    obtain ⟨k, hk, rfl, ho, hb⟩ := hrel
    have HO := Lib.hid ho
    have HB := Lib.hid hb
    clear hb
    by_cases hlt : k < n
    · obtain ⟨y, o, rfl, hy, hcy⟩ := HA.out (by omega)
      have hyg : y < g := by rw [HG.out]; exact hy
      have c1 : wr.cell? ⟨y, o + k * 2, none⟩ = some (.int .i64 (sF l k)) := by rw [HB.out.cell (p := ⟨y, o + k * 2, none⟩) hyg]; exact (hcy k hlt).1
      have c2 : wr.cell? ⟨y, o + k * 2 + 1, none⟩ = some (.string (sT l k)) := by rw [HB.out.cell (p := ⟨y, o + k * 2 + 1, none⟩) hyg]; exact (hcy k hlt).2
      clear hcy ho
      go_wp2_with fail
      refine (to_seg _ _ _).mono ?_
      rintro e w2 ⟨rfl, hb2⟩
      have ho2 := HO.out.later hb2
      have HB2 := Lib.hid (HB.out.trans (hb2.mono (by rw [HG.out]; rw [HG.out] at HB; exact HB.out.size)))
      obtain ⟨g', o', e1, e3, _, hg2, hc2⟩ := ho2.cells (by rw [toG_length, HN.out]; omega)
      simp only [Option.some.injEq, Addr.mk.injEq] at e1
      obtain ⟨rfl, rfl, _⟩ := e1
      obtain ⟨d1, d2, f1, f2⟩ := hc2 k (by rw [toG_length, HN.out]; omega)
      rw [Nat.zero_add] at d1 d2 f1 f2
      have HO2 := Lib.hid ho2
      clear ho2 hb2 hc2 e3 HO HB c1 c2
      go_wp2
      go_roundw
      case rel =>
        refine ⟨k + 1, by omega, by go_num, ?_, (HB2.out.setCell (p := ⟨g, k * 2, none⟩) (Nat.le_refl _) _).setCell (p := ⟨g, k * 2 + 1, none⟩) (Nat.le_refl _) _⟩
        have h := (HO2.out.setF k (sF l k) (by rw [toG_length, HN.out]; omega)).setT k (sT l k) (by rw [List.length_set, toG_length, HN.out]; omega)
        rw [sF_set _ _ _ _ (by rw [toG_length, HN.out]; omega), if_pos rfl, toG_step l k (by rw [HN.out]; omega)] at h
        simp only [Nat.zero_add] at h
        exact h
      case measure => simp only [intOf]; omega
    · obtain rfl : k = n := by omega
      go_wp2
      go_ret
      exact ⟨_, rfl, by have h := HO.out; rw [← HN.out, toG_all] at h; rw [← HN.out]; exact h, HB.out⟩
set_option maxHeartbeats 400000 in
theorem to_log (v : Value) (l : List Sg) (n m : Int) (w : World) (hv : Segs w v l) (hl : l.length ≤ 1048576) :
    Calls Tryd.prog 22 #[.agg #[v, .int .i64 n, .int .i64 m]] w fun e w' => ∃ a k c, e = .returned (.agg #[.slice a k c, .int .i64 n, .int .i64 m]) ∧ SegOwn w' w.heap.size (.slice a k c) l ∧ Below w.heap.size w w' := by
  have H := Lib.hid (to_segs v l _ (((hv.alloc (.cells #[v, .int .i64 n, .int .i64 m] 41)).alloc (.cells #[.slice none 0 0, .int .i64 0, .int .i64 0] 26)).alloc (.cells #[.slice none 0 0, .int .i64 0, .int .i64 0] 26)) hl)
  obtain ⟨a, k, c, rfl⟩ := hv.form
  clear hv
  go_enter Tryd.func22, Tryd.ntmps22
  go_wp2_with fail
  refine H.out.mono ?_
  rintro e w2 ⟨u, rfl, h2, hb⟩
  obtain ⟨hc, hf⟩ := bcell hb
  obtain ⟨a', k', c', rfl⟩ := h2.form
  have H2 := Lib.hid h2
  have HB := Lib.hid hb
  have hz : w.heap.size + 1 + 1 < w2.heap.size := by have := hb.size; simp at this; omega
  have X1 := Lib.hid ((((Bx.new (w.alloc (.cells #[.slice a k c, .int .i64 n, .int .i64 m] 41)) 26 #[.slice none 0 0, .int .i64 0, .int .i64 0] (w.heap.size + 1) (by simp)).alloc (.cells #[.slice none 0 0, .int .i64 0, .int .i64 0] 26))).after hb)
  have hA : Af w w2 := (((Af.refl w).alloc (.cells #[.slice a k c, .int .i64 n, .int .i64 m] 41)).alloc (.cells #[.slice none 0 0, .int .i64 0, .int .i64 0] 26)).alloc (.cells #[.slice none 0 0, .int .i64 0, .int .i64 0] 26) |>.after hb
  have HA := Lib.hid hA
  clear hb h2 hA
  go_wp2
  exact bodyPost_ret (results_log Tryd.results22 _ _ (w.heap.size + 1) _ _ _ rfl (((X1.out.st3o (by omega) _ _ _).st3 _ _ _)).cells3) rfl ⟨_, _, _, rfl, (((H2.out.st3 (by simp) _ _ _).st3 (by simp <;> omega) _ _ _)).mono (by simp <;> omega), (HA.out.st3 (by omega) _ _ _).st3 (by omega) _ _ _⟩
end Go.Proofs.YtmnglcidklckgaaDoor
