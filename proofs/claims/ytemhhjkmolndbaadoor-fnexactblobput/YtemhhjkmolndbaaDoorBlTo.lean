/- The law's measure of a store, and its copy of one. -/
import Derived.Test.YtemhhjkmolndbaaDoorBlO
namespace Go.Proofs.YtemhhjkmolndbaaDoor
open Go.RowKit Go.PlainAid
set_option linter.unusedVariables false

theorem asAddr_pt (P : Program) (w : World) (a : Addr) : (asAddr (.pointer (some a))).run P w = .ok a w := rfl
theorem load_blobs (w : World) (g : Nat) (x0 x1 : Value) (h : w.cell? ⟨g, 0, none⟩ = some x0 ∧ w.cell? ⟨g, 1, none⟩ = some x1) : (loadVar 41 ⟨g, 0, none⟩).run Tryd.prog w = .ok (.agg #[x0, x1]) w := by
  obtain ⟨h0, h1⟩ := h
  go_simp
theorem results_blobs {fn : Func} {p : Tmp} (h : fn.results = #[.cell p 41]) (tmps : Array Value) (w : World) (g : Nat) (x0 x1 : Value)
    (hp : tmps.getD p undef = .pointer (some ⟨g, 0, none⟩)) (hc : w.cell? ⟨g, 0, none⟩ = some x0 ∧ w.cell? ⟨g, 1, none⟩ = some x1) : (results fn tmps).run Tryd.prog w = .ok (.agg #[x0, x1]) w := by
  have e : (results fn tmps).run Tryd.prog w = ((asAddr (tmps.getD p undef)).run Tryd.prog w).andThen fun a w₁ => (loadVar 41 a).run Tryd.prog w₁ := by
    simp only [results, h]
    simp [Sem.run_bind, Result.andThen]
  rw [e, hp, asAddr_pt]
  simp only [Result.andThen]
  exact load_blobs w g x0 x1 hc
theorem results_blobs2 {fn : Func} {p q : Tmp} (h : fn.results = #[.cell p 41, .tmp q]) (tmps : Array Value) (w : World) (g : Nat) (x0 x1 : Value)
    (hp : tmps.getD p undef = .pointer (some ⟨g, 0, none⟩)) (hc : w.cell? ⟨g, 0, none⟩ = some x0 ∧ w.cell? ⟨g, 1, none⟩ = some x1) : (results fn tmps).run Tryd.prog w = .ok (.tuple #[.agg #[x0, x1], tmps.getD q undef]) w := by
  have hl := load_blobs w g x0 x1 hc
  have e : (results fn tmps).run Tryd.prog w = ((asAddr (tmps.getD p undef)).run Tryd.prog w).andThen fun a w₁ => ((loadVar 41 a).run Tryd.prog w₁).andThen fun x w₂ => .ok (.tuple #[x, tmps.getD q undef]) w₂ := by
    simp only [results, h]
    simp [Sem.run_bind, Result.andThen]
  rw [e, hp, asAddr_pt]
  simp only [Result.andThen]
  rw [hl]
theorem results_blobs3 {fn : Func} {p q r : Tmp} (h : fn.results = #[.cell p 41, .tmp q, .tmp r]) (tmps : Array Value) (w : World) (g : Nat) (x0 x1 : Value)
    (hp : tmps.getD p undef = .pointer (some ⟨g, 0, none⟩)) (hc : w.cell? ⟨g, 0, none⟩ = some x0 ∧ w.cell? ⟨g, 1, none⟩ = some x1) : (results fn tmps).run Tryd.prog w = .ok (.tuple #[.agg #[x0, x1], tmps.getD q undef, tmps.getD r undef]) w := by
  have hl := load_blobs w g x0 x1 hc
  have e : (results fn tmps).run Tryd.prog w = ((asAddr (tmps.getD p undef)).run Tryd.prog w).andThen fun a w₁ => ((loadVar 41 a).run Tryd.prog w₁).andThen fun x w₂ => .ok (.tuple #[x, tmps.getD q undef, tmps.getD r undef]) w₂ := by
    simp only [results, h]
    simp [Sem.run_bind, Result.andThen]
  rw [e, hp, asAddr_pt]
  simp only [Result.andThen]
  rw [hl]

/-! ### the measure -/
set_option maxHeartbeats 400000 in
theorem sz_blob_yes (f t : ByteArray) (b : Bool) (r : Int) (w : World) (h : ((f.size + t.size : Nat) : Int) ≤ r) (hr : r ≤ 1048576) :
    Calls Tryd.prog 99 #[.agg #[.string f, .string t, .bool b], .int .i64 r] w fun e w' => e = .returned (.int .i64 (r - f.size - t.size)) ∧ Below w.heap.size w w' := by
  have h0 : (0 : Int) ≤ t.size := by omega
  have h1 : (0 : Int) ≤ f.size := by omega
  have hd : decide (r - (f.size : Int) < 0) = false := by simp; omega
  have hd2 : decide (r - (f.size : Int) - (t.size : Int) < 0) = false := by simp; omega
  have hx : (f.size : Int) + (t.size : Int) ≤ r := by omega
  clear h
  go_enter Tryd.func99, Tryd.ntmps99
  go_wp2
  go_ret
  exact ⟨rfl, (Below.refl _ _).alloc (Nat.le_refl _) _⟩
set_option maxHeartbeats 400000 in
theorem sz_blob_no (f t : ByteArray) (b : Bool) (r : Int) (w : World) (h : r < ((f.size + t.size : Nat) : Int)) (h0 : 0 ≤ r) (hr : r ≤ 1048576) (hf : f.size ≤ 9223372036854775807) (ht : t.size ≤ 9223372036854775807) :
    Calls Tryd.prog 99 #[.agg #[.string f, .string t, .bool b], .int .i64 r] w fun e w' => e = .returned (.int .i64 (-1)) ∧ Below w.heap.size w w' := by
  have hti : (t.size : Int) ≤ 9223372036854775807 := by omega
  have hfi : (f.size : Int) ≤ 9223372036854775807 := by omega
  have h1 : (0 : Int) ≤ t.size := by omega
  have h2 : (0 : Int) ≤ f.size := by omega
  have hx : r < (f.size : Int) + (t.size : Int) := by omega
  clear h hf ht
  by_cases hc : r < (f.size : Int)
  · have hd : decide (r - (f.size : Int) < 0) = true := by simp; omega
    go_enter Tryd.func99, Tryd.ntmps99
    go_wp2
    go_ret
    exact ⟨rfl, (Below.refl _ _).alloc (Nat.le_refl _) _⟩
  · have hd : decide (r - (f.size : Int) < 0) = false := by simp; omega
    have hd2 : decide (r - (f.size : Int) - (t.size : Int) < 0) = true := by simp; omega
    have hc' : (f.size : Int) ≤ r := by omega
    clear hc
    go_enter Tryd.func99, Tryd.ntmps99
    go_wp2
    go_ret
    exact ⟨rfl, (Below.refl _ _).alloc (Nat.le_refl _) _⟩
/-- No text of it is greater than the law's measure. -/
def Sml (l : List Bb) : Prop := ∀ j, j < l.length → (bI l j).size ≤ 1048576 ∧ (bD l j).size ≤ 1048576
theorem Sml.big {l : List Bb} (h : Sml l) (j : Nat) (hj : j < l.length) : (bI l j).size ≤ 9223372036854775807 ∧ (bD l j).size ≤ 9223372036854775807 := by
  have := h j hj
  omega
/-- What is left when chunks are measured. -/
def SzBl (l : List Bb) (e : Ending) : Prop := e = .returned (.int .i64 (-1)) ∨ ∃ r : Int, e = .returned (.int .i64 r) ∧ 0 ≤ r ∧ l.length ≤ 1048576 ∧ Sml l
set_option maxRecDepth 100000 in
set_option maxHeartbeats 1000000 in
theorem sz_blobL (v : Value) (l : List Bb) (w : World) (hv : Blbs w v l) :
    Calls Tryd.prog 67 #[v, .int .i64 1048576] w fun e w' => SzBl l e ∧ Below w.heap.size w w' := by
  obtain ⟨k1, k2, a, ca, rfl, hca, ha⟩ := hv
  obtain ⟨n, hn⟩ : ∃ n, l.length = n := ⟨_, rfl⟩
  rw [hn] at k1 k2 hca ha ⊢
  have HN := Lib.hid hn
  have HA := Lib.hid ha
  have HK := Lib.hid k2
  clear hn ha k2 hca
  by_cases hbig : 1048576 < n
  · have hni : (1048576 : Int) < (n : Int) := by omega
    have hd : decide ((1048576 : Int) - (n : Int) < 0) = true := by simp; omega
    go_enter Tryd.func67, Tryd.ntmps67
    go_wp2
    go_ret
    exact ⟨.inl rfl, Below.refl _ _⟩
  · have hni : (n : Int) ≤ 1048576 := by omega
    have hd : decide ((1048576 : Int) - (n : Int) < 0) = false := by simp; omega
    go_enter Tryd.func67, Tryd.ntmps67
    go_wp2
    go_loopw [1, 5] (fun r i wr => ∃ (k : Nat) (x : Int), k ≤ n ∧ i = .int .i64 k ∧ r = .int .i64 x ∧ 0 ≤ x ∧ x ≤ 1048576 ∧ (∀ j, j < k → (bI l j).size ≤ 1048576 ∧ (bD l j).size ≤ 1048576) ∧ Below w.heap.size w wr) (fun _ i _ => n - (intOf i).toNat)
    case atStart => exact ⟨0, _, by omega, rfl, rfl, by omega, by omega, fun j hj => by omega, Below.refl _ _⟩
    case round =>
      obtain ⟨k, x, hk, rfl, rfl, hx0, hx1, he, hb⟩ := hrel
      have HE := Lib.hid he
      have HB := Lib.hid hb
      clear he hb hd
      by_cases hlt : k < n
      · obtain ⟨y, o, rfl, hy, hcy⟩ := HA.out (by omega)
        obtain ⟨c1, c2, c3⟩ := (hcy k hlt).below HB.out hy
        have hsz := HK.out k hlt
        clear hcy
        by_cases hfit : (((bI l k).size + (bD l k).size : Nat) : Int) ≤ x
        · go_wp2_with fail
          refine (sz_blob_yes _ _ _ _ _ hfit hx1).mono ?_
          rintro e w2 ⟨rfl, hb2⟩
          have HB2 := Lib.hid (HB.out.trans (hb2.mono HB.out.size))
          obtain ⟨z, hz⟩ : ∃ z, x - ((bI l k).size : Int) - ((bD l k).size : Int) = z := ⟨_, rfl⟩
          rw [hz]
          have hd2 : decide (z < 0) = false := by simp; omega
          have hq0 : 0 ≤ z := by omega
          have hq1 : z ≤ 1048576 := by omega
          have HQ2 := Lib.hid (show (bI l k).size ≤ 1048576 ∧ (bD l k).size ≤ 1048576 by omega)
          clear hb2 hz hfit hsz
          go_wp2
          go_roundw
          case rel =>
            refine ⟨k + 1, _, by omega, by go_num, rfl, hq0, hq1, fun j hj => ?_, HB2.out⟩
            by_cases e : j = k
            · subst e; exact HQ2.out
            · exact HE.out j (by omega)
          case measure => simp only [intOf]; omega
        · go_wp2_with fail
          refine (sz_blob_no _ _ _ _ _ (by omega) hx0 hx1 hsz.1 hsz.2).mono ?_
          rintro e w2 ⟨rfl, hb2⟩
          have HB2 := Lib.hid (HB.out.trans (hb2.mono HB.out.size))
          clear hb2
          go_wp2
          go_ret
          exact ⟨.inl rfl, HB2.out⟩
      · obtain rfl : k = n := by omega
        go_wp2
        go_ret
        exact ⟨.inr ⟨x, rfl, hx0, by rw [HN.out]; omega, fun j hj => HE.out j (by rw [HN.out] at hj; exact hj)⟩, HB.out⟩
set_option maxHeartbeats 400000 in
theorem sz_blobs (v : Value) (l : List Bb) (q : Int) (w : World) (hv : Blbs w v l) :
    Calls Tryd.prog 32 #[.agg #[.int .i64 q, v], .int .i64 1048576] w fun e w' => SzBl l e ∧ Below w.heap.size w w' := by
  have H := Lib.hid (sz_blobL v l _ (hv.alloc (.cells #[.int .i64 q, v] 55)))
  obtain ⟨a, k, c, rfl⟩ := hv.form
  clear hv
  go_enter Tryd.func32, Tryd.ntmps32
  go_wp2_with fail
  refine H.out.mono ?_
  rintro e w2 ⟨(rfl | ⟨r, rfl, r0, r1, r2⟩), hb⟩
  · have HB := Lib.hid hb
    clear hb
    go_wp2
    go_ret
    exact ⟨.inl rfl, ((Below.refl _ _).alloc (Nat.le_refl _) _).trans (HB.out.mono (by simp))⟩
  · have HB := Lib.hid hb
    have R := Lib.hid r2
    have hd : decide (r < 0) = false := by simp; omega
    clear hb r2
    go_wp2
    go_ret
    exact ⟨.inr ⟨r, rfl, r0, r1, R.out⟩, ((Below.refl _ _).alloc (Nat.le_refl _) _).trans (HB.out.mono (by simp))⟩

/-! ### the copy -/
set_option maxHeartbeats 400000 in
theorem to_blob (f t : ByteArray) (b : Bool) (w : World) :
    Calls Tryd.prog 100 #[.agg #[.string f, .string t, .bool b]] w fun e w' => e = .returned (.agg #[.string f, .string t, .bool b]) ∧ Below w.heap.size w w' := by
  go_enter Tryd.func100, Tryd.ntmps100
  go_wp2
  exact bodyPost_ret (v := .agg #[.string f, .string t, .bool b]) (by simp [results, Tryd.results100, go_sem]) rfl ⟨rfl, (((Below.refl _ _).alloc (Nat.le_refl _) _).alloc (by simp) _).alloc (by simp; omega) _⟩
/-- The first j chunks are there, behind them empty ones. -/
def toG (l : List Bb) (j : Nat) : List Bb := (List.range l.length).map fun i => if i < j then ⟨bI l i, bD l i, bX l i⟩ else bb0
theorem toG_length (l : List Bb) (j : Nat) : (toG l j).length = l.length := by simp [toG]
theorem toG_get (l : List Bb) (j i : Nat) (h : i < l.length) : (toG l j)[i]? = some (if i < j then ⟨bI l i, bD l i, bX l i⟩ else bb0) := by
  rw [toG, List.getElem?_map, List.getElem?_range h]
  rfl
theorem toG_at (l : List Bb) (j i : Nat) (h : i < l.length) : bI (toG l j) i = (if i < j then bI l i else ByteArray.empty) ∧ bD (toG l j) i = (if i < j then bD l i else ByteArray.empty) ∧ bX (toG l j) i = (if i < j then bX l i else false) := by
  have g := toG_get l j i h
  rw [bI_of g, bD_of g, bX_of g]
  split <;> exact ⟨rfl, rfl, rfl⟩
theorem toG_all (l : List Bb) : toG l l.length = l :=
  bb_ext _ _ (toG_length l _) fun j hj => by rw [toG_length] at hj; obtain ⟨a, b, c⟩ := toG_at l l.length j hj; rw [a, b, c, if_pos hj, if_pos hj, if_pos hj]; exact ⟨rfl, rfl, rfl⟩
theorem toG_step (l : List Bb) (j : Nat) (h : j < l.length) (x : Bb) (hx : x = ⟨bI l j, bD l j, bX l j⟩) : (toG l j).set j x = toG l (j + 1) := by
  subst hx
  apply bb_ext
  · rw [List.length_set, toG_length, toG_length]
  · intro i hi
    rw [List.length_set, toG_length] at hi
    obtain ⟨a1, a2, a3⟩ := bb_set (toG l j) j i ⟨bI l j, bD l j, bX l j⟩ (by rw [toG_length]; exact h)
    obtain ⟨b1, b2, b3⟩ := toG_at l j i hi
    obtain ⟨c1, c2, c3⟩ := toG_at l (j + 1) i hi
    rw [a1, a2, a3, b1, b2, b3, c1, c2, c3]
    by_cases e : i = j
    · subst e; simp
    · by_cases e2 : i < j
      · simp [e, e2, show i < j + 1 by omega]
      · simp [e, e2, show ¬ i < j + 1 by omega]
/-- A chunk is written whole. -/
theorem BlOwn.put {w : World} {base g o n cap : Nat} {l : List Bb} (h : BlOwn w base (.slice (some ⟨g, o, none⟩) n cap) l) (j : Nat) (x : Bb) (hj : j < l.length) :
    BlOwn (((w.setCell ⟨g, o + j * 3, none⟩ (.string x.id)).setCell ⟨g, o + j * 3 + 1, none⟩ (.string x.dat)).setCell ⟨g, o + j * 3 + 2, none⟩ (.bool x.bad)) base (.slice (some ⟨g, o, none⟩) n cap) (l.set j x) := by
  have h1 := h.setI j x.id hj
  have h2 := h1.setD j x.dat (by rw [List.length_set]; exact hj)
  have h3 := h2.setX j x.bad (by rw [List.length_set, List.length_set]; exact hj)
  rw [List.set_set, List.set_set] at h3
  obtain ⟨p1, p2, p3⟩ := bb_set l j j ⟨x.id, bD l j, bX l j⟩ hj
  obtain ⟨q1, q2, q3⟩ := bb_set (l.set j ⟨x.id, bD l j, bX l j⟩) j j ⟨bI (l.set j ⟨x.id, bD l j, bX l j⟩) j, x.dat, bX (l.set j ⟨x.id, bD l j, bX l j⟩) j⟩ (by rw [List.length_set]; exact hj)
  simp only [if_true] at p1 p2 p3 q1 q2 q3
  rw [q1, q2, p1] at h3
  exact h3
theorem Tryd.infoBlob : (Tryd.prog.info? 89).map (fun i => (i.zero, i.size, i.bytes)) = some (some (.agg #[.string ⟨#[]⟩, .string ⟨#[]⟩, .bool false]), 3, 40) := by kernel_rfl
/-- make([]Blob, n). -/
theorem make_blobs (w : World) (l : List Bb) (n : Nat) (hn : l.length = n) (hb : n ≤ 1048576) :
    ∃ w1, (Instr.makeSlice 39 (.int .i64 (n : Int)) (.int .i64 (n : Int))).run Tryd.prog w = .ok (.slice (some ⟨w.heap.size, 0, none⟩) n n) w1 ∧ BlOwn w1 w.heap.size (.slice (some ⟨w.heap.size, 0, none⟩) n n) (toG l 0) ∧ Below w.heap.size w w1 ∧ w.heap.size < w1.heap.size := by
  obtain ⟨i, hi, hz, hs, hby⟩ := info_parts Tryd.infoBlob
  have h := run_make (P := Tryd.prog) w 39 89 i _ Tryd.underlying39 hi hz .i64 .i64 n n (by omega) (Int.le_refl _) (by rw [hby]; omega) (by omega)
  simp only [Int.toNat_natCast, hs] at h
  refine ⟨_, h, ⟨_, n, by rw [toG_length, hn], by rw [toG_length, hn]; exact Nat.le_refl _, by rw [toG_length, hn]; omega, fun h0 => ⟨w.heap.size, 0, _, rfl, ⟨Nat.le_refl _, by simp [madeCells]⟩, heap_alloc_new w _, fun j hj => ?_⟩⟩, (Below.refl _ _).alloc (Nat.le_refl _) _, by simp⟩
  rw [toG_length] at hj
  obtain ⟨a1, a2, a3⟩ := toG_at l 0 j hj
  rw [a1, a2, a3, if_neg (by omega), if_neg (by omega), if_neg (by omega), Nat.zero_add]
  have hc : (Value.agg #[.string ⟨#[]⟩, .string ⟨#[]⟩, .bool false]).cells = #[.string ⟨#[]⟩, .string ⟨#[]⟩, .bool false] := rfl
  rw [hc]
  refine ⟨?_, ?_, ?_⟩
  · simp [madeCells, show j * 3 < n * 3 by omega, show j * 3 % 3 = 0 by omega]
    rfl
  · simp [madeCells, show j * 3 + 1 < n * 3 by omega, show (j * 3 + 1) % 3 = 1 by omega]
    rfl
  · simp [madeCells, show j * 3 + 2 < n * 3 by omega, show (j * 3 + 2) % 3 = 2 by omega]

set_option maxRecDepth 100000 in
set_option maxHeartbeats 1000000 in
theorem to_blobL (v : Value) (l : List Bb) (w : World) (hv : Blbs w v l) (hl : l.length ≤ 1048576) :
    Calls Tryd.prog 68 #[v] w fun e w' => ∃ u, e = .returned u ∧ BlOwn w' w.heap.size u l ∧ Below w.heap.size w w' ∧ ∀ k, u.ownBlock = some k → w.heap.size ≤ k ∧ k < w'.heap.size := by
  obtain ⟨k1, k2, a, ca, rfl, hca, ha⟩ := hv
  obtain ⟨n, hn⟩ : ∃ n, l.length = n := ⟨_, rfl⟩
  obtain ⟨w1, hmk, hown, hb1, hlt1⟩ := make_blobs w l n hn (by omega)
  rw [hn] at k1 k2 hca ha hl ⊢
  have HN := Lib.hid hn
  have HA := Lib.hid ha
  have HO := Lib.hid hown
  have HB := Lib.hid hb1
  obtain ⟨g, hg⟩ : ∃ g, g = w.heap.size := ⟨_, rfl⟩
  rw [← hg] at hmk HO HB hlt1 ⊢
  have HLT := Lib.hid hlt1
  have HG := Lib.hid hg
  clear hn ha k2 hca hown hb1 hg hlt1
  go_enter Tryd.func68, Tryd.ntmps68
  go_wp2
  clear hmk
  go_loopw [4] (fun i wr => ∃ k : Nat, k ≤ n ∧ i = .int .i64 k ∧ BlOwn wr g (.slice (some ⟨g, 0, none⟩) n n) (toG l k) ∧ Below g w wr ∧ g < wr.heap.size) (fun i _ => n - (intOf i).toNat)
  case atStart => exact ⟨0, by omega, rfl, HO.out, HB.out, HLT.out⟩
  case round =>
    clear HO HB HLT
    obtain ⟨k, hk, rfl, ho, hb, hlt1⟩ := hrel
    have HLT := Lib.hid hlt1
    clear hlt1
    have HO := Lib.hid ho
    have HB := Lib.hid hb
    clear hb
    by_cases hlt : k < n
    · obtain ⟨y, o, rfl, hy, hcy⟩ := HA.out (by omega)
      have hyg : y < g := by rw [HG.out]; exact hy
      obtain ⟨c1, c2, c3⟩ := (hcy k hlt).below HB.out hyg
      clear hcy ho
      go_wp2_with fail
      refine (to_blob _ _ _ _).mono ?_
      rintro e w2 ⟨rfl, hb2⟩
      have ho2 := HO.out.later hb2
      have HB2 := Lib.hid (HB.out.trans (hb2.mono (by rw [HG.out]; rw [HG.out] at HB; exact HB.out.size)))
      obtain ⟨g', o', e1, e3, _, hg2, hc2⟩ := ho2.cells (by rw [toG_length, HN.out]; omega)
      simp only [Option.some.injEq, Addr.mk.injEq] at e1
      obtain ⟨rfl, rfl, _⟩ := e1
      obtain ⟨⟨d1, d2, d3⟩, f1, f2, f3⟩ := hc2 k (by rw [toG_length, HN.out]; omega)
      rw [Nat.zero_add] at d1 d2 d3 f1 f2 f3
      have HO2 := Lib.hid ho2
      clear ho2 hb2 hc2 e3 HO HB c1 c2 c3
      go_wp2
      go_roundw
      case rel =>
        refine ⟨k + 1, by omega, by go_num, ?_, ((HB2.out.setCell (p := ⟨g, k * 3, none⟩) (Nat.le_refl _) _).setCell (p := ⟨g, k * 3 + 1, none⟩) (Nat.le_refl _) _).setCell (p := ⟨g, k * 3 + 2, none⟩) (Nat.le_refl _) _, by simpa using hg2⟩
        have h := HO2.out.put k ⟨bI l k, bD l k, bX l k⟩ (by rw [toG_length, HN.out]; omega)
        rw [toG_step l k (by rw [HN.out]; omega) _ rfl] at h
        simp only [Nat.zero_add] at h
        exact h
      case measure => simp only [intOf]; omega
    · obtain rfl : k = n := by omega
      go_wp2
      go_ret
      exact ⟨_, rfl, by have h := HO.out; rw [← HN.out, toG_all] at h; rw [← HN.out]; exact h, HB.out, fun k hk => by cases hk; exact ⟨Nat.le_refl _, HLT.out⟩⟩
set_option maxHeartbeats 400000 in
theorem to_blobs (v : Value) (l : List Bb) (q : Int) (w : World) (hv : Blbs w v l) (hl : l.length ≤ 1048576) :
    Calls Tryd.prog 33 #[.agg #[.int .i64 q, v]] w fun e w' => ∃ a k c, e = .returned (.agg #[.int .i64 q, .slice a k c]) ∧ BlOwn w' w.heap.size (.slice a k c) l ∧ Below w.heap.size w w' ∧ ∀ b, Value.ownBlock (.slice a k c) = some b → w.heap.size ≤ b ∧ b < w'.heap.size := by
  have H := Lib.hid (to_blobL v l _ (((hv.alloc (.cells #[.int .i64 q, v] 55)).alloc (.cells #[.int .i64 0, .slice none 0 0] 41)).alloc (.cells #[.int .i64 q, .slice none 0 0] 41)) hl)
  obtain ⟨a, k, c, rfl⟩ := hv.form
  clear hv
  go_enter Tryd.func33, Tryd.ntmps33
  go_wp2_with fail
  refine H.out.mono ?_
  rintro e w2 ⟨u, rfl, h2, hb, hob⟩
  have OB := Lib.hid hob
  clear hob
  obtain ⟨hc, hf⟩ := bcell hb
  obtain ⟨a', k', c', rfl⟩ := h2.form
  have H2 := Lib.hid h2
  have HB := Lib.hid hb
  have hz : w.heap.size + 1 + 1 < w2.heap.size := by have := hb.size; simp at this; omega
  have X1 := Lib.hid ((((Bx.new (w.alloc (.cells #[.int .i64 q, .slice a k c] 55)) 41 #[.int .i64 0, .slice none 0 0] (w.heap.size + 1) (by simp)).alloc (.cells #[.int .i64 q, .slice none 0 0] 41))).after hb)
  have hA : Af w w2 := (((Af.refl w).alloc (.cells #[.int .i64 q, .slice a k c] 55)).alloc (.cells #[.int .i64 0, .slice none 0 0] 41)).alloc (.cells #[.int .i64 q, .slice none 0 0] 41) |>.after hb
  have HA := Lib.hid hA
  clear hb h2 hA
  go_wp2
  exact bodyPost_ret (results_blobs Tryd.results33 _ _ (w.heap.size + 1) _ _ rfl (((X1.out.set_other ⟨w.heap.size + 1 + 1, 1, none⟩ _ (show w.heap.size + 1 ≠ w.heap.size + 1 + 1 by omega)).st2 _ _)).cells2) rfl ⟨_, _, _, rfl, (((H2.out.setO (by simp) _).st2 (by simp <;> omega) _ _)).mono (by simp <;> omega), (HA.out.set (p := ⟨w.heap.size + 1 + 1, 1, none⟩) (show w.heap.size ≤ w.heap.size + 1 + 1 by omega) _).st2 (by omega) _ _, fun b hb => by have h := OB.out b hb; simp at h ⊢; omega⟩
end Go.Proofs.YtemhhjkmolndbaaDoor
