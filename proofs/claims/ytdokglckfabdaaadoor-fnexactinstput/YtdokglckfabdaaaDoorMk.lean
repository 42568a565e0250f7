/- A bundle of texts: MarkT, MarkG, InCs, InMx, RiMk. -/
import Derived.Test.YtdokglckfabdaaaDoorBytes
import Derived.Laws.Concat
import Derived.Laws.BytesArg
import Derived.Deep.RegionHeld3
import Derived.Test.YtdokglckfabdaaaDoorStrG
import Derived.Test.YtdokglckfabdaaaDoorStrsE
import Derived.Test.YtdokglckfabdaaaDoorInCp
import Derived.Test.YtdokglckfabdaaaDoorEmM
/- The laws' marks: the text of a number. -/
namespace Go.Proofs.YtdokglckfabdaaaDoor
open Go.RowKit Go.PlainAid
set_option linter.unusedVariables false

/-- The digits of k before what stands in o. -/
def finT : Nat → Nat → ByteArray → ByteArray
  | 0, _, o => o
  | f + 1, k, o => if k = 0 then o else finT f (k / 10) (strOfNums [48 + (k : Int) % 10] ++ o)
theorem finT_zero (f : Nat) (o : ByteArray) : finT f 0 o = o := by cases f <;> simp [finT]
theorem finT_step (f k : Nat) (o : ByteArray) (h : k ≠ 0) : finT (f + 1) k o = finT f (k / 10) (strOfNums [48 + (k : Int) % 10] ++ o) := by simp [finT, h]
theorem finT_size (f k : Nat) (o : ByteArray) : (finT f k o).size ≤ f + o.size := by
  induction f generalizing k o with
  | zero => simp [finT]
  | succ f ih =>
    unfold finT
    split
    · omega
    · have := ih (k / 10) (strOfNums [48 + (k : Int) % 10] ++ o)
      rw [ByteArray.size_append, strOfNums_size] at this
      simp at this
      omega
@[irreducible] def mkT (k : Nat) : ByteArray := ⟨#[109]⟩ ++ finT k k ⟨#[]⟩
set_option maxRecDepth 100000 in
set_option maxHeartbeats 1000000 in
theorem mark_text (k : Nat) (w : World) (h1 : 1 ≤ k) (h4 : k ≤ 4194305) : Calls Tryd.prog 31 #[.int .i64 k] w fun e w' => e = .returned (.string (mkT k)) ∧ Below w.heap.size w w' := by
  have hM : mkT k = ⟨#[109]⟩ ++ finT k k ⟨#[]⟩ := by unfold mkT; rfl
  rw [hM]
  have hconv := conv_one
  clear hM
  obtain ⟨R, hR⟩ : ∃ R, finT k k ⟨#[]⟩ = R := ⟨_, rfl⟩
  have HR := Lib.hid hR
  have hRz : R.size ≤ k + 0 := by rw [← hR]; exact finT_size k k _
  rw [hR]
  clear hR
  go_enter Tryd.func31, Tryd.ntmps31
  go_wp2
  go_loopw [0, 3] (fun a o wr => ∃ (f m : Nat) (t : ByteArray), m ≤ f ∧ f + t.size ≤ k ∧ a = .int .i64 m ∧ o = .string t ∧ finT f m t = R ∧ Below w.heap.size w wr) (fun a _ _ => (intOf a).toNat)
  case atStart => exact ⟨k, k, ⟨#[]⟩, Nat.le_refl _, Nat.le_refl _, rfl, rfl, HR.out, Below.refl _ _⟩
  case round =>
    obtain ⟨f, m, t, hmf, hft, rfl, rfl, hfin, hbw⟩ := hrel
    have HF := Lib.hid hfin
    have HB := Lib.hid hbw
    clear hfin hbw HR
    by_cases h0 : m = 0
    · subst h0
      have ht : t = R := by rw [← HF.out]; exact (finT_zero f t).symm
      subst ht
      have hss : ({ data := #[109] } : ByteArray).size + t.size ≤ 9223372036854775807 := by
        have e : ({ data := #[109] } : ByteArray).size = 1 := rfl
        rw [e]
        omega
      go_wp2
      go_ret
      exact ⟨rfl, HB.out⟩
    · have hm1 : 1 ≤ m := by omega
      obtain ⟨f', rfl⟩ : ∃ f', f = f' + 1 := ⟨f - 1, by omega⟩
      have hst := finT_step f' m t h0
      rw [HF.out] at hst
      have HST := Lib.hid hst
      have hz1 : (strOfNums [48 + (m : Int) % 10]).size = 1 := by rw [strOfNums_size]; rfl
      have hss : (strOfNums [48 + (m : Int) % 10]).size + t.size ≤ 9223372036854775807 := by rw [hz1]; omega
      clear hst HF h0
      go_wp2
      go_roundw
      case rel => exact ⟨f', m / 10, _, by omega, by rw [ByteArray.size_append, hz1]; omega, by go_num, rfl, HST.out.symm, HB.out.alloc HB.out.size _⟩
      case measure => simp only [intOf]; omega
theorem mkT_size (k : Nat) : (mkT k).size ≤ k + 1 := by
  unfold mkT
  rw [ByteArray.size_append]
  have := finT_size k k ⟨#[]⟩
  have e : (⟨#[]⟩ : ByteArray).size = 0 := rfl
  have e1 : (⟨#[109]⟩ : ByteArray).size = 1 := rfl
  rw [e] at this
  rw [e1]
  omega
end Go.Proofs.YtdokglckfabdaaaDoor
/- The laws' marks on a slice of strings, of any length. -/
namespace Go.Proofs.YtdokglckfabdaaaDoor
open Go.RowKit Go.PlainAid
set_option linter.unusedVariables false

/-- The first j strings are marks. -/
def mkL (l : List ByteArray) (j : Nat) : List ByteArray := (List.range l.length).map fun i => if i < j then mkT (i + 1) else el l i
theorem mkL_length (l : List ByteArray) (j : Nat) : (mkL l j).length = l.length := by simp [mkL]
theorem mkL_el (l : List ByteArray) (j i : Nat) (h : i < l.length) : el (mkL l j) i = if i < j then mkT (i + 1) else el l i := by
  rw [el_eq, List.getD, mkL, List.getElem?_map, List.getElem?_range h]
  rfl
theorem mkL_zero (l : List ByteArray) : mkL l 0 = l := el_ext _ _ (mkL_length l 0) (fun j hj => by rw [mkL_length] at hj; rw [mkL_el l 0 j hj]; simp)
theorem mkL_set (l : List ByteArray) (j : Nat) (h : j < l.length) : (strV (mkL l j)).set j (.string (mkT (j + 1))) = strV (mkL l (j + 1)) := by
  apply List.ext_getElem?
  intro i
  by_cases hi : i < l.length
  · rw [strV_get (mkL l (j + 1)) i (by rw [mkL_length]; exact hi), mkL_el l (j + 1) i hi, List.getElem?_set]
    by_cases e : j = i
    · subst e
      rw [if_pos rfl, if_pos (by unfold strV; rw [List.length_map, mkL_length]; exact hi), if_pos (by omega)]
    · rw [if_neg e, strV_get (mkL l j) i (by rw [mkL_length]; exact hi), mkL_el l j i hi]
      by_cases h2 : i < j
      · rw [if_pos h2, if_pos (by omega)]
      · rw [if_neg h2, if_neg (by omega)]
  · rw [List.getElem?_eq_none (by simp [strV, mkL_length]; omega), List.getElem?_eq_none (by simp [strV, mkL_length]; omega)]
set_option maxRecDepth 100000 in
set_option maxHeartbeats 1000000 in
theorem mark_strs (v : Value) (l : List ByteArray) (base : Nat) (w : World) (hv : GrowsS w base v l) (hl : l.length ≤ 1048576) :
    Calls Tryd.prog 32 #[v, .int .i64 1] w fun e w' => e = .returned (.int .i64 ((l.length : Int) + 1)) ∧ GrowsS w' base v (mkL l l.length) ∧ w.grownBy w' v.ownBlock := by
  rcases hv.2 with ⟨rfl, h0⟩ | ⟨g, cap, cur, rfl, _⟩
  · have : l = [] := List.eq_nil_of_length_eq_zero h0
    subst this
    have HV := Lib.hid hv
    clear hv
    go_enter Tryd.func32, Tryd.ntmps32
    go_wp2
    go_loop [1, 5] (fun kv i => kv = .int .i64 1 ∧ i = .int .i64 0) (fun _ _ => 0)
    case atStart => exact ⟨rfl, rfl⟩
    case round =>
      obtain ⟨rfl, rfl⟩ := hrel
      go_wp2
      go_ret
      exact ⟨rfl, HV.out, World.grownBy.refl _ _⟩
  · have hg0 := (World.ownsRow.lt hv g rfl).2
    have HV0 := Lib.hid hv
    clear hv
    obtain ⟨n, hn⟩ : ∃ n, l.length = n := ⟨_, rfl⟩
    rw [hn] at hl HV0 ⊢
    have HN := Lib.hid hn
    clear hn
    go_enter Tryd.func32, Tryd.ntmps32
    go_wp2
    go_loopw [1, 5] (fun kv i wr => ∃ j : Nat, j ≤ n ∧ i = .int .i64 j ∧ kv = .int .i64 ((j : Int) + 1) ∧ GrowsS wr base (.slice (some ⟨g, 0, none⟩) n cap) (mkL l j) ∧ w.grownBy wr (some g)) (fun _ i _ => n - (intOf i).toNat)
    case atStart => exact ⟨0, by omega, rfl, rfl, by rw [mkL_zero]; exact HV0.out, World.grownBy.refl _ _⟩
    case round =>
      clear HV0
      obtain ⟨j, hj, rfl, rfl, hv, hg⟩ := hrel
      have HV := Lib.hid hv
      have HG := Lib.hid hg
      clear hv hg
      by_cases hlt : j < n
      · have hm := fun W => mark_text (j + 1) W (by omega) (by omega)
        have HM := Lib.hid hm
        clear hm
        go_wp2_with fail
        refine (HM.out _).mono ?_
        rintro e w2 ⟨rfl, hb⟩
        have HV2 := Lib.hid (HV.out.later hb)
        have HG2 := Lib.hid (HG.out.trans (grown_of_below hb _))
        clear HV hb HG
        have hrow : w2.ownsRow base 9 1 (.slice (some ⟨g, 0, none⟩) n cap) n (strV (mkL l j)) := by
          have h := HV2.out
          unfold GrowsS at h
          rwa [mkL_length, HN.out] at h
        have HRW := Lib.hid hrow
        have fz := World.ownsRow.frozenAt hrow j
        have cz : w2.cell? ⟨g, j, none⟩ = some (.string (el (mkL l j) j)) := by rw [World.ownsRow.cellAt hrow j (by omega), strV_get _ j (by rw [mkL_length, HN.out]; exact hlt)]
        clear hrow
        go_wp2
        go_roundw
        case rel =>
          refine ⟨j + 1, by omega, by go_num, by go_num, ?_, ?_⟩
          · have h := World.ownsRow.stored HRW.out j (.string (mkT (j + 1)))
            rw [mkL_set l j (by rw [HN.out]; exact hlt)] at h
            unfold GrowsS
            rw [mkL_length, HN.out]
            exact h.1
          · exact HG2.out.trans ⟨rfl, rfl, rfl, by simp, fun k _ hne => heap_setCell_other w2 ⟨g, j, none⟩ k _ (fun e => hne (by simp [e]))⟩
        case measure => simp only [intOf]; omega
      · obtain rfl : j = n := by omega
        go_wp2
        go_ret
        exact ⟨rfl, HV.out, HG.out⟩

set_option maxRecDepth 100000 in
set_option maxHeartbeats 1000000 in
theorem held_strs (v : Value) (l : List ByteArray) (w : World) (hv : Strs w v (mkL l l.length)) (hl : l.length ≤ 1048576) :
    Calls Tryd.prog 35 #[v, .int .i64 1] w fun e w' => e = .returned (.int .i64 ((l.length : Int) + 1)) ∧ Below w.heap.size w w' := by
  obtain ⟨k1, k2, a, ca, rfl, hca, ha⟩ := hv
  rw [mkL_length] at k1 hca ha ⊢
  obtain ⟨n, hn⟩ : ∃ n, l.length = n := ⟨_, rfl⟩
  rw [hn] at k1 hl hca ha ⊢
  have HN := Lib.hid hn
  have HA := Lib.hid ha
  clear hn ha k2 hca
  go_enter Tryd.func35, Tryd.ntmps35
  go_wp2
  go_loopw [1, 5] (fun kv i wr => ∃ j : Nat, j ≤ n ∧ i = .int .i64 j ∧ kv = .int .i64 ((j : Int) + 1) ∧ Below w.heap.size w wr) (fun _ i _ => n - (intOf i).toNat)
  case atStart => exact ⟨0, by omega, rfl, rfl, Below.refl _ _⟩
  case round =>
    obtain ⟨j, hj, rfl, rfl, hb⟩ := hrel
    have HB := Lib.hid hb
    clear hb
    by_cases hlt : j < n
    · obtain ⟨x, o, rfl, hx, hcx⟩ := HA.out (by omega)
      have cx0 := hcx j hlt
      rw [mkL_el l n j (by rw [HN.out]; exact hlt), if_pos hlt] at cx0
      have cx : wr.cell? ⟨x, o + j, none⟩ = some (.string (mkT (j + 1))) := by rw [HB.out.cell (p := ⟨x, o + j, none⟩) hx]; exact cx0
      have CX := Lib.hid cx
      clear hcx cx0
      have hxr : x < wr.heap.size := Nat.lt_of_lt_of_le hx HB.out.size
      have hm := fun W => mark_text (j + 1) W (by omega) (by omega)
      have HM := Lib.hid hm
      clear hm
      have y1 : (j : Int) < (n : Int) := by omega
      have y0 : (0 : Int) ≤ (j : Int) := by omega
      go_wp2_with fail
      go_region_held3 (fun w' => w'.cell? ⟨x, o + j, none⟩ = some (.string (mkT (j + 1)))) (first | (with_reducible exact cx) | (with_reducible exact CY.out) | go_keep)
        (first | (go_at_call 31; refine (HM.out _).mono ?_; rintro e w2 ⟨rfl, hb⟩; have CY := Lib.hid (show w2.cell? ⟨x, o + j, none⟩ = some (.string (mkT (j + 1))) by rw [hb.cell (p := ⟨x, o + j, none⟩) hxr]; exact CX.out); have HB2 := Lib.hid (HB.out.trans (Below.mono (show Below wr.heap.size wr w2 from (Below.refl _ _).drew.trans hb) HB.out.size)); clear hb))
      clear cx
      go_wp2
      go_roundw
      case rel => exact ⟨j + 1, by omega, by go_num, by go_num, HB2.out⟩
      case measure => simp only [intOf]; omega
    · obtain rfl : j = n := by omega
      go_wp2
      go_ret
      exact ⟨rfl, HB.out⟩
end Go.Proofs.YtdokglckfabdaaaDoor
/- The law's copy of a slice of instances. -/
namespace Go.Proofs.YtdokglckfabdaaaDoor
open Go.RowKit Go.PlainAid
set_option linter.unusedVariables false

theorem Tryd.infoInst : (Tryd.prog.info? 40).map (fun i => (i.zero, i.size, i.bytes)) = some (some (.agg #[.int .i64 0, .int .i64 0, .int .i64 0, .int .i64 0, .int .i64 0, .int .i64 0, .int .i64 0, .int .i64 0, .string ⟨#[]⟩, .string ⟨#[]⟩, .string ⟨#[]⟩, .int .i64 0, .slice none 0 0, .int .i64 0, .slice none 0 0, .bool false]), 16, 184) := by kernel_rfl
/-- make([]Inst, n). -/
theorem make_insts (w : World) (n : Nat) (hb : n ≤ 1048576) :
    ∃ w1 cur, (Instr.makeSlice 33 (.int .i64 (n : Int)) (.int .i64 (n : Int))).run Tryd.prog w = .ok (.slice (some ⟨w.heap.size, 0, none⟩) n n) w1 ∧ w1.heap[w.heap.size]? = some (.cells cur 40 (0, 0)) ∧ cur.size = n * 16 ∧ Below w.heap.size w w1 ∧ w.heap.size < w1.heap.size := by
  obtain ⟨i, hi, hz, hs, hby⟩ := info_parts Tryd.infoInst
  have h := run_make (P := Tryd.prog) w 33 40 i _ Tryd.underlying33 hi hz .i64 .i64 n n (by omega) (Int.le_refl _) (by rw [hby]; omega) (by omega)
  simp only [Int.toNat_natCast, hs] at h
  exact ⟨_, _, h, heap_alloc_new w _, by simp [madeCells], (Below.refl _ _).alloc (Nat.le_refl _) _, by simp⟩
/-- Another instance's cells are left alone. -/
theorem InB.upd {cur : Array Value} {o q : Nat} {x : In} {u d : Value} (h : InB cur o x u d) (vs : List Value) (hv : vs.length = 16) (hq : q + 16 ≤ cur.size) (hne : o + 16 ≤ q ∨ q + 16 ≤ o) : InB (updL cur q vs) o x u d := by
  intro i hi
  rw [updL_get vs cur q (o + i) (by omega), if_neg (by omega)]
  exact h i hi
theorem InB.new (cur : Array Value) (q : Nat) (x : In) (u d : Value) (hq : q + 16 ≤ cur.size) : InB (updL cur q (inA x u d)) q x u d := by
  intro i hi
  rw [updL_get (inA x u d) cur q (q + i) (show q + 16 ≤ cur.size from hq), if_pos ⟨by omega, by show q + i < q + 16; omega⟩, show q + i - q = i by omega]
set_option maxRecDepth 100000 in
set_option maxHeartbeats 2000000 in
theorem to_insts (v : Value) (l : List In) (w : World) (hv : Insts w v l) (hl : Sm l) :
    Calls Tryd.prog 7 #[v] w fun e w' => ∃ u, e = .returned u ∧ InOwn w' w.heap.size w'.heap.size u l ∧ Below w.heap.size w w' ∧ w.heap.size < w'.heap.size := by
  obtain ⟨k1, a, ca, rfl, hca, ha⟩ := hv
  obtain ⟨n, hn⟩ : ∃ n, l.length = n := ⟨_, rfl⟩
  obtain ⟨w1, cur0, hmk, hrow, hcs, hb1, hlt1⟩ := make_insts w n (by rw [← hn]; exact hl.1)
  have HSM := Lib.hid hl
  have hln := hl.1
  rw [hn] at k1 hca ha hln ⊢
  have HN := Lib.hid hn
  have HA := Lib.hid ha
  have HR := Lib.hid (And.intro hrow hcs)
  have HB := Lib.hid hb1
  obtain ⟨g, hg⟩ : ∃ g, g = w.heap.size := ⟨_, rfl⟩
  rw [← hg] at hmk HR HB hlt1 ⊢
  have HG := Lib.hid hg
  have HLT := Lib.hid hlt1
  clear hn ha hca hrow hcs hb1 hg hlt1 hl
  go_enter Tryd.func7, Tryd.ntmps7
  go_wp2
  clear hmk
  go_loopw [4] (fun i wr => ∃ (k : Nat) (cur : Array Value), k ≤ n ∧ i = .int .i64 k ∧ wr.heap[g]? = some (.cells cur 40 (0, 0)) ∧ cur.size = n * 16 ∧ (∀ j, j < k → ∃ u d, InB cur (j * 16) (nth l j) u d ∧ PtO wr g wr.heap.size (nth l j) u d ∧ u.ownBlock ≠ some g ∧ d.ownBlock ≠ some g) ∧ Below g w wr) (fun i _ => n - (intOf i).toNat)
  case atStart => exact ⟨0, cur0, by omega, rfl, HR.out.1, HR.out.2, fun j hj => by omega, HB.out⟩
  case round =>
    clear HR HB HLT
    obtain ⟨k, cur, hk, rfl, hrow, hcs, hel, hb⟩ := hrel
    have HROW := Lib.hid hrow
    have HEL := Lib.hid hel
    have HB := Lib.hid hb
    have hgr : g < wr.heap.size := (Array.getElem?_eq_some_iff.1 hrow).1
    clear hrow hel hb
    by_cases hlt : k < n
    · obtain ⟨y, o, rfl, hy, hcy⟩ := HA.out (by omega)
      obtain ⟨u, d, cc, pp⟩ := hcy k hlt
      have hyg : y < g := by rw [HG.out]; exact hy
      obtain ⟨c0, c1, c2, c3, c4, c5, c6, c7, c8, c9, c10, c11, c12, c13, c14, c15⟩ := cc.below HB.out hyg
      have HPP := Lib.hid (pp.later (show Below w.heap.size w wr by rw [← HG.out]; exact HB.out))
      have HSZ := Lib.hid (HSM.out.2 k (by rw [HN.out]; exact hlt))
      clear hcy cc pp
      go_wp2_with fail
      clear c0 c1 c2 c3 c4 c5 c6 c7 c8 c9 c10 c11 c12 c13 c14 c15
      refine (to_inst (nth l k) u d _ HPP.out HSZ.out.1 HSZ.out.2).mono ?_
      rintro e w2 ⟨⟨a1, n1, c1, a2, n2, c2, rfl, p2⟩, b2⟩
      have hz2 := b2.size
      have HROW2 := Lib.hid ((b2.block g hgr).trans HROW.out)
      have P2 := Lib.hid p2
      have HB2 := Lib.hid (HB.out.trans (b2.mono (by omega)))
      have HEL2 := Lib.hid (fun j hj => (by
        obtain ⟨u, d, q1, q2, q3, q4⟩ := HEL.out j hj
        exact ⟨u, d, q1, (q2.later b2).mono (Nat.le_refl _) hz2, q3, q4⟩ : ∃ u d, InB cur (j * 16) (nth l j) u d ∧ PtO w2 g w2.heap.size (nth l j) u d ∧ u.ownBlock ≠ some g ∧ d.ownBlock ≠ some g))
      obtain ⟨z0, z1, z2, z3, z4, z5, z6, z7, z8, z9, z10, z11, z12, z13, z14, z15, ⟨d0, d1, d2, d3, d4, d5, d6, d7, d8, d9, d10, d11, d12, d13, d14, d15⟩, f0, f1, f2, f3, f4, f5, f6, f7, f8, f9, f10, f11, f12, f13, f14, f15⟩ := row16 (off := k * 16) HROW2.out (by omega)
      clear p2 b2 HROW HEL HB HPP
      generalize hxk : nth l k = x at P2 ⊢
      have HXK := Lib.hid hxk
      clear hxk
      go_wp2
      go_roundw
      case rel =>
        refine ⟨k + 1, updL cur (k * 16) (inA x (.slice a1 n1 c1) (.slice a2 n2 c2)), by omega, by go_num, setL_heap (inA x (.slice a1 n1 c1) (.slice a2 n2 c2)) w2 cur (k * 16) HROW2.out, by rw [updL_size]; exact hcs, ?_, ?_⟩
        · intro j hj
          have hG := setL_grown g (inA x (.slice a1 n1 c1) (.slice a2 n2 c2)) w2 (k * 16)
          have hZ := setL_size g (inA x (.slice a1 n1 c1) (.slice a2 n2 c2)) w2 (k * 16)
          have main : ∃ u d, InB (updL cur (k * 16) (inA x (.slice a1 n1 c1) (.slice a2 n2 c2))) (j * 16) (nth l j) u d ∧ PtO (setL w2 g (k * 16) (inA x (.slice a1 n1 c1) (.slice a2 n2 c2))) g (setL w2 g (k * 16) (inA x (.slice a1 n1 c1) (.slice a2 n2 c2))).heap.size (nth l j) u d ∧ u.ownBlock ≠ some g ∧ d.ownBlock ≠ some g := by
            by_cases e : j = k
            · subst e
              refine ⟨.slice a1 n1 c1, .slice a2 n2 c2, by rw [HXK.out]; exact InB.new cur _ x _ _ (by omega), ?_, fun e => by have := (P2.out.bu g e).1; omega, fun e => by have := (P2.out.bd g e).1; omega⟩
              rw [hZ, HXK.out]
              exact (P2.out.mono (Nat.le_of_lt hgr) (Nat.le_refl _)).kept hG (fun k hk => by cases hk; exact ⟨fun e => by have := (P2.out.bu g e).1; omega, fun e => by have := (P2.out.bd g e).1; omega⟩)
            · obtain ⟨u, d, q1, q2, q3, q4⟩ := HEL2.out j (by omega)
              refine ⟨u, d, q1.upd _ rfl (by omega) (by omega), ?_, q3, q4⟩
              rw [hZ]
              exact q2.kept hG (fun k hk => by cases hk; exact ⟨q3, q4⟩)
          exact main
        · exact Below.grown HB2.out (setL_grown g (inA x (.slice a1 n1 c1) (.slice a2 n2 c2)) w2 (k * 16)) (by omega) (fun k hk => by cases hk; exact Nat.le_refl _)
      case measure => simp only [intOf]; omega
    · obtain rfl : k = n := by omega
      go_wp2
      go_ret
      exact ⟨_, rfl, ⟨_, k, by rw [HN.out]; rfl, by rw [HN.out]; exact Nat.le_refl _, by rw [HN.out]; omega, fun h0 => ⟨g, 0, cur, rfl, ⟨Nat.le_refl _, hgr, by omega⟩, HROW.out, fun j hj => by rw [HN.out] at hj; rw [Nat.zero_add]; exact HEL.out j hj⟩⟩, HB.out, hgr⟩
end Go.Proofs.YtdokglckfabdaaaDoor
/- The law's marks on one instance that it was handed: exact. -/
namespace Go.Proofs.YtdokglckfabdaaaDoor
open Go.RowKit Go.PlainAid
set_option linter.unusedVariables false

set_option maxHeartbeats 400000 in
theorem mark_cmdX (c : CmdM) (v : Value) (lo : Nat) (w : World) (hv : GrowsS w lo v c.ch) (hn : c.ch.length ≤ 1048576) :
    Calls Tryd.prog 34 #[.agg #[.int .i64 c.kind, .int .i64 c.client, .int .i64 c.no, .string c.set, .string c.name, .string c.tag, .int .i64 c.n, v], .int .i64 1] w fun e w' => e = .returned (.int .i64 ((c.ch.length : Int) + 1)) ∧ GrowsS w' lo v (mkL c.ch c.ch.length) ∧ w.grownBy w' v.ownBlock := by
  have HV := Lib.hid (hv.alloc (.cells #[.int .i64 c.kind, .int .i64 c.client, .int .i64 c.no, .string c.set, .string c.name, .string c.tag, .int .i64 c.n, v] 37))
  obtain ⟨a, n, cap, rfl⟩ := hv.form
  clear hv
  go_enter Tryd.func34, Tryd.ntmps34
  go_wp2_with fail
  refine (mark_strs _ c.ch lo _ HV.out hn).mono ?_
  rintro e w2 ⟨rfl, g2, b2⟩
  have G2 := Lib.hid g2
  have B2 := Lib.hid b2
  clear g2 b2
  go_wp2
  go_ret
  exact ⟨rfl, G2.out, (World.grownBy_alloc _ _ _).trans B2.out⟩
/-- Strings and Ids lie in different blocks. -/
theorem st_id_apart {w : World} {lo lo' : Nat} {u d : Value} {l : List ByteArray} {m : List Ii} (h : GrowsS w lo u l) (h2 : IdOwn w lo' d m) (hm : 0 < m.length) (k : Nat) (hu : u.ownBlock = some k) (hd : d.ownBlock = some k) : False := by
  obtain ⟨a, cap, rfl, _, _, h3⟩ := h2
  obtain ⟨g, o, cur, rfl, _, r3, _⟩ := h3 hm
  rcases h.2 with ⟨hn, _⟩ | ⟨g', cap', cur', hn, hb', hh, _⟩
  · rw [hn] at hu; cases hu
  · rw [hn] at hu
    have e1 : g' = k := Option.some.inj hu
    have e2 : g = k := Option.some.inj hd
    rw [e1] at hh
    rw [e2, hh] at r3
    simp at r3
set_option maxHeartbeats 400000 in
theorem mark_id_nil (a : Option Addr) (cap : Nat) (s : Int) (w : World) :
    Calls Tryd.prog 33 #[.slice a 0 cap, .int .i64 s] w fun e w' => e = .returned (.int .i64 s) ∧ w' = w := by
  go_enter Tryd.func33, Tryd.ntmps33
  go_wp2
  go_loop [1, 5] (fun kv i => kv = .int .i64 s ∧ i = .int .i64 0) (fun _ _ => 0)
  case atStart => exact ⟨rfl, rfl⟩
  case round =>
    obtain ⟨rfl, rfl⟩ := hrel
    go_wp2
    go_ret
    exact ⟨rfl, rfl⟩
set_option maxRecDepth 100000 in
set_option maxHeartbeats 1000000 in
theorem mark_inst (x : In) (u d : Value) (lo hi : Nat) (w : World) (h : PtO w lo hi x u d) (hlo : lo ≤ w.heap.size) (hn : x.cmd.ch.length ≤ 1048576) (hm : x.deps.length ≤ 1048576) :
    Calls Tryd.prog 13 #[.agg #[.int .i64 x.rep, .int .i64 x.slot, .int .i64 x.bal, .int .i64 x.vbal, .int .i64 x.st, .int .i64 x.cmd.kind, .int .i64 x.cmd.client, .int .i64 x.cmd.no, .string x.cmd.set, .string x.cmd.name, .string x.cmd.tag, .int .i64 x.cmd.n, u, .int .i64 x.seq, d, .bool x.same], .int .i64 1] w fun e w' => e = .returned (.int .i64 ((x.cmd.ch.length : Int) + 1 + 2 * (x.deps.length : Int))) ∧ GrowsS w' lo u (mkL x.cmd.ch x.cmd.ch.length) ∧ IdOwn w' lo d (mkI ((x.cmd.ch.length : Int) + 1) x.deps x.deps.length) ∧ Below lo w w' := by
  have PH := Lib.hid h
  obtain ⟨⟨a1, n1, c1, rfl⟩, a2, n2, c2, rfl⟩ := h.pts.form
  have X0 := Lib.hid (Bx.new w 40 #[.int .i64 x.rep, .int .i64 x.slot, .int .i64 x.bal, .int .i64 x.vbal, .int .i64 x.st, .int .i64 x.cmd.kind, .int .i64 x.cmd.client, .int .i64 x.cmd.no, .string x.cmd.set, .string x.cmd.name, .string x.cmd.tag, .int .i64 x.cmd.n, .slice a1 n1 c1, .int .i64 x.seq, .slice a2 n2 c2, .bool x.same] _ rfl)
  have B0 := Lib.hid ((Below.refl lo w).alloc hlo (.cells #[.int .i64 x.rep, .int .i64 x.slot, .int .i64 x.bal, .int .i64 x.vbal, .int .i64 x.st, .int .i64 x.cmd.kind, .int .i64 x.cmd.client, .int .i64 x.cmd.no, .string x.cmd.set, .string x.cmd.name, .string x.cmd.tag, .int .i64 x.cmd.n, .slice a1 n1 c1, .int .i64 x.seq, .slice a2 n2 c2, .bool x.same] 40))
  have P0 := Lib.hid (PH.out.later ((Below.refl _ _).alloc (Nat.le_refl _) (.cells #[.int .i64 x.rep, .int .i64 x.slot, .int .i64 x.bal, .int .i64 x.vbal, .int .i64 x.st, .int .i64 x.cmd.kind, .int .i64 x.cmd.client, .int .i64 x.cmd.no, .string x.cmd.set, .string x.cmd.name, .string x.cmd.tag, .int .i64 x.cmd.n, .slice a1 n1 c1, .int .i64 x.seq, .slice a2 n2 c2, .bool x.same] 40)))
  have PHu := Lib.hid (fun k hk => (World.ownsRow.lt PH.out.st.1 k hk).2)
  clear h
  go_enter Tryd.func13, Tryd.ntmps13
  go_wp2_with fail
  refine (mark_cmdX x.cmd _ lo _ P0.out.st.1 hn).mono ?_
  rintro e w2 ⟨rfl, g2, b2⟩
  have X2 := Lib.hid (X0.out.keep b2 (fun e => by have := PHu.out _ e.symm; omega))
  have G2 := Lib.hid g2
  have D2 := Lib.hid (P0.out.ids.keepB b2 (fun h0 k hk hd => st_id_apart P0.out.st.1 P0.out.ids h0 k hk hd))
  have B2 := Lib.hid (B0.out.grown b2 (by simp; omega) (fun k hk => (P0.out.bu k hk).1))
  have hz2 : lo ≤ w2.heap.size := by have := b2.size; simp at this; omega
  clear g2 b2 X0 P0 B0
  obtain ⟨x0, x1, x2, x3, x4, x5, x6, x7, x8, x9, x10, x11, x12, x13, x14, x15⟩ := X2.out.c16
  go_wp2_with fail
  clear x0 x1 x2 x3 x4 x5 x6 x7 x8 x9 x10 x11 x12 x13 x14 x15
  by_cases hd0 : 0 < x.deps.length
  · refine (mark_idL _ x.deps lo _ _ D2.out (by omega) (by omega) (by omega)).mono ?_
    rintro e w3 ⟨rfl, d3, b3⟩
    have D3 := Lib.hid d3
    have G3 := Lib.hid (G2.out.keepB b3 (fun k hk hu => st_id_apart G2.out D2.out hd0 k hu hk))
    have B3 := Lib.hid (B2.out.grown b3 hz2 (fun k hk => (D2.out.block hd0 k hk).1))
    clear d3 b3
    go_wp2
    go_ret
    exact ⟨rfl, G3.out, D3.out, B3.out⟩
  · have e0 : x.deps = [] := List.eq_nil_of_length_eq_zero (by omega)
    have hn2 : n2 = 0 := by
      obtain ⟨_, _, e, _⟩ := D2.out
      simp only [Value.slice.injEq] at e
      omega
    subst hn2
    have E0 := Lib.hid e0
    clear e0 hd0
    refine (mark_id_nil _ _ _ _).mono ?_
    rintro e w3 ⟨rfl, rfl⟩
    go_wp2
    go_ret
    refine ⟨?_, G2.out, ?_, B2.out⟩
    · rw [E0.out]; simp
    · have h := D2.out
      rw [E0.out] at h ⊢
      exact h
end Go.Proofs.YtdokglckfabdaaaDoor
/- The law's marks on one message: exact. -/
namespace Go.Proofs.YtdokglckfabdaaaDoor
open Go.RowKit Go.PlainAid
set_option linter.unusedVariables false

end Go.Proofs.YtdokglckfabdaaaDoor
