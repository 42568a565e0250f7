/- A bundle of texts: MarkT, MarkG. -/
import Derived.Test.YtckeeadkhopljaaGreatDoorBytes
import Derived.Laws.Concat
import Derived.Laws.BytesArg
import Derived.Deep.RegionHeld3
import Derived.Test.YtckeeadkhopljaaGreatDoorStrG
import Derived.Test.YtckeeadkhopljaaGreatDoorStrsE
/- The laws' marks: the text of a number. -/
namespace Go.Proofs.YtckeeadkhopljaaGreatDoor
open Go.RowKit Go.PlainAid
set_option linter.unusedVariables false

/-- The digits of k before what stands in o. -/
def finT : Nat → Nat → ByteArray → ByteArray
  | 0, _, o => o
  | f + 1, k, o => if k = 0 then o else finT f (k / 10) (strOfNums [48 + (k : Int) % 10] ++ o)
theorem finT_zero (f : Nat) (o : ByteArray) : finT f 0 o = o := by cases f <;> simp [finT]
theorem finT_step (f k : Nat) (o : ByteArray) (h : k ≠ 0) : finT (f + 1) k o = finT f (k / 10) (strOfNums [48 + (k : Int) % 10] ++ o) := by simp [finT, h]
theorem finT_size (f k : Nat) (o : ByteArray) : (finT f k o).size ≤ f + o.size := by
  induction f generalizing k o with
  | zero => simp [finT]
  | succ f ih =>
    unfold finT
    split
    · omega
    · have := ih (k / 10) (strOfNums [48 + (k : Int) % 10] ++ o)
      rw [ByteArray.size_append, strOfNums_size] at this
      simp at this
      omega
@[irreducible] def mkT (k : Nat) : ByteArray := ⟨#[109]⟩ ++ finT k k ⟨#[]⟩
set_option maxRecDepth 100000 in
set_option maxHeartbeats 1000000 in
theorem mark_text (k : Nat) (w : World) (h1 : 1 ≤ k) (h4 : k ≤ 4194305) : Calls Tryz.prog 46 #[.int .i64 k] w fun e w' => e = .returned (.string (mkT k)) ∧ Below w.heap.size w w' := by
  have hM : mkT k = ⟨#[109]⟩ ++ finT k k ⟨#[]⟩ := by unfold mkT; rfl
  rw [hM]
  have hconv := conv_one
  clear hM
  obtain ⟨R, hR⟩ : ∃ R, finT k k ⟨#[]⟩ = R := ⟨_, rfl⟩
  have HR := Lib.hid hR
  have hRz : R.size ≤ k + 0 := by rw [← hR]; exact finT_size k k _
  rw [hR]
  clear hR
  go_enter Tryz.func46, Tryz.ntmps46
  go_wp2
  go_loopw [0, 3] (fun a o wr => ∃ (f m : Nat) (t : ByteArray), m ≤ f ∧ f + t.size ≤ k ∧ a = .int .i64 m ∧ o = .string t ∧ finT f m t = R ∧ Below w.heap.size w wr) (fun a _ _ => (intOf a).toNat)
  case atStart => exact ⟨k, k, ⟨#[]⟩, Nat.le_refl _, Nat.le_refl _, rfl, rfl, HR.out, Below.refl _ _⟩
  case round =>
    obtain ⟨f, m, t, hmf, hft, rfl, rfl, hfin, hbw⟩ := hrel
    have HF := Lib.hid hfin
    have HB := Lib.hid hbw
    clear hfin hbw HR
    by_cases h0 : m = 0
    · subst h0
      have ht : t = R := by rw [← HF.out]; exact (finT_zero f t).symm
      subst ht
      have hss : ({ data := #[109] } : ByteArray).size + t.size ≤ 9223372036854775807 := by
        have e : ({ data := #[109] } : ByteArray).size = 1 := rfl
        rw [e]
        omega
      go_wp2
      go_ret
      exact ⟨rfl, HB.out⟩
    · have hm1 : 1 ≤ m := by omega
      obtain ⟨f', rfl⟩ : ∃ f', f = f' + 1 := ⟨f - 1, by omega⟩
      have hst := finT_step f' m t h0
      rw [HF.out] at hst
      have HST := Lib.hid hst
      have hz1 : (strOfNums [48 + (m : Int) % 10]).size = 1 := by rw [strOfNums_size]; rfl
      have hss : (strOfNums [48 + (m : Int) % 10]).size + t.size ≤ 9223372036854775807 := by rw [hz1]; omega
      clear hst HF h0
      go_wp2
      go_roundw
      case rel => exact ⟨f', m / 10, _, by omega, by rw [ByteArray.size_append, hz1]; omega, by go_num, rfl, HST.out.symm, HB.out.alloc HB.out.size _⟩
      case measure => simp only [intOf]; omega
theorem mkT_size (k : Nat) : (mkT k).size ≤ k + 1 := by
  unfold mkT
  rw [ByteArray.size_append]
  have := finT_size k k ⟨#[]⟩
  have e : (⟨#[]⟩ : ByteArray).size = 0 := rfl
  have e1 : (⟨#[109]⟩ : ByteArray).size = 1 := rfl
  rw [e] at this
  rw [e1]
  omega
end Go.Proofs.YtckeeadkhopljaaGreatDoor
/- The laws' marks on a slice of strings, of any length. -/
namespace Go.Proofs.YtckeeadkhopljaaGreatDoor
open Go.RowKit Go.PlainAid
set_option linter.unusedVariables false

/-- The first j strings are marks. -/
def mkL (l : List ByteArray) (j : Nat) : List ByteArray := (List.range l.length).map fun i => if i < j then mkT (i + 1) else el l i
theorem mkL_length (l : List ByteArray) (j : Nat) : (mkL l j).length = l.length := by simp [mkL]
theorem mkL_el (l : List ByteArray) (j i : Nat) (h : i < l.length) : el (mkL l j) i = if i < j then mkT (i + 1) else el l i := by
  rw [el_eq, List.getD, mkL, List.getElem?_map, List.getElem?_range h]
  rfl
theorem mkL_zero (l : List ByteArray) : mkL l 0 = l := el_ext _ _ (mkL_length l 0) (fun j hj => by rw [mkL_length] at hj; rw [mkL_el l 0 j hj]; simp)
theorem mkL_set (l : List ByteArray) (j : Nat) (h : j < l.length) : (strV (mkL l j)).set j (.string (mkT (j + 1))) = strV (mkL l (j + 1)) := by
  apply List.ext_getElem?
  intro i
  by_cases hi : i < l.length
  · rw [strV_get (mkL l (j + 1)) i (by rw [mkL_length]; exact hi), mkL_el l (j + 1) i hi, List.getElem?_set]
    by_cases e : j = i
    · subst e
      rw [if_pos rfl, if_pos (by unfold strV; rw [List.length_map, mkL_length]; exact hi), if_pos (by omega)]
    · rw [if_neg e, strV_get (mkL l j) i (by rw [mkL_length]; exact hi), mkL_el l j i hi]
      by_cases h2 : i < j
      · rw [if_pos h2, if_pos (by omega)]
      · rw [if_neg h2, if_neg (by omega)]
  · rw [List.getElem?_eq_none (by simp [strV, mkL_length]; omega), List.getElem?_eq_none (by simp [strV, mkL_length]; omega)]
set_option maxRecDepth 100000 in
set_option maxHeartbeats 1000000 in
theorem mark_strs (v : Value) (l : List ByteArray) (base : Nat) (w : World) (hv : GrowsS w base v l) (hl : l.length ≤ 1048576) :
    Calls Tryz.prog 47 #[v, .int .i64 1] w fun e w' => e = .returned (.int .i64 ((l.length : Int) + 1)) ∧ GrowsS w' base v (mkL l l.length) ∧ w.grownBy w' v.ownBlock := by
  rcases hv.2 with ⟨rfl, h0⟩ | ⟨g, cap, cur, rfl, _⟩
  · have : l = [] := List.eq_nil_of_length_eq_zero h0
    subst this
    have HV := Lib.hid hv
    clear hv
    go_enter Tryz.func47, Tryz.ntmps47
    go_wp2
    go_loop [1, 5] (fun kv i => kv = .int .i64 1 ∧ i = .int .i64 0) (fun _ _ => 0)
    case atStart => exact ⟨rfl, rfl⟩
    case round =>
      obtain ⟨rfl, rfl⟩ := hrel
      go_wp2
      go_ret
      exact ⟨rfl, HV.out, World.grownBy.refl _ _⟩
  · have hg0 := (World.ownsRow.lt hv g rfl).2
    have HV0 := Lib.hid hv
    clear hv
    obtain ⟨n, hn⟩ : ∃ n, l.length = n := ⟨_, rfl⟩
    rw [hn] at hl HV0 ⊢
    have HN := Lib.hid hn
    clear hn
    go_enter Tryz.func47, Tryz.ntmps47
    go_wp2
    go_loopw [1, 5] (fun kv i wr => ∃ j : Nat, j ≤ n ∧ i = .int .i64 j ∧ kv = .int .i64 ((j : Int) + 1) ∧ GrowsS wr base (.slice (some ⟨g, 0, none⟩) n cap) (mkL l j) ∧ w.grownBy wr (some g)) (fun _ i _ => n - (intOf i).toNat)
    case atStart => exact ⟨0, by omega, rfl, rfl, by rw [mkL_zero]; exact HV0.out, World.grownBy.refl _ _⟩
    case round =>
      clear HV0
      obtain ⟨j, hj, rfl, rfl, hv, hg⟩ := hrel
      have HV := Lib.hid hv
      have HG := Lib.hid hg
      clear hv hg
      by_cases hlt : j < n
      · have hm := fun W => mark_text (j + 1) W (by omega) (by omega)
        have HM := Lib.hid hm
        clear hm
        go_wp2_with fail
        refine (HM.out _).mono ?_
        rintro e w2 ⟨rfl, hb⟩
        have HV2 := Lib.hid (HV.out.later hb)
        have HG2 := Lib.hid (HG.out.trans (grown_of_below hb _))
        clear HV hb HG
        have hrow : w2.ownsRow base 9 1 (.slice (some ⟨g, 0, none⟩) n cap) n (strV (mkL l j)) := by
          have h := HV2.out
          unfold GrowsS at h
          rwa [mkL_length, HN.out] at h
        have HRW := Lib.hid hrow
        have fz := World.ownsRow.frozenAt hrow j
        have cz : w2.cell? ⟨g, j, none⟩ = some (.string (el (mkL l j) j)) := by rw [World.ownsRow.cellAt hrow j (by omega), strV_get _ j (by rw [mkL_length, HN.out]; exact hlt)]
        clear hrow
        go_wp2
        go_roundw
        case rel =>
          refine ⟨j + 1, by omega, by go_num, by go_num, ?_, ?_⟩
          · have h := World.ownsRow.stored HRW.out j (.string (mkT (j + 1)))
            rw [mkL_set l j (by rw [HN.out]; exact hlt)] at h
            unfold GrowsS
            rw [mkL_length, HN.out]
            exact h.1
          · exact HG2.out.trans ⟨rfl, rfl, rfl, by simp, fun k _ hne => heap_setCell_other w2 ⟨g, j, none⟩ k _ (fun e => hne (by simp [e]))⟩
        case measure => simp only [intOf]; omega
      · obtain rfl : j = n := by omega
        go_wp2
        go_ret
        exact ⟨rfl, HV.out, HG.out⟩

set_option maxRecDepth 100000 in
set_option maxHeartbeats 1000000 in
theorem held_strs (v : Value) (l : List ByteArray) (w : World) (hv : Strs w v (mkL l l.length)) (hl : l.length ≤ 1048576) :
    Calls Tryz.prog 50 #[v, .int .i64 1] w fun e w' => e = .returned (.int .i64 ((l.length : Int) + 1)) ∧ Below w.heap.size w w' := by
  obtain ⟨k1, k2, a, ca, rfl, hca, ha⟩ := hv
  rw [mkL_length] at k1 hca ha ⊢
  obtain ⟨n, hn⟩ : ∃ n, l.length = n := ⟨_, rfl⟩
  rw [hn] at k1 hl hca ha ⊢
  have HN := Lib.hid hn
  have HA := Lib.hid ha
  clear hn ha k2 hca
  go_enter Tryz.func50, Tryz.ntmps50
  go_wp2
  go_loopw [1, 5] (fun kv i wr => ∃ j : Nat, j ≤ n ∧ i = .int .i64 j ∧ kv = .int .i64 ((j : Int) + 1) ∧ Below w.heap.size w wr) (fun _ i _ => n - (intOf i).toNat)
  case atStart => exact ⟨0, by omega, rfl, rfl, Below.refl _ _⟩
  case round =>
    obtain ⟨j, hj, rfl, rfl, hb⟩ := hrel
    have HB := Lib.hid hb
    clear hb
    by_cases hlt : j < n
    · obtain ⟨x, o, rfl, hx, hcx⟩ := HA.out (by omega)
      have cx0 := hcx j hlt
      rw [mkL_el l n j (by rw [HN.out]; exact hlt), if_pos hlt] at cx0
      have cx : wr.cell? ⟨x, o + j, none⟩ = some (.string (mkT (j + 1))) := by rw [HB.out.cell (p := ⟨x, o + j, none⟩) hx]; exact cx0
      have CX := Lib.hid cx
      clear hcx cx0
      have hxr : x < wr.heap.size := Nat.lt_of_lt_of_le hx HB.out.size
      have hm := fun W => mark_text (j + 1) W (by omega) (by omega)
      have HM := Lib.hid hm
      clear hm
      have y1 : (j : Int) < (n : Int) := by omega
      have y0 : (0 : Int) ≤ (j : Int) := by omega
      go_wp2_with fail
      go_region_held3 (fun w' => w'.cell? ⟨x, o + j, none⟩ = some (.string (mkT (j + 1)))) (first | (with_reducible exact cx) | (with_reducible exact CY.out) | go_keep)
        (first | (go_at_call 46; refine (HM.out _).mono ?_; rintro e w2 ⟨rfl, hb⟩; have CY := Lib.hid (show w2.cell? ⟨x, o + j, none⟩ = some (.string (mkT (j + 1))) by rw [hb.cell (p := ⟨x, o + j, none⟩) hxr]; exact CX.out); have HB2 := Lib.hid (HB.out.trans (Below.mono (show Below wr.heap.size wr w2 from (Below.refl _ _).drew.trans hb) HB.out.size)); clear hb))
      clear cx
      go_wp2
      go_roundw
      case rel => exact ⟨j + 1, by omega, by go_num, by go_num, HB2.out⟩
      case measure => simp only [intOf]; omega
    · obtain rfl : j = n := by omega
      go_wp2
      go_ret
      exact ⟨rfl, HB.out⟩
end Go.Proofs.YtckeeadkhopljaaGreatDoor
