/- The laws' marks on strings, from any number on: exact. -/
import Derived.Test.YtdokglckfabdaaaDoorInMk
namespace Go.Proofs.YtdokglckfabdaaaDoor
open Go.RowKit Go.PlainAid
set_option linter.unusedVariables false

/-- The first j strings are marks from s on. -/
def mkLs (s : Nat) (l : List ByteArray) (j : Nat) : List ByteArray := (List.range l.length).map fun i => if i < j then mkT (s + i) else el l i
theorem mkLs_length (s : Nat) (l : List ByteArray) (j : Nat) : (mkLs s l j).length = l.length := by simp [mkLs]
theorem mkLs_el (s : Nat) (l : List ByteArray) (j i : Nat) (h : i < l.length) : el (mkLs s l j) i = if i < j then mkT (s + i) else el l i := by
  rw [el_eq, List.getD, mkLs, List.getElem?_map, List.getElem?_range h]
  rfl
theorem mkLs_zero (s : Nat) (l : List ByteArray) : mkLs s l 0 = l := el_ext _ _ (mkLs_length s l 0) (fun j hj => by rw [mkLs_length] at hj; rw [mkLs_el s l 0 j hj]; simp)
theorem mkLs_set (s : Nat) (l : List ByteArray) (j : Nat) (h : j < l.length) : (strV (mkLs s l j)).set j (.string (mkT (s + j))) = strV (mkLs s l (j + 1)) := by
  apply List.ext_getElem?
  intro i
  by_cases hi : i < l.length
  · rw [strV_get (mkLs s l (j + 1)) i (by rw [mkLs_length]; exact hi), mkLs_el s l (j + 1) i hi, List.getElem?_set]
    by_cases e : j = i
    · subst e
      rw [if_pos rfl, if_pos (by unfold strV; rw [List.length_map, mkLs_length]; exact hi), if_pos (by omega)]
    · rw [if_neg e, strV_get (mkLs s l j) i (by rw [mkLs_length]; exact hi), mkLs_el s l j i hi]
      by_cases h2 : i < j
      · rw [if_pos h2, if_pos (by omega)]
      · rw [if_neg h2, if_neg (by omega)]
  · rw [List.getElem?_eq_none (by simp [strV, mkLs_length]; omega), List.getElem?_eq_none (by simp [strV, mkLs_length]; omega)]
theorem mkLs_small (s : Nat) (l : List ByteArray) (hs : s + l.length ≤ 35184372088832) : ∀ j, j < (mkLs s l l.length).length → (el (mkLs s l l.length) j).size ≤ 9223372036854775807 := by
  intro j hj
  rw [mkLs_length] at hj
  rw [mkLs_el s l _ j hj, if_pos hj]
  have := mkT_size (s + j)
  omega
set_option maxRecDepth 100000 in
set_option maxHeartbeats 1000000 in
theorem mark_strsX (v : Value) (l : List ByteArray) (base s : Nat) (w : World) (hv : GrowsS w base v l) (hl : l.length ≤ 1048576) (hs1 : 1 ≤ s) (hs2 : s ≤ 17592186044416) :
    Calls Tryd.prog 32 #[v, .int .i64 (s : Int)] w fun e w' => e = .returned (.int .i64 ((s : Int) + (l.length : Int))) ∧ GrowsS w' base v (mkLs s l l.length) ∧ w.grownBy w' v.ownBlock := by
  rcases hv.2 with ⟨rfl, h0⟩ | ⟨g, cap, cur, rfl, _⟩
  · have : l = [] := List.eq_nil_of_length_eq_zero h0
    subst this
    have HV := Lib.hid hv
    clear hv
    go_enter Tryd.func32, Tryd.ntmps32
    go_wp2
    go_loop [1, 5] (fun kv i => kv = .int .i64 (s : Int) ∧ i = .int .i64 0) (fun _ _ => 0)
    case atStart => exact ⟨rfl, rfl⟩
    case round =>
      obtain ⟨rfl, rfl⟩ := hrel
      go_wp2
      go_ret
      exact ⟨by simp, HV.out, World.grownBy.refl _ _⟩
  · have hg0 := (World.ownsRow.lt hv g rfl).2
    have HV0 := Lib.hid hv
    clear hv
    obtain ⟨n, hn⟩ : ∃ n, l.length = n := ⟨_, rfl⟩
    rw [hn] at hl HV0 ⊢
    have HN := Lib.hid hn
    clear hn
    go_enter Tryd.func32, Tryd.ntmps32
    go_wp2
    go_loopw [1, 5] (fun kv i wr => ∃ j : Nat, j ≤ n ∧ i = .int .i64 j ∧ kv = .int .i64 ((s : Int) + (j : Int)) ∧ GrowsS wr base (.slice (some ⟨g, 0, none⟩) n cap) (mkLs s l j) ∧ w.grownBy wr (some g)) (fun _ i _ => n - (intOf i).toNat)
    case atStart => exact ⟨0, by omega, rfl, by simp, by rw [mkLs_zero]; exact HV0.out, World.grownBy.refl _ _⟩
    case round =>
      clear HV0
      obtain ⟨j, hj, rfl, rfl, hv, hg⟩ := hrel
      have HV := Lib.hid hv
      have HG := Lib.hid hg
      clear hv hg
      by_cases hlt : j < n
      · have HM := Lib.hid (fun W => (by have := mark_textW (s + j) W (by omega) (by omega); rw [show ((s + j : Nat) : Int) = (s : Int) + (j : Int) by omega] at this; exact this))
        go_wp2_with fail
        refine (HM.out _).mono ?_
        rintro e w2 ⟨rfl, hb⟩
        have HV2 := Lib.hid (HV.out.later hb)
        have HG2 := Lib.hid (HG.out.trans (grown_of hb _))
        clear HV hb HG
        have hrow : w2.ownsRow base 9 1 (.slice (some ⟨g, 0, none⟩) n cap) n (strV (mkLs s l j)) := by
          have h := HV2.out
          unfold GrowsS at h
          rwa [mkLs_length, HN.out] at h
        have HRW := Lib.hid hrow
        have fz := World.ownsRow.frozenAt hrow j
        have cz : w2.cell? ⟨g, j, none⟩ = some (.string (el (mkLs s l j) j)) := by rw [World.ownsRow.cellAt hrow j (by omega), strV_get _ j (by rw [mkLs_length, HN.out]; exact hlt)]
        clear hrow
        go_wp2
        go_roundw
        case rel =>
          refine ⟨j + 1, by omega, by go_num, by go_num, ?_, ?_⟩
          · have h := World.ownsRow.stored HRW.out j (.string (mkT (s + j)))
            rw [mkLs_set s l j (by rw [HN.out]; exact hlt)] at h
            unfold GrowsS
            rw [mkLs_length, HN.out]
            exact h.1
          · exact HG2.out.trans ⟨rfl, rfl, rfl, by simp, fun k _ hne => heap_setCell_other w2 ⟨g, j, none⟩ k _ (fun e => hne (by simp [e]))⟩
        case measure => simp only [intOf]; omega
      · obtain rfl : j = n := by omega
        go_wp2
        go_ret
        exact ⟨rfl, HV.out, HG.out⟩
set_option maxRecDepth 100000 in
set_option maxHeartbeats 1000000 in
theorem held_strsX (v : Value) (l : List ByteArray) (s : Nat) (w : World) (hv : Strs w v (mkLs s l l.length)) (hl : l.length ≤ 1048576) (hs1 : 1 ≤ s) (hs2 : s ≤ 17592186044416) :
    Calls Tryd.prog 35 #[v, .int .i64 (s : Int)] w fun e w' => e = .returned (.int .i64 ((s : Int) + (l.length : Int))) ∧ Below w.heap.size w w' := by
  obtain ⟨k1, k2, a, ca, rfl, hca, ha⟩ := hv
  rw [mkLs_length] at k1 hca ha ⊢
  obtain ⟨n, hn⟩ : ∃ n, l.length = n := ⟨_, rfl⟩
  rw [hn] at k1 hl hca ha ⊢
  have HN := Lib.hid hn
  have HA := Lib.hid ha
  clear hn ha k2 hca
  go_enter Tryd.func35, Tryd.ntmps35
  go_wp2
  go_loopw [1, 5] (fun kv i wr => ∃ j : Nat, j ≤ n ∧ i = .int .i64 j ∧ kv = .int .i64 ((s : Int) + (j : Int)) ∧ Below w.heap.size w wr) (fun _ i _ => n - (intOf i).toNat)
  case atStart => exact ⟨0, by omega, rfl, by simp, Below.refl _ _⟩
  case round =>
    obtain ⟨j, hj, rfl, rfl, hb⟩ := hrel
    have HB := Lib.hid hb
    clear hb
    by_cases hlt : j < n
    · obtain ⟨x, o, rfl, hx, hcx⟩ := HA.out (by omega)
      have cx0 := hcx j hlt
      rw [mkLs_el s l n j (by rw [HN.out]; exact hlt), if_pos hlt] at cx0
      have cx : wr.cell? ⟨x, o + j, none⟩ = some (.string (mkT (s + j))) := by rw [HB.out.cell (p := ⟨x, o + j, none⟩) hx]; exact cx0
      have CX := Lib.hid cx
      clear hcx cx0
      have hxr : x < wr.heap.size := Nat.lt_of_lt_of_le hx HB.out.size
      have HM := Lib.hid (fun W => (by have := mark_textW (s + j) W (by omega) (by omega); rw [show ((s + j : Nat) : Int) = (s : Int) + (j : Int) by omega] at this; exact this))
      have y1 : (j : Int) < (n : Int) := by omega
      have y0 : (0 : Int) ≤ (j : Int) := by omega
      go_wp2_with fail
      go_region_held3 (fun w' => w'.cell? ⟨x, o + j, none⟩ = some (.string (mkT (s + j)))) (first | (with_reducible exact cx) | (with_reducible exact CY.out) | go_keep)
        (first | (go_at_call 31; refine (HM.out _).mono ?_; rintro e w2 ⟨rfl, hb⟩; have CY := Lib.hid (show w2.cell? ⟨x, o + j, none⟩ = some (.string (mkT (s + j))) by rw [hb.cell (p := ⟨x, o + j, none⟩) hxr]; exact CX.out); have HB2 := Lib.hid (HB.out.trans (Below.mono (show Below wr.heap.size wr w2 from (Below.refl _ _).drew.trans hb) HB.out.size)); clear hb))
      clear cx
      go_wp2
      go_roundw
      case rel => exact ⟨j + 1, by omega, by go_num, by go_num, HB2.out⟩
      case measure => simp only [intOf]; omega
    · obtain rfl : j = n := by omega
      go_wp2
      go_ret
      exact ⟨rfl, HB.out⟩
end Go.Proofs.YtdokglckfabdaaaDoor
