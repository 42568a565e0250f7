/- The program's mapBlobs. -/
import Derived.Test.YtemhhjkmolndbaaDoorBmM
import Derived.Test.YtemhhjkmolndbaaDoorCloneC
import Derived.Test.YtemhhjkmolndbaaDoorBlG
import Derived.Carry
namespace Go.Proofs.YtemhhjkmolndbaaDoor
open Go.RowKit Go.PlainAid
set_option linter.unusedVariables false

theorem asc_take {l : List Bb} (h : Asc l) (k : Nat) : Asc (l.take k) := h.sublist (List.take_sublist k l)
theorem take_snoc (l : List Bb) (k : Nat) (h : k < l.length) : l.take (k + 1) = l.take k ++ [⟨bI l k, bD l k, bX l k⟩] := by
  rw [List.take_add_one, bb_get l k h]
  rfl
theorem asc_fresh {l : List Bb} {x : Bb} (h : Asc (l ++ [x])) (y : Bb) (hy : y ∈ l) : y.id ≠ x.id := fun e => by
  have := (List.pairwise_append.1 h).2.2 y hy x (by simp)
  rw [e] at this
  exact List.lt_irrefl _ this
theorem getB_snoc {l : List Bb} {x : Bb} (h : Asc (l ++ [x])) (k : ByteArray) : getB (l ++ [x]) k = if k = x.id then some x else getB l k := by
  by_cases e : k = x.id
  · rw [if_pos e]
    exact (getB_iff h).2 ⟨by simp, e.symm⟩
  · rw [if_neg e]
    refine getB_ext h ((List.pairwise_append.1 h).1) (fun y hy => ?_)
    rw [List.mem_append]
    constructor
    · rintro (hh | hh)
      · exact hh
      · rw [List.mem_singleton] at hh; subst hh; exact absurd hy.symm e
    · exact .inl
set_option maxRecDepth 100000 in
set_option maxHeartbeats 1000000 in
theorem impl_mapBlobs (v : Value) (l : List Bb) (w : World) (hv : Blbs w v l) (hs : Sml l) (ha : Asc l) (h12 : l.length ≤ 1000) :
    Calls Tryd.prog 58 #[v] w fun e w' => ∃ b, e = .returned (.map (some b)) ∧ BMap w' b l.length l ∧ w.heap.size ≤ b ∧ Below w.heap.size w w' := by
  obtain ⟨a, ca, hve⟩ := hv.slice
  subst hve
  obtain ⟨n, hn⟩ : ∃ n, l.length = n := ⟨_, rfl⟩
  have V := Lib.hid hv
  have M0 := Lib.hid (bmap_made w)
  rw [hn] at V h12 ⊢
  have HN := Lib.hid hn
  have HS := Lib.hid hs
  have HA := Lib.hid ha
  have hmk := run_makeMap (P := Tryd.prog) 85 w
  clear hv hn hs ha
  go_enter Tryd.func58, Tryd.ntmps58
  go_wp2
  clear hmk
  go_loopw [9] (fun i wr => ∃ k : Nat, k ≤ n ∧ i = .int .i64 k ∧ BMap wr w.heap.size k (l.take k) ∧ Af w wr) (fun i _ => n - (intOf i).toNat)
  case atStart => exact ⟨0, by omega, rfl, M0.out, (Af.refl w).alloc _⟩
  case round =>
    obtain ⟨k, hk, rfl, hm, haf⟩ := hrel
    have M := Lib.hid hm
    have AF := Lib.hid haf
    clear hm haf M0
    by_cases hlt : k < n
    · obtain ⟨y, o, ca', hse, _, hy, hcy⟩ := (V.out.later AF.out).at0 (by rw [HN.out]; omega)
      simp only [Value.slice.injEq] at hse
      obtain ⟨rfl, hnl, rfl⟩ := hse
      obtain ⟨c1, c2, c3⟩ := hcy k (by rw [HN.out]; omega)
      have hsz := HS.out k (by rw [HN.out]; exact hlt)
      have hasc := asc_take HA.out (k + 1)
      rw [take_snoc l k (by rw [HN.out]; exact hlt)] at hasc
      obtain ⟨w1, hup, hm1, hg1⟩ := (M.out.alloc (.cells #[.string (bI l k), .string (bD l k), .bool (bX l k)] 89)).put ⟨bI l k, bD l k, bX l k⟩ (show (bI l k).size ≤ 1048577 by omega) (by omega) (getB_snoc hasc)
      have M1 := Lib.hid hm1
      have A1 := Lib.hid ((AF.out.alloc (.cells #[.string (bI l k), .string (bD l k), .bool (bX l k)] 89)).grow hg1 (fun j hj => by cases hj; exact Nat.le_refl _))
      clear hcy hasc hm1 hg1 hnl hsz
      go_wp2
      go_roundw
      case rel => exact ⟨k + 1, by omega, by go_num, by rw [take_snoc l k (by rw [HN.out]; exact hlt)]; exact M1.out, A1.out⟩
      case measure => simp only [intOf]; omega
    · obtain rfl : k = n := by omega
      go_wp2
      go_ret
      exact ⟨_, rfl, by have h := M.out; rw [List.take_of_length_le (by rw [HN.out]; exact Nat.le_refl _)] at h; exact h, Nat.le_refl _, AF.out⟩
end Go.Proofs.YtemhhjkmolndbaaDoor
