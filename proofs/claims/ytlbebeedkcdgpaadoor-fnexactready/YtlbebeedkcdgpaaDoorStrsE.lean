/- The law's comparison of slices of strings. -/
import Derived.Test.YtlbebeedkcdgpaaDoorStrs
import Derived.Deep.RegionWith
namespace Go.Proofs.YtlbebeedkcdgpaaDoor
open Go.RowKit Go.PlainAid
set_option linter.unusedVariables false

theorem ne_list {a b : ByteArray} (h : a ≠ b) : (a.toList == b.toList) = false := by
  rw [beq_eq_false_iff_ne]; exact fun e => h (str_eq e)

set_option maxHeartbeats 400000 in
theorem eq_strs (v u : Value) (l m : List ByteArray) (w : World) (hv : Strs w v l) (hu : Strs w u m) :
    Calls Tryd.prog 57 #[v, u] w fun e w' => e = .returned (.bool (decide (l = m))) ∧ Below w.heap.size w w' := by
  obtain ⟨h1, h2, a, ca, rfl, hca, ha⟩ := hv
  obtain ⟨k1, k2, b, cb, rfl, hcb, hb⟩ := hu
  by_cases hlen : l.length = m.length
  · have HL := Lib.hid hlen
    rw [← hlen] at k1 k2 hb hcb ⊢
    generalize hn : l.length = n at h1 h2 ha hca k1 k2 hb hcb
    have HN := Lib.hid hn
    have HA := Lib.hid ha
    have HB := Lib.hid hb
    clear hlen hn h2 k2 ha hb hca hcb
    go_enter Tryd.func57, Tryd.ntmps57
    go_wp2
    go_loopw [5] (fun i wr => ∃ k : Nat, k ≤ n ∧ i = .int .i64 k ∧ (∀ j, j < k → el l j = el m j) ∧ Below w.heap.size w wr) (fun i _ => n - (intOf i).toNat)
    case atStart => exact ⟨0, by omega, rfl, fun j hj => by omega, Below.refl _ _⟩
    case round =>
      obtain ⟨k, hk, rfl, he, hbw⟩ := hrel
      have HE := Lib.hid he
      have HBW := Lib.hid hbw
      clear he hbw
      by_cases hlt : k < n
      · obtain ⟨x, o, rfl, hx, hcx⟩ := HA.out (by omega)
        obtain ⟨y, p, rfl, hy, hcy⟩ := HB.out (by omega)
        have c1 : wr.cell? ⟨x, o + k, none⟩ = some (.string (el l k)) := by rw [HBW.out.cell (p := ⟨x, o + k, none⟩) hx]; exact hcx k hlt
        have c2 : wr.cell? ⟨y, p + k, none⟩ = some (.string (el m k)) := by rw [HBW.out.cell (p := ⟨y, p + k, none⟩) hy]; exact hcy k hlt
        clear hcx hcy
        by_cases hke : el l k = el m k
        · have HKE := Lib.hid hke
          rw [← hke] at c2
          clear hke
          go_wp2
          go_quiet (fail)
          go_wp2
          go_roundw
          case rel =>
            refine ⟨k + 1, by omega, by go_num, fun j hj => ?_, dn HBW.out _⟩
            by_cases e : j = k
            · subst e; exact HKE.out
            · exact HE.out j (by omega)
          case measure => simp only [intOf]; omega
        · have hb := ne_list hke
          have HKE := Lib.hid hke
          clear hke
          go_wp2
          go_quiet (fail)
          go_wp2
          go_ret
          exact ⟨by rw [decide_eq_false (fun e => HKE.out (by rw [e]))]; rfl, dn HBW.out _⟩
      · obtain rfl : k = n := by omega
        go_wp2
        go_ret
        exact ⟨by rw [decide_eq_true (el_ext l m HL.out (fun j hj => HE.out j (by rw [← HN.out]; exact hj)))]; rfl, HBW.out⟩
  · have hne : l.length < m.length ∨ m.length < l.length := by omega
    have hlm : l ≠ m := fun e => hlen (by rw [e])
    have HL := Lib.hid hlm
    clear hlen hlm h2 k2 ha hb hca hcb
    generalize l.length = n at *
    generalize m.length = n' at *
    rcases hne with hne | hne
    all_goals
      go_enter Tryd.func57, Tryd.ntmps57
      go_wp2
      go_ret
      exact ⟨by rw [decide_eq_false HL.out]; rfl, Below.refl _ _⟩
end Go.Proofs.YtlbebeedkcdgpaaDoor
