/- The loops over slices of strings: the laws' own and the model's. -/
import Derived.Test.YtlbebeedkcdgpaaDoorStrsE
import Derived.Deep.RegionWith
namespace Go.Proofs.YtlbebeedkcdgpaaDoor
open Go.RowKit Go.PlainAid
set_option linter.unusedVariables false

set_option maxHeartbeats 400000 in
theorem texts_strs (v u : Value) (l m : List ByteArray) (w : World) (hv : Strs w v l) (hu : Strs w u m) :
    Calls Tryd.prog 65 #[v, u] w fun e w' => e = .returned (.bool (decide (l = m))) ∧ Below w.heap.size w w' := by
  obtain ⟨h1, h2, a, ca, rfl, hca, ha⟩ := hv
  obtain ⟨k1, k2, b, cb, rfl, hcb, hb⟩ := hu
  by_cases hlen : l.length = m.length
  · have HL := Lib.hid hlen
    rw [← hlen] at k1 k2 hb hcb ⊢
    generalize hn : l.length = n at h1 h2 ha hca k1 k2 hb hcb
    have HN := Lib.hid hn
    have HA := Lib.hid ha
    have HB := Lib.hid hb
    clear hlen hn h2 k2 ha hb hca hcb
    go_enter Tryd.func65, Tryd.ntmps65
    go_wp2
    go_loopw [5] (fun i wr => ∃ k : Nat, k ≤ n ∧ i = .int .i64 k ∧ (∀ j, j < k → el l j = el m j) ∧ Below w.heap.size w wr) (fun i _ => n - (intOf i).toNat)
    case atStart => exact ⟨0, by omega, rfl, fun j hj => by omega, Below.refl _ _⟩
    case round =>
      obtain ⟨k, hk, rfl, he, hbw⟩ := hrel
      have HE := Lib.hid he
      have HBW := Lib.hid hbw
      clear he hbw
      by_cases hlt : k < n
      · obtain ⟨x, o, rfl, hx, hcx⟩ := HA.out (by omega)
        obtain ⟨y, p, rfl, hy, hcy⟩ := HB.out (by omega)
        have c1 : wr.cell? ⟨x, o + k, none⟩ = some (.string (el l k)) := by rw [HBW.out.cell (p := ⟨x, o + k, none⟩) hx]; exact hcx k hlt
        have c2 : wr.cell? ⟨y, p + k, none⟩ = some (.string (el m k)) := by rw [HBW.out.cell (p := ⟨y, p + k, none⟩) hy]; exact hcy k hlt
        clear hcx hcy
        by_cases hke : el l k = el m k
        · have HKE := Lib.hid hke
          rw [← hke] at c2
          clear hke
          go_wp2
          go_quiet (fail)
          go_wp2
          go_roundw
          case rel =>
            refine ⟨k + 1, by omega, by go_num, fun j hj => ?_, dn HBW.out _⟩
            by_cases e : j = k
            · subst e; exact HKE.out
            · exact HE.out j (by omega)
          case measure => simp only [intOf]; omega
        · have hb := ne_list hke
          have HKE := Lib.hid hke
          clear hke
          go_wp2
          go_quiet (fail)
          go_wp2
          go_ret
          exact ⟨by rw [decide_eq_false (fun e => HKE.out (by rw [e]))]; rfl, dn HBW.out _⟩
      · obtain rfl : k = n := by omega
        go_wp2
        go_ret
        exact ⟨by rw [decide_eq_true (el_ext l m HL.out (fun j hj => HE.out j (by rw [← HN.out]; exact hj)))]; rfl, HBW.out⟩
  · have hne : l.length < m.length ∨ m.length < l.length := by omega
    have hlm : l ≠ m := fun e => hlen (by rw [e])
    have HL := Lib.hid hlm
    clear hlen hlm h2 k2 ha hb hca hcb
    generalize l.length = n at *
    generalize m.length = n' at *
    rcases hne with hne | hne
    all_goals
      go_enter Tryd.func65, Tryd.ntmps65
      go_wp2
      go_ret
      exact ⟨by rw [decide_eq_false HL.out]; rfl, Below.refl _ _⟩

/-- What is left of a measure: -1, or not below zero and then all of the list is within it. -/
def SzOk (n : Nat) (l : List ByteArray) (left : Int) (e : Ending) : Prop := e = .returned (.int .i64 (-1)) ∨ ∃ r : Int, e = .returned (.int .i64 r) ∧ 0 ≤ r ∧ r ≤ left ∧ (n : Int) ≤ left ∧ ∀ j, j < n → ((el l j).size : Int) ≤ left

set_option maxHeartbeats 400000 in
theorem sz_strs (v : Value) (l : List ByteArray) (left : Int) (w : World) (hv : Strs w v l) (h0 : 0 ≤ left) (h1 : left ≤ 1048576) :
    Calls Tryd.prog 46 #[v, .int .i64 left] w fun e w' => SzOk l.length l left e ∧ w = w' := by
  obtain ⟨k1, k2, a, ca, rfl, hca, ha⟩ := hv
  generalize hn : l.length = n at k1 k2 ha hca ⊢
  have HA := Lib.hid ha
  have HK := Lib.hid k2
  clear hn k2 ha hca
  by_cases hfit : (n : Int) ≤ left
  · go_enter Tryd.func46, Tryd.ntmps46
    go_wp2
    go_loop [1, 5] (fun q i => ∃ (k : Nat) (r : Int), k ≤ n ∧ i = .int .i64 k ∧ q = .int .i64 r ∧ 0 ≤ r ∧ r ≤ left ∧ (∀ j, j < k → ((el l j).size : Int) ≤ left)) (fun _ i => n - (intOf i).toNat)
    case atStart => exact ⟨0, _, by omega, rfl, rfl, by omega, by omega, fun j hj => by omega⟩
    case round =>
      obtain ⟨k, r, hk, rfl, rfl, hr0, hr1, he⟩ := hrel
      have HE := Lib.hid he
      clear he
      by_cases hlt : k < n
      · obtain ⟨x, o, rfl, hx, hcx⟩ := HA.out (by omega)
        have c1 := hcx k hlt
        have hsz := HK.out k hlt
        clear hcx
        by_cases hg : ((el l k).size : Int) ≤ r
        · go_wp2
          go_round
          case rel =>
            refine ⟨k + 1, _, by omega, by go_num, rfl, by omega, by omega, fun j hj => ?_⟩
            by_cases e : j = k
            · subst e; omega
            · exact HE.out j (by omega)
          case measure => simp only [intOf]; omega
        · go_wp2
          go_ret
          exact ⟨.inl rfl, rfl⟩
      · obtain rfl : k = n := by omega
        go_wp2
        go_ret
        exact ⟨.inr ⟨r, rfl, hr0, hr1, hfit, fun j hj => HE.out j hj⟩, rfl⟩
  · go_enter Tryd.func46, Tryd.ntmps46
    go_wp2
    go_ret
    exact ⟨.inl rfl, rfl⟩

set_option maxHeartbeats 400000 in
theorem to_strs (v : Value) (l : List ByteArray) (w : World) (hv : Strs w v l) (hn1 : l.length ≤ 1048576) :
    Calls Tryd.prog 52 #[v] w fun e w' => (∃ g n cap, e = .returned (.slice (some ⟨g, 0, none⟩) n cap) ∧ w.heap.size ≤ g ∧ Strs w' (.slice (some ⟨g, 0, none⟩) n cap) l) ∧ Below w.heap.size w w' := by
  obtain ⟨k1, k2, a, ca, rfl, hca, ha⟩ := hv
  obtain ⟨n, hn⟩ : ∃ n, l.length = n := ⟨_, rfl⟩
  rw [hn] at k1 k2 ha hca hn1 ⊢
  have HN := Lib.hid hn
  have HA := Lib.hid ha
  have HK := Lib.hid k2
  clear hn k2 ha hca
  obtain ⟨w1, hmk, hrow, hb1⟩ := make_strs w n hn1
  obtain ⟨g, hg⟩ : ∃ g, g = w.heap.size := ⟨_, rfl⟩
  rw [← hg] at hmk hrow hb1 ⊢
  have HG := Lib.hid hg
  clear hg
  go_enter Tryd.func52, Tryd.ntmps52
  go_wp2
  clear hmk
  go_loopw [4] (fun i wr => ∃ k : Nat, k ≤ n ∧ i = .int .i64 k ∧ SRow wr g n (fun j => if j < k then el l j else ByteArray.empty) ∧ Below g w wr) (fun i _ => n - (intOf i).toNat)
  case atStart => exact ⟨0, by omega, rfl, by simpa using hrow, hb1⟩
  case round =>
    obtain ⟨k, hk, rfl, hr, hbw⟩ := hrel
    by_cases hlt : k < n
    · obtain ⟨x, o, rfl, hx, hcx⟩ := HA.out (by omega)
      have hxg : x < g := by rw [HG.out]; exact hx
      have c1 : wr.cell? ⟨x, o + k, none⟩ = some (.string (el l k)) := by rw [hbw.cell (p := ⟨x, o + k, none⟩) hxg]; exact hcx k hlt
      have f1 := hr.frozen k
      have c2 := hr.cell k hlt
      have HR := Lib.hid hr
      have HBW := Lib.hid hbw
      clear hcx hr hbw
      go_wp2
      go_roundw
      case rel =>
        refine ⟨k + 1, by omega, by go_num, ?_, HBW.out.setCell (Nat.le_refl _) _⟩
        have h := HR.out.set k (el l k)
        have e : (fun i => if i = k then el l k else if i < k then el l i else ByteArray.empty) = (fun j => if j < k + 1 then el l j else ByteArray.empty) := by
          funext i
          by_cases e1 : i = k
          · subst e1; simp
          · by_cases e2 : i < k
            · rw [if_neg e1, if_pos e2, if_pos (by omega)]
            · rw [if_neg e1, if_neg e2, if_neg (by omega)]
        rw [e] at h
        exact h
      case measure => simp only [intOf]; omega
    · obtain rfl : k = n := by omega
      have HR := Lib.hid hr
      have HBW := Lib.hid hbw
      clear hr hbw
      go_wp2
      go_ret
      exact ⟨⟨g, _, _, rfl, Nat.le_refl _, HR.out.strs l HN.out k1 HK.out (fun j hj => by rw [if_pos hj])⟩, HBW.out⟩
set_option maxHeartbeats 400000 in
theorem equal_strs (v u : Value) (l m : List ByteArray) (w : World) (hv : Strs w v l) (hu : Strs w u m) :
    Calls Tryd.prog 78 #[v, u] w fun e w' => e = .returned (.bool (decide (l = m))) ∧ Below w.heap.size w w' := by
  obtain ⟨h1, h2, a, ca, rfl, hca, ha⟩ := hv
  obtain ⟨k1, k2, b, cb, rfl, hcb, hb⟩ := hu
  by_cases hlen : l.length = m.length
  · have HL := Lib.hid hlen
    rw [← hlen] at k1 k2 hb hcb ⊢
    generalize hn : l.length = n at h1 h2 ha hca k1 k2 hb hcb
    have HN := Lib.hid hn
    have HA := Lib.hid ha
    have HB := Lib.hid hb
    clear hlen hn h2 k2 ha hb hca hcb
    go_enter Tryd.func78, Tryd.ntmps78
    go_wp2
    go_loopw [13] (fun i wr => ∃ k : Nat, k ≤ n ∧ i = .int .i64 k ∧ (∀ j, j < k → el l j = el m j) ∧ Below w.heap.size w wr) (fun i _ => n - (intOf i).toNat)
    case atStart => exact ⟨0, by omega, rfl, fun j hj => by omega, Below.refl _ _⟩
    case round =>
      obtain ⟨k, hk, rfl, he, hbw⟩ := hrel
      have HE := Lib.hid he
      have HBW := Lib.hid hbw
      clear he hbw
      by_cases hlt : k < n
      · obtain ⟨x, o, rfl, hx, hcx⟩ := HA.out (by omega)
        obtain ⟨y, p, rfl, hy, hcy⟩ := HB.out (by omega)
        have c1 : wr.cell? ⟨x, o + k, none⟩ = some (.string (el l k)) := by rw [HBW.out.cell (p := ⟨x, o + k, none⟩) hx]; exact hcx k hlt
        have c2 : wr.cell? ⟨y, p + k, none⟩ = some (.string (el m k)) := by rw [HBW.out.cell (p := ⟨y, p + k, none⟩) hy]; exact hcy k hlt
        clear hcx hcy
        by_cases hke : el l k = el m k
        · have HKE := Lib.hid hke
          rw [← hke] at c2
          clear hke
          go_wp2
          go_quiet (fail)
          go_wp2
          go_roundw
          case rel =>
            refine ⟨k + 1, by omega, by go_num, fun j hj => ?_, dn HBW.out _⟩
            by_cases e : j = k
            · subst e; exact HKE.out
            · exact HE.out j (by omega)
          case measure => simp only [intOf]; omega
        · have hb := ne_list hke
          have HKE := Lib.hid hke
          clear hke
          go_wp2
          go_quiet (fail)
          go_wp2
          go_ret
          exact ⟨by rw [decide_eq_false (fun e => HKE.out (by rw [e]))]; rfl, dn HBW.out _⟩
      · obtain rfl : k = n := by omega
        go_wp2
        go_ret
        exact ⟨by rw [decide_eq_true (el_ext l m HL.out (fun j hj => HE.out j (by rw [← HN.out]; exact hj)))]; rfl, HBW.out⟩
  · have hne : l.length < m.length ∨ m.length < l.length := by omega
    have hlm : l ≠ m := fun e => hlen (by rw [e])
    have HL := Lib.hid hlm
    clear hlen hlm h2 k2 ha hb hca hcb
    generalize l.length = n at *
    generalize m.length = n' at *
    rcases hne with hne | hne
    all_goals
      go_enter Tryd.func78, Tryd.ntmps78
      go_wp2
      go_ret
      exact ⟨by rw [decide_eq_false HL.out]; rfl, Below.refl _ _⟩
end Go.Proofs.YtlbebeedkcdgpaaDoor
