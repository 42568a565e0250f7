/- The law's comparison of Ids and of slices of them. -/
import Derived.Test.YtlbebeedkcdgpaaDoorIdM
import Derived.Test.YtlbebeedkcdgpaaDoorStrsE
namespace Go.Proofs.YtlbebeedkcdgpaaDoor
open Go.RowKit Go.PlainAid
set_option linter.unusedVariables false

set_option maxHeartbeats 400000 in
theorem eq_id_yes (f t : Int) (w : World) :
    Calls Tryd.prog 23 #[.agg #[.int .i64 f, .int .i64 t], .agg #[.int .i64 f, .int .i64 t]] w fun e w' => e = .returned (.bool true) ∧ Below w.heap.size w w' := by
  go_enter Tryd.func23, Tryd.ntmps23
  go_wp2
  go_ret
  exact ⟨rfl, ((Below.refl _ _).alloc (Nat.le_refl _) _).alloc (by simp) _⟩
theorem ine_no {a b : Int} (h : a ≠ b) : (a == b) = false := by simpa using h
set_option maxHeartbeats 400000 in
theorem eq_id_no (f g t u : Int) (w : World) (h : ¬ (f = g ∧ t = u)) :
    Calls Tryd.prog 23 #[.agg #[.int .i64 f, .int .i64 t], .agg #[.int .i64 g, .int .i64 u]] w fun e w' => e = .returned (.bool false) ∧ Below w.heap.size w w' := by
  by_cases hf : f = g
  · subst hf
    have hb := ine_no (fun e => h ⟨rfl, e⟩)
    clear h
    go_enter Tryd.func23, Tryd.ntmps23
    go_wp2
    go_ret
    exact ⟨rfl, ((Below.refl _ _).alloc (Nat.le_refl _) _).alloc (by simp) _⟩
  · have hb := ine_no hf
    clear h hf
    go_enter Tryd.func23, Tryd.ntmps23
    go_wp2
    go_ret
    exact ⟨rfl, ((Below.refl _ _).alloc (Nat.le_refl _) _).alloc (by simp) _⟩

set_option maxRecDepth 100000 in
set_option maxHeartbeats 1000000 in
theorem eq_idL (v u : Value) (l m : List Ii) (w : World) (hv : Ids w v l) (hu : Ids w u m) :
    Calls Tryd.prog 10 #[v, u] w fun e w' => e = .returned (.bool (decide (l = m))) ∧ Below w.heap.size w w' := by
  obtain ⟨h1, a, ca, rfl, hca, ha⟩ := hv
  obtain ⟨k1, b, cb, rfl, hcb, hb⟩ := hu
  by_cases hlen : l.length = m.length
  · have HL := Lib.hid hlen
    rw [← hlen] at k1 hb hcb ⊢
    generalize hn : l.length = n at h1 ha hca k1 hb hcb
    have HN := Lib.hid hn
    have HA := Lib.hid ha
    have HB := Lib.hid hb
    clear hlen hn ha hb hca hcb
    go_enter Tryd.func10, Tryd.ntmps10
    go_wp2
    go_loopw [5] (fun i wr => ∃ k : Nat, k ≤ n ∧ i = .int .i64 k ∧ (∀ j, j < k → iR l j = iR m j ∧ iS l j = iS m j) ∧ Below w.heap.size w wr) (fun i _ => n - (intOf i).toNat)
    case atStart => exact ⟨0, by omega, rfl, fun j hj => by omega, Below.refl _ _⟩
    case round =>
      obtain ⟨k, hk, rfl, he, hbw⟩ := hrel
      have HE := Lib.hid he
      have HBW := Lib.hid hbw
      clear he hbw
      by_cases hlt : k < n
      · obtain ⟨x, o, rfl, hx, hcx⟩ := HA.out (by omega)
        obtain ⟨y, p, rfl, hy, hcy⟩ := HB.out (by omega)
        have cc := (hcx k hlt).below HBW.out hx
        have dd := (hcy k hlt).below HBW.out hy
        obtain ⟨c1, c2⟩ := id cc
        obtain ⟨d1, d2⟩ := id dd
        have CC := Lib.hid (And.intro cc dd)
        clear hcx hcy cc dd
        have y1 : (k : Int) < (n : Int) := by omega
        have y0 : (0 : Int) ≤ (k : Int) := by omega
        have hxr : x < wr.heap.size := Nat.lt_of_lt_of_le hx HBW.out.size
        have hyr : y < wr.heap.size := Nat.lt_of_lt_of_le hy HBW.out.size
        by_cases hke : iR l k = iR m k ∧ iS l k = iS m k
        · have HKE := Lib.hid hke
          have HY := Lib.hid (fun W => (by have := eq_id_yes (iR l k) (iS l k) W; rw (occs := .pos [2]) [hke.1] at this; rw (occs := .pos [2]) [hke.2] at this; exact this : Calls Tryd.prog 23 #[.agg #[.int .i64 (iR l k), .int .i64 (iS l k)], .agg #[.int .i64 (iR m k), .int .i64 (iS m k)]] W fun e w' => e = .returned (.bool true) ∧ Below W.heap.size W w'))
          clear hke
          go_wp2_with fail
          go_region_held3 (fun w' => (w'.cell? ⟨x, o + k * 2, none⟩ = some (.int .i64 (iR l k)) ∧ w'.cell? ⟨x, o + k * 2 + 1, none⟩ = some (.int .i64 (iS l k))) ∧ w'.cell? ⟨y, p + k * 2, none⟩ = some (.int .i64 (iR m k)) ∧ w'.cell? ⟨y, p + k * 2 + 1, none⟩ = some (.int .i64 (iS m k))) (first | (with_reducible exact ⟨⟨c1, c2⟩, d1, d2⟩) | (with_reducible exact CY.out) | go_keep)
            (first | (go_at_call 23; refine (HY.out _).mono ?_; rintro e w2 ⟨rfl, hb⟩; have CY := Lib.hid (show (w2.cell? ⟨x, o + k * 2, none⟩ = some (.int .i64 (iR l k)) ∧ w2.cell? ⟨x, o + k * 2 + 1, none⟩ = some (.int .i64 (iS l k))) ∧ w2.cell? ⟨y, p + k * 2, none⟩ = some (.int .i64 (iR m k)) ∧ w2.cell? ⟨y, p + k * 2 + 1, none⟩ = some (.int .i64 (iS m k)) from ⟨(CC.out.1.drew).below hb hxr, (CC.out.2.drew).below hb hyr⟩); have HB2 := Lib.hid (HBW.out.trans (Below.mono (show Below wr.heap.size wr w2 from (Below.refl _ _).drew.trans hb) HBW.out.size)); clear hb))
          clear c1 c2 d1 d2
          go_wp2
          go_roundw
          case rel =>
            refine ⟨k + 1, by omega, by go_num, fun j hj => ?_, HB2.out⟩
            by_cases e : j = k
            · subst e; exact HKE.out
            · exact HE.out j (by omega)
          case measure => simp only [intOf]; omega
        · have HKE := Lib.hid hke
          have HY := Lib.hid (fun W => eq_id_no (iR l k) (iR m k) (iS l k) (iS m k) W hke)
          clear hke
          go_wp2_with fail
          go_region_held3 (fun w' => (w'.cell? ⟨x, o + k * 2, none⟩ = some (.int .i64 (iR l k)) ∧ w'.cell? ⟨x, o + k * 2 + 1, none⟩ = some (.int .i64 (iS l k))) ∧ w'.cell? ⟨y, p + k * 2, none⟩ = some (.int .i64 (iR m k)) ∧ w'.cell? ⟨y, p + k * 2 + 1, none⟩ = some (.int .i64 (iS m k))) (first | (with_reducible exact ⟨⟨c1, c2⟩, d1, d2⟩) | (with_reducible exact CY.out) | go_keep)
            (first | (go_at_call 23; refine (HY.out _).mono ?_; rintro e w2 ⟨rfl, hb⟩; have CY := Lib.hid (show (w2.cell? ⟨x, o + k * 2, none⟩ = some (.int .i64 (iR l k)) ∧ w2.cell? ⟨x, o + k * 2 + 1, none⟩ = some (.int .i64 (iS l k))) ∧ w2.cell? ⟨y, p + k * 2, none⟩ = some (.int .i64 (iR m k)) ∧ w2.cell? ⟨y, p + k * 2 + 1, none⟩ = some (.int .i64 (iS m k)) from ⟨(CC.out.1.drew).below hb hxr, (CC.out.2.drew).below hb hyr⟩); have HB2 := Lib.hid (HBW.out.trans (Below.mono (show Below wr.heap.size wr w2 from (Below.refl _ _).drew.trans hb) HBW.out.size)); clear hb))
          clear c1 c2 d1 d2
          go_wp2
          go_ret
          exact ⟨by rw [decide_eq_false (fun e => HKE.out (by rw [e]; exact ⟨rfl, rfl⟩))]; rfl, HB2.out⟩
      · obtain rfl : k = n := by omega
        go_wp2
        go_ret
        exact ⟨by rw [decide_eq_true (ii_ext l m HL.out (fun j hj => HE.out j (by rw [← HN.out]; exact hj)))]; rfl, HBW.out⟩
  · have hne : l.length < m.length ∨ m.length < l.length := by omega
    have hlm : l ≠ m := fun e => hlen (by rw [e])
    have HL := Lib.hid hlm
    clear hlen hlm ha hb hca hcb
    generalize l.length = n at *
    generalize m.length = n' at *
    rcases hne with hne | hne
    all_goals
      go_enter Tryd.func10, Tryd.ntmps10
      go_wp2
      go_ret
      exact ⟨by rw [decide_eq_false HL.out]; rfl, Below.refl _ _⟩

theorem eq_idL_same (v u : Value) (l : List Ii) (w : World) (hv : Ids w v l) (hu : Ids w u l) :
    Calls Tryd.prog 10 #[v, u] w fun e w' => e = .returned (.bool true) ∧ Below w.heap.size w w' :=
  (eq_idL v u l l w hv hu).mono fun e w' h => ⟨by rw [h.1, decide_eq_true rfl], h.2⟩
end Go.Proofs.YtlbebeedkcdgpaaDoor
