/- The law's comparison of segments, of slices of them and of logs. -/
import Derived.Test.YtmnglcidklckgaaDoorSgM
import Derived.Test.YtmnglcidklckgaaDoorStrsE
namespace Go.Proofs.YtmnglcidklckgaaDoor
open Go.RowKit Go.PlainAid
set_option linter.unusedVariables false

theorem bcell {W w1 : World} (hb : Below W.heap.size W w1) : (∀ b o, b < W.heap.size → w1.cell? ⟨b, o, none⟩ = W.cell? ⟨b, o, none⟩) ∧ (∀ b o, b < W.heap.size → w1.frozen? ⟨b, o, none⟩ = W.frozen? ⟨b, o, none⟩) :=
  ⟨fun b o h => hb.cell (p := ⟨b, o, none⟩) h, fun b o h => hb.frozen (p := ⟨b, o, none⟩) h⟩
set_option maxHeartbeats 400000 in
theorem eq_seg_yes (f : Int) (t : ByteArray) (w : World) :
    Calls Tryd.prog 72 #[.agg #[.int .i64 f, .string t], .agg #[.int .i64 f, .string t]] w fun e w' => e = .returned (.bool true) ∧ Below w.heap.size w w' := by
  go_enter Tryd.func72, Tryd.ntmps72
  go_wp2
  go_ret
  exact ⟨rfl, ((Below.refl _ _).alloc (Nat.le_refl _) _).alloc (by simp) _⟩
set_option maxHeartbeats 400000 in
theorem eq_seg_no (f g : Int) (t u : ByteArray) (w : World) (h : ¬ (f = g ∧ t = u)) :
    Calls Tryd.prog 72 #[.agg #[.int .i64 f, .string t], .agg #[.int .i64 g, .string u]] w fun e w' => e = .returned (.bool false) ∧ Below w.heap.size w w' := by
  by_cases hf : f = g
  · subst hf
    have ht : t ≠ u := fun e => h ⟨rfl, e⟩
    have hb := ne_list ht
    clear h ht
    go_enter Tryd.func72, Tryd.ntmps72
    go_wp2
    go_ret
    exact ⟨rfl, ((Below.refl _ _).alloc (Nat.le_refl _) _).alloc (by simp) _⟩
  · have hb := beq_no hf
    clear h hf
    go_enter Tryd.func72, Tryd.ntmps72
    go_wp2
    go_ret
    exact ⟨rfl, ((Below.refl _ _).alloc (Nat.le_refl _) _).alloc (by simp) _⟩

set_option maxRecDepth 100000 in
set_option maxHeartbeats 1000000 in
theorem eq_segs (v u : Value) (l m : List Sg) (w : World) (hv : Segs w v l) (hu : Segs w u m) :
    Calls Tryd.prog 48 #[v, u] w fun e w' => e = .returned (.bool (decide (l = m))) ∧ Below w.heap.size w w' := by
  obtain ⟨h1, h2, a, ca, rfl, hca, ha⟩ := hv
  obtain ⟨k1, k2, b, cb, rfl, hcb, hb⟩ := hu
  by_cases hlen : l.length = m.length
  · have HL := Lib.hid hlen
    rw [← hlen] at k1 k2 hb hcb ⊢
    generalize hn : l.length = n at h1 h2 ha hca k1 k2 hb hcb
    have HN := Lib.hid hn
    have HA := Lib.hid ha
    have HB := Lib.hid hb
    clear hlen hn h2 k2 ha hb hca hcb
    go_enter Tryd.func48, Tryd.ntmps48
    go_wp2
    go_loopw [5] (fun i wr => ∃ k : Nat, k ≤ n ∧ i = .int .i64 k ∧ (∀ j, j < k → sF l j = sF m j ∧ sT l j = sT m j) ∧ Below w.heap.size w wr) (fun i _ => n - (intOf i).toNat)
    case atStart => exact ⟨0, by omega, rfl, fun j hj => by omega, Below.refl _ _⟩
    case round =>
      obtain ⟨k, hk, rfl, he, hbw⟩ := hrel
      have HE := Lib.hid he
      have HBW := Lib.hid hbw
      clear he hbw
      by_cases hlt : k < n
      · obtain ⟨x, o, rfl, hx, hcx⟩ := HA.out (by omega)
        obtain ⟨y, p, rfl, hy, hcy⟩ := HB.out (by omega)
        have c1 : wr.cell? ⟨x, o + k * 2, none⟩ = some (.int .i64 (sF l k)) := by rw [HBW.out.cell (p := ⟨x, o + k * 2, none⟩) hx]; exact (hcx k hlt).1
        have c2 : wr.cell? ⟨x, o + k * 2 + 1, none⟩ = some (.string (sT l k)) := by rw [HBW.out.cell (p := ⟨x, o + k * 2 + 1, none⟩) hx]; exact (hcx k hlt).2
        have d1 : wr.cell? ⟨y, p + k * 2, none⟩ = some (.int .i64 (sF m k)) := by rw [HBW.out.cell (p := ⟨y, p + k * 2, none⟩) hy]; exact (hcy k hlt).1
        have d2 : wr.cell? ⟨y, p + k * 2 + 1, none⟩ = some (.string (sT m k)) := by rw [HBW.out.cell (p := ⟨y, p + k * 2 + 1, none⟩) hy]; exact (hcy k hlt).2
        clear hcx hcy
        have y1 : (k : Int) < (n : Int) := by omega
        have y0 : (0 : Int) ≤ (k : Int) := by omega
        have hxr : x < wr.heap.size := Nat.lt_of_lt_of_le hx HBW.out.size
        have hyr : y < wr.heap.size := Nat.lt_of_lt_of_le hy HBW.out.size
        by_cases hke : sF l k = sF m k ∧ sT l k = sT m k
        · have HKE := Lib.hid hke
          obtain ⟨e1, e2⟩ := hke
          have CC := Lib.hid (⟨c1, c2, d1, d2⟩ : _ ∧ _ ∧ _ ∧ _)
          have HY := Lib.hid (fun W => (by have := eq_seg_yes (sF l k) (sT l k) W; rw (occs := .pos [2]) [e1] at this; rw (occs := .pos [2]) [e2] at this; exact this : Calls Tryd.prog 72 #[.agg #[.int .i64 (sF l k), .string (sT l k)], .agg #[.int .i64 (sF m k), .string (sT m k)]] W fun e w' => e = .returned (.bool true) ∧ Below W.heap.size W w'))
          clear e1 e2
          go_wp2_with fail
          go_region_held3 (fun w' => w'.cell? ⟨x, o + k * 2, none⟩ = some (.int .i64 (sF l k)) ∧ w'.cell? ⟨x, o + k * 2 + 1, none⟩ = some (.string (sT l k)) ∧ w'.cell? ⟨y, p + k * 2, none⟩ = some (.int .i64 (sF m k)) ∧ w'.cell? ⟨y, p + k * 2 + 1, none⟩ = some (.string (sT m k))) (first | (with_reducible exact ⟨c1, c2, d1, d2⟩) | (with_reducible exact CY.out) | go_keep)
            (first | (go_at_call 72; refine (HY.out _).mono ?_; rintro e w2 ⟨rfl, hb⟩; have CY := Lib.hid (show w2.cell? ⟨x, o + k * 2, none⟩ = some (.int .i64 (sF l k)) ∧ w2.cell? ⟨x, o + k * 2 + 1, none⟩ = some (.string (sT l k)) ∧ w2.cell? ⟨y, p + k * 2, none⟩ = some (.int .i64 (sF m k)) ∧ w2.cell? ⟨y, p + k * 2 + 1, none⟩ = some (.string (sT m k)) by rw [hb.cell (p := ⟨x, o + k * 2, none⟩) hxr, hb.cell (p := ⟨x, o + k * 2 + 1, none⟩) hxr, hb.cell (p := ⟨y, p + k * 2, none⟩) hyr, hb.cell (p := ⟨y, p + k * 2 + 1, none⟩) hyr]; exact CC.out); have HB2 := Lib.hid (HBW.out.trans (Below.mono (show Below wr.heap.size wr w2 from (Below.refl _ _).drew.trans hb) HBW.out.size)); clear hb))
          clear c1 c2 d1 d2
          go_wp2
          go_roundw
          case rel =>
            refine ⟨k + 1, by omega, by go_num, fun j hj => ?_, HB2.out⟩
            by_cases e : j = k
            · subst e; exact HKE.out
            · exact HE.out j (by omega)
          case measure => simp only [intOf]; omega
        · have HKE := Lib.hid hke
          have CC := Lib.hid (⟨c1, c2, d1, d2⟩ : _ ∧ _ ∧ _ ∧ _)
          have HY := Lib.hid (fun W => eq_seg_no (sF l k) (sF m k) (sT l k) (sT m k) W hke)
          clear hke
          go_wp2_with fail
          go_region_held3 (fun w' => w'.cell? ⟨x, o + k * 2, none⟩ = some (.int .i64 (sF l k)) ∧ w'.cell? ⟨x, o + k * 2 + 1, none⟩ = some (.string (sT l k)) ∧ w'.cell? ⟨y, p + k * 2, none⟩ = some (.int .i64 (sF m k)) ∧ w'.cell? ⟨y, p + k * 2 + 1, none⟩ = some (.string (sT m k))) (first | (with_reducible exact ⟨c1, c2, d1, d2⟩) | (with_reducible exact CY.out) | go_keep)
            (first | (go_at_call 72; refine (HY.out _).mono ?_; rintro e w2 ⟨rfl, hb⟩; have CY := Lib.hid (show w2.cell? ⟨x, o + k * 2, none⟩ = some (.int .i64 (sF l k)) ∧ w2.cell? ⟨x, o + k * 2 + 1, none⟩ = some (.string (sT l k)) ∧ w2.cell? ⟨y, p + k * 2, none⟩ = some (.int .i64 (sF m k)) ∧ w2.cell? ⟨y, p + k * 2 + 1, none⟩ = some (.string (sT m k)) by rw [hb.cell (p := ⟨x, o + k * 2, none⟩) hxr, hb.cell (p := ⟨x, o + k * 2 + 1, none⟩) hxr, hb.cell (p := ⟨y, p + k * 2, none⟩) hyr, hb.cell (p := ⟨y, p + k * 2 + 1, none⟩) hyr]; exact CC.out); have HB2 := Lib.hid (HBW.out.trans (Below.mono (show Below wr.heap.size wr w2 from (Below.refl _ _).drew.trans hb) HBW.out.size)); clear hb))
          clear c1 c2 d1 d2
          go_wp2
          go_ret
          exact ⟨by rw [decide_eq_false (fun e => HKE.out (by rw [e]; exact ⟨rfl, rfl⟩))]; rfl, HB2.out⟩
      · obtain rfl : k = n := by omega
        go_wp2
        go_ret
        exact ⟨by rw [decide_eq_true (sg_ext l m HL.out (fun j hj => HE.out j (by rw [← HN.out]; exact hj)))]; rfl, HBW.out⟩
  · have hne : l.length < m.length ∨ m.length < l.length := by omega
    have hlm : l ≠ m := fun e => hlen (by rw [e])
    have HL := Lib.hid hlm
    clear hlen hlm h2 k2 ha hb hca hcb
    generalize l.length = n at *
    generalize m.length = n' at *
    rcases hne with hne | hne
    all_goals
      go_enter Tryd.func48, Tryd.ntmps48
      go_wp2
      go_ret
      exact ⟨by rw [decide_eq_false HL.out]; rfl, Below.refl _ _⟩

theorem eq_segs_same (v u : Value) (l : List Sg) (w : World) (hv : Segs w v l) (hu : Segs w u l) :
    Calls Tryd.prog 48 #[v, u] w fun e w' => e = .returned (.bool true) ∧ Below w.heap.size w w' :=
  (eq_segs v u l l w hv hu).mono fun e w' h => ⟨by rw [h.1, decide_eq_true rfl], h.2⟩
set_option maxHeartbeats 400000 in
theorem eq_log_yes (v u : Value) (l : List Sg) (n m : Int) (w : World) (hv : Segs w v l) (hu : Segs w u l) :
    Calls Tryd.prog 24 #[.agg #[v, .int .i64 n, .int .i64 m], .agg #[u, .int .i64 n, .int .i64 m]] w fun e w' => e = .returned (.bool true) ∧ Below w.heap.size w w' := by
  have H := Lib.hid (eq_segs_same v u l _ ((hv.alloc (.cells #[v, .int .i64 n, .int .i64 m] 26)).alloc (.cells #[u, .int .i64 n, .int .i64 m] 26)) ((hu.alloc _).alloc _))
  obtain ⟨a, k, c, rfl⟩ := hv.form
  obtain ⟨a', k', c', rfl⟩ := hu.form
  clear hv hu
  go_enter Tryd.func24, Tryd.ntmps24
  go_wp2_with fail
  refine H.out.mono ?_
  rintro e w2 ⟨rfl, hb⟩
  obtain ⟨hc, hf⟩ := bcell hb
  have HB := Lib.hid hb
  clear hb
  go_wp2
  go_ret
  exact ⟨rfl, (((Below.refl _ _).alloc (Nat.le_refl _) _).alloc (by simp) _).trans (HB.out.mono (by simp; omega))⟩
end Go.Proofs.YtmnglcidklckgaaDoor
