/- The law's comparison of chunks, of slices of them and of stores. -/
import Derived.Test.YtemhhjkmolndbaaDoorBlM
import Derived.Test.YtemhhjkmolndbaaDoorStrsE
namespace Go.Proofs.YtemhhjkmolndbaaDoor
open Go.RowKit Go.PlainAid
set_option linter.unusedVariables false

theorem bcell {W w1 : World} (hb : Below W.heap.size W w1) : (∀ b o, b < W.heap.size → w1.cell? ⟨b, o, none⟩ = W.cell? ⟨b, o, none⟩) ∧ (∀ b o, b < W.heap.size → w1.frozen? ⟨b, o, none⟩ = W.frozen? ⟨b, o, none⟩) :=
  ⟨fun b o h => hb.cell (p := ⟨b, o, none⟩) h, fun b o h => hb.frozen (p := ⟨b, o, none⟩) h⟩
theorem BbAt.drew {w : World} {b o : Nat} {l : List Bb} {j : Nat} (h : BbAt w b o l j) : BbAt w.drew b o l j := h
theorem bne_no {a b : Bool} (h : a ≠ b) : (a == b) = false := by cases a <;> cases b <;> simp_all
set_option maxHeartbeats 400000 in
theorem eq_blob_yes (f t : ByteArray) (b : Bool) (w : World) :
    Calls Tryd.prog 101 #[.agg #[.string f, .string t, .bool b], .agg #[.string f, .string t, .bool b]] w fun e w' => e = .returned (.bool true) ∧ Below w.heap.size w w' := by
  go_enter Tryd.func101, Tryd.ntmps101
  go_wp2
  go_ret
  exact ⟨rfl, ((Below.refl _ _).alloc (Nat.le_refl _) _).alloc (by simp) _⟩
set_option maxHeartbeats 400000 in
theorem eq_blob_no (f g t u : ByteArray) (b c : Bool) (w : World) (h : ¬ (f = g ∧ t = u ∧ b = c)) :
    Calls Tryd.prog 101 #[.agg #[.string f, .string t, .bool b], .agg #[.string g, .string u, .bool c]] w fun e w' => e = .returned (.bool false) ∧ Below w.heap.size w w' := by
  by_cases hf : f = g
  · subst hf
    by_cases ht : t = u
    · subst ht
      have hbc : b ≠ c := fun e => h ⟨rfl, rfl, e⟩
      clear h
      cases b <;> cases c <;> simp at hbc
      all_goals
        go_enter Tryd.func101, Tryd.ntmps101
        go_wp2
        go_ret
        exact ⟨rfl, ((Below.refl _ _).alloc (Nat.le_refl _) _).alloc (by simp) _⟩
    · have hb := ne_list ht
      clear h ht
      go_enter Tryd.func101, Tryd.ntmps101
      go_wp2
      go_ret
      exact ⟨rfl, ((Below.refl _ _).alloc (Nat.le_refl _) _).alloc (by simp) _⟩
  · have hb := ne_list hf
    clear h hf
    go_enter Tryd.func101, Tryd.ntmps101
    go_wp2
    go_ret
    exact ⟨rfl, ((Below.refl _ _).alloc (Nat.le_refl _) _).alloc (by simp) _⟩

set_option maxRecDepth 100000 in
set_option maxHeartbeats 1000000 in
theorem eq_blobL (v u : Value) (l m : List Bb) (w : World) (hv : Blbs w v l) (hu : Blbs w u m) :
    Calls Tryd.prog 71 #[v, u] w fun e w' => e = .returned (.bool (decide (l = m))) ∧ Below w.heap.size w w' := by
  obtain ⟨h1, h2, a, ca, rfl, hca, ha⟩ := hv
  obtain ⟨k1, k2, b, cb, rfl, hcb, hb⟩ := hu
  by_cases hlen : l.length = m.length
  · have HL := Lib.hid hlen
    rw [← hlen] at k1 k2 hb hcb ⊢
    generalize hn : l.length = n at h1 h2 ha hca k1 k2 hb hcb
    have HN := Lib.hid hn
    have HA := Lib.hid ha
    have HB := Lib.hid hb
    clear hlen hn h2 k2 ha hb hca hcb
    go_enter Tryd.func71, Tryd.ntmps71
    go_wp2
    go_loopw [5] (fun i wr => ∃ k : Nat, k ≤ n ∧ i = .int .i64 k ∧ (∀ j, j < k → bI l j = bI m j ∧ bD l j = bD m j ∧ bX l j = bX m j) ∧ Below w.heap.size w wr) (fun i _ => n - (intOf i).toNat)
    case atStart => exact ⟨0, by omega, rfl, fun j hj => by omega, Below.refl _ _⟩
    case round =>
      obtain ⟨k, hk, rfl, he, hbw⟩ := hrel
      have HE := Lib.hid he
      have HBW := Lib.hid hbw
      clear he hbw
      by_cases hlt : k < n
      · obtain ⟨x, o, rfl, hx, hcx⟩ := HA.out (by omega)
        obtain ⟨y, p, rfl, hy, hcy⟩ := HB.out (by omega)
        have cc := (hcx k hlt).below HBW.out hx
        have dd := (hcy k hlt).below HBW.out hy
        obtain ⟨c1, c2, c3⟩ := id cc
        obtain ⟨d1, d2, d3⟩ := id dd
        have CC := Lib.hid (And.intro cc dd)
        clear hcx hcy cc dd
        have y1 : (k : Int) < (n : Int) := by omega
        have y0 : (0 : Int) ≤ (k : Int) := by omega
        have hxr : x < wr.heap.size := Nat.lt_of_lt_of_le hx HBW.out.size
        have hyr : y < wr.heap.size := Nat.lt_of_lt_of_le hy HBW.out.size
        by_cases hke : bI l k = bI m k ∧ bD l k = bD m k ∧ bX l k = bX m k
        · have HKE := Lib.hid hke
          have HY := Lib.hid (fun W => (by have := eq_blob_yes (bI l k) (bD l k) (bX l k) W; rw (occs := .pos [2]) [hke.1] at this; rw (occs := .pos [2]) [hke.2.1] at this; rw (occs := .pos [2]) [hke.2.2] at this; exact this : Calls Tryd.prog 101 #[.agg #[.string (bI l k), .string (bD l k), .bool (bX l k)], .agg #[.string (bI m k), .string (bD m k), .bool (bX m k)]] W fun e w' => e = .returned (.bool true) ∧ Below W.heap.size W w'))
          clear hke
          go_wp2_with fail
          go_region_held3 (fun w' => (w'.cell? ⟨x, o + k * 3, none⟩ = some (.string (bI l k)) ∧ w'.cell? ⟨x, o + k * 3 + 1, none⟩ = some (.string (bD l k)) ∧ w'.cell? ⟨x, o + k * 3 + 2, none⟩ = some (.bool (bX l k))) ∧ w'.cell? ⟨y, p + k * 3, none⟩ = some (.string (bI m k)) ∧ w'.cell? ⟨y, p + k * 3 + 1, none⟩ = some (.string (bD m k)) ∧ w'.cell? ⟨y, p + k * 3 + 2, none⟩ = some (.bool (bX m k))) (first | (with_reducible exact ⟨⟨c1, c2, c3⟩, d1, d2, d3⟩) | (with_reducible exact CY.out) | go_keep)
            (first | (go_at_call 101; refine (HY.out _).mono ?_; rintro e w2 ⟨rfl, hb⟩; have CY := Lib.hid (show (w2.cell? ⟨x, o + k * 3, none⟩ = some (.string (bI l k)) ∧ w2.cell? ⟨x, o + k * 3 + 1, none⟩ = some (.string (bD l k)) ∧ w2.cell? ⟨x, o + k * 3 + 2, none⟩ = some (.bool (bX l k))) ∧ w2.cell? ⟨y, p + k * 3, none⟩ = some (.string (bI m k)) ∧ w2.cell? ⟨y, p + k * 3 + 1, none⟩ = some (.string (bD m k)) ∧ w2.cell? ⟨y, p + k * 3 + 2, none⟩ = some (.bool (bX m k)) from ⟨(CC.out.1.drew).below hb hxr, (CC.out.2.drew).below hb hyr⟩); have HB2 := Lib.hid (HBW.out.trans (Below.mono (show Below wr.heap.size wr w2 from (Below.refl _ _).drew.trans hb) HBW.out.size)); clear hb))
          clear c1 c2 c3 d1 d2 d3
          go_wp2
          go_roundw
          case rel =>
            refine ⟨k + 1, by omega, by go_num, fun j hj => ?_, HB2.out⟩
            by_cases e : j = k
            · subst e; exact HKE.out
            · exact HE.out j (by omega)
          case measure => simp only [intOf]; omega
        · have HKE := Lib.hid hke
          have HY := Lib.hid (fun W => eq_blob_no (bI l k) (bI m k) (bD l k) (bD m k) (bX l k) (bX m k) W hke)
          clear hke
          go_wp2_with fail
          go_region_held3 (fun w' => (w'.cell? ⟨x, o + k * 3, none⟩ = some (.string (bI l k)) ∧ w'.cell? ⟨x, o + k * 3 + 1, none⟩ = some (.string (bD l k)) ∧ w'.cell? ⟨x, o + k * 3 + 2, none⟩ = some (.bool (bX l k))) ∧ w'.cell? ⟨y, p + k * 3, none⟩ = some (.string (bI m k)) ∧ w'.cell? ⟨y, p + k * 3 + 1, none⟩ = some (.string (bD m k)) ∧ w'.cell? ⟨y, p + k * 3 + 2, none⟩ = some (.bool (bX m k))) (first | (with_reducible exact ⟨⟨c1, c2, c3⟩, d1, d2, d3⟩) | (with_reducible exact CY.out) | go_keep)
            (first | (go_at_call 101; refine (HY.out _).mono ?_; rintro e w2 ⟨rfl, hb⟩; have CY := Lib.hid (show (w2.cell? ⟨x, o + k * 3, none⟩ = some (.string (bI l k)) ∧ w2.cell? ⟨x, o + k * 3 + 1, none⟩ = some (.string (bD l k)) ∧ w2.cell? ⟨x, o + k * 3 + 2, none⟩ = some (.bool (bX l k))) ∧ w2.cell? ⟨y, p + k * 3, none⟩ = some (.string (bI m k)) ∧ w2.cell? ⟨y, p + k * 3 + 1, none⟩ = some (.string (bD m k)) ∧ w2.cell? ⟨y, p + k * 3 + 2, none⟩ = some (.bool (bX m k)) from ⟨(CC.out.1.drew).below hb hxr, (CC.out.2.drew).below hb hyr⟩); have HB2 := Lib.hid (HBW.out.trans (Below.mono (show Below wr.heap.size wr w2 from (Below.refl _ _).drew.trans hb) HBW.out.size)); clear hb))
          clear c1 c2 c3 d1 d2 d3
          go_wp2
          go_ret
          exact ⟨by rw [decide_eq_false (fun e => HKE.out (by rw [e]; exact ⟨rfl, rfl, rfl⟩))]; rfl, HB2.out⟩
      · obtain rfl : k = n := by omega
        go_wp2
        go_ret
        exact ⟨by rw [decide_eq_true (bb_ext l m HL.out (fun j hj => HE.out j (by rw [← HN.out]; exact hj)))]; rfl, HBW.out⟩
  · have hne : l.length < m.length ∨ m.length < l.length := by omega
    have hlm : l ≠ m := fun e => hlen (by rw [e])
    have HL := Lib.hid hlm
    clear hlen hlm h2 k2 ha hb hca hcb
    generalize l.length = n at *
    generalize m.length = n' at *
    rcases hne with hne | hne
    all_goals
      go_enter Tryd.func71, Tryd.ntmps71
      go_wp2
      go_ret
      exact ⟨by rw [decide_eq_false HL.out]; rfl, Below.refl _ _⟩

theorem eq_blobL_same (v u : Value) (l : List Bb) (w : World) (hv : Blbs w v l) (hu : Blbs w u l) :
    Calls Tryd.prog 71 #[v, u] w fun e w' => e = .returned (.bool true) ∧ Below w.heap.size w w' :=
  (eq_blobL v u l l w hv hu).mono fun e w' h => ⟨by rw [h.1, decide_eq_true rfl], h.2⟩
set_option maxHeartbeats 400000 in
theorem eq_blobs_yes (v u : Value) (l : List Bb) (q : Int) (w : World) (hv : Blbs w v l) (hu : Blbs w u l) :
    Calls Tryd.prog 35 #[.agg #[.int .i64 q, v], .agg #[.int .i64 q, u]] w fun e w' => e = .returned (.bool true) ∧ Below w.heap.size w w' := by
  have H := Lib.hid (eq_blobL_same v u l _ ((hv.alloc (.cells #[.int .i64 q, v] 41)).alloc (.cells #[.int .i64 q, u] 41)) ((hu.alloc _).alloc _))
  obtain ⟨a, k, c, rfl⟩ := hv.form
  obtain ⟨a', k', c', rfl⟩ := hu.form
  clear hv hu
  go_enter Tryd.func35, Tryd.ntmps35
  go_wp2_with fail
  refine H.out.mono ?_
  rintro e w2 ⟨rfl, hb⟩
  obtain ⟨hc, hf⟩ := bcell hb
  have HB := Lib.hid hb
  clear hb
  go_wp2
  go_ret
  exact ⟨rfl, (((Below.refl _ _).alloc (Nat.le_refl _) _).alloc (by simp) _).trans (HB.out.mono (by simp; omega))⟩
end Go.Proofs.YtemhhjkmolndbaaDoor
