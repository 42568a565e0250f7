/- checkLog and logResult, by contracts. -/
import Derived.Test.YtmnglcidklckgaaDoorChk
import Derived.Test.YtmnglcidklckgaaDoorAs
namespace Go.Proofs.YtmnglcidklckgaaDoor
open Go.RowKit Go.PlainAid
set_option linter.unusedVariables false

theorem rng_yes (a b c : Int) (w : World) (h1 : b ≤ a) (h2 : a ≤ c) : Calls Tryd.prog 55 #[.int .i64 a, .int .i64 b, .int .i64 c] w fun e w' => e = .returned (.bool true) ∧ w = w' := by
  go_enter Tryd.func55, Tryd.ntmps55
  go_wp2
  go_ret
  exact ⟨rfl, rfl⟩
theorem rng_no (a b c : Int) (w : World) (h : a < b ∨ c < a) : Calls Tryd.prog 55 #[.int .i64 a, .int .i64 b, .int .i64 c] w fun e w' => e = .returned (.bool false) ∧ w = w' := by
  by_cases h1 : b ≤ a
  · have h2 : decide (a ≤ c) = false := by simp; omega
    clear h
    go_enter Tryd.func55, Tryd.ntmps55
    go_wp2
    go_ret
    exact ⟨rfl, rfl⟩
  · clear h
    go_enter Tryd.func55, Tryd.ntmps55
    go_wp2
    go_ret
    exact ⟨rfl, rfl⟩

/-- What checkLog answers. -/
def ChkV (l : List Sg) (n m : Int) (e : Ending) : Prop := (okB l n m = true ∧ e = .returned .nilIface) ∨ (okB l n m = false ∧ ∃ r, e = .returned (.iface 79 (.agg #[.string r, .slice none 0 0, .int .i64 0, .int .i64 0])))
theorem ok_sg (l : List Sg) (n m : Int) (h1 : 1 ≤ l.length) (h6 : l.length ≤ 6) (hn : n ≤ 1000) (hm : 0 ≤ m) (hm2 : m ≤ n - 1) (hf : 1 ≤ sF l 0) : okB l n m = sgB l n m := by
  cases e : sgB l n m with
  | true => obtain ⟨a, b⟩ := (sgB_iff l n m).1 e; exact (okB_iff l n m).2 ⟨h1, h6, hf, hn, hm, hm2, a, b⟩
  | false => exact okB_no l n m fun ⟨_, _, _, _, _, _, a, b⟩ => by rw [(sgB_iff l n m).2 ⟨a, b⟩] at e; cases e

set_option maxRecDepth 100000 in
set_option maxHeartbeats 1000000 in
theorem impl_check (v : Value) (l : List Sg) (n m : Int) (w : World) (hv : Segs w v l) (ht : ∀ j, j < l.length → (sT l j).size ≤ 1048576) (hT : TabC w) :
    Calls Tryd.prog 47 #[.agg #[v, .int .i64 n, .int .i64 m]] w fun e w' => ChkV l n m e ∧ Below w.heap.size w w' := by
  have hbd := atN_bd l ht
  obtain ⟨a, k0, cap, hve⟩ := hv.form
  have hk0 : l.length = k0 := by
    obtain ⟨_, _, a', c', e', _⟩ := hv
    rw [hve] at e'
    simp only [Value.slice.injEq] at e'
    exact e'.2.1.symm
  subst hve
  by_cases hlen : 1 ≤ l.length ∧ l.length ≤ 6
  · by_cases hn : 1 ≤ n ∧ n ≤ 1000
    · by_cases hm : 0 ≤ m ∧ m ≤ n - 1
      · obtain ⟨b, o, cap', hve, hcap, hbw, c0, c1⟩ := hv.at0 0 (by omega)
        simp only [Value.slice.injEq] at hve
        obtain ⟨rfl, hdd, rfl⟩ := hve
        clear hdd
        rw [Nat.zero_mul, Nat.add_zero] at c0 c1
        have d0 : (w.alloc (.cells #[.slice (some ⟨b, o, none⟩) k0 cap, .int .i64 n, .int .i64 m] 26)).cell? ⟨b, o, none⟩ = some (.int .i64 (sF l 0)) := by
          rw [World.cell?_alloc_lt _ _ ⟨b, o, none⟩ hbw]; exact c0
        obtain ⟨n1, n2⟩ := hn
        obtain ⟨m1, m2⟩ := hm
        by_cases hf : 1 ≤ sF l 0 ∧ sF l 0 ≤ n
        · have HS := Lib.hid (impl_segsOk _ l n m _ (hv.alloc (.cells #[.slice (some ⟨b, o, none⟩) k0 cap, .int .i64 n, .int .i64 m] 26)).drew ht hlen.1 hlen.2 hf.1 (by omega) (hT.later (((Below.refl w.heap.size w).alloc (Nat.le_refl _) (.cells #[.slice (some ⟨b, o, none⟩) k0 cap, .int .i64 n, .int .i64 m] 26)).drew) (Nat.le_refl _)))
          have HO := Lib.hid (ok_sg l n m hlen.1 hlen.2 n2 m1 m2 hf.1)
          rw [hk0] at hlen hcap
          obtain ⟨l1, l6⟩ := hlen
          obtain ⟨f1, f2⟩ := hf
          have p0 : 0 < k0 := by omega
          have X := Lib.hid (Bx.new w 26 #[.slice (some ⟨b, o, none⟩) k0 cap, .int .i64 n, .int .i64 m] _ rfl)
          obtain ⟨x0, x1, x2⟩ := X.out.cells3
          clear hv ht hbd hk0 c0 c1 hT
          go_enter Tryd.func47, Tryd.ntmps47
          go_wp2_with (go_at_call 55; refine (rng_yes _ _ _ _ (by omega) (by omega)).mono ?_; rintro e w' ⟨rfl, rfl⟩)
          go_region_held3 (fun w' => w'.cell? ⟨w.heap.size, 0, none⟩ = some (.slice (some ⟨b, o, none⟩) k0 cap) ∧ w'.cell? ⟨w.heap.size, 1, none⟩ = some (.int .i64 n) ∧ w'.cell? ⟨w.heap.size, 2, none⟩ = some (.int .i64 m) ∧ w'.cell? ⟨b, o, none⟩ = some (.int .i64 (sF l 0))) (first | (with_reducible exact ⟨x0, x1, x2, d0⟩) | (with_reducible exact CY.out) | go_keep)
            (first | (go_at_call 55; refine (rng_yes _ _ _ _ f1 f2).mono ?_; rintro e w' ⟨rfl, rfl⟩) | (go_at_call 71; refine HS.out.mono ?_; rintro e w2 ⟨rfl, hb⟩; have HB2 := Lib.hid (((Af.refl w).alloc (.cells #[.slice (some ⟨b, o, none⟩) k0 cap, .int .i64 n, .int .i64 m] 26)).drew.after hb); have Y := (X.out.drew.after hb).cells3; have CY := Lib.hid (show w2.cell? ⟨w.heap.size, 0, none⟩ = some (.slice (some ⟨b, o, none⟩) k0 cap) ∧ w2.cell? ⟨w.heap.size, 1, none⟩ = some (.int .i64 n) ∧ w2.cell? ⟨w.heap.size, 2, none⟩ = some (.int .i64 m) ∧ w2.cell? ⟨b, o, none⟩ = some (.int .i64 (sF l 0)) from ⟨Y.1, Y.2.1, Y.2.2, by rw [hb.cell (p := ⟨b, o, none⟩) (by simp <;> omega)]; exact d0⟩); clear Y hb))
          cases hs : sgB l n m with
          | true =>
            go_wp2
            go_ret
            exact ⟨.inl ⟨by rw [HO.out, hs], rfl⟩, HB2.out⟩
          | false =>
            go_wp2
            go_ret
            exact ⟨.inr ⟨by rw [HO.out, hs], _, rfl⟩, HB2.out⟩
        · have HO := Lib.hid (okB_no l n m (fun h => hf ⟨h.2.2.1, by have h1 := h.2.2.2.2.2.2.1; have h3 := (hbd l.length (Nat.le_refl _)).1; omega⟩))
          have hf' : sF l 0 < 1 ∨ n < sF l 0 := by omega
          rw [hk0] at hlen hcap
          obtain ⟨l1, l6⟩ := hlen
          have p0 : 0 < k0 := by omega
          obtain ⟨x0, x1, x2⟩ := (Bx.new w 26 #[.slice (some ⟨b, o, none⟩) k0 cap, .int .i64 n, .int .i64 m] _ rfl).cells3
          clear hv ht hbd hk0 c0 c1 hT hf
          go_enter Tryd.func47, Tryd.ntmps47
          go_wp2_with (go_at_call 55; first | (refine (rng_yes _ _ _ _ (by omega) (by omega)).mono ?_; rintro e w' ⟨rfl, rfl⟩) | (refine (rng_no _ _ _ _ hf').mono ?_; rintro e w' ⟨rfl, rfl⟩))
          go_quiet ((go_at_call 55; refine Calls.quiet_of_same ((rng_no _ _ _ _ hf').mono fun e w' h => ⟨h.1, h.2.symm⟩)))
          go_wp2
          go_ret
          exact ⟨.inr ⟨HO.out, _, rfl⟩, ((Af.refl w).alloc _).drewN _⟩
      · have HO := Lib.hid (okB_no l n m (fun h => hm ⟨h.2.2.2.2.1, h.2.2.2.2.2.1⟩))
        have hm' : m < 0 ∨ n - 1 < m := by omega
        obtain ⟨n1, n2⟩ := hn
        rw [hk0] at hlen
        obtain ⟨l1, l6⟩ := hlen
        clear hv ht hbd hk0 hm hT
        go_enter Tryd.func47, Tryd.ntmps47
        go_wp2_with (go_at_call 55; first | (refine (rng_yes _ _ _ _ (by omega) (by omega)).mono ?_; rintro e w' ⟨rfl, rfl⟩) | (refine (rng_no _ _ _ _ hm').mono ?_; rintro e w' ⟨rfl, rfl⟩))
        go_ret
        exact ⟨.inr ⟨HO.out, _, rfl⟩, (Af.refl w).alloc _⟩
    · have HO := Lib.hid (okB_no l n m (fun h => hn ⟨by have := h.2.2.2.2.1; have := h.2.2.2.2.2.1; omega, h.2.2.2.1⟩))
      have hn' : n < 1 ∨ 1000 < n := by omega
      rw [hk0] at hlen
      obtain ⟨l1, l6⟩ := hlen
      clear hv ht hbd hk0 hn hT
      go_enter Tryd.func47, Tryd.ntmps47
      go_wp2_with (go_at_call 55; first | (refine (rng_yes _ _ _ _ (by omega) (by omega)).mono ?_; rintro e w' ⟨rfl, rfl⟩) | (refine (rng_no _ _ _ _ hn').mono ?_; rintro e w' ⟨rfl, rfl⟩))
      go_ret
      exact ⟨.inr ⟨HO.out, _, rfl⟩, (Af.refl w).alloc _⟩
  · have HO := Lib.hid (okB_no l n m (fun h => hlen ⟨h.1, h.2.1⟩))
    have hk : (k0 : Int) < 1 ∨ 6 < (k0 : Int) := by omega
    clear hv ht hbd hlen hk0 hT
    go_enter Tryd.func47, Tryd.ntmps47
    go_wp2_with (go_at_call 55; refine (rng_no _ _ _ _ hk).mono ?_; rintro e w' ⟨rfl, rfl⟩)
    go_ret
    exact ⟨.inr ⟨HO.out, _, rfl⟩, (Af.refl w).alloc _⟩
end Go.Proofs.YtmnglcidklckgaaDoor
