/- copyLog, by one contract. -/
import Derived.Test.YtemhhjkmolndbaaDoorSgG
import Derived.Test.YtemhhjkmolndbaaDoorCloneC
namespace Go.Proofs.YtemhhjkmolndbaaDoor
open Go.RowKit Go.PlainAid
set_option linter.unusedVariables false

theorem Segs.at1 {w : World} {v : Value} {l : List Sg} (h : Segs w v l) (h0 : 0 < l.length) : ∃ b o cap, v = .slice (some ⟨b, o, none⟩) l.length cap ∧ l.length ≤ cap ∧ b < w.heap.size ∧ ∀ j, j < l.length → w.cell? ⟨b, o + j * 2, none⟩ = some (.int .i64 (sF l j)) ∧ w.cell? ⟨b, o + j * 2 + 1, none⟩ = some (.string (sT l j)) := by
  obtain ⟨_, _, a, cap, rfl, hc, h3⟩ := h
  obtain ⟨b, o, rfl, hb, hx⟩ := h3 h0
  exact ⟨b, o, cap, rfl, hc, hb, hx⟩
set_option maxHeartbeats 400000 in
theorem clone_segs (v : Value) (l : List Sg) (w : World) (hv : Segs w v l) (h1 : 1 ≤ l.length) (h6 : l.length ≤ 1048576) :
    Calls Tryd.prog 108 #[v] w fun e w' => ∃ u, e = .returned u ∧ SegRow w' w.heap.size u l ∧ Below w.heap.size w w' := by
  obtain ⟨b, o, cap, rfl, hc, hb, hx⟩ := hv.at1 h1
  have q := fun W => Lib.run_eql_slice_nil (P := Tryd.prog) W 24 63 (some ⟨b, o, none⟩) l.length cap 0 0 Tryd.underlying24
  have hX : ∀ j, j < l.length → (w.alloc (.cells #[] 63)).cell? ⟨b, o + j * 2, none⟩ = some (.int .i64 (sF l j)) ∧ (w.alloc (.cells #[] 63)).cell? ⟨b, o + j * 2 + 1, none⟩ = some (.string (sT l j)) := fun j hj => by
    rw [World.cell?_alloc_lt _ _ ⟨b, o + j * 2, none⟩ hb, World.cell?_alloc_lt _ _ ⟨b, o + j * 2 + 1, none⟩ hb]; exact hx j hj
  have HX := Lib.hid hX
  have HR := Lib.hid (segRow_new w w.heap.size (Nat.le_refl _))
  have HL := Lib.hid h6
  clear hv hx hX h1 hc h6
  go_enter Tryd.func108, Tryd.ntmps108
  go_wp2_with (at_builtin; refine wp_append_segs rfl (.tmp 5) (.tmp 6) rfl w.heap.size _ [] l rfl HR.out b o cap rfl HX.out (by have := HL.out; simp; omega) (by simp) ?_; intro v' w' hv' hg')
  go_ret
  exact ⟨_, rfl, hv', ((Af.refl w).alloc (.cells #[] 63)).grow hg' (fun k hk => by cases hk; exact Nat.le_refl _)⟩

set_option maxRecDepth 100000 in
set_option maxHeartbeats 1000000 in
theorem impl_copy (v : Value) (l : List Sg) (n m : Int) (w : World) (hv : Segs w v l) (h1 : 1 ≤ l.length) (h6 : l.length ≤ 1048576) (ht : ∀ j, j < l.length → (sT l j).size ≤ 1048576) :
    Calls Tryd.prog 77 #[.agg #[v, .int .i64 n, .int .i64 m]] w fun e w' => ∃ u, e = .returned (.agg #[u, .int .i64 n, .int .i64 m]) ∧ SegRow w' w.heap.size u l ∧ Below w.heap.size w w' := by
  obtain ⟨a, k0', cap0, hve⟩ := hv.form
  subst hve
  have V := Lib.hid ((hv.alloc (.cells #[.slice a k0' cap0, .int .i64 n, .int .i64 m] 26)).alloc (.cells #[.slice none 0 0, .int .i64 0, .int .i64 0] 26))
  have X0 := Lib.hid ((Bx.new w 26 #[.slice a k0' cap0, .int .i64 n, .int .i64 m] _ rfl).alloc (.cells #[.slice none 0 0, .int .i64 0, .int .i64 0] 26))
  have X1 := Lib.hid (Bx.new (w.alloc (.cells #[.slice a k0' cap0, .int .i64 n, .int .i64 m] 26)) 26 #[.slice none 0 0, .int .i64 0, .int .i64 0] (w.heap.size + 1) (by simp))
  have A0 := Lib.hid (((Af.refl w).alloc (.cells #[.slice a k0' cap0, .int .i64 n, .int .i64 m] 26)).alloc (.cells #[.slice none 0 0, .int .i64 0, .int .i64 0] 26))
  obtain ⟨k0, hk0⟩ : ∃ k0, l.length = k0 := ⟨_, rfl⟩
  have HK := Lib.hid hk0
  have HT := Lib.hid ht
  clear hv ht
  go_enter Tryd.func77, Tryd.ntmps77
  go_wp2_with fail
  refine (clone_segs _ l _ V.out h1 h6).mono ?_
  rintro e w2 ⟨u, rfl, hr, hb⟩
  have hr2 : SegRow w2 (w.heap.size + 1 + 1) u l := by simpa using hr
  obtain ⟨g, cap, rfl, hbg, hgw, hcap⟩ := hr2.form h1
  rw [hk0] at h1 h6 hcap ⊢
  have R2 := Lib.hid hr2
  have Y0 := Lib.hid (X0.out.after hb)
  have Y1 := Lib.hid (X1.out.after hb)
  have A2 := Lib.hid (A0.out.after hb)
  clear hr hr2 hb V X0 X1 A0 hk0
  have i6 : (k0 : Int) ≤ 1048576 := by omega
  go_wp2
  go_loopw [11] (fun i wr => ∃ k : Nat, k ≤ k0 ∧ i = .int .i64 k ∧ SegRow wr (w.heap.size + 1 + 1) (.slice (some ⟨g, 0, none⟩) k0 cap) l ∧ Bx wr w.heap.size 26 #[.slice a k0' cap0, .int .i64 n, .int .i64 m] ∧ Bx wr (w.heap.size + 1) 26 #[.slice none 0 0, .int .i64 0, .int .i64 0] ∧ Af w wr) (fun i _ => k0 - (intOf i).toNat)
  case atStart => exact ⟨0, by omega, rfl, by have h := R2.out; rw [HK.out] at h; exact h, Y0.out, Y1.out, A2.out⟩
  case round =>
    clear R2 Y0 Y1 A2
    obtain ⟨k, hk, rfl, hr, hx0, hx1, ha⟩ := hrel
    have HX0 := Lib.hid hx0
    have HX1 := Lib.hid hx1
    have HA := Lib.hid ha
    have HR := Lib.hid hr
    by_cases hlt : k < k0
    · obtain ⟨g', o', e1, e3, _, hgw2, hc⟩ := hr.own.cells (by rw [HK.out]; omega)
      simp only [Option.some.injEq, Addr.mk.injEq] at e1
      obtain ⟨rfl, rfl, _⟩ := e1
      obtain ⟨c1, c2, f1, f2⟩ := hc k (by rw [HK.out]; omega)
      rw [Nat.zero_add] at c1 c2 f1 f2
      have y1 : (k : Int) < (k0 : Int) := by omega
      have htk := HT.out k (by rw [HK.out]; omega)
      clear hx0 hx1 ha hr hc e3
      go_wp2_with fail
      refine (clone_c _ _ htk).mono ?_
      rintro e w3 ⟨rfl, hb3⟩
      have hr3 := (HR.out.alloc (.cells #[.int .i64 (sF l k), .string (sT l k)] 63)).later hb3
      obtain ⟨g'', o'', e1, e3, _, hgw3, hc⟩ := hr3.own.cells (by rw [HK.out]; omega)
      simp only [Option.some.injEq, Addr.mk.injEq] at e1
      obtain ⟨rfl, rfl, _⟩ := e1
      obtain ⟨d1, d2, g1, g2⟩ := hc k (by rw [HK.out]; omega)
      rw [Nat.zero_add] at d1 d2 g1 g2
      have HR3 := Lib.hid (hr3.same (by rw [HK.out]) d2)
      have HZ0 := Lib.hid (((HX0.out.alloc (.cells #[.int .i64 (sF l k), .string (sT l k)] 63)).after hb3).set_other ⟨g, k * 2 + 1, none⟩ (.string (sT l k)) (by simp; omega))
      have HZ1 := Lib.hid (((HX1.out.alloc (.cells #[.int .i64 (sF l k), .string (sT l k)] 63)).after hb3).set_other ⟨g, k * 2 + 1, none⟩ (.string (sT l k)) (by simp; omega))
      have HA3 := Lib.hid (((HA.out.alloc (.cells #[.int .i64 (sF l k), .string (sT l k)] 63)).after hb3).set (p := ⟨g, k * 2 + 1, none⟩) (by simp; omega) (.string (sT l k)))
      clear hr3 hb3 hc e3 c1 c2 f1 f2 HR HX0 HX1 HA
      go_wp2
      go_roundw
      case rel => exact ⟨k + 1, by omega, by go_num, HR3.out, HZ0.out, HZ1.out, HA3.out⟩
      case measure => simp only [intOf]; omega
    · obtain rfl : k = k0 := by omega
      obtain ⟨x0, x1, x2⟩ := hx0.cells3
      obtain ⟨y0, y1, y2⟩ := hx1.cells3
      obtain ⟨f0, f1, f2⟩ := hx1.frozen3
      clear hx0 hx1 ha hr
      go_wp2
      exact bodyPost_ret (results_log Tryd.results77 _ _ (w.heap.size + 1) _ _ _ rfl (HX1.out.st3 _ _ _).cells3) rfl ⟨_, rfl, (HR.out.st3 (by omega) _ _ _).mono (by omega), HA.out.st3 (by omega) _ _ _⟩
end Go.Proofs.YtemhhjkmolndbaaDoor
