/- LogMark, by one contract. -/
import Derived.Test.YtmnglcidklckgaaDoorLogR
import Derived.Test.YtmnglcidklckgaaDoorUncI
import Derived.Test.YtmnglcidklckgaaDoorLogOkI
namespace Go.Proofs.YtmnglcidklckgaaDoor
open Go.RowKit Go.PlainAid
set_option linter.unusedVariables false

set_option maxHeartbeats 400000 in
theorem impl_reject (v : Value) (l : List Sg) (n m : Int) (r : ByteArray) (w : World) (hv : Segs w v l) (h1 : 1 ≤ l.length) (h6 : l.length ≤ 1048576) (ht : ∀ j, j < l.length → (sT l j).size ≤ 1048576) :
    Calls Tryd.prog 56 #[.agg #[v, .int .i64 n, .int .i64 m], .string r] w fun e w' => ∃ u, e = .returned (.iface 79 (.agg #[.string r, u, .int .i64 n, .int .i64 m])) ∧ SegRow w' w.heap.size u l ∧ Below w.heap.size w w' := by
  obtain ⟨a, k0, cap0, hve⟩ := hv.form
  subst hve
  have H := Lib.hid (impl_copy _ l n m _ (hv.alloc (.cells #[.slice a k0 cap0, .int .i64 n, .int .i64 m] 26)) h1 h6 ht)
  have A0 := Lib.hid ((Af.refl w).alloc (.cells #[.slice a k0 cap0, .int .i64 n, .int .i64 m] 26))
  have H1 := Lib.hid h1
  clear hv ht h1
  go_enter Tryd.func56, Tryd.ntmps56
  go_wp2_with fail
  refine H.out.mono ?_
  rintro e w2 ⟨u, rfl, hr, hb⟩
  have A2 := Lib.hid (A0.out.after hb)
  have R := Lib.hid (hr.mono (by simp : w.heap.size ≤ _))
  obtain ⟨g, cap, rfl, _⟩ := hr.form H1.out
  clear hb hr
  go_wp2
  go_ret
  exact ⟨_, rfl, R.out, A2.out⟩

theorem impl_unc0 (g cap base : Nat) (l : List Sg) (n m : Int) (w : World) (hv : SegOwn w base (.slice (some ⟨g, 0, none⟩) l.length cap) l) (h1 : 1 ≤ l.length) (h6 : l.length ≤ 1048576) (hF : ∀ j, j < l.length → 1 ≤ sF l j ∧ sF l j ≤ 2000) :
    Calls Tryd.prog 58 #[.agg #[.slice (some ⟨g, 0, none⟩) l.length cap, .int .i64 n, .int .i64 m]] w fun e w' => e = .returned (.slice (some ⟨g, dN l m * 2, none⟩) (l.length - dN l m) (cap - dN l m)) ∧ Below w.heap.size w w' :=
  (impl_unc g 0 cap base l n m w hv h1 h6 hF).mono fun e w' h => by rw [Nat.zero_add] at h; exact h
/-- What moveMark, addRecord and cutLast answer. -/
def MoveV (base : Nat) (r : LR) (e : Ending) (w : World) : Prop :=
  ∃ a c cap, SegOwn w base (.slice a c cap) r.sg ∧ (0 < r.sg.length ∨ a = none) ∧
    ((r.ok = true ∧ e = .returned (.tuple #[.agg #[.slice a c cap, .int .i64 r.nx, .int .i64 r.mt], .nilIface])) ∨
     (r.ok = false ∧ ∃ t, e = .returned (.tuple #[.agg #[.slice none 0 0, .int .i64 0, .int .i64 0], .iface 79 (.agg #[.string t, .slice a c cap, .int .i64 r.nx, .int .i64 r.mt])])))

set_option maxRecDepth 100000 in
set_option maxHeartbeats 1000000 in
theorem impl_moveMark (v : Value) (l : List Sg) (n m k : Int) (w : World) (hv : Segs w v l) (ht : ∀ j, j < l.length → (sT l j).size ≤ 1048576) (hT : TabC w) :
    Calls Tryd.prog 34 #[.agg #[v, .int .i64 n, .int .i64 m], .int .i64 k] w fun e w' => MoveV w.heap.size (markR l n m k) e w' ∧ Below w.heap.size w w' := by
  obtain ⟨a, k0, cap0, hve⟩ := hv.form
  subst hve
  have V0 := Lib.hid ((hv.alloc (.cells #[.slice a k0 cap0, .int .i64 n, .int .i64 m] 26)).alloc (.cells #[.slice none 0 0, .int .i64 0, .int .i64 0] 26))
  have X0 := Lib.hid ((Bx.new w 26 #[.slice a k0 cap0, .int .i64 n, .int .i64 m] _ rfl).alloc (.cells #[.slice none 0 0, .int .i64 0, .int .i64 0] 26))
  have Z0 := Lib.hid (Bx.new (w.alloc (.cells #[.slice a k0 cap0, .int .i64 n, .int .i64 m] 26)) 26 #[.slice none 0 0, .int .i64 0, .int .i64 0] (w.heap.size + 1) (by simp))
  have A0 := Lib.hid (((Af.refl w).alloc (.cells #[.slice a k0 cap0, .int .i64 n, .int .i64 m] 26)).alloc (.cells #[.slice none 0 0, .int .i64 0, .int .i64 0] 26))
  have HT := Lib.hid ht
  have HTA := Lib.hid hT
  clear hv ht hT
  cases hok : okB l n m with
  | false =>
    have HM := Lib.hid (markR_no l n m k hok)
    have HO := Lib.hid hok
    clear hok
    go_enter Tryd.func34, Tryd.ntmps34
    go_wp2_with fail
    refine (check_no _ l n m _ V0.out HT.out (HTA.out.later A0.out (Nat.le_refl _)) HO.out).mono ?_
    rintro e w2 ⟨⟨r, rfl⟩, hb⟩
    have Z2 := Lib.hid (Z0.out.after hb)
    have A2 := Lib.hid (A0.out.after hb)
    obtain ⟨y0, y1, y2⟩ := Z2.out.cells3
    obtain ⟨f0, f1, f2⟩ := Z2.out.frozen3
    clear hb
    go_wp2
    refine bodyPost_ret (results_log2 Tryd.results34 _ _ (w.heap.size + 1) _ _ _ rfl (Z2.out.st3 _ _ _).cells3) rfl ⟨⟨none, 0, 0, by rw [HM.out]; exact segOwn_nil _ _ _ _, .inr rfl, .inr ⟨by rw [HM.out]; rfl, r, by rw [HM.out]; rfl⟩⟩, A2.out.st3 (by omega) _ _ _⟩
  | true =>
    have HO := Lib.hid hok
    obtain ⟨l1, l6⟩ := okB_len hok
    obtain ⟨n1, n2, m1, m2⟩ := okB_n hok
    have HF := Lib.hid (fun j hj => (okB_F hok j hj).2)
    by_cases hr : m ≤ k ∧ k ≤ n - 1
    · have HM := Lib.hid (markR_in l n m k hok hr)
      have hdl := dN_lt l k l1
      obtain ⟨r1, r2⟩ := hr
      have HL := Lib.hid (And.intro l1 l6)
      clear hok l1 l6
      go_enter Tryd.func34, Tryd.ntmps34
      go_wp2_with fail
      refine (check_ok _ l n m _ V0.out HT.out (HTA.out.later A0.out (Nat.le_refl _)) HO.out).mono ?_
      rintro e w2 ⟨rfl, hb⟩
      have V2 := Lib.hid (V0.out.later hb)
      have X2 := Lib.hid (X0.out.after hb)
      have Z2 := Lib.hid (Z0.out.after hb)
      have A2 := Lib.hid (A0.out.after hb)
      obtain ⟨x0, x1, x2⟩ := X2.out.cells3
      clear hb V0 X0 Z0 A0
      go_wp2_with (first | (go_at_call 55; refine (rng_yes _ _ _ _ r1 r2).mono ?_; rintro e w' ⟨rfl, rfl⟩))
      clear x0 x1 x2
      refine (impl_copy _ l n m _ V2.out HL.out.1 (by have := HL.out.2; omega) HT.out).mono ?_
      rintro e w3 ⟨u, rfl, hr, hb⟩
      obtain ⟨g, cap, rfl, hbg, hgw, hcap⟩ := hr.form HL.out.1
      have R3 := Lib.hid (hr.alloc (.cells #[.slice (some ⟨g, 0, none⟩) l.length cap, .int .i64 n, .int .i64 k] 26))
      have Y3 := Lib.hid (Bx.new w3 26 #[.slice (some ⟨g, 0, none⟩) l.length cap, .int .i64 n, .int .i64 k] _ rfl)
      have Z3 := Lib.hid ((Z2.out.after hb).alloc (.cells #[.slice (some ⟨g, 0, none⟩) l.length cap, .int .i64 n, .int .i64 k] 26))
      have A3 := Lib.hid ((A2.out.after hb).alloc (.cells #[.slice (some ⟨g, 0, none⟩) l.length cap, .int .i64 n, .int .i64 k] 26))
      have s2 := A2.out.size
      have s3 := (A2.out.after hb).size
      have z2 := Z2.out.lt
      clear hr hb V2 X2 Z2 A2
      go_wp2_with fail
      refine (impl_unc0 g cap w2.heap.size l n k _ R3.out.own HL.out.1 (by have := HL.out.2; omega) (fun j hj => by have := HF.out j hj; omega)).mono ?_
      rintro e w4 ⟨rfl, hb⟩
      have R4 := Lib.hid (((R3.out.own.later hb).drop (dN l k) hdl))
      have Y4 := Lib.hid (Y3.out.after hb)
      have Z4 := Lib.hid (Z3.out.after hb)
      have A4 := Lib.hid (A3.out.after hb)
      have W4 := Lib.hid (Y4.out.set 0 (.slice (some ⟨g, dN l k * 2, none⟩) (l.length - dN l k) (cap - dN l k)))
      have Z5 := Lib.hid (Z4.out.set_other ⟨w3.heap.size, 0, none⟩ (.slice (some ⟨g, dN l k * 2, none⟩) (l.length - dN l k) (cap - dN l k)) (by simp; omega))
      obtain ⟨x0, x1, x2⟩ := Y4.out.cells3
      obtain ⟨g0, g1, g2⟩ := Y4.out.frozen3
      obtain ⟨u0, u1, u2⟩ := W4.out.cells3
      obtain ⟨y0, y1, y2⟩ := Z5.out.cells3
      obtain ⟨f0, f1, f2⟩ := Z5.out.frozen3
      clear hb R3 Y3 Z3 A3
      go_wp2
      refine bodyPost_ret (results_log2 Tryd.results34 _ _ (w.heap.size + 1) _ _ _ rfl (Z5.out.st3 _ _ _).cells3) rfl ⟨⟨_, _, _, by rw [HM.out]; simpa using (((R4.out.keepB (grownBy_set w4 w3.heap.size 0 (.slice (some ⟨g, dN l k * 2, none⟩) (l.length - dN l k) (cap - dN l k))) (fun k hk => by cases hk; simp [Value.ownBlock]; omega)).st3 (q := w.heap.size + 1) (by omega) (.slice (some ⟨g, dN l k * 2, none⟩) (l.length - dN l k) (cap - dN l k)) (.int .i64 n) (.int .i64 k)).mono (by omega : w.heap.size ≤ w2.heap.size)), .inl (by rw [HM.out]; simp only [List.length_drop]; omega), .inl ⟨by rw [HM.out], by rw [HM.out]; rfl⟩⟩, (A4.out.set (p := ⟨w3.heap.size, 0, none⟩) (by simp; omega) _).st3 (by omega) _ _ _⟩
    · have HM := Lib.hid (markR_out l n m k hok hr)
      have hr' : k < m ∨ n - 1 < k := by omega
      have HL := Lib.hid (And.intro l1 l6)
      clear hok l1 l6 hr
      go_enter Tryd.func34, Tryd.ntmps34
      go_wp2_with fail
      refine (check_ok _ l n m _ V0.out HT.out (HTA.out.later A0.out (Nat.le_refl _)) HO.out).mono ?_
      rintro e w2 ⟨rfl, hb⟩
      have V2 := Lib.hid (V0.out.later hb)
      have X2 := Lib.hid (X0.out.after hb)
      have Z2 := Lib.hid (Z0.out.after hb)
      have A2 := Lib.hid (A0.out.after hb)
      obtain ⟨x0, x1, x2⟩ := X2.out.cells3
      clear hb V0 X0 Z0 A0
      go_wp2_with (first | (go_at_call 55; refine (rng_no _ _ _ _ hr').mono ?_; rintro e w' ⟨rfl, rfl⟩))
      clear x0 x1 x2
      refine (impl_reject _ l n m _ _ V2.out HL.out.1 (by have := HL.out.2; omega) HT.out).mono ?_
      rintro e w3 ⟨u, rfl, hr, hb⟩
      obtain ⟨g, cap, rfl, hbg, hgw, hcap⟩ := hr.form HL.out.1
      have R3 := Lib.hid hr
      have Z3 := Lib.hid (Z2.out.after hb)
      have A3 := Lib.hid (A2.out.after hb)
      have s2 := A2.out.size
      have z2 := Z2.out.lt
      obtain ⟨y0, y1, y2⟩ := Z3.out.cells3
      obtain ⟨f0, f1, f2⟩ := Z3.out.frozen3
      clear hr hb V2 X2 Z2 A2
      go_wp2
      refine bodyPost_ret (results_log2 Tryd.results34 _ _ (w.heap.size + 1) _ _ _ rfl (Z3.out.st3 _ _ _).cells3) rfl ⟨⟨_, _, _, by rw [HM.out]; exact ((R3.out.st3 (by omega) _ _ _).mono (by omega)).own, .inl (by rw [HM.out]; exact HL.out.1), .inr ⟨by rw [HM.out], _, by rw [HM.out]; rfl⟩⟩, A3.out.st3 (by omega) _ _ _⟩
end Go.Proofs.YtmnglcidklckgaaDoor
