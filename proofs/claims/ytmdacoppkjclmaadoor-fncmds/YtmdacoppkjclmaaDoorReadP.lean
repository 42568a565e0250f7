/- The program's parseCmd, as far as its test. -/
import Derived.Test.YtmdacoppkjclmaaDoorReadI
import Derived.Laws.ResultCell
namespace Go.Proofs.YtmdacoppkjclmaaDoor
open Go.RowKit Go.PlainAid
set_option linter.unusedVariables false

theorem rdr_new (w : World) (s : ByteArray) (g : Nat) (hg : w.heap.size = g) : Rdr (w.alloc (.cells #[.string s, .bool false] 82)) g s false := by
  subst hg
  exact heap_alloc_new w _
theorem Box.keep {w w' : World} {g : Nat} {t : TypeId} {cs : Array Value} {row : Option Nat} (h : Box w g t cs) (hb : w.grownBy w' row) (hne : some g ≠ row) : Box w' g t cs := by
  have := h.lt
  unfold Box at *
  rw [hb.block g this (by simpa using hne)]
  exact h
theorem Box.set {w : World} {g : Nat} {t : TypeId} {cs : Array Value} (h : Box w g t cs) (j : Nat) (x : Value) : Box (w.setCell ⟨g, j, none⟩ x) g t (cs.setIfInBounds j x) := by
  unfold Box at *
  rw [heap_setCell_same w g j _ _ _ h]
theorem Box.set_other {w : World} {g : Nat} {t : TypeId} {cs : Array Value} (h : Box w g t cs) (a : Addr) (x : Value) (hne : g ≠ a.block) : Box (w.setCell a x) g t cs := by
  unfold Box at *
  rw [heap_setCell_other w a g x hne]
  exact h
theorem Aft.grow {w0 w w' : World} {row : Option Nat} (h : Aft w0 w) (hb : w.grownBy w' row) (hr : ∀ k, row = some k → w0.heap.size ≤ k) : Aft w0 w' := Below.grown h hb (Below.size h) hr
theorem Aft.grow1 {w0 w w' : World} {g : Nat} (h : Aft w0 w) (hb : w.grownBy w' (some g)) (hg : w0.heap.size ≤ g) : Aft w0 w' := h.grow hb (fun k hk => by cases hk; exact hg)
theorem Aft.set8 {w0 w : World} (h : Aft w0 w) (g : Nat) (hg : w0.heap.size ≤ g) (x0 x1 x2 x3 x4 x5 x6 x7 : Value) :
    Below w0.heap.size w0 ((((((((w.setCell ⟨g, 0, none⟩ x0).setCell ⟨g, 1, none⟩ x1).setCell ⟨g, 2, none⟩ x2).setCell ⟨g, 3, none⟩ x3).setCell ⟨g, 4, none⟩ x4).setCell ⟨g, 5, none⟩ x5).setCell ⟨g, 6, none⟩ x6).setCell ⟨g, 7, none⟩ x7) :=
  (((((((Below.setCell h hg x0).setCell hg x1).setCell hg x2).setCell hg x3).setCell hg x4).setCell hg x5).setCell hg x6).setCell hg x7
theorem Aft.size {w0 w : World} (h : Aft w0 w) : w0.heap.size ≤ w.heap.size := Below.size h
theorem wp_world {P : Program} {c : Code} {Q : Exit → Act → World → Prop} {a : Act} {w : World} (R : World → Prop) (hR : R w) (h : ∀ w1, R w1 → Code.wp P c Q a w1) : Code.wp P c Q a w := h w hR
theorem rdr_not {w : World} {g : Nat} {s : ByteArray} (h : RdrO w g (s9 s).2) (hn : wholeB s = false) : ∃ r t, Rdr w g r t ∧ (t = true ∨ (t = false ∧ r.toList.isEmpty = false)) := by
  unfold wholeB at hn
  cases e : (s9 s).2 with
  | none =>
    rw [e] at h
    obtain ⟨r, h1, _⟩ := h
    exact ⟨r, true, h1, .inl rfl⟩
  | some r =>
    rw [e] at h hn
    have hr := of_decide_eq_false hn
    refine ⟨r, false, h.1, .inr ⟨rfl, ?_⟩⟩
    cases e : r.toList.isEmpty
    · rfl
    · exfalso
      apply hr
      have : r = ⟨#[]⟩ := str_eq (by rw [List.isEmpty_iff.1 e, Lib.toList_data])
      rw [this]; rfl
theorem rdr_yes {w : World} {g : Nat} {s : ByteArray} (h : RdrO w g (s9 s).2) (hn : wholeB s = true) : Rdr w g ⟨#[]⟩ false := by
  unfold wholeB at hn
  cases e : (s9 s).2 with
  | none => rw [e] at hn; cases hn
  | some r =>
    rw [e] at h hn
    have hr := of_decide_eq_true hn
    rw [← size_zero hr]
    exact h.1
theorem results_cmd2 {fn : Func} {p u : Tmp} (h : fn.results = #[.cell p 26, .tmp u]) (tmps : Array Value) (w : World) (g : Nat) (x0 x1 x2 x3 x4 x5 x6 x7 y : Value)
    (hp : tmps.getD p undef = .pointer (some ⟨g, 0, none⟩)) (hu : tmps.getD u undef = y) (hc : Cells8 w g x0 x1 x2 x3 x4 x5 x6 x7) : (results fn tmps).run Tryd.prog w = .ok (.tuple #[.agg #[x0, x1, x2, x3, x4, x5, x6, x7], y]) w := by
  rw [results_cell_tmp h, hp, asAddr_ptr]
  simp only [Result.andThen]
  rw [load_cmd w g x0 x1 x2 x3 x4 x5 x6 x7 hc, hu]

set_option maxRecDepth 100000 in
set_option maxHeartbeats 8000000 in
theorem parse_no (s : ByteArray) (a : Addr) (w : World) (hS : Sent w a) (hs : s.size ≤ 1048576) (hno : wholeB s = false) :
    Calls Tryd.prog 31 #[.string s] w fun e w' => e = .returned (.tuple #[.agg #[.int .i64 0, .int .i64 0, .int .i64 0, .string ⟨#[]⟩, .string ⟨#[]⟩, .string ⟨#[]⟩, .int .i64 0, .slice none 0 0], .iface 116 (.pointer (some a))]) ∧ Below w.heap.size w w' := by
  have HNO := Lib.hid hno
  clear hno
  have HS := Lib.hid hS
  clear hS
  go_enter Tryd.func31, Tryd.ntmps31
  go_wp2_with fail
  have B0 := Lib.hid (((Box.new w 26 #[.int .i64 0, .int .i64 0, .int .i64 0, .string ⟨#[]⟩, .string ⟨#[]⟩, .string ⟨#[]⟩, .int .i64 0, .slice none 0 0] w.heap.size rfl).alloc (.cells #[.string s, .bool false] 82)).alloc (.cells #[.int .i64 0, .int .i64 0, .int .i64 0, .string ⟨#[]⟩, .string ⟨#[]⟩, .string ⟨#[]⟩, .int .i64 0, .slice none 0 0] 26))
  have HR := Lib.hid (show RdrO (((w.alloc (.cells #[.int .i64 0, .int .i64 0, .int .i64 0, .string ⟨#[]⟩, .string ⟨#[]⟩, .string ⟨#[]⟩, .int .i64 0, .slice none 0 0] 26)).alloc (.cells #[.string s, .bool false] 82)).alloc (.cells #[.int .i64 0, .int .i64 0, .int .i64 0, .string ⟨#[]⟩, .string ⟨#[]⟩, .string ⟨#[]⟩, .int .i64 0, .slice none 0 0] 26)) (w.heap.size + 1) (some s) from ⟨(rdr_new _ s (w.heap.size + 1) (by simp)).after ((Below.refl _ _).alloc (Nat.le_refl _) _), hs⟩)
  have B2 := Lib.hid (Box.new ((w.alloc (.cells #[.int .i64 0, .int .i64 0, .int .i64 0, .string ⟨#[]⟩, .string ⟨#[]⟩, .string ⟨#[]⟩, .int .i64 0, .slice none 0 0] 26)).alloc (.cells #[.string s, .bool false] 82)) 26 #[.int .i64 0, .int .i64 0, .int .i64 0, .string ⟨#[]⟩, .string ⟨#[]⟩, .string ⟨#[]⟩, .int .i64 0, .slice none 0 0] (w.heap.size + 1 + 1) (by simp))
  have HW := Lib.hid ((((Aft.refl w).alloc (.cells #[.int .i64 0, .int .i64 0, .int .i64 0, .string ⟨#[]⟩, .string ⟨#[]⟩, .string ⟨#[]⟩, .int .i64 0, .slice none 0 0] 26)).alloc (.cells #[.string s, .bool false] 82)).alloc (.cells #[.int .i64 0, .int .i64 0, .int .i64 0, .string ⟨#[]⟩, .string ⟨#[]⟩, .string ⟨#[]⟩, .int .i64 0, .slice none 0 0] 26))
  refine (number_c _ (w.heap.size + 1) (some s) HR.out).mono ?_
  rintro e w1 ⟨rfl, hr, hg⟩
  have C0 := Lib.hid (B0.out.keep hg (by simp))
  have C2 := Lib.hid (B2.out.keep hg (by simp))
  have CR := Lib.hid hr
  have CW := Lib.hid (HW.out.grow1 hg (by omega))
  clear hr hg B0 B2 HR HW
  have f := C2.out.frozen 0
  have x := C2.out.cell 0 _ rfl
  have l2 := C2.out.lt
  go_wp2_with fail
  clear f x l2
  have B2 := Lib.hid (C2.out.set 0 (.int .i64 (s1 s).1))
  have B0 := Lib.hid (C0.out.set_other ⟨(w.heap.size + 1 + 1), 0, none⟩ (.int .i64 (s1 s).1) (by simp only [ne_eq]; omega))
  have HR := Lib.hid (CR.out.keep (setG _ (w.heap.size + 1 + 1) 0 (.int .i64 (s1 s).1)) (by simp))
  have HW := Lib.hid (CW.out.grow1 (setG _ (w.heap.size + 1 + 1) 0 (.int .i64 (s1 s).1)) (by omega))
  clear C0 C2 CR CW
  refine (number_c _ (w.heap.size + 1) ((s1 s).2) HR.out).mono ?_
  rintro e w2 ⟨rfl, hr, hg⟩
  have C0 := Lib.hid (B0.out.keep hg (by simp))
  have C2 := Lib.hid (B2.out.keep hg (by simp))
  have CR := Lib.hid hr
  have CW := Lib.hid (HW.out.grow1 hg (by omega))
  clear hr hg B0 B2 HR HW
  have f := C2.out.frozen 1
  have x := C2.out.cell 1 _ rfl
  have l2 := C2.out.lt
  go_wp2_with fail
  clear f x l2
  have B2 := Lib.hid (C2.out.set 1 (.int .i64 (s2 s).1))
  have B0 := Lib.hid (C0.out.set_other ⟨(w.heap.size + 1 + 1), 1, none⟩ (.int .i64 (s2 s).1) (by simp only [ne_eq]; omega))
  have HR := Lib.hid (CR.out.keep (setG _ (w.heap.size + 1 + 1) 1 (.int .i64 (s2 s).1)) (by simp))
  have HW := Lib.hid (CW.out.grow1 (setG _ (w.heap.size + 1 + 1) 1 (.int .i64 (s2 s).1)) (by omega))
  clear C0 C2 CR CW
  refine (number_c _ (w.heap.size + 1) ((s2 s).2) HR.out).mono ?_
  rintro e w3 ⟨rfl, hr, hg⟩
  have C0 := Lib.hid (B0.out.keep hg (by simp))
  have C2 := Lib.hid (B2.out.keep hg (by simp))
  have CR := Lib.hid hr
  have CW := Lib.hid (HW.out.grow1 hg (by omega))
  clear hr hg B0 B2 HR HW
  have f := C2.out.frozen 2
  have x := C2.out.cell 2 _ rfl
  have l2 := C2.out.lt
  go_wp2_with fail
  clear f x l2
  have B2 := Lib.hid (C2.out.set 2 (.int .i64 (s3 s).1))
  have B0 := Lib.hid (C0.out.set_other ⟨(w.heap.size + 1 + 1), 2, none⟩ (.int .i64 (s3 s).1) (by simp only [ne_eq]; omega))
  have HR := Lib.hid (CR.out.keep (setG _ (w.heap.size + 1 + 1) 2 (.int .i64 (s3 s).1)) (by simp))
  have HW := Lib.hid (CW.out.grow1 (setG _ (w.heap.size + 1 + 1) 2 (.int .i64 (s3 s).1)) (by omega))
  clear C0 C2 CR CW
  refine (number_c _ (w.heap.size + 1) ((s3 s).2) HR.out).mono ?_
  rintro e w4 ⟨rfl, hr, hg⟩
  have C0 := Lib.hid (B0.out.keep hg (by simp))
  have C2 := Lib.hid (B2.out.keep hg (by simp))
  have CR := Lib.hid hr
  have CW := Lib.hid (HW.out.grow1 hg (by omega))
  clear hr hg B0 B2 HR HW
  have f := C2.out.frozen 6
  have x := C2.out.cell 6 _ rfl
  have l2 := C2.out.lt
  go_wp2_with fail
  clear f x l2
  have B2 := Lib.hid (C2.out.set 6 (.int .i64 (s4 s).1))
  have B0 := Lib.hid (C0.out.set_other ⟨(w.heap.size + 1 + 1), 6, none⟩ (.int .i64 (s4 s).1) (by simp only [ne_eq]; omega))
  have HR := Lib.hid (CR.out.keep (setG _ (w.heap.size + 1 + 1) 6 (.int .i64 (s4 s).1)) (by simp))
  have HW := Lib.hid (CW.out.grow1 (setG _ (w.heap.size + 1 + 1) 6 (.int .i64 (s4 s).1)) (by omega))
  clear C0 C2 CR CW
  refine (text_c _ (w.heap.size + 1) ((s4 s).2) HR.out).mono ?_
  rintro e w5 ⟨rfl, hr, hg⟩
  have C0 := Lib.hid (B0.out.keep hg (by simp))
  have C2 := Lib.hid (B2.out.keep hg (by simp))
  have CR := Lib.hid hr
  have CW := Lib.hid (HW.out.grow1 hg (by omega))
  clear hr hg B0 B2 HR HW
  have f := C2.out.frozen 3
  have x := C2.out.cell 3 _ rfl
  have l2 := C2.out.lt
  go_wp2_with fail
  clear f x l2
  have B2 := Lib.hid (C2.out.set 3 (.string (s5 s).1))
  have B0 := Lib.hid (C0.out.set_other ⟨(w.heap.size + 1 + 1), 3, none⟩ (.string (s5 s).1) (by simp only [ne_eq]; omega))
  have HR := Lib.hid (CR.out.keep (setG _ (w.heap.size + 1 + 1) 3 (.string (s5 s).1)) (by simp))
  have HW := Lib.hid (CW.out.grow1 (setG _ (w.heap.size + 1 + 1) 3 (.string (s5 s).1)) (by omega))
  clear C0 C2 CR CW
  refine (text_c _ (w.heap.size + 1) ((s5 s).2) HR.out).mono ?_
  rintro e w6 ⟨rfl, hr, hg⟩
  have C0 := Lib.hid (B0.out.keep hg (by simp))
  have C2 := Lib.hid (B2.out.keep hg (by simp))
  have CR := Lib.hid hr
  have CW := Lib.hid (HW.out.grow1 hg (by omega))
  clear hr hg B0 B2 HR HW
  have f := C2.out.frozen 4
  have x := C2.out.cell 4 _ rfl
  have l2 := C2.out.lt
  go_wp2_with fail
  clear f x l2
  have B2 := Lib.hid (C2.out.set 4 (.string (s6 s).1))
  have B0 := Lib.hid (C0.out.set_other ⟨(w.heap.size + 1 + 1), 4, none⟩ (.string (s6 s).1) (by simp only [ne_eq]; omega))
  have HR := Lib.hid (CR.out.keep (setG _ (w.heap.size + 1 + 1) 4 (.string (s6 s).1)) (by simp))
  have HW := Lib.hid (CW.out.grow1 (setG _ (w.heap.size + 1 + 1) 4 (.string (s6 s).1)) (by omega))
  clear C0 C2 CR CW
  refine (text_c _ (w.heap.size + 1) ((s6 s).2) HR.out).mono ?_
  rintro e w7 ⟨rfl, hr, hg⟩
  have C0 := Lib.hid (B0.out.keep hg (by simp))
  have C2 := Lib.hid (B2.out.keep hg (by simp))
  have CR := Lib.hid hr
  have CW := Lib.hid (HW.out.grow1 hg (by omega))
  clear hr hg B0 B2 HR HW
  have f := C2.out.frozen 5
  have x := C2.out.cell 5 _ rfl
  have l2 := C2.out.lt
  go_wp2_with fail
  clear f x l2
  have B2 := Lib.hid (C2.out.set 5 (.string (s7 s).1))
  have B0 := Lib.hid (C0.out.set_other ⟨(w.heap.size + 1 + 1), 5, none⟩ (.string (s7 s).1) (by simp only [ne_eq]; omega))
  have HR := Lib.hid (CR.out.keep (setG _ (w.heap.size + 1 + 1) 5 (.string (s7 s).1)) (by simp))
  have HW := Lib.hid (CW.out.grow1 (setG _ (w.heap.size + 1 + 1) 5 (.string (s7 s).1)) (by omega))
  clear C0 C2 CR CW
  refine (chunk_c _ (w.heap.size + 1) ((s7 s).2) HR.out).mono ?_
  rintro e w8 ⟨⟨cv, rfl, hcv⟩, hr, hg⟩
  have hsz7 := HW.out.size
  have C0 := Lib.hid (B0.out.keep hg (by simp))
  have C2 := Lib.hid (B2.out.keep hg (by simp))
  have CR := Lib.hid hr
  have CW := Lib.hid (HW.out.grow1 hg (by omega))
  have l27 := B2.out.lt
  have hcv2 := hcv.mono (base' := w.heap.size + 1 + 1 + 1) (by simp at l27 ⊢; omega)
  have CV := Lib.hid hcv2
  obtain ⟨ca, cn, ccap, rfl⟩ := hcv.form
  clear hr hg B0 B2 HR HW hcv hcv2 hsz7 l27
  have f := C2.out.frozen 7
  have x := C2.out.cell 7 _ rfl
  have l2 := C2.out.lt
  obtain ⟨r, t, hR, ht⟩ := rdr_not CR.out HNO.out
  have HRD := Lib.hid hR
  have a0 := hR.c0
  have a1 := hR.c1
  have hs8 := HS.out.later CW.out
  have HS8 := Lib.hid hs8
  clear hR hs8
  rcases ht with rfl | ⟨rfl, hb⟩
  all_goals
    go_wp2_with fail
    clear f x l2 a0 a1
    refine wp_world (fun w9 => Box w9 w.heap.size 26 #[.int .i64 0, .int .i64 0, .int .i64 0, .string ⟨#[]⟩, .string ⟨#[]⟩, .string ⟨#[]⟩, .int .i64 0, .slice none 0 0] ∧ Sent w9 a ∧ Aft w w9) ⟨C0.out.set_other _ _ (by simp only [ne_eq]; omega), ?_, CW.out.grow1 (setG _ _ _ _) (by omega)⟩ ?_
    · exact HS.out.later (CW.out.grow1 (setG _ _ _ _) (by omega))
    rintro w9 ⟨b9, h9, q9⟩
    have B0 := Lib.hid b9
    have HW := Lib.hid q9
    have HP := Lib.hid (sent_lt HS.out)
    unfold Sent at h9
    clear b9 q9 C0 C2 CR CW CV HRD HS8 HS HNO
    have e0 := B0.out.frozen 0
    have e1 := B0.out.frozen 1
    have e2 := B0.out.frozen 2
    have e3 := B0.out.frozen 3
    have e4 := B0.out.frozen 4
    have e5 := B0.out.frozen 5
    have e6 := B0.out.frozen 6
    have e7 := B0.out.frozen 7
    obtain ⟨x0, x1, x2, x3, x4, x5, x6, x7⟩ := B0.out.cells8
    have l0 := B0.out.lt
    have hp : (w.heap.size : Nat) ≠ 0 := by have := HP.out; simp only at this; omega
    have hp2 : ¬ ((0 : Nat) = w.heap.size) := by omega
    go_region_held3 (fun w' => w'.cell? ⟨0, 0, none⟩ = some (.iface 116 (.pointer (some a)))) (go_keep) (first | fail)
    all_goals
      go_wp2
      refine bodyPost_ret (results_cmd2 Tryd.results31 _ _ w.heap.size _ _ _ _ _ _ _ _ _ rfl rfl ⟨by go_simp, by go_simp, by go_simp, by go_simp, by go_simp, by go_simp, by go_simp, by go_simp⟩) rfl ⟨rfl, ?_⟩
      exact Below.drew (HW.out.set8 _ (Nat.le_refl _) _ _ _ _ _ _ _ _)
end Go.Proofs.YtmdacoppkjclmaaDoor
