/- The program's parseCmd where all fields stand there. -/
import Derived.Test.YtmdacoppkjclmaaDoorReadP
namespace Go.Proofs.YtmdacoppkjclmaaDoor
open Go.RowKit Go.PlainAid
set_option linter.unusedVariables false

theorem showT_ge (t : ByteArray) : t.size ≤ (showT t).size := by
  unfold showT
  rw [ByteArray.size_append]
  omega
theorem raw_sizes (s : ByteArray) (h : wholeB s = true) : (rawC s).set.size ≤ s.size ∧ (rawC s).name.size ≤ s.size ∧ (rawC s).tag.size ≤ s.size := by
  have e := congrArg ByteArray.size (raw_show s h)
  unfold showB at e
  simp only [ByteArray.size_append] at e
  have h1 := showT_ge (rawC s).set
  have h2 := showT_ge (rawC s).name
  have h3 := showT_ge (rawC s).tag
  omega
theorem raw_chunk (s : ByteArray) (h : wholeB s = true) (j : Nat) (hj : j < (s9 s).1.length) : (el (s9 s).1 j).size = 8 := by
  obtain ⟨h4, r8, e8, hr⟩ := whole_parts s h
  have e9 : s9 s = oI (some r8) (s8 s).1.toNat := by unfold s9; rw [if_neg (by omega), e8]
  rw [e9] at hj ⊢
  rw [oI_length] at hj
  rw [oI_el r8 _ j (by omega) hj, ext_size _ _ _ (by omega)]
  omega
theorem GrowsS.set8 {w : World} {base : Nat} {v : Value} {l : List ByteArray} (h : GrowsS w base v l) (g : Nat) (hg : g < base) (x0 x1 x2 x3 x4 x5 x6 x7 : Value) :
    GrowsS ((((((((w.setCell ⟨g, 0, none⟩ x0).setCell ⟨g, 1, none⟩ x1).setCell ⟨g, 2, none⟩ x2).setCell ⟨g, 3, none⟩ x3).setCell ⟨g, 4, none⟩ x4).setCell ⟨g, 5, none⟩ x5).setCell ⟨g, 6, none⟩ x6).setCell ⟨g, 7, none⟩ x7) base v l :=
  (((((((h.kept (setG _ g 0 x0) hg).kept (setG _ g 1 x1) hg).kept (setG _ g 2 x2) hg).kept (setG _ g 3 x3) hg).kept (setG _ g 4 x4) hg).kept (setG _ g 5 x5) hg).kept (setG _ g 6 x6) hg).kept (setG _ g 7 x7) hg

theorem Box.setTo {w : World} {g : Nat} {t : TypeId} {cs : Array Value} (h : Box w g t cs) (j : Nat) (x : Value) (cs' : Array Value) (e : cs.setIfInBounds j x = cs') : Box (w.setCell ⟨g, j, none⟩ x) g t cs' := by
  subst e
  exact h.set j x
theorem Box.set8cells {w : World} {g : Nat} {t : TypeId} {x0 x1 x2 x3 x4 x5 x6 x7 : Value} (h : Box w g t #[x0, x1, x2, x3, x4, x5, x6, x7]) (y0 y1 y2 y3 y4 y5 y6 y7 : Value) :
    Cells8 ((((((((w.setCell ⟨g, 0, none⟩ y0).setCell ⟨g, 1, none⟩ y1).setCell ⟨g, 2, none⟩ y2).setCell ⟨g, 3, none⟩ y3).setCell ⟨g, 4, none⟩ y4).setCell ⟨g, 5, none⟩ y5).setCell ⟨g, 6, none⟩ y6).setCell ⟨g, 7, none⟩ y7) g y0 y1 y2 y3 y4 y5 y6 y7 := by
  have h0 := Box.setTo h 0 y0 #[y0, x1, x2, x3, x4, x5, x6, x7] rfl
  have h1 := Box.setTo h0 1 y1 #[y0, y1, x2, x3, x4, x5, x6, x7] rfl
  have h2 := Box.setTo h1 2 y2 #[y0, y1, y2, x3, x4, x5, x6, x7] rfl
  have h3 := Box.setTo h2 3 y3 #[y0, y1, y2, y3, x4, x5, x6, x7] rfl
  have h4 := Box.setTo h3 4 y4 #[y0, y1, y2, y3, y4, x5, x6, x7] rfl
  have h5 := Box.setTo h4 5 y5 #[y0, y1, y2, y3, y4, y5, x6, x7] rfl
  have h6 := Box.setTo h5 6 y6 #[y0, y1, y2, y3, y4, y5, y6, x7] rfl
  have h7 := Box.setTo h6 7 y7 #[y0, y1, y2, y3, y4, y5, y6, y7] rfl
  exact h7.cells8
theorem Has.cells_set8 {w : World} {g : Nat} {t : TypeId} {c : CmdM} {v : Value} (h : Has w g t c v) (g0 : Nat) (hne : g ≠ g0) (y0 y1 y2 y3 y4 y5 y6 y7 : Value) :
    ((((((((w.setCell ⟨g0, 0, none⟩ y0).setCell ⟨g0, 1, none⟩ y1).setCell ⟨g0, 2, none⟩ y2).setCell ⟨g0, 3, none⟩ y3).setCell ⟨g0, 4, none⟩ y4).setCell ⟨g0, 5, none⟩ y5).setCell ⟨g0, 6, none⟩ y6).setCell ⟨g0, 7, none⟩ y7).cell? ⟨g, 0, none⟩ = some (.int .i64 c.kind) ∧ ((((((((w.setCell ⟨g0, 0, none⟩ y0).setCell ⟨g0, 1, none⟩ y1).setCell ⟨g0, 2, none⟩ y2).setCell ⟨g0, 3, none⟩ y3).setCell ⟨g0, 4, none⟩ y4).setCell ⟨g0, 5, none⟩ y5).setCell ⟨g0, 6, none⟩ y6).setCell ⟨g0, 7, none⟩ y7).cell? ⟨g, 1, none⟩ = some (.int .i64 c.client) ∧ ((((((((w.setCell ⟨g0, 0, none⟩ y0).setCell ⟨g0, 1, none⟩ y1).setCell ⟨g0, 2, none⟩ y2).setCell ⟨g0, 3, none⟩ y3).setCell ⟨g0, 4, none⟩ y4).setCell ⟨g0, 5, none⟩ y5).setCell ⟨g0, 6, none⟩ y6).setCell ⟨g0, 7, none⟩ y7).cell? ⟨g, 2, none⟩ = some (.int .i64 c.no) ∧ ((((((((w.setCell ⟨g0, 0, none⟩ y0).setCell ⟨g0, 1, none⟩ y1).setCell ⟨g0, 2, none⟩ y2).setCell ⟨g0, 3, none⟩ y3).setCell ⟨g0, 4, none⟩ y4).setCell ⟨g0, 5, none⟩ y5).setCell ⟨g0, 6, none⟩ y6).setCell ⟨g0, 7, none⟩ y7).cell? ⟨g, 3, none⟩ = some (.string c.set) ∧ ((((((((w.setCell ⟨g0, 0, none⟩ y0).setCell ⟨g0, 1, none⟩ y1).setCell ⟨g0, 2, none⟩ y2).setCell ⟨g0, 3, none⟩ y3).setCell ⟨g0, 4, none⟩ y4).setCell ⟨g0, 5, none⟩ y5).setCell ⟨g0, 6, none⟩ y6).setCell ⟨g0, 7, none⟩ y7).cell? ⟨g, 4, none⟩ = some (.string c.name) ∧ ((((((((w.setCell ⟨g0, 0, none⟩ y0).setCell ⟨g0, 1, none⟩ y1).setCell ⟨g0, 2, none⟩ y2).setCell ⟨g0, 3, none⟩ y3).setCell ⟨g0, 4, none⟩ y4).setCell ⟨g0, 5, none⟩ y5).setCell ⟨g0, 6, none⟩ y6).setCell ⟨g0, 7, none⟩ y7).cell? ⟨g, 5, none⟩ = some (.string c.tag) ∧ ((((((((w.setCell ⟨g0, 0, none⟩ y0).setCell ⟨g0, 1, none⟩ y1).setCell ⟨g0, 2, none⟩ y2).setCell ⟨g0, 3, none⟩ y3).setCell ⟨g0, 4, none⟩ y4).setCell ⟨g0, 5, none⟩ y5).setCell ⟨g0, 6, none⟩ y6).setCell ⟨g0, 7, none⟩ y7).cell? ⟨g, 6, none⟩ = some (.int .i64 c.n) ∧ ((((((((w.setCell ⟨g0, 0, none⟩ y0).setCell ⟨g0, 1, none⟩ y1).setCell ⟨g0, 2, none⟩ y2).setCell ⟨g0, 3, none⟩ y3).setCell ⟨g0, 4, none⟩ y4).setCell ⟨g0, 5, none⟩ y5).setCell ⟨g0, 6, none⟩ y6).setCell ⟨g0, 7, none⟩ y7).cell? ⟨g, 7, none⟩ = some (v) :=
  Box.cells8 ((((((((h.1.set_other ⟨g0, 0, none⟩ y0 hne).set_other ⟨g0, 1, none⟩ y1 hne).set_other ⟨g0, 2, none⟩ y2 hne).set_other ⟨g0, 3, none⟩ y3 hne).set_other ⟨g0, 4, none⟩ y4 hne).set_other ⟨g0, 5, none⟩ y5 hne).set_other ⟨g0, 6, none⟩ y6 hne).set_other ⟨g0, 7, none⟩ y7 hne)

set_option maxRecDepth 100000 in
set_option maxHeartbeats 4000000 in
theorem parse_yes (s : ByteArray) (a : Addr) (w : World) (hS : Sent w a) (hs : s.size ≤ 1048576) (hno : wholeB s = true) :
    Calls Tryd.prog 31 #[.string s] w fun e w' => (∃ va vn vcap, e = .returned (.tuple #[.agg #[.int .i64 (rawC s).kind, .int .i64 (rawC s).client, .int .i64 (rawC s).no, .string (rawC s).set, .string (rawC s).name, .string (rawC s).tag, .int .i64 (rawC s).n, .slice va vn vcap], errV a (okB (rawC s))]) ∧ GrowsS w' (w.heap.size + 1) (.slice va vn vcap) (rawC s).ch) ∧ Below w.heap.size w w' := by
  have HNO := Lib.hid hno
  clear hno
  have HS := Lib.hid hS
  clear hS
  go_enter Tryd.func31, Tryd.ntmps31
  go_wp2_with fail
  have B0 := Lib.hid (((Box.new w 26 #[.int .i64 0, .int .i64 0, .int .i64 0, .string ⟨#[]⟩, .string ⟨#[]⟩, .string ⟨#[]⟩, .int .i64 0, .slice none 0 0] w.heap.size rfl).alloc (.cells #[.string s, .bool false] 82)).alloc (.cells #[.int .i64 0, .int .i64 0, .int .i64 0, .string ⟨#[]⟩, .string ⟨#[]⟩, .string ⟨#[]⟩, .int .i64 0, .slice none 0 0] 26))
  have HR := Lib.hid (show RdrO (((w.alloc (.cells #[.int .i64 0, .int .i64 0, .int .i64 0, .string ⟨#[]⟩, .string ⟨#[]⟩, .string ⟨#[]⟩, .int .i64 0, .slice none 0 0] 26)).alloc (.cells #[.string s, .bool false] 82)).alloc (.cells #[.int .i64 0, .int .i64 0, .int .i64 0, .string ⟨#[]⟩, .string ⟨#[]⟩, .string ⟨#[]⟩, .int .i64 0, .slice none 0 0] 26)) (w.heap.size + 1) (some s) from ⟨(rdr_new _ s (w.heap.size + 1) (by simp)).after ((Below.refl _ _).alloc (Nat.le_refl _) _), hs⟩)
  have B2 := Lib.hid (Box.new ((w.alloc (.cells #[.int .i64 0, .int .i64 0, .int .i64 0, .string ⟨#[]⟩, .string ⟨#[]⟩, .string ⟨#[]⟩, .int .i64 0, .slice none 0 0] 26)).alloc (.cells #[.string s, .bool false] 82)) 26 #[.int .i64 0, .int .i64 0, .int .i64 0, .string ⟨#[]⟩, .string ⟨#[]⟩, .string ⟨#[]⟩, .int .i64 0, .slice none 0 0] (w.heap.size + 1 + 1) (by simp))
  have HW := Lib.hid ((((Aft.refl w).alloc (.cells #[.int .i64 0, .int .i64 0, .int .i64 0, .string ⟨#[]⟩, .string ⟨#[]⟩, .string ⟨#[]⟩, .int .i64 0, .slice none 0 0] 26)).alloc (.cells #[.string s, .bool false] 82)).alloc (.cells #[.int .i64 0, .int .i64 0, .int .i64 0, .string ⟨#[]⟩, .string ⟨#[]⟩, .string ⟨#[]⟩, .int .i64 0, .slice none 0 0] 26))
  refine (number_c _ (w.heap.size + 1) (some s) HR.out).mono ?_
  rintro e w1 ⟨rfl, hr, hg⟩
  have C0 := Lib.hid (B0.out.keep hg (by simp))
  have C2 := Lib.hid (B2.out.keep hg (by simp))
  have CR := Lib.hid hr
  have CW := Lib.hid (HW.out.grow1 hg (by omega))
  clear hr hg B0 B2 HR HW
  have f := C2.out.frozen 0
  have x := C2.out.cell 0 _ rfl
  have l2 := C2.out.lt
  go_wp2_with fail
  clear f x l2
  have B2 := Lib.hid (C2.out.set 0 (.int .i64 (s1 s).1))
  have B0 := Lib.hid (C0.out.set_other ⟨(w.heap.size + 1 + 1), 0, none⟩ (.int .i64 (s1 s).1) (by simp only [ne_eq]; omega))
  have HR := Lib.hid (CR.out.keep (setG _ (w.heap.size + 1 + 1) 0 (.int .i64 (s1 s).1)) (by simp))
  have HW := Lib.hid (CW.out.grow1 (setG _ (w.heap.size + 1 + 1) 0 (.int .i64 (s1 s).1)) (by omega))
  clear C0 C2 CR CW
  refine (number_c _ (w.heap.size + 1) ((s1 s).2) HR.out).mono ?_
  rintro e w2 ⟨rfl, hr, hg⟩
  have C0 := Lib.hid (B0.out.keep hg (by simp))
  have C2 := Lib.hid (B2.out.keep hg (by simp))
  have CR := Lib.hid hr
  have CW := Lib.hid (HW.out.grow1 hg (by omega))
  clear hr hg B0 B2 HR HW
  have f := C2.out.frozen 1
  have x := C2.out.cell 1 _ rfl
  have l2 := C2.out.lt
  go_wp2_with fail
  clear f x l2
  have B2 := Lib.hid (C2.out.set 1 (.int .i64 (s2 s).1))
  have B0 := Lib.hid (C0.out.set_other ⟨(w.heap.size + 1 + 1), 1, none⟩ (.int .i64 (s2 s).1) (by simp only [ne_eq]; omega))
  have HR := Lib.hid (CR.out.keep (setG _ (w.heap.size + 1 + 1) 1 (.int .i64 (s2 s).1)) (by simp))
  have HW := Lib.hid (CW.out.grow1 (setG _ (w.heap.size + 1 + 1) 1 (.int .i64 (s2 s).1)) (by omega))
  clear C0 C2 CR CW
  refine (number_c _ (w.heap.size + 1) ((s2 s).2) HR.out).mono ?_
  rintro e w3 ⟨rfl, hr, hg⟩
  have C0 := Lib.hid (B0.out.keep hg (by simp))
  have C2 := Lib.hid (B2.out.keep hg (by simp))
  have CR := Lib.hid hr
  have CW := Lib.hid (HW.out.grow1 hg (by omega))
  clear hr hg B0 B2 HR HW
  have f := C2.out.frozen 2
  have x := C2.out.cell 2 _ rfl
  have l2 := C2.out.lt
  go_wp2_with fail
  clear f x l2
  have B2 := Lib.hid (C2.out.set 2 (.int .i64 (s3 s).1))
  have B0 := Lib.hid (C0.out.set_other ⟨(w.heap.size + 1 + 1), 2, none⟩ (.int .i64 (s3 s).1) (by simp only [ne_eq]; omega))
  have HR := Lib.hid (CR.out.keep (setG _ (w.heap.size + 1 + 1) 2 (.int .i64 (s3 s).1)) (by simp))
  have HW := Lib.hid (CW.out.grow1 (setG _ (w.heap.size + 1 + 1) 2 (.int .i64 (s3 s).1)) (by omega))
  clear C0 C2 CR CW
  refine (number_c _ (w.heap.size + 1) ((s3 s).2) HR.out).mono ?_
  rintro e w4 ⟨rfl, hr, hg⟩
  have C0 := Lib.hid (B0.out.keep hg (by simp))
  have C2 := Lib.hid (B2.out.keep hg (by simp))
  have CR := Lib.hid hr
  have CW := Lib.hid (HW.out.grow1 hg (by omega))
  clear hr hg B0 B2 HR HW
  have f := C2.out.frozen 6
  have x := C2.out.cell 6 _ rfl
  have l2 := C2.out.lt
  go_wp2_with fail
  clear f x l2
  have B2 := Lib.hid (C2.out.set 6 (.int .i64 (s4 s).1))
  have B0 := Lib.hid (C0.out.set_other ⟨(w.heap.size + 1 + 1), 6, none⟩ (.int .i64 (s4 s).1) (by simp only [ne_eq]; omega))
  have HR := Lib.hid (CR.out.keep (setG _ (w.heap.size + 1 + 1) 6 (.int .i64 (s4 s).1)) (by simp))
  have HW := Lib.hid (CW.out.grow1 (setG _ (w.heap.size + 1 + 1) 6 (.int .i64 (s4 s).1)) (by omega))
  clear C0 C2 CR CW
  refine (text_c _ (w.heap.size + 1) ((s4 s).2) HR.out).mono ?_
  rintro e w5 ⟨rfl, hr, hg⟩
  have C0 := Lib.hid (B0.out.keep hg (by simp))
  have C2 := Lib.hid (B2.out.keep hg (by simp))
  have CR := Lib.hid hr
  have CW := Lib.hid (HW.out.grow1 hg (by omega))
  clear hr hg B0 B2 HR HW
  have f := C2.out.frozen 3
  have x := C2.out.cell 3 _ rfl
  have l2 := C2.out.lt
  go_wp2_with fail
  clear f x l2
  have B2 := Lib.hid (C2.out.set 3 (.string (s5 s).1))
  have B0 := Lib.hid (C0.out.set_other ⟨(w.heap.size + 1 + 1), 3, none⟩ (.string (s5 s).1) (by simp only [ne_eq]; omega))
  have HR := Lib.hid (CR.out.keep (setG _ (w.heap.size + 1 + 1) 3 (.string (s5 s).1)) (by simp))
  have HW := Lib.hid (CW.out.grow1 (setG _ (w.heap.size + 1 + 1) 3 (.string (s5 s).1)) (by omega))
  clear C0 C2 CR CW
  refine (text_c _ (w.heap.size + 1) ((s5 s).2) HR.out).mono ?_
  rintro e w6 ⟨rfl, hr, hg⟩
  have C0 := Lib.hid (B0.out.keep hg (by simp))
  have C2 := Lib.hid (B2.out.keep hg (by simp))
  have CR := Lib.hid hr
  have CW := Lib.hid (HW.out.grow1 hg (by omega))
  clear hr hg B0 B2 HR HW
  have f := C2.out.frozen 4
  have x := C2.out.cell 4 _ rfl
  have l2 := C2.out.lt
  go_wp2_with fail
  clear f x l2
  have B2 := Lib.hid (C2.out.set 4 (.string (s6 s).1))
  have B0 := Lib.hid (C0.out.set_other ⟨(w.heap.size + 1 + 1), 4, none⟩ (.string (s6 s).1) (by simp only [ne_eq]; omega))
  have HR := Lib.hid (CR.out.keep (setG _ (w.heap.size + 1 + 1) 4 (.string (s6 s).1)) (by simp))
  have HW := Lib.hid (CW.out.grow1 (setG _ (w.heap.size + 1 + 1) 4 (.string (s6 s).1)) (by omega))
  clear C0 C2 CR CW
  refine (text_c _ (w.heap.size + 1) ((s6 s).2) HR.out).mono ?_
  rintro e w7 ⟨rfl, hr, hg⟩
  have C0 := Lib.hid (B0.out.keep hg (by simp))
  have C2 := Lib.hid (B2.out.keep hg (by simp))
  have CR := Lib.hid hr
  have CW := Lib.hid (HW.out.grow1 hg (by omega))
  clear hr hg B0 B2 HR HW
  have f := C2.out.frozen 5
  have x := C2.out.cell 5 _ rfl
  have l2 := C2.out.lt
  go_wp2_with fail
  clear f x l2
  have B2 := Lib.hid (C2.out.set 5 (.string (s7 s).1))
  have B0 := Lib.hid (C0.out.set_other ⟨(w.heap.size + 1 + 1), 5, none⟩ (.string (s7 s).1) (by simp only [ne_eq]; omega))
  have HR := Lib.hid (CR.out.keep (setG _ (w.heap.size + 1 + 1) 5 (.string (s7 s).1)) (by simp))
  have HW := Lib.hid (CW.out.grow1 (setG _ (w.heap.size + 1 + 1) 5 (.string (s7 s).1)) (by omega))
  clear C0 C2 CR CW
  refine (chunk_c _ (w.heap.size + 1) ((s7 s).2) HR.out).mono ?_
  rintro e w8 ⟨⟨cv, rfl, hcv⟩, hr, hg⟩
  have hsz7 := HW.out.size
  have C0 := Lib.hid (B0.out.keep hg (by simp))
  have C2 := Lib.hid (B2.out.keep hg (by simp))
  have CR := Lib.hid hr
  have CW := Lib.hid (HW.out.grow1 hg (by omega))
  have l27 := B2.out.lt
  have hcv2 := hcv.mono (base' := w.heap.size + 1 + 1 + 1) (by simp at l27 ⊢; omega)
  have CV := Lib.hid hcv2
  obtain ⟨ca, cn, ccap, rfl⟩ := hcv.form
  clear hr hg B0 B2 HR HW hcv hcv2 hsz7 l27
  have f := C2.out.frozen 7
  have x := C2.out.cell 7 _ rfl
  have l2 := C2.out.lt
  have hR := rdr_yes CR.out HNO.out
  have a0 := hR.c0
  have a1 := hR.c1
  have hem : (ByteArray.mk #[]).toList.isEmpty = true := by rw [Lib.toList_data]; rfl
  clear hR
  go_wp2_with fail
  clear f x l2 a0 a1 hem
  refine wp_world (fun w9 => Box w9 w.heap.size 26 #[.int .i64 0, .int .i64 0, .int .i64 0, .string ⟨#[]⟩, .string ⟨#[]⟩, .string ⟨#[]⟩, .int .i64 0, .slice none 0 0] ∧ Has w9 (w.heap.size + 1 + 1) 26 (rawC s) (.slice ca cn ccap) ∧ GrowsS w9 (w.heap.size + 1) (.slice ca cn ccap) (rawC s).ch ∧ Sent w9 a ∧ Aft w w9) ⟨C0.out.set_other _ _ (by simp only [ne_eq]; omega), ?_, ?_, ?_, CW.out.grow1 (setG _ _ _ _) (by omega)⟩ ?_
  · have hv : GrowsS _ _ (.slice ca cn ccap) (s9 s).1 := CV.out.kept (setG _ (w.heap.size + 1 + 1) 7 (.slice ca cn ccap)) (by omega)
    exact ⟨C2.out.set 7 (.slice ca cn ccap), hv.strs (fun j hj => by rw [raw_chunk s HNO.out j hj]; decide)⟩
  · have hv : GrowsS _ _ (.slice ca cn ccap) (s9 s).1 := CV.out.kept (setG _ (w.heap.size + 1 + 1) 7 (.slice ca cn ccap)) (by omega)
    exact hv.mono (by omega)
  · exact HS.out.later (CW.out.grow1 (setG _ _ _ _) (by omega))
  rintro w9 ⟨b9, c9, v9, h9, q9⟩
  obtain ⟨z1, z2, z3⟩ := raw_sizes s HNO.out
  have Z1 : (rawC s).set.size ≤ 9223372036854775807 := by omega
  have Z2 : (rawC s).name.size ≤ 9223372036854775807 := by omega
  have Z3 : (rawC s).tag.size ≤ 9223372036854775807 := by omega
  have KB := Lib.hid b9.drew
  have KA := Lib.hid c9.drew
  have KV := Lib.hid v9.drew
  have KS := Lib.hid h9.drew
  have KW := Lib.hid q9.drew
  clear b9 c9 v9 h9 q9 z1 z2 z3 C0 C2 CR CW CV HS HNO hs
  generalize hc : rawC s = c at *
  have HC := Lib.hid hc
  clear hc
  obtain ⟨b, hok⟩ : ∃ b, okB c = b := ⟨_, rfl⟩
  have HO := Lib.hid hok
  clear hok
  have hne2 : w.heap.size + 1 + 1 ≠ w.heap.size := by omega
  go_region_held3 (fun w' => w'.cell? ⟨(w.heap.size + 1 + 1), 0, none⟩ = some (.int .i64 c.kind) ∧ w'.cell? ⟨(w.heap.size + 1 + 1), 1, none⟩ = some (.int .i64 c.client) ∧ w'.cell? ⟨(w.heap.size + 1 + 1), 2, none⟩ = some (.int .i64 c.no) ∧ w'.cell? ⟨(w.heap.size + 1 + 1), 3, none⟩ = some (.string c.set) ∧ w'.cell? ⟨(w.heap.size + 1 + 1), 4, none⟩ = some (.string c.name) ∧ w'.cell? ⟨(w.heap.size + 1 + 1), 5, none⟩ = some (.string c.tag) ∧ w'.cell? ⟨(w.heap.size + 1 + 1), 6, none⟩ = some (.int .i64 c.n) ∧ w'.cell? ⟨(w.heap.size + 1 + 1), 7, none⟩ = some ((.slice ca cn ccap)))
    (first | (with_reducible exact Has.cells KA.out) | (with_reducible exact Has.cells_set8 KA.out w.heap.size hne2 _ _ _ _ _ _ _ _))
    (first | (go_at_call 43; refine (check_cmd c _ a _ KA.out.2 KS.out Z1 Z2 Z3).mono ?_; rintro e w10 ⟨he, hb⟩; rw [HO.out] at he; subst he; have NA := Lib.hid (KA.out.after hb); have NB := Lib.hid (KB.out.after hb); have NV := Lib.hid (KV.out.later hb); have NW := Lib.hid (KW.out.after hb); clear hb KA KB KV KS KW; rename Hid (Has w10 _ _ c _) => KA; have e0 := NB.out.frozen 0; have e1 := NB.out.frozen 1; have e2 := NB.out.frozen 2; have e3 := NB.out.frozen 3; have e4 := NB.out.frozen 4; have e5 := NB.out.frozen 5; have e6 := NB.out.frozen 6; have e7 := NB.out.frozen 7; obtain ⟨x0, x1, x2, x3, x4, x5, x6, x7⟩ := NB.out.cells8))
  clear e0 e1 e2 e3 e4 e5 e6 e7 x0 x1 x2 x3 x4 x5 x6 x7
  go_wp2
  refine bodyPost_ret (results_cmd2 Tryd.results31 _ _ w.heap.size _ _ _ _ _ _ _ _ _ rfl rfl (NB.out.set8cells _ _ _ _ _ _ _ _)) rfl ⟨⟨ca, cn, ccap, by rw [HC.out, HO.out]; rfl, ?_⟩, ?_⟩
  · rw [HC.out]
    exact NV.out.set8 _ (by omega) _ _ _ _ _ _ _ _
  · exact NW.out.set8 _ (Nat.le_refl _) _ _ _ _ _ _ _ _
end Go.Proofs.YtmdacoppkjclmaaDoor
