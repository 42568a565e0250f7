/- The model's Unframe, by one contract. -/
import Derived.Test.YtemhhjkmolndbaaDoorWrt2
import Derived.Test.YtemhhjkmolndbaaDoorFrRead
import Derived.Test.YtemhhjkmolndbaaDoorRdr
import Derived.Test.YtemhhjkmolndbaaDoorStrsE
namespace Go.Proofs.YtemhhjkmolndbaaDoor
open Go.RowKit Go.PlainAid
set_option linter.unusedVariables false

set_option maxRecDepth 100000 in
set_option maxHeartbeats 400000 in
theorem vars_far (s : ByteArray) (p : Int) (w : World) (hs : s.size ≤ 1048576) (h1 : (s.size : Int) < p) (h2 : p ≤ 1048580) :
    Calls Tryd.prog 130 #[.string s, .int .i64 p, .int .i64 1] w fun e w' => e = .returned (.tuple #[.slice (some ⟨w.heap.size, 0, none⟩) 0 0, .int .i64 (-1)]) ∧ Below w.heap.size w w' := by
  go_enter Tryd.func130, Tryd.ntmps130
  go_wp2
  refine wp_loop_rounds 1 ?_
  rw [rounds_succ]
  go_wp2
  go_ret2
  exact ⟨rfl, (Below.refl _ _).alloc (Nat.le_refl _) _⟩
set_option maxRecDepth 100000 in
set_option maxHeartbeats 400000 in
theorem take_far (s : ByteArray) (p : Int) (w : World) (hs : s.size ≤ 1048576) (h1 : (s.size : Int) < p) (h2 : p ≤ 1048580) :
    Calls Tryd.prog 112 #[.string s, .int .i64 p] w fun e w' => e = .returned (.tuple #[.string ⟨#[]⟩, .int .i64 (-1)]) ∧ Below w.heap.size w w' := by
  have hv := fun W => vars_far s p W hs h1 h2
  have HV := Lib.hid hv
  clear hv
  go_enter Tryd.func112, Tryd.ntmps112
  go_wp2_with (go_at_call 130; refine (HV.out _).mono ?_; rintro e w1 ⟨rfl, hb⟩)
  go_ret2
  exact ⟨rfl, hb⟩
/-- What the model takes behind the checksum, and where that ends. -/
@[irreducible] def tkT (r : ByteArray) : ByteArray := if 4 ≤ r.size then (frT r).1 else ⟨#[]⟩
@[irreducible] def tkE (s r : ByteArray) : Int := if 4 ≤ r.size then posI s (frT r).2 else -1
theorem tk_c (s r : ByteArray) (q : Nat) (w : World) (hs : s.size ≤ 1048576) (hx : s.extract q s.size = r) (hq : q + r.size = s.size) :
    Calls Tryd.prog 112 #[.string s, .int .i64 ((q : Int) + 4)] w fun e w' => e = .returned (.tuple #[.string (tkT r), .int .i64 (tkE s r)]) ∧ Below w.heap.size w w' := by
  by_cases h : 4 ≤ r.size
  · have e1 : tkT r = (frT r).1 := by unfold tkT; rw [if_pos h]
    have e2 : tkE s r = posI s (frT r).2 := by unfold tkE; rw [if_pos h]
    have hz : (r.extract 4 r.size).size = r.size - 4 := ext_size r _ _ (Nat.le_refl _)
    have hsf : Suf s (some (r.extract 4 r.size)) := suf_cut s r 4 ⟨by omega, by rw [show s.size - r.size = q by omega]; exact hx.symm⟩ h
    have hp : posI s (some (r.extract 4 r.size)) = (q : Int) + 4 := by
      show ((s.size - (r.extract 4 r.size).size : Nat) : Int) = _
      rw [hz]
      omega
    have := take_c s (some (r.extract 4 r.size)) w hs hsf
    rw [hp] at this
    rw [e1, e2]
    exact this
  · have e1 : tkT r = ⟨#[]⟩ := by unfold tkT; rw [if_neg h]
    have e2 : tkE s r = -1 := by unfold tkE; rw [if_neg h]
    rw [e1, e2]
    exact take_far s _ w hs (by omega) (by omega)
/-- Either nothing is there, or all parts are. -/
theorem tk_cases (s r : ByteArray) (q : Nat) (hs : s.size ≤ 1048576) (hx : s.extract q s.size = r) (hq : q + r.size = s.size) :
    (tkE s r = -1 ∧ frOk r = false) ∨ ∃ z : Nat, tkE s r = (z : Int) ∧ q + 4 ≤ z ∧ z ≤ s.size ∧ (tkT r).size ≤ 1048576 ∧
      ((200 < (tkT r).size ∧ frOk r = false) ∨ ((tkT r).size ≤ 200 ∧ (frOk r = true ↔ frameS (tkT r) = s.extract q z) ∧ (frOk r = true → frC r = tkT r ∧ z = q + (frameS (frC r)).size))) := by
  by_cases h : 4 ≤ r.size
  · have e1 : tkT r = (frT r).1 := by unfold tkT; rw [if_pos h]
    have e2 : tkE s r = posI s (frT r).2 := by unfold tkE; rw [if_pos h]
    cases hy : (frT r).2 with
    | none =>
      left
      rw [e2, hy]
      exact ⟨rfl, fr_not r fun k => by obtain ⟨y, e⟩ := ((frOk_iff r).1 k).2.1; rw [hy] at e; cases e⟩
    | some y =>
      right
      have hf := fr_form r y h hy
      have hsz := congrArg ByteArray.size hf
      have hz4 : (r.extract 0 4).size = 4 := ext_size r _ _ h
      rw [ByteArray.size_append, ByteArray.size_append, hz4] at hsz
      have hsp := showT_pos (frT r).1
      have htl : (frT r).1.size ≤ (showT (frT r).1).size := by unfold showT; rw [ByteArray.size_append]; omega
      refine ⟨s.size - y.size, by rw [e2, hy]; rfl, by omega, by omega, by rw [e1]; omega, ?_⟩
      rw [e1]
      have hC : frC r = (frT r).1 := by unfold frC; rfl
      by_cases h2 : (frT r).1.size ≤ 200
      · right
        have hE : s.extract q (s.size - y.size) = r.extract 0 4 ++ showT (frT r).1 := by
          have a1 : r.extract 0 (r.size - y.size) = s.extract q (s.size - y.size) := by
            rw [← hx, ext_ext s _ _ _ _ (Nat.le_refl _) (by rw [hx]; omega), hx]
            congr 1
            omega
          rw [← a1]
          have a2 : (r.extract 0 4 ++ showT (frT r).1).size = r.size - y.size := by rw [ByteArray.size_append, hz4]; omega
          have a3 := ext_front (r.extract 0 4 ++ showT (frT r).1) y
          rw [append_assoc, ← hf, a2] at a3
          exact a3
        have hF := frameS_ok _ h2
        have hFz := frameS_size _ h2
        refine ⟨h2, ?_, fun k => ⟨hC, by rw [hC]; omega⟩⟩
        rw [hE, hF, frOk_iff, ← fix4_read r h]
        constructor
        · rintro ⟨_, _, _, e⟩
          rw [e]
        · intro e
          have c0 := crcV_nonneg (showT (frT r).1)
          have c1 := crcV_le (showT (frT r).1)
          have d0 := rf_nonneg r 4
          have d1 := rf4_le r
          have b1 := fix4_back _ c0 c1 (showT (frT r).1)
          have b2 := fix4_back _ d0 d1 (showT (frT r).1)
          rw [e] at b1
          exact ⟨h, ⟨y, hy⟩, h2, by rw [← b1, b2]⟩
      · left
        exact ⟨by omega, fr_not r fun k => h2 ((frOk_iff r).1 k).2.2.1⟩
  · left
    have e2 : tkE s r = -1 := by unfold tkE; rw [if_neg h]
    exact ⟨e2, fr_short r (by omega)⟩
/-- A world later than w, in which all that stood in w stands. -/
def LaterF (w0 w : World) : Prop := Below w0.heap.size w0 w
theorem LaterF.trans {w0 w w' : World} (h : LaterF w0 w) (hb : Below w.heap.size w w') : LaterF w0 w' := Below.trans h (hb.mono (Below.size h))
theorem l_frame (t : ByteArray) (ht : t.size ≤ 1048576) (w0 : World) (w : World) (h : LaterF w0 w) :
    Calls Tryd.prog 113 #[.string t] w fun e w' => e = .returned (.string (frameS t)) ∧ LaterF w0 w' :=
  (spec_frame t w ht).mono fun e w' ⟨he, hb⟩ => ⟨he, h.trans hb⟩
theorem growsS_empty (w : World) : GrowsS (w.alloc (.cells #[] 9)) w.heap.size (.slice (some ⟨w.heap.size, 0, none⟩) 0 0) [] :=
  World.ownsRow_made w #[] 0 (Nat.le_refl _) (by decide) rfl

set_option maxRecDepth 100000 in
set_option maxHeartbeats 1000000 in
theorem spec_unframe (s : ByteArray) (w : World) (hs : s.size ≤ 1048576) :
    Calls Tryd.prog 80 #[.string s] w fun e w' => ∃ v, e = .returned (.tuple #[v, .int .i64 (fP s (nF s) : Nat)]) ∧ GrowsS w' w.heap.size v (fL s (nF s)) ∧ Below w.heap.size w w' := by
  have hnF : 5 * nF s ≤ s.size := by have := fS_size s (nF s) (Nat.le_refl _); omega
  go_enter Tryd.func80, Tryd.ntmps80
  go_wp2
  go_loopw [4, 5] (fun v p wr => ∃ k : Nat, k ≤ nF s ∧ p = .int .i64 (fP s k : Nat) ∧ GrowsS wr w.heap.size v (fL s k) ∧ Below w.heap.size w wr) (fun _ p _ => s.size - (intOf p).toNat)
  case atStart => exact ⟨0, by omega, by rw [fP_zero]; rfl, growsS_empty w, (Below.refl _ _).alloc (Nat.le_refl _) _⟩
  case round =>
    obtain ⟨k, hk, rfl, hv, hb⟩ := hrel
    have hx := fS_ext s k hk
    have hq := fP_size s k hk
    obtain ⟨r, hr⟩ : ∃ r, fS s k = r := ⟨_, rfl⟩
    obtain ⟨q, hqq⟩ : ∃ q, fP s k = q := ⟨_, rfl⟩
    rw [hr] at hx hq
    rw [hqq] at hx hq ⊢
    have htk := fun W => tk_c s r q W hs hx hq
    have hca := tk_cases s r q hs hx hq
    have HV := Lib.hid hv
    have HF := Lib.hid hv.form
    have HB := Lib.hid hb
    have HR := Lib.hid hr
    have HQ := Lib.hid hqq
    have HTK := Lib.hid htk
    clear hv hb hr hqq htk hx
    have hwq : IntKind.i64.wrap ((q : Int) + 4) = (q : Int) + 4 := IntWalk.i64_in _ (by omega)
    go_wp2_with fail
    refine (HTK.out _).mono ?_
    rintro e w1 ⟨rfl, hb1⟩
    have hbs := HB.out.size
    have HV1 := Lib.hid (HV.out.later hb1)
    have HB1 := Lib.hid (HB.out.trans (hb1.mono hbs))
    clear HV HB hb1 HTK
    rcases hca with ⟨hE, ho⟩ | ⟨z, hE, hz1, hz2, hz3, ⟨ht, ho⟩ | ⟨ht, hiff, hyes⟩⟩
    · rw [hE]
      have HK := Lib.hid (nF_last s k hk (by rw [HR.out]; exact ho))
      clear hE ho
      generalize tkT r = t at *
      go_wp2_with fail
      go_quiet (fail)
      go_wp2
      go_ret2
      rw [← HK.out, HQ.out]
      exact ⟨_, rfl, HV1.out, dn HB1.out _⟩
    · rw [hE]
      have HK := Lib.hid (nF_last s k hk (by rw [HR.out]; exact ho))
      have hF := frameS_big _ ht
      have lf := fun W (h : LaterF w1 W) => l_frame (tkT r) hz3 w1 W h
      rw [hF] at lf
      have LF := Lib.hid lf
      have hzn : decide ((z : Int) < 0) = false := by simp
      clear hE ho hF lf
      generalize tkT r = t at *
      go_wp2_with fail
      refine wp_region_quiet (C := LaterF w1) (by kernel_rfl) (by kernel_rfl) (show LaterF w1 w1.drew from Below.drew (Below.refl _ _)) ?_
      dsimp only
      repeat (first | go_big_quiet_skip | (go_big_quiet_want; go_big_quiet_op; (first | go_big_quiet_on | (refine ⟨_, fun _ _ => rfl, ?_⟩; go_big_quiet_on))))
      go_big_quiet_want
      go_big_quiet_op
      refine ⟨_, fun w' hw' => LF.out w' hw', ?_⟩
      go_big_quiet_on
      repeat (first | go_big_quiet_skip | (go_big_quiet_want; go_big_quiet_op; (first | go_big_quiet_on | (refine ⟨_, fun _ _ => rfl, ?_⟩; go_big_quiet_on))))
      refine wpQuiet_nil ?_
      intro w3 L3
      have HL3 := Lib.hid L3
      clear L3
      go_wp2
      go_ret2
      rw [← HK.out, HQ.out]
      exact ⟨_, rfl, HV1.out.later HL3.out, HB1.out.trans (Below.mono HL3.out HB1.out.size)⟩
    · rw [hE]
      have hfp : 5 ≤ (frameS (tkT r)).size := by rw [frameS_size _ ht]; have := showT_pos (tkT r); omega
      have lf := fun W (h : LaterF w1 W) => l_frame (tkT r) hz3 w1 W h
      have LF := Lib.hid lf
      have HIFF := Lib.hid hiff
      have HYES := Lib.hid hyes
      clear hE lf hiff hyes
      generalize tkT r = t at *
      generalize frameS t = f at *
      have hne0 : f ≠ ⟨#[]⟩ := fun e => by rw [e] at hfp; exact absurd hfp (by decide)
      have hfe := ne_list hne0
      have hfi : f.toList.isEmpty = false := by
        have hl : f.toList = f.data.toList := Lib.toList_data f
        rw [hl, List.isEmpty_eq_false_iff]
        intro e
        have : f.size = f.data.toList.length := size_data f
        rw [e] at this
        rw [this] at hfp
        exact absurd hfp (by decide)
      have hy1 : (q : Int) ≤ (z : Int) := by omega
      have hy2 : (z : Int) ≤ (s.size : Int) := by omega
      have hzn : decide ((z : Int) < 0) = false := by simp
      cases ho : frOk r with
      | false =>
        have HK := Lib.hid (nF_last s k hk (by rw [HR.out]; exact ho))
        have hnl := ne_list (a := f) (b := s.extract q z) (fun e => by rw [HIFF.out.2 e] at ho; cases ho)
        clear HIFF HYES ho
        go_wp2_with fail
        refine wp_region_quiet (C := LaterF w1) (by kernel_rfl) (by kernel_rfl) (show LaterF w1 w1.drew from Below.drew (Below.refl _ _)) ?_
        dsimp only
        repeat (first | go_big_quiet_skip | (go_big_quiet_want; go_big_quiet_op; (first | go_big_quiet_on | (refine ⟨_, fun _ _ => rfl, ?_⟩; go_big_quiet_on))))
        go_big_quiet_want
        go_big_quiet_op
        refine ⟨_, fun w' hw' => LF.out w' hw', ?_⟩
        go_big_quiet_on
        repeat (first | go_big_quiet_skip | (go_big_quiet_want; go_big_quiet_op; (first | go_big_quiet_on | (refine ⟨_, fun _ _ => rfl, ?_⟩; go_big_quiet_on))))
        go_big_quiet_want
        go_big_quiet_op
        refine ⟨_, fun w' hw' => LF.out w' hw', ?_⟩
        go_big_quiet_on
        repeat (first | go_big_quiet_skip | (go_big_quiet_want; go_big_quiet_op; (first | go_big_quiet_on | (refine ⟨_, fun _ _ => rfl, ?_⟩; go_big_quiet_on))))
        refine wpQuiet_nil ?_
        intro w3 L3
        have HL3 := Lib.hid L3
        clear L3
        go_wp2
        go_ret2
        rw [← HK.out, HQ.out]
        exact ⟨_, rfl, HV1.out.later HL3.out, HB1.out.trans (Below.mono HL3.out HB1.out.size)⟩
      | true =>
        have hyz : s.extract q z = f := (HIFF.out.1 ho).symm
        obtain ⟨hcc, hzq⟩ := HYES.out ho
        have hkn : k < nF s := nF_more s k hk (by rw [HR.out]; exact ho)
        have HC := Lib.hid (show fL s (k + 1) = fL s k ++ [t] by rw [fL_succ, HR.out, hcc])
        have HS := Lib.hid (show fP s (k + 1) = z by rw [fP_succ s k hkn, HR.out, HQ.out, hzq])
        clear HIFF HYES ho hcc hzq
        go_wp2_with fail
        refine wp_region_quiet (C := LaterF w1) (by kernel_rfl) (by kernel_rfl) (show LaterF w1 w1.drew from Below.drew (Below.refl _ _)) ?_
        dsimp only
        repeat (first | go_big_quiet_skip | (go_big_quiet_want; go_big_quiet_op; (first | go_big_quiet_on | (refine ⟨_, fun _ _ => rfl, ?_⟩; go_big_quiet_on))))
        go_big_quiet_want
        go_big_quiet_op
        refine ⟨_, fun w' hw' => LF.out w' hw', ?_⟩
        go_big_quiet_on
        repeat (first | go_big_quiet_skip | (go_big_quiet_want; go_big_quiet_op; (first | go_big_quiet_on | (refine ⟨_, fun _ _ => rfl, ?_⟩; go_big_quiet_on))))
        go_big_quiet_want
        go_big_quiet_op
        refine ⟨_, fun w' hw' => LF.out w' hw', ?_⟩
        go_big_quiet_on
        repeat (first | go_big_quiet_skip | (go_big_quiet_want; go_big_quiet_op; (first | go_big_quiet_on | (refine ⟨_, fun _ _ => rfl, ?_⟩; go_big_quiet_on))))
        refine wpQuiet_nil ?_
        intro w3 L3
        have HV3 := Lib.hid (HV1.out.later L3)
        have HB3 := Lib.hid (HB1.out.trans (Below.mono L3 HB1.out.size))
        have hb3 := HB3.out.size
        have hlk := fL_length s k
        clear L3 HV1 HB1
        go_wp2_with (at_builtin; refine wp_append_str rfl (.tmp 34) (.tmp 36) rfl w.heap.size _ (fL s k) _ rfl (HV3.out.alloc _) w3.heap.size 1 rfl (by simp; rfl) (by omega) (by simp; omega) ?_; intro v' w' hv' hg')
        go_roundw
        case rel => exact ⟨k + 1, by omega, by rw [HS.out], by rw [HC.out]; exact hv', (HB3.out.alloc hb3 _).trans (below_of_grown (HV3.out.alloc _) (by simp; omega) hg')⟩
        case measure => simp only [intOf]; omega
end Go.Proofs.YtemhhjkmolndbaaDoor
