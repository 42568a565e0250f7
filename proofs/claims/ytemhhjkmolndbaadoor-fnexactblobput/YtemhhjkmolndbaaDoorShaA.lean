/- The walks of the program's Sha. -/
import Derived.Test.YtemhhjkmolndbaaDoorShaB
import Derived.Test.YtemhhjkmolndbaaDoorShaP
import Derived.Test.YtemhhjkmolndbaaDoorPut
namespace Go.Proofs.YtemhhjkmolndbaaDoor
open Go.RowKit Go.PlainAid
set_option linter.unusedVariables false

/-- The start values that Sha reads. -/
def TabS (w : World) : Prop := ∀ l : Nat, l < 8 → w.cell? ⟨1, l, none⟩ = some (.int .u32 (st0.at l : Nat))
theorem TabS.later {w w' : World} (h : TabS w) (hb : Below w.heap.size w w') : TabS w' := fun l hl => cell_later hb (h l hl)

/-- shaBlocks, its state written out. -/
theorem blocks_e (A B C D E F G H : Nat) (hs : (Reg.mk A B C D E F G H).fit) (t : ByteArray) (hsz : t.size ≤ 1099511627776) (w : World) (ht : TabK w) :
    Calls Tryd.prog 119 #[.agg #[.int .u32 A, .int .u32 B, .int .u32 C, .int .u32 D, .int .u32 E, .int .u32 F, .int .u32 G, .int .u32 H], .string t] w fun e w' =>
      ∃ A' B' C' D' E' F' G' H' : Nat, e = .returned (.agg #[.int .u32 A', .int .u32 B', .int .u32 C', .int .u32 D', .int .u32 E', .int .u32 F', .int .u32 G', .int .u32 H'])
        ∧ hsh (Reg.mk A B C D E F G H) (btn t) (t.size / 64) = ⟨A', B', C', D', E', F', G', H'⟩ ∧ Below w.heap.size w w' := by
  refine (blocks_c ⟨A, B, C, D, E, F, G, H⟩ hs t hsz w ht).mono ?_
  rintro e w' ⟨rfl, hb⟩
  generalize hsh (Reg.mk A B C D E F G H) (btn t) (t.size / 64) = r
  obtain ⟨A', B', C', D', E', F', G', H'⟩ := r
  exact ⟨A', B', C', D', E', F', G', H', rfl, rfl, hb⟩

theorem bt_nums (l : List Int) (i : Nat) (x : Int) (h : l[i]? = some x) (h0 : 0 ≤ x) (h1 : x ≤ 255) : bt (strOfNums l) i = x := by
  have hi : i < l.length := by
    rcases Nat.lt_or_ge i l.length with h' | h'
    · exact h'
    · rw [List.getElem?_eq_none h'] at h; cases h
  have hs : i < (strOfNums l).size := by rw [strOfNums_size]; exact hi
  rw [← get_bt (strOfNums l) i hs]
  have e : (strOfNums l)[i]'hs = UInt8.ofNat (l[i]'hi).toNat := by
    show (strOfNums l).data[i] = _
    simp [strOfNums]
  rw [List.getElem?_eq_getElem hi] at h
  rw [e, Option.some.inj h]
  simp
  omega
theorem sha_join (s : ByteArray) (W : Nat) (eW : W = s.size - s.size % 64) (T : ByteArray)
    (hT : T = strOfNums ((List.range ((s.size - W + 72) / 64 * 64)).map fun j => ((padF (btn (s.extract W s.size)) (s.size - W) ((s.size - W + 72) / 64 * 64) s.size 8 j : Nat) : Int))) :
    hsh (hsh st0 (btn (s.extract 0 W)) ((s.extract 0 W).size / 64)) (btn T) (T.size / 64) = shaS s := by
  have h1 : (s.extract 0 W).size = W := by rw [ByteArray.size_extract]; omega
  have hTs : T.size = (s.size - W + 72) / 64 * 64 := by rw [hT, strOfNums_size]; simp
  have hL : msgL s.size = W + (s.size - W + 72) / 64 * 64 := by unfold msgL; omega
  rw [shaS, h1, hTs, hL, show (W + (s.size - W + 72) / 64 * 64) / 64 = W / 64 + ((s.size - W + 72) / 64 * 64) / 64 by omega, hsh_add]
  have hW : 64 * (W / 64) = W := by omega
  generalize hLL : (s.size - W + 72) / 64 * 64 = L at *
  have e1 : hsh st0 (btn (s.extract 0 W)) (W / 64) = hsh st0 (padF (btn s) s.size (W + L) s.size 8) (W / 64) := by
    apply hsh_congr
    intro j hj
    rw [btn_extract s 0 W j (by omega) (by omega), Nat.zero_add]
    unfold padF
    rw [if_pos (by omega)]
  rw [e1]
  apply hsh_congr
  intro j hj
  have hjL : j < L := by omega
  have hv : bt T j = ((padF (btn (s.extract W s.size)) (s.size - W) L s.size 8 j : Nat) : Int) := by
    rw [hT]
    refine bt_nums _ j _ (by simp [hjL]) (by omega) ?_
    have := padF_lt (btn (s.extract W s.size)) (btn_lt _) (s.size - W) L s.size 8 j
    omega
  unfold btn
  rw [hv, Int.toNat_natCast]
  show padF _ _ _ _ _ _ = padF (btn s) _ _ _ _ _
  unfold padF
  rw [hW]
  by_cases c1 : j < s.size - W
  · rw [if_pos c1, if_pos (by omega), btn_extract s W s.size j (by omega) (by omega)]
  · rw [if_neg c1, if_neg (show ¬ W + j < s.size by omega)]
    by_cases c2 : j = s.size - W
    · rw [if_pos c2, if_pos (show W + j = s.size by omega)]
    · rw [if_neg c2, if_neg (show ¬ W + j = s.size by omega)]
      by_cases c3 : L ≤ j + 8
      · rw [if_pos c3, if_pos (show W + L ≤ W + j + 8 by omega), show W + L - 1 - (W + j) = L - 1 - j by omega]
      · rw [if_neg c3, if_neg (by omega)]
theorem Tryd.size153 : (Tryd.prog.info? 153).map (·.size) = some 1 := by kernel_rfl
theorem index_row (f : Nat → Nat) (k : Nat) (hk : k < 8) (w : World) : (Instr.index 155 (.agg (rowC .u32 8 f)) (.int .i64 (k : Int))).run Tryd.prog w = .ok (.int .u32 (f k : Nat)) w := by
  have h1 : (0 : Int) ≤ k ∧ (k : Int) < 8 := by omega
  have h2 := rowC_get .u32 8 f k hk
  have h3 := Tryd.size153
  have h4 : (rowC .u32 8 f).size = 8 := rowC_size _ _ _
  cases hq : Tryd.prog.info? 153 with
  | none => simp [hq] at h3
  | some i =>
    have hi : i.size = 1 := by simpa [hq] using h3
    simp [Instr.index, run_underlying Tryd.underlying155, asIntOf, h1, part, sizeOf, typeInfo, hq, hi, run_underlying Tryd.underlying153, h2, isAgg]
    omega
theorem src_four (w : World) (a b c d : Int) : Src (w.alloc (.cells #[.int .u8 a, .int .u8 b, .int .u8 c, .int .u8 d] 5)) w.heap.size [a, b, c, d] := by
  intro j v hj
  match j, hj with
  | 0, hj => simp [u8s] at hj; subst hj; simp
  | 1, hj => simp [u8s] at hj; subst hj; simp
  | 2, hj => simp [u8s] at hj; subst hj; simp
  | 3, hj => simp [u8s] at hj; subst hj; simp
  | j + 4, hj => simp [u8s] at hj

theorem src_word (w : World) (X : Nat) (hX : X < 4294967296) : Src (w.alloc (.cells #[.int .u8 ((X : Int) / 16777216), .int .u8 ((X : Int) / 65536 % 256), .int .u8 ((X : Int) / 256 % 256), .int .u8 ((X : Int) % 256)] 5)) w.heap.size (wordL X) := by
  have e : wordL X = [(X : Int) / 16777216, (X : Int) / 65536 % 256, (X : Int) / 256 % 256, (X : Int) % 256] := by
    unfold wordL
    rw [show (X : Int) / 16777216 % 256 = (X : Int) / 16777216 by omega]
  rw [e]
  exact src_four w _ _ _ _

set_option maxRecDepth 100000 in
set_option maxHeartbeats 2000000 in
theorem impl_sha (s : ByteArray) (hs : s.size ≤ 1048577) (w : World) (ht : TabK w) (h0 : TabS w) :
    Calls Tryd.prog 95 #[.string s] w fun e w' => e = .returned (.string (strOfNums (digL (shaS s) 8))) ∧ Below w.heap.size w w' := by
  have s0 : w.cell? ⟨1, 0, none⟩ = some (.int .u32 st0.a) := h0 0 (by omega)
  have s1 : w.cell? ⟨1, 1, none⟩ = some (.int .u32 st0.b) := h0 1 (by omega)
  have s2 : w.cell? ⟨1, 2, none⟩ = some (.int .u32 st0.c) := h0 2 (by omega)
  have s3 : w.cell? ⟨1, 3, none⟩ = some (.int .u32 st0.d) := h0 3 (by omega)
  have s4 : w.cell? ⟨1, 4, none⟩ = some (.int .u32 st0.e) := h0 4 (by omega)
  have s5 : w.cell? ⟨1, 5, none⟩ = some (.int .u32 st0.f) := h0 5 (by omega)
  have s6 : w.cell? ⟨1, 6, none⟩ = some (.int .u32 st0.g) := h0 6 (by omega)
  have s7 : w.cell? ⟨1, 7, none⟩ = some (.int .u32 st0.h) := h0 7 (by omega)
  have HT := Lib.hid ht
  clear ht h0
  have eW : (s.size : Int) - (s.size : Int) % 64 = ((s.size - s.size % 64 : Nat) : Int) := by omega
  have W1 : s.size - s.size % 64 ≤ s.size := by omega
  have W2 : s.size < s.size - s.size % 64 + 64 := by omega
  generalize s.size - s.size % 64 = W at eW W1 W2
  go_enter Tryd.func95, Tryd.ntmps95
  go_wp2
  refine wp_world (fun w1 => Row w1 w.heap.size .u32 155 8 st0.at ∧ Below w.heap.size w w1) ⟨Row.made w .u32 155 8 st0.at _ (by kernel_rfl) _ rfl, (Below.refl _ _).alloc (Nat.le_refl _) _⟩ ?_
  rintro w1 ⟨hr1, hb1⟩
  clear s0 s1 s2 s3 s4 s5 s6 s7
  obtain ⟨c0, c1, c2, c3, c4, c5, c6, c7⟩ := hr1.cells8
  have R1 := Lib.hid hr1
  have B1 := Lib.hid hb1
  clear hr1 hb1
  refine wp_region_quiet_tail 4 (by kernel_rfl) (by kernel_rfl) ?_
  simp only [List.take_succ_cons, List.take_zero, List.drop_succ_cons, List.drop_zero]
  repeat (first | go_big_quiet_step (fail))
  refine wpQuiet_nil ?_
  go_wp2_with (go_at_call 119; refine (blocks_e _ _ _ _ _ _ _ _ st0_fit _ ?_ _ (HT.out.later B1.out.drew)).mono ?_; (· rw [ByteArray.size_extract]; omega); rintro e w2 ⟨A, B, C, D, E, F, G, H, rfl, hh, hb2⟩; have rr2 := R1.out.drew.later hb2 R1.out.lt; obtain ⟨d0, d1, d2, d3, d4, d5, d6, d7⟩ := rr2.cells8; have g0 := rr2.frozen 0; have g1 := rr2.frozen 1; have g2 := rr2.frozen 2; have g3 := rr2.frozen 3; have g4 := rr2.frozen 4; have g5 := rr2.frozen 5; have g6 := rr2.frozen 6; have g7 := rr2.frozen 7; have RR2 := Lib.hid rr2; have HB2 := Lib.hid hb2; have HH := Lib.hid hh; clear rr2 hb2 hh)
  have bb2 : Below w.heap.size w w2 := B1.out.drew.trans (HB2.out.mono B1.out.size)
  refine wp_world (fun w3 => Row w3 w.heap.size .u32 155 8 (Reg.mk A B C D E F G H).at ∧ Below w.heap.size w w3) ⟨RR2.out.set8 ⟨A, B, C, D, E, F, G, H⟩, (((((((bb2.setCell (by simp) _).setCell (by simp) _).setCell (by simp) _).setCell (by simp) _).setCell (by simp) _).setCell (by simp) _).setCell (by simp) _).setCell (by simp) _⟩ ?_
  clear c0 c1 c2 c3 c4 c5 c6 c7 d0 d1 d2 d3 d4 d5 d6 d7 g0 g1 g2 g3 g4 g5 g6 g7 R1 B1 RR2 HB2 bb2
  rintro w3 ⟨hr3, hb3⟩
  obtain ⟨c0, c1, c2, c3, c4, c5, c6, c7⟩ := hr3.cells8
  have hf3 : (Reg.mk A B C D E F G H).fit := by rw [← HH.out]; exact hsh_fit _ st0_fit _ _
  have R3 := Lib.hid hr3
  have B3 := Lib.hid hb3
  have F3 := Lib.hid hf3
  clear hr3 hb3 hf3
  have q1 : (0 : Int) ≤ (W : Int) := by omega
  have q2 : (W : Int) ≤ (s.size : Int) := by omega
  go_region_law (first
    | (go_simp; go_at_call 120; refine (tail_c _ _ (by rw [ByteArray.size_extract]; omega) (by omega) _).mono ?_; rintro e w4 ⟨rfl, hb4⟩; have rr4 := R3.out.drew.later hb4 R3.out.lt; obtain ⟨d0, d1, d2, d3, d4, d5, d6, d7⟩ := rr4.cells8; dsimp only at d0 d1 d2 d3 d4 d5 d6 d7; have RR4 := Lib.hid rr4; have HB4 := Lib.hid hb4; clear rr4 hb4)
    | (go_simp; go_at_call 119; refine (blocks_e A B C D E F G H F3.out _ (by rw [strOfNums_size, List.length_map, List.length_range]; omega) _ ((HT.out.later B3.out).drew.later HB4.out)).mono ?_; rintro e w5 ⟨A', B', C', D', E', F', G', H', rfl, hpl, hb5⟩; have rr5 := RR4.out.later hb5 RR4.out.lt; obtain ⟨e0, e1, e2, e3, e4, e5, e6, e7⟩ := rr5.cells8; dsimp only at e0 e1 e2 e3 e4 e5 e6 e7; have g0 := rr5.frozen 0; have g1 := rr5.frozen 1; have g2 := rr5.frozen 2; have g3 := rr5.frozen 3; have g4 := rr5.frozen 4; have g5 := rr5.frozen 5; have g6 := rr5.frozen 6; have g7 := rr5.frozen 7; have RR5 := Lib.hid rr5; have HB5 := Lib.hid hb5; have HP := Lib.hid hpl; clear rr5 hb5 hpl))
  all_goals
    have hfin : shaS s = ⟨A', B', C', D', E', F', G', H'⟩ := by
      rw [← HP.out, ← HH.out]
      exact (sha_join s W (by omega) _ rfl).symm
    have b5 : Below w.heap.size w w5 := (B3.out.drew.trans (HB4.out.mono B3.out.size)).trans (HB5.out.mono (Nat.le_trans B3.out.size HB4.out.size))
    have hfs := shaS_fit s
    rw [hfin] at hfs
    have r6 := RR5.out.set8 ⟨A', B', C', D', E', F', G', H'⟩
    have b6 := below_set8 b5 (Nat.le_refl _) ⟨A', B', C', D', E', F', G', H'⟩
    dsimp only at r6 b6
    generalize World.setCell _ ⟨w.heap.size, 7, none⟩ _ = w6 at r6 b6 ⊢
    clear c0 c1 c2 c3 c4 c5 c6 c7 d0 d1 d2 d3 d4 d5 d6 d7 e0 e1 e2 e3 e4 e5 e6 e7 g0 g1 g2 g3 g4 g5 g6 g7 R3 B3 F3 RR4 HB4 RR5 HB5 HP HH b5
    obtain ⟨w7, hmk, hroom, hb7⟩ := make_room w6 32 (by omega)
    have hmk' : (Instr.makeSlice 22 (.int .i64 32) (.int .i64 32)).run Tryd.prog w6 = .ok (.slice (some ⟨w6.heap.size, 0, none⟩) 32 32) w7 := hmk
    clear hmk
    have r7 := r6.later hb7 r6.lt
    have b7 : Below w.heap.size w w7 := b6.trans (hb7.mono b6.size)
    have h67 := b6.size
    have HFin := Lib.hid hfin
    have R7 := Lib.hid r7
    have B7 := Lib.hid b7
    have HRm := Lib.hid hroom
    have HFs := Lib.hid hfs
    clear hfin r6 b6 r7 b7 hroom hb7 hfs
    go_wp2_with (refine wp_load_all 155 153 R7.out Tryd.underlying155 Tryd.size155 rfl _ rfl rfl ?_)
    go_loopw [6, 31] (fun va vi wr => ∃ k : Nat, k ≤ 8 ∧ vi = .int .i64 k ∧ va = .int .i64 (4 * k : Nat) ∧ Room wr w6.heap.size (digL ⟨A', B', C', D', E', F', G', H'⟩ k) (32 - 4 * k) ∧ Below w.heap.size w wr) (fun _ i _ => 8 - (intOf i).toNat)
    case atStart => exact ⟨0, by omega, rfl, rfl, HRm.out, B7.out⟩
    case round =>
      clear R7 B7 HRm
      obtain ⟨k, hk, rfl, rfl, hr, hbl⟩ := hrel
      have HR := Lib.hid hr
      have HB := Lib.hid hbl
      clear hr hbl
      by_cases hlt : k < 8
      · have hX := Reg.at_lt _ HFs.out k
        have hidx : ∀ wx, (Instr.index 155 (.agg (rowC .u32 8 (Reg.mk A' B' C' D' E' F' G' H').at)) (.int .i64 (k : Int))).run Tryd.prog wx = .ok (.int .u32 ((Reg.mk A' B' C' D' E' F' G' H').at k : Nat)) wx := fun wx => index_row _ k hlt wx
        generalize hXX : (Reg.mk A' B' C' D' E' F' G' H').at k = X at hX hidx
        have HX := Lib.hid hXX
        clear hXX
        go_wp2_with (go_at_call 121; refine (put_bytes_at _ _ w6.heap.size wr.heap.size 32 (4 * k) 4 (32 - 4 * k) w.heap.size (digL ⟨A', B', C', D', E', F', G', H'⟩ k) (wordL X) (HR.out.alloc _) (src_word wr X hX) rfl (digL_length _ _) rfl (by omega) (by omega) (by omega) (by omega) h67).mono ?_; rintro e w8 ⟨rfl, hr8, hb8⟩)
        go_roundw
        case rel =>
          refine ⟨k + 1, by omega, by go_num, ?_, ?_, (HB.out.alloc HB.out.size _).trans hb8⟩
          · congr 1
          · rw [digL, HX.out, show 32 - 4 * (k + 1) = 32 - 4 * k - 4 by omega]
            exact hr8
        case measure => simp only [intOf]; omega
      · obtain rfl : k = 8 := by omega
        have hconv := conv_room wr w6.heap.size _ 32 32 _ HR.out (digL_length _ _)
        go_wp2
        go_ret
        refine ⟨?_, HB.out⟩
        rw [HFin.out]
        rfl
end Go.Proofs.YtemhhjkmolndbaaDoor
