/- The walks of the program's shaMix. -/
import Derived.Test.YtemhhjkmolndbaaDoorShaW
import Derived.Test.YtemhhjkmolndbaaDoorShaT
namespace Go.Proofs.YtemhhjkmolndbaaDoor
open Go.RowKit Go.PlainAid
set_option linter.unusedVariables false

/-- The table that shaMix reads. -/
def TabK (w : World) : Prop := ∀ l : Nat, l < 64 → w.cell? ⟨3, l, none⟩ = some (.int .u32 (keyN l : Nat))
theorem TabK.later {w w' : World} (h : TabK w) (hb : Below w.heap.size w w') : TabK w' := fun l hl => cell_later hb (h l hl)
theorem wp_world {P : Program} {c : Code} {Q : Exit → Act → World → Prop} {a : Act} {w : World} (R : World → Prop) (hR : R w) (h : ∀ w1, R w1 → Code.wp P c Q a w1) : Code.wp P c Q a w := h w hR

set_option maxRecDepth 100000 in
set_option maxHeartbeats 1000000 in
theorem mix_c (s : Reg) (hs : s.fit) (W : Nat → Nat) (hW : ∀ j, W j < 4294967296) (w : World) (ht : TabK w) :
    Calls Tryd.prog 137 #[.agg (rowC .u32 8 s.at), .agg (rowC .u32 64 W)] w fun e w' => e = .returned (.agg (rowC .u32 8 (s.plus (rnds W s 64)).at)) ∧ Below w.heap.size w w' := by
  have HT := Lib.hid ht
  have HS := Lib.hid hs
  have HW := Lib.hid hW
  clear ht hs hW
  go_enter Tryd.func137, Tryd.ntmps137
  go_wp2
  refine wp_world (fun w1 => Row w1 w.heap.size .u32 155 8 s.at ∧ Row w1 (w.heap.size + 1) .u32 184 64 W ∧ Row w1 (w.heap.size + 1 + 1) .u32 155 8 (fun _ => 0) ∧ Below w.heap.size w w1) ⟨?_, ?_, ?_, ?_⟩ ?_
  · exact ((Row.new w .u32 155 8 s.at).alloc _).alloc _
  · exact (Row.made _ .u32 184 64 W _ rfl _ (by simp)).alloc _
  · exact Row.made _ .u32 155 8 (fun _ => 0) _ (by kernel_rfl) _ (by simp)
  · exact (((Below.refl _ _).alloc (Nat.le_refl _) _).alloc (by simp) _).alloc (by simp; omega) _
  rintro w1 ⟨hr1, hr2, hr3, hbl⟩
  have c0 : w1.cell? ⟨w.heap.size, 0, none⟩ = some (.int .u32 s.a) := hr1.cell 0 (by omega)
  have c1 : w1.cell? ⟨w.heap.size, 1, none⟩ = some (.int .u32 s.b) := hr1.cell 1 (by omega)
  have c2 : w1.cell? ⟨w.heap.size, 2, none⟩ = some (.int .u32 s.c) := hr1.cell 2 (by omega)
  have c3 : w1.cell? ⟨w.heap.size, 3, none⟩ = some (.int .u32 s.d) := hr1.cell 3 (by omega)
  have c4 : w1.cell? ⟨w.heap.size, 4, none⟩ = some (.int .u32 s.e) := hr1.cell 4 (by omega)
  have c5 : w1.cell? ⟨w.heap.size, 5, none⟩ = some (.int .u32 s.f) := hr1.cell 5 (by omega)
  have c6 : w1.cell? ⟨w.heap.size, 6, none⟩ = some (.int .u32 s.g) := hr1.cell 6 (by omega)
  have c7 : w1.cell? ⟨w.heap.size, 7, none⟩ = some (.int .u32 s.h) := hr1.cell 7 (by omega)
  have R1 := Lib.hid hr1
  have R2 := Lib.hid hr2
  have R3 := Lib.hid hr3
  have HB := Lib.hid hbl
  clear hr1 hr2 hr3 hbl
  go_quiet (fail)
  go_wp2
  go_loopw [5, 6, 7, 8, 9, 10, 11, 12, 36] (fun va vb vc vd ve vf vg vh vi wr => ∃ k A B C D E F G H : Nat, k ≤ 64 ∧ rnds W s k = ⟨A, B, C, D, E, F, G, H⟩ ∧ vi = .int .i64 k ∧ va = .int .u32 A ∧ vb = .int .u32 B ∧ vc = .int .u32 C ∧ vd = .int .u32 D ∧ ve = .int .u32 E ∧ vf = .int .u32 F ∧ vg = .int .u32 G ∧ vh = .int .u32 H
      ∧ Row wr w.heap.size .u32 155 8 s.at ∧ Row wr (w.heap.size + 1) .u32 184 64 W ∧ Row wr (w.heap.size + 1 + 1) .u32 155 8 (fun _ => 0) ∧ Below w.heap.size w wr) (fun _ _ _ _ _ _ _ _ i _ => 64 - (intOf i).toNat)
  case atStart => exact ⟨0, s.a, s.b, s.c, s.d, s.e, s.f, s.g, s.h, by omega, rnds_zero W s, rfl, rfl, rfl, rfl, rfl, rfl, rfl, rfl, rfl, R1.out.drewN _, R2.out.drewN _, R3.out.drewN _, below_drewN HB.out _⟩
  case round =>
    clear c0 c1 c2 c3 c4 c5 c6 c7 R1 R2 R3 HB
    obtain ⟨k, A, B, C, D, E, F, G, H, hk, hS, rfl, rfl, rfl, rfl, rfl, rfl, rfl, rfl, rfl, hr1, hr2, hr3, hbl⟩ := hrel
    by_cases hlt : k < 64
    · have hfit := rnds_fit W s HS.out k
      rw [hS] at hfit
      obtain ⟨ha, hb, hc, hd, he, hf, hg, hh⟩ := hfit
      dsimp only at ha hb hc hd he hf hg hh
      have ck : wr.cell? ⟨3, k, none⟩ = some (.int .u32 (keyN k : Nat)) := (HT.out.later hbl) k hlt
      have cw := hr2.cell k hlt
      have kl := keyN_lt k
      have wl := HW.out k
      have R1 := Lib.hid hr1
      have R2 := Lib.hid hr2
      have R3 := Lib.hid hr3
      have HB := Lib.hid hbl
      have HN := Lib.hid hS
      clear hr1 hr2 hr3 hbl hS
      generalize hKK : keyN k = KK at ck kl
      generalize hWW : W k = WW at cw wl
      have HK := Lib.hid hKK
      have HW2 := Lib.hid hWW
      clear hKK hWW
      have n1 := u32_not E he
      have hN : 4294967295 - E < 4294967296 := by omega
      have hch : (E &&& F) ^^^ ((4294967295 - E) &&& G) = chN E F G := rfl
      generalize 4294967295 - E = N at n1 hN hch
      have a1 := u32_and_nat E F he hf
      have a2 := u32_and_nat N G hN hg
      have a3 := u32_xor_nat (E &&& F) (N &&& G) (and_lt32 _ he) (and_lt32 _ hN)
      rw [hch] at a3
      have m1 := u32_and_nat A B ha hb
      have m2 := u32_and_nat A C ha hc
      have m3 := u32_xor_nat (A &&& B) (A &&& C) (and_lt32 _ ha) (and_lt32 _ ha)
      have m4 := u32_and_nat B C hb hc
      have m5 : bits .xor .u32 (((A &&& B) ^^^ (A &&& C) : Nat) : Int) ((B &&& C : Nat) : Int) = ((mjN A B C : Nat) : Int) := u32_xor_nat ((A &&& B) ^^^ (A &&& C)) (B &&& C) (xor_lt32 (and_lt32 _ ha) (and_lt32 _ ha)) (and_lt32 _ hb)
      have r1 := u32_xor_nat (rotz E 6) (rotz E 11) (rotz_lt _ _) (rotz_lt _ _)
      have r2 : bits .xor .u32 ((rotz E 6 ^^^ rotz E 11 : Nat) : Int) ((rotz E 25 : Nat) : Int) = ((bg1 E : Nat) : Int) := u32_xor_nat (rotz E 6 ^^^ rotz E 11) (rotz E 25) (xor_lt32 (rotz_lt _ _) (rotz_lt _ _)) (rotz_lt _ _)
      have q1 := u32_xor_nat (rotz A 2) (rotz A 13) (rotz_lt _ _) (rotz_lt _ _)
      have q2 : bits .xor .u32 ((rotz A 2 ^^^ rotz A 13 : Nat) : Int) ((rotz A 22 : Nat) : Int) = ((bg0 A : Nat) : Int) := u32_xor_nat (rotz A 2 ^^^ rotz A 13) (rotz A 22) (xor_lt32 (rotz_lt _ _) (rotz_lt _ _)) (rotz_lt _ _)
      clear hch
      go_wp2
      refine wp_region_quiet_tail 20 (by kernel_rfl) (by kernel_rfl) ?_
      simp only [List.take_succ_cons, List.take_zero, List.drop_succ_cons, List.drop_zero]
      repeat (first | go_big_quiet_step (fail))
      go_big_quiet_want
      go_big_quiet_op
      refine ⟨_, turn_z E _ _ he (by decide) (by decide), ?_⟩
      go_big_quiet_on
      repeat (first | go_big_quiet_step (fail))
      go_big_quiet_want
      go_big_quiet_op
      refine ⟨_, turn_z E _ _ he (by decide) (by decide), ?_⟩
      go_big_quiet_on
      repeat (first | go_big_quiet_step (fail))
      go_big_quiet_want
      go_big_quiet_op
      refine ⟨_, turn_z E _ _ he (by decide) (by decide), ?_⟩
      go_big_quiet_on
      repeat (first | go_big_quiet_step (fail))
      refine wpQuiet_nil ?_
      go_wp2_with (go_at_call 152; refine (turn_z A _ _ ha (by decide) (by decide)).mono ?_; rintro e w' ⟨rfl, rfl⟩)
      go_roundw
      case rel =>
        refine ⟨k + 1, _, A, B, C, _, E, F, G, by omega, by rw [rnds_succ, HN.out, HK.out, HW2.out, rnd_mk], by go_num, ?_, rfl, rfl, rfl, ?_, rfl, rfl, rfl, R1.out, R2.out, R3.out, HB.out.drew⟩
        · congr 1; omega
        · congr 1; omega
      case measure => simp [intOf]; omega
    · obtain rfl : k = 64 := by omega
      have R1 := Lib.hid hr1
      have R2 := Lib.hid hr2
      have R3 := Lib.hid hr3
      have HB := Lib.hid hbl
      have HN := Lib.hid hS
      clear hr1 hr2 hr3 hbl hS hk hlt
      have hS : (Reg.mk A B C D E F G H).fit := by
        have h := rnds_fit W s HS.out 64
        rw [HN.out] at h
        exact h
      have HF := Lib.hid hS
      clear hS
      have l3 := R3.out.lt
      have hBs := HB.out.size
      go_wp2
      go_loopw [110] (fun vi wx => ∃ m : Nat, m ≤ 8 ∧ vi = .int .i64 m ∧ Row wx w.heap.size .u32 155 8 (fun j => if j < m then (s.at j + (Reg.mk A B C D E F G H).at j) % 4294967296 else s.at j) ∧ Row wx (w.heap.size + 1 + 1) .u32 155 8 (fun _ => 0) ∧ Row wx wr.heap.size .u32 155 8 (Reg.mk A B C D E F G H).at ∧ Below w.heap.size w wx) (fun i _ => 8 - (intOf i).toNat)
      case atStart =>
        refine ⟨0, by omega, rfl, ?_, R3.out.alloc _, Row.made wr .u32 155 8 (Reg.mk A B C D E F G H).at _ (by kernel_rfl) _ rfl, HB.out.alloc hBs _⟩
        exact (R1.out.alloc _).congr (fun j _ => by simp)
      case round =>
        clear R1 R2 R3 HB
        obtain ⟨m, hm, rfl, hr1, hr3, hr4, hbl⟩ := hrel
        by_cases hlt : m < 8
        · have c1 := hr1.cell m hlt
          have f1 := hr1.frozen m
          have c4 := hr4.cell m hlt
          rw [if_neg (by omega)] at c1
          have b1 := Reg.at_lt s HS.out m
          have b2 := Reg.at_lt _ HF.out m
          have R1 := Lib.hid hr1
          have R3 := Lib.hid hr3
          have R4 := Lib.hid hr4
          have HB := Lib.hid hbl
          clear hr1 hr3 hr4 hbl
          generalize hX : s.at m = X at c1 b1
          generalize hY : (Reg.mk A B C D E F G H).at m = Y at c4 b2
          have HX := Lib.hid hX
          have HY := Lib.hid hY
          clear hX hY
          go_wp2
          refine wp_region_quiet_tail 8 (by kernel_rfl) (by kernel_rfl) ?_
          simp only [List.take_succ_cons, List.take_zero, List.drop_succ_cons, List.drop_zero]
          repeat (first | go_big_quiet_step (fail))
          refine wpQuiet_nil ?_
          go_wp2
          go_roundw
          case rel =>
            refine ⟨m + 1, by omega, by go_num, ?_, ?_, ?_, ?_⟩
            · refine (R1.out.drew.set_eq m ((X + Y) % 4294967296) _ (by omega)).congr ?_
              intro j hj
              by_cases e : j = m
              · subst e
                rw [upd_same, if_pos (by omega), HX.out, HY.out]
              · rw [upd_other _ _ _ _ e]
                by_cases hjm : j < m
                · rw [if_pos hjm, if_pos (by omega)]
                · rw [if_neg hjm, if_neg (by omega)]
            · exact R3.out.drew.set_other _ _ (by simp; omega)
            · exact R4.out.drew.set_other _ _ (by simp; omega)
            · exact HB.out.drew.setCell (by simp) _
          case measure => simp [intOf]; omega
        · obtain rfl : m = 8 := by omega
          have R1 := Lib.hid hr1
          have R3 := Lib.hid hr3
          have R4 := Lib.hid hr4
          have HB := Lib.hid hbl
          clear hr1 hr3 hr4 hbl hm hlt
          go_wp2_with (first | refine wp_load_all 155 153 R1.out Tryd.underlying155 Tryd.size155 rfl _ rfl rfl ?_ | refine wp_store_all 155 R3.out Tryd.size155 rfl _ _ rfl rfl rfl ?_)
          refine bodyPost_ret (v := .agg (rowC .u32 8 (fun j => if j < 8 then (s.at j + (Reg.mk A B C D E F G H).at j) % 4294967296 else s.at j))) ?_ rfl ⟨?_, ?_⟩
          · exact results_all (e := 153) Tryd.results137 _ _ (w.heap.size + 1 + 1) 8 _ 155 (R3.out.setRow _) rfl Tryd.underlying155 Tryd.size155
          · rw [HN.out]
            congr 2
          · exact below_setRow HB.out (by omega) _
end Go.Proofs.YtemhhjkmolndbaaDoor
