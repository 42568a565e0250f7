/- The walks of the model's l3Block. -/
import Derived.Test.YtemhhjkmolndbaaDoorShaV
import Derived.Test.YtemhhjkmolndbaaDoorShaX
import Derived.Deep.RegionLaw
namespace Go.Proofs.YtemhhjkmolndbaaDoor
open Go.RowKit Go.PlainAid
set_option linter.unusedVariables false

theorem join4 (b0 b1 b2 b3 : Int) (h0 : 0 ≤ b0) (h0' : b0 ≤ 255) (h1 : 0 ≤ b1) (h1' : b1 ≤ 255) (h2 : 0 ≤ b2) (h2' : b2 ≤ 255) (h3 : 0 ≤ b3) (h3' : b3 ≤ 255) :
    bits .or .i64 (b0 * 16777216) (b1 * 65536) = b0 * 16777216 + b1 * 65536 ∧ bits .or .i64 (b0 * 16777216 + b1 * 65536) (b2 * 256) = b0 * 16777216 + b1 * 65536 + b2 * 256
    ∧ bits .or .i64 (b0 * 16777216 + b1 * 65536 + b2 * 256) b3 = b0 * 16777216 + b1 * 65536 + b2 * 256 + b3 :=
  ⟨i64_or_join 24 _ _ (by omega) (by omega) (by omega) (by omega) (by omega) (by omega), i64_or_join 16 _ _ (by omega) (by omega) (by omega) (by omega) (by omega) (by omega), i64_or_join 8 _ _ (by omega) (by omega) (by omega) (by omega) (by omega) (by omega)⟩
theorem bpart4 (b : ByteArray) (o : Nat) : ((bpart (btn b) o 4 : Nat) : Int) = bt b o * 16777216 + bt b (o + 1) * 65536 + bt b (o + 2) * 256 + bt b (o + 3) := by
  have e0 := btn_cast b o; have e1 := btn_cast b (o + 1); have e2 := btn_cast b (o + 2); have e3 := btn_cast b (o + 3)
  simp only [bpart, Nat.add_zero]
  omega

set_option maxRecDepth 100000 in
set_option maxHeartbeats 4000000 in
theorem block_c (s : Reg) (hs : s.fit) (b : ByteArray) (hb : b.size = 64) (hg hc kg kc : Nat) (w : World) (hh : IntsAt w hg 8 s.at) (hk : IntsAt w kg 64 keyN) :
    Calls Tryd.prog 98 #[.slice (some ⟨hg, 0, none⟩) 8 hc, .string b, .slice (some ⟨kg, 0, none⟩) 64 kc] w fun e w' =>
      ∃ g cap, e = .returned (.slice (some ⟨g, 0, none⟩) 8 cap) ∧ IntsAt w' g 8 (blk s (btn b)).at ∧ Below w.heap.size w w' := by
  have HH := Lib.hid hh
  have HK := Lib.hid hk
  have HS := Lib.hid hs
  clear hh hk hs
  obtain ⟨w1, hmk, hr1, hb1⟩ := make_ints w 64 (by omega)
  have hmk' : (Instr.makeSlice 117 (.int .i64 64) (.int .i64 64)).run Tryd.prog w = .ok (.slice (some ⟨w.heap.size, 0, none⟩) 64 64) w1 := hmk
  have R1 := Lib.hid hr1
  have B1 := Lib.hid hb1
  clear hmk hr1 hb1
  go_enter Tryd.func98, Tryd.ntmps98
  go_wp2
  go_loopw [8] (fun i wr => ∃ (k : Nat) (f : Nat → Nat), k ≤ 16 ∧ i = .int .i64 k ∧ Row wr w.heap.size .i64 3 64 f ∧ (∀ j, j < k → f j = schW (btn b) j) ∧ Below w.heap.size w wr) (fun i _ => 16 - (intOf i).toNat)
  case atStart => exact ⟨0, _, by omega, rfl, R1.out, fun j hj => absurd hj (Nat.not_lt_zero j), B1.out⟩
  case round =>
    clear R1 B1 hmk'
    obtain ⟨k, f, hk, rfl, hr, hfs, hbl⟩ := hrel
    by_cases hlt : k < 16
    · have g0 := get_bt b (4 * k) (by omega)
      have g1 := get_bt b (4 * k + 1) (by omega)
      have g2 := get_bt b (4 * k + 2) (by omega)
      have g3 := get_bt b (4 * k + 3) (by omega)
      obtain ⟨o1, o2, o3⟩ := join4 (bt b (4 * k)) (bt b (4 * k + 1)) (bt b (4 * k + 2)) (bt b (4 * k + 3)) (bt_nonneg _ _) (bt_le _ _) (bt_nonneg _ _) (bt_le _ _) (bt_nonneg _ _) (bt_le _ _) (bt_nonneg _ _) (bt_le _ _)
      have p0 := bt_nonneg b (4 * k); have p0' := bt_le b (4 * k)
      have p1 := bt_nonneg b (4 * k + 1); have p1' := bt_le b (4 * k + 1)
      have p2 := bt_nonneg b (4 * k + 2); have p2' := bt_le b (4 * k + 2)
      have p3 := bt_nonneg b (4 * k + 3); have p3' := bt_le b (4 * k + 3)
      have hsum := bpart4 b (4 * k)
      rw [← schW_low (btn b) k hlt] at hsum
      rw [← hsum] at o3
      have hf := hr.frozen k
      have ck := hr.cell k (by omega)
      have z0 : (0 : Int) ≤ 4 * (k : Int) := by omega
      have z0' : 4 * (k : Int) < 64 := by omega
      have z1 : (0 : Int) ≤ 4 * (k : Int) + 1 := by omega
      have z1' : 4 * (k : Int) + 1 < 64 := by omega
      have z2 : (0 : Int) ≤ 4 * (k : Int) + 2 := by omega
      have z2' : 4 * (k : Int) + 2 < 64 := by omega
      have z3 : (0 : Int) ≤ 4 * (k : Int) + 3 := by omega
      have z3' : 4 * (k : Int) + 3 < 64 := by omega
      have HR := Lib.hid hr
      have HB := Lib.hid hbl
      have HF := Lib.hid hfs
      clear hr hbl hfs hsum
      go_wp2
      refine wp_region_quiet_tail 32 (by kernel_rfl) (by kernel_rfl) ?_
      simp only [List.take_succ_cons, List.take_zero, List.drop_succ_cons, List.drop_zero]
      repeat (first | go_big_quiet_step (fail))
      refine wpQuiet_nil ?_
      go_wp2
      go_roundw
      case rel =>
        refine ⟨k + 1, _, by omega, by go_num, HR.out.drew.set k (schW (btn b) k), ?_, HB.out.drew.setCell (by simp) _⟩
        intro j hj
        by_cases e : j = k
        · subst e; rw [upd_same]
        · rw [upd_other _ _ _ _ e, HF.out j (by omega)]
      case measure => simp [intOf]; omega
    · obtain rfl : k = 16 := by omega
      have HR := Lib.hid hr
      have HB := Lib.hid hbl
      have HF := Lib.hid hfs
      clear hr hbl hfs hk hlt
      go_wp2
      go_loopw [9] (fun i wx => ∃ (k : Nat) (f : Nat → Nat), 16 ≤ k ∧ k ≤ 64 ∧ i = .int .i64 k ∧ Row wx w.heap.size .i64 3 64 f ∧ (∀ j, j < k → f j = schW (btn b) j) ∧ Below w.heap.size w wx) (fun i _ => 64 - (intOf i).toNat)
      case atStart => exact ⟨16, _, by omega, by omega, rfl, HR.out, HF.out, HB.out⟩
      case round =>
        clear HR HF HB
        obtain ⟨k, f, hk16, hk, rfl, hr, hfs, hbl⟩ := hrel
        by_cases hlt : k < 64
        · have c15 := hr.cell (k - 15) (by omega)
          have c2 := hr.cell (k - 2) (by omega)
          have c16 := hr.cell (k - 16) (by omega)
          have c7 := hr.cell (k - 7) (by omega)
          rw [hfs _ (by omega)] at c15 c2 c16 c7
          have hf := hr.frozen k
          have ck := hr.cell k hlt
          have hn := schW_high (btn b) k hk16 hlt
          have E1 := schW_lt (btn b) (btn_lt b) (k - 15)
          have L1 := schW_lt (btn b) (btn_lt b) (k - 2)
          have P1 := schW_lt (btn b) (btn_lt b) (k - 16)
          have G1 := schW_lt (btn b) (btn_lt b) (k - 7)
          generalize schW (btn b) (k - 15) = E at c15 hn E1
          generalize schW (btn b) (k - 2) = L at c2 hn L1
          generalize schW (btn b) (k - 16) = P at c16 hn P1
          generalize schW (btn b) (k - 7) = G at c7 hn G1
          have x1 := i64_xor_nat (rotz E 7) (rotz E 18) (Nat.lt_trans (rotz_lt _ _) (by decide)) (Nat.lt_trans (rotz_lt _ _) (by decide))
          have x2 : bits .xor .i64 ((rotz E 7 ^^^ rotz E 18 : Nat) : Int) ((E : Int) / 8) = ((sg0 E : Nat) : Int) := i64_xor_nat (rotz E 7 ^^^ rotz E 18) (E / 8) (Nat.lt_trans (xor_lt32 (rotz_lt _ _) (rotz_lt _ _)) (by decide)) (by omega)
          have y1 := i64_xor_nat (rotz L 17) (rotz L 19) (Nat.lt_trans (rotz_lt _ _) (by decide)) (Nat.lt_trans (rotz_lt _ _) (by decide))
          have y2 : bits .xor .i64 ((rotz L 17 ^^^ rotz L 19 : Nat) : Int) ((L : Int) / 1024) = ((sg1 L : Nat) : Int) := i64_xor_nat (rotz L 17 ^^^ rotz L 19) (L / 1024) (Nat.lt_trans (xor_lt32 (rotz_lt _ _) (rotz_lt _ _)) (by decide)) (by omega)
          have s0 := sg0_lt E E1
          have s1 := sg1_lt L L1
          generalize sg0 E = S0 at x2 s0 hn
          generalize sg1 L = S1 at y2 s1 hn
          have HR := Lib.hid hr
          have HB := Lib.hid hbl
          have HF := Lib.hid hfs
          have HN := Lib.hid hn
          clear hr hbl hfs hn
          go_wp2
          refine wp_region_quiet_tail 20 (by kernel_rfl) (by kernel_rfl) ?_
          simp only [List.take_succ_cons, List.take_zero, List.drop_succ_cons, List.drop_zero]
          repeat (first | go_big_quiet_step (fail))
          go_big_quiet_want
          go_big_quiet_op
          refine ⟨_, right_z E _ _ E1 (by decide) (by decide), ?_⟩
          go_big_quiet_on
          repeat (first | go_big_quiet_step (fail))
          go_big_quiet_want
          go_big_quiet_op
          refine ⟨_, right_z E _ _ E1 (by decide) (by decide), ?_⟩
          go_big_quiet_on
          repeat (first | go_big_quiet_step (fail))
          refine wpQuiet_nil ?_
          go_wp2
          refine wp_region_quiet_tail 20 (by kernel_rfl) (by kernel_rfl) ?_
          simp only [List.take_succ_cons, List.take_zero, List.drop_succ_cons, List.drop_zero]
          repeat (first | go_big_quiet_step (fail))
          go_big_quiet_want
          go_big_quiet_op
          refine ⟨_, right_z L _ _ L1 (by decide) (by decide), ?_⟩
          go_big_quiet_on
          repeat (first | go_big_quiet_step (fail))
          go_big_quiet_want
          go_big_quiet_op
          refine ⟨_, right_z L _ _ L1 (by decide) (by decide), ?_⟩
          go_big_quiet_on
          repeat (first | go_big_quiet_step (fail))
          refine wpQuiet_nil ?_
          go_wp2
          refine wp_region_quiet_tail 19 (by kernel_rfl) (by kernel_rfl) ?_
          simp only [List.take_succ_cons, List.take_zero, List.drop_succ_cons, List.drop_zero]
          repeat (first | go_big_quiet_step (fail))
          go_big_quiet_want
          go_big_quiet_op
          refine ⟨_, word_z _ _ (by omega) (by omega), ?_⟩
          go_big_quiet_on
          repeat (first | go_big_quiet_step (fail))
          refine wpQuiet_nil ?_
          go_wp2
          go_roundw
          case rel =>
            refine ⟨k + 1, _, by omega, by omega, by go_num, Row.set_eq (w := wr.drew.drew.drew) HR.out k (schW (btn b) k) _ ?_, ?_, ?_⟩
            · rw [HN.out]; omega
            · intro j hj
              by_cases e : j = k
              · subst e; rw [upd_same]
              · rw [upd_other _ _ _ _ e, HF.out j (by omega)]
            · exact HB.out.drew.drew.drew.setCell (by simp) _
          case measure => simp [intOf]; omega
        · obtain rfl : k = 64 := by omega
          have hr' := hr.congr hfs
          have HR := Lib.hid hr'
          have HB := Lib.hid hbl
          clear hr hbl hfs hr' hk hlt hk16
          go_wp2_with (refine wp_append_ints rfl (.tmp 120) (.tmp 121) rfl wr.heap.size _ [] ((List.range 8).map fun j => ((s.at j : Nat) : Int)) (by simp [Act.eval]) (growsI_empty wr) hg 8 hc (by simp [Act.eval]) (by simp) ((HH.out.later (HB.out.alloc HB.out.size _)).src 8) (by simp) (by simp) ?_; intro v3 w3 hgr3 hb3; obtain ⟨g3, cap3, rfl, hi3⟩ := hgr3.take 8 (by simp) (by omega) s.at (fun j hj => by simp [hj]))
          have r3 := (HR.out.alloc _).later hb3 HR.out.lt
          have b3 : Below w.heap.size w w3 := (HB.out.alloc HB.out.size _).trans (hb3.mono HB.out.size)
          have R3 := Lib.hid r3
          have B3 := Lib.hid b3
          have I3 := Lib.hid hi3
          clear r3 b3 hi3 hb3 hgr3 HR HB
          go_loopw [12, 13] (fun vv vi wx => ∃ k A B C D E F G H g cap : Nat, k ≤ 64 ∧ rnds (schW (btn b)) s k = ⟨A, B, C, D, E, F, G, H⟩ ∧ vi = .int .i64 k ∧ vv = .slice (some ⟨g, 0, none⟩) 8 cap ∧ IntsAt wx g 8 (Reg.mk A B C D E F G H).at ∧ Row wx w.heap.size .i64 3 64 (schW (btn b)) ∧ Below w.heap.size w wx) (fun _ i _ => 64 - (intOf i).toNat)
          case atStart => exact ⟨0, s.a, s.b, s.c, s.d, s.e, s.f, s.g, s.h, g3, cap3, by omega, rnds_zero _ s, rfl, rfl, I3.out, R3.out, B3.out⟩
          case round =>
            clear R3 B3 I3
            obtain ⟨k, A, B, C, D, E, F, G, H, g, cap, hk, hS, rfl, rfl, hi, hr, hbl⟩ := hrel
            by_cases hlt : k < 64
            · have hfit := rnds_fit (schW (btn b)) s HS.out k
              rw [hS] at hfit
              obtain ⟨ha, hb', hc', hd, he, hf, hg', hh⟩ := hfit
              dsimp only at ha hb' hc' hd he hf hg' hh
              obtain ⟨c0, c1, c2, c3, c4, c5, c6, c7⟩ := hi.cells8
              dsimp only at c0 c1 c2 c3 c4 c5 c6 c7
              have ck := (HK.out.later hbl) k hlt
              have cw := hr.cell k hlt
              have kl := keyN_lt k
              have wl := schW_lt (btn b) (btn_lt b) k
              have R1 := Lib.hid hr
              have HB := Lib.hid hbl
              have HN := Lib.hid hS
              clear hr hbl hS hi
              generalize hKK : keyN k = KK at ck kl
              generalize hWW : schW (btn b) k = WW at cw wl
              have HK2 := Lib.hid hKK
              have HW2 := Lib.hid hWW
              clear hKK hWW
              have W63 : (4294967296 : Nat) ≤ 9223372036854775808 := by decide
              have hN : 4294967295 - E < 4294967296 := by omega
              have a1 := i64_and_nat E F (Nat.lt_of_lt_of_le he W63) (Nat.lt_of_lt_of_le hf W63)
              have a2 := i64_and_nat (4294967295 - E) G (Nat.lt_of_lt_of_le hN W63) (Nat.lt_of_lt_of_le hg' W63)
              have a3 : bits .xor .i64 ((E &&& F : Nat) : Int) (((4294967295 - E) &&& G : Nat) : Int) = ((chN E F G : Nat) : Int) := i64_xor_nat (E &&& F) ((4294967295 - E) &&& G) (Nat.lt_of_lt_of_le (and_lt32 _ he) W63) (Nat.lt_of_lt_of_le (and_lt32 _ hN) W63)
              have m1 := i64_and_nat A B (Nat.lt_of_lt_of_le ha W63) (Nat.lt_of_lt_of_le hb' W63)
              have m2 := i64_and_nat A C (Nat.lt_of_lt_of_le ha W63) (Nat.lt_of_lt_of_le hc' W63)
              have m3 := i64_xor_nat (A &&& B) (A &&& C) (Nat.lt_of_lt_of_le (and_lt32 _ ha) W63) (Nat.lt_of_lt_of_le (and_lt32 _ ha) W63)
              have m4 := i64_and_nat B C (Nat.lt_of_lt_of_le hb' W63) (Nat.lt_of_lt_of_le hc' W63)
              have m5 : bits .xor .i64 (((A &&& B) ^^^ (A &&& C) : Nat) : Int) ((B &&& C : Nat) : Int) = ((mjN A B C : Nat) : Int) := i64_xor_nat ((A &&& B) ^^^ (A &&& C)) (B &&& C) (Nat.lt_of_lt_of_le (xor_lt32 (and_lt32 _ ha) (and_lt32 _ ha)) W63) (Nat.lt_of_lt_of_le (and_lt32 _ hb') W63)
              have r1 := i64_xor_nat (rotz E 6) (rotz E 11) (Nat.lt_of_lt_of_le (rotz_lt _ _) W63) (Nat.lt_of_lt_of_le (rotz_lt _ _) W63)
              have r2 : bits .xor .i64 ((rotz E 6 ^^^ rotz E 11 : Nat) : Int) ((rotz E 25 : Nat) : Int) = ((bg1 E : Nat) : Int) := i64_xor_nat (rotz E 6 ^^^ rotz E 11) (rotz E 25) (Nat.lt_of_lt_of_le (xor_lt32 (rotz_lt _ _) (rotz_lt _ _)) W63) (Nat.lt_of_lt_of_le (rotz_lt _ _) W63)
              have q1 := i64_xor_nat (rotz A 2) (rotz A 13) (Nat.lt_of_lt_of_le (rotz_lt _ _) W63) (Nat.lt_of_lt_of_le (rotz_lt _ _) W63)
              have q2 : bits .xor .i64 ((rotz A 2 ^^^ rotz A 13 : Nat) : Int) ((rotz A 22 : Nat) : Int) = ((bg0 A : Nat) : Int) := i64_xor_nat (rotz A 2 ^^^ rotz A 13) (rotz A 22) (Nat.lt_of_lt_of_le (xor_lt32 (rotz_lt _ _) (rotz_lt _ _)) W63) (Nat.lt_of_lt_of_le (rotz_lt _ _) W63)
              have l1 := chN_lt E F G he
              have l2 := mjN_lt A B C ha hb'
              have l3 := bg1_lt E
              have l4 := bg0_lt A
              clear W63
              go_wp2
              refine wp_region_quiet_tail 36 (by kernel_rfl) (by kernel_rfl) ?_
              simp only [List.take_succ_cons, List.take_zero, List.drop_succ_cons, List.drop_zero]
              repeat (first | go_big_quiet_step (fail))
              go_big_quiet_want
              go_big_quiet_op
              refine ⟨_, right_z E _ _ he (by decide) (by decide), ?_⟩
              go_big_quiet_on
              repeat (first | go_big_quiet_step (fail))
              go_big_quiet_want
              go_big_quiet_op
              refine ⟨_, right_z E _ _ he (by decide) (by decide), ?_⟩
              go_big_quiet_on
              repeat (first | go_big_quiet_step (fail))
              go_big_quiet_want
              go_big_quiet_op
              refine ⟨_, right_z E _ _ he (by decide) (by decide), ?_⟩
              go_big_quiet_on
              repeat (first | go_big_quiet_step (fail))
              go_big_quiet_want
              go_big_quiet_op
              refine ⟨_, not_z E _ he, ?_⟩
              go_big_quiet_on
              repeat (first | go_big_quiet_step (fail))
              refine wpQuiet_nil ?_
              go_wp2
              refine wp_region_quiet_tail 28 (by kernel_rfl) (by kernel_rfl) ?_
              simp only [List.take_succ_cons, List.take_zero, List.drop_succ_cons, List.drop_zero]
              repeat (first | go_big_quiet_step (fail))
              go_big_quiet_want
              go_big_quiet_op
              refine ⟨_, right_z A _ _ ha (by decide) (by decide), ?_⟩
              go_big_quiet_on
              repeat (first | go_big_quiet_step (fail))
              go_big_quiet_want
              go_big_quiet_op
              refine ⟨_, right_z A _ _ ha (by decide) (by decide), ?_⟩
              go_big_quiet_on
              repeat (first | go_big_quiet_step (fail))
              go_big_quiet_want
              go_big_quiet_op
              refine ⟨_, right_z A _ _ ha (by decide) (by decide), ?_⟩
              go_big_quiet_on
              repeat (first | go_big_quiet_step (fail))
              refine wpQuiet_nil ?_
              go_wp2
              refine wp_region_quiet_tail 28 (by kernel_rfl) (by kernel_rfl) ?_
              simp only [List.take_succ_cons, List.take_zero, List.drop_succ_cons, List.drop_zero]
              repeat (first | go_big_quiet_step (fail))
              go_big_quiet_want
              go_big_quiet_op
              refine ⟨_, word_z _ _ (by omega) (by omega), ?_⟩
              go_big_quiet_on
              repeat (first | go_big_quiet_step (fail))
              go_big_quiet_want
              go_big_quiet_op
              refine ⟨_, word_z _ _ (by omega) (by omega), ?_⟩
              go_big_quiet_on
              repeat (first | go_big_quiet_step (fail))
              refine wpQuiet_nil ?_
              go_wp2
              go_roundw
              case rel =>
                refine ⟨k + 1, _, A, B, C, _, E, F, G, wr.heap.size, 8, by omega, by rw [rnds_succ, HN.out, HK2.out, HW2.out, rnd_mk], by go_num, rfl, ?_, R1.out.alloc _, HB.out.drew.drew.drew.alloc HB.out.size _⟩
                refine ints8 wr.drew.drew.drew _ _ _ _ _ _ _ _ _ ?_ rfl rfl rfl ?_ rfl rfl rfl
                · dsimp only; omega
                · dsimp only; omega
              case measure => simp [intOf]; omega
            · obtain rfl : k = 64 := by omega
              have hfit := rnds_fit (schW (btn b)) s HS.out 64
              rw [hS] at hfit
              have hblk : blk s (btn b) = s.plus ⟨A, B, C, D, E, F, G, H⟩ := by rw [blk, hS]
              have HI := Lib.hid hi
              have HB := Lib.hid hbl
              have HF := Lib.hid hfit
              have HBk := Lib.hid hblk
              clear hr hbl hi hS hk hlt hfit hblk
              go_wp2
              go_loopw [18, 19] (fun vo vi wx => ∃ m : Nat, m ≤ 8 ∧ vi = .int .i64 m ∧ GrowsI wx wr.heap.size vo ((List.range m).map fun j => (((s.plus ⟨A, B, C, D, E, F, G, H⟩).at j : Nat) : Int)) ∧ Below wr.heap.size wr wx) (fun _ i _ => 8 - (intOf i).toNat)
              case atStart => exact ⟨0, by omega, rfl, growsI_empty wr, (Below.refl _ _).alloc (Nat.le_refl _) _⟩
              case round =>
                obtain ⟨m, hm, rfl, hgr, hb4⟩ := hrel
                have HG := Lib.hid hgr
                have H4 := Lib.hid hb4
                by_cases hlt : m < 8
                · have ch := (HH.out.later (HB.out.trans (hb4.mono HB.out.size))) m hlt
                  have cv := (HI.out.later hb4) m hlt
                  have b1 := Reg.at_lt s HS.out m
                  have b2 := Reg.at_lt _ HF.out m
                  have hpl := plus_at s ⟨A, B, C, D, E, F, G, H⟩ m hlt
                  generalize s.at m = X at ch b1 hpl
                  generalize (Reg.mk A B C D E F G H).at m = Y at cv b2 hpl
                  have HP := Lib.hid hpl
                  clear hgr hb4 hpl
                  have y1 : (0 : Int) ≤ (m : Int) := by omega
                  have y2 : (m : Int) < 8 := by omega
                  have y3 : IntKind.i64.wrap ((X : Int) + (Y : Int)) = (X : Int) + (Y : Int) := IntWalk.i64_in _ (by omega)
                  go_wp2
                  go_region_law (first
                    | (refine step_append_ints rfl (.tmp 231) (.tmp 242) rfl _ u18 _ [((X : Int) + (Y : Int)) % 4294967296] (by simp [Act.eval]) (HG.out.alloc _).drew wr.heap.size 1 1 (by simp [Act.eval]) rfl (srcI_one wr _).drew (by simp; omega) (by have := H4.out.size; simp; omega) ?_; intro v' w' hgr' hb')
                    | (go_simp; go_at_call 123; refine (word_z _ _ (by omega) (by omega)).mono ?_; rintro e w' ⟨rfl, rfl⟩))
                  all_goals go_wp2
                  all_goals
                    go_roundw
                    case rel =>
                      refine ⟨_, _, _, _, _, _, _, _, _, _, _, _, _, _, _, _, _, _, _, ⟨m + 1, ?_, ?_, ?_, ((H4.out.alloc H4.out.size _).drew).trans hb'⟩, rfl⟩
                      · omega
                      · go_num
                      rw [List.range_succ, List.map_append, List.map_singleton, HP.out]
                      have e : ((X : Int) + (Y : Int)) % 4294967296 = (((X + Y) % 4294967296 : Nat) : Int) := by omega
                      rw [← e]
                      exact hgr'
                    case measure => simp [intOf]; omega
                · obtain rfl : m = 8 := by omega
                  obtain ⟨go, co, rfl, hio⟩ := hgr.take 8 (by simp) (by omega) (s.plus ⟨A, B, C, D, E, F, G, H⟩).at (fun j hj => by simp [hj])
                  have HIO := Lib.hid hio
                  clear hgr hb4 hio HG
                  go_wp2
                  go_ret
                  refine ⟨go, co, rfl, ?_, HB.out.trans (H4.out.mono HB.out.size)⟩
                  rw [HBk.out]
                  exact HIO.out
end Go.Proofs.YtemhhjkmolndbaaDoor
