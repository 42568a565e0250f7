/- The walks of the program's shaWords. -/
import Derived.Test.YtemhhjkmolndbaaDoorShaW
import Derived.Test.YtemhhjkmolndbaaDoorShaT
namespace Go.Proofs.YtemhhjkmolndbaaDoor
open Go.RowKit Go.PlainAid
set_option linter.unusedVariables false

theorem u32_or_byte (x : Nat) (b : Int) (hx : x < 16777216) (h0 : 0 ≤ b) (h1 : b ≤ 255) : bits .or .u32 ((x : Int) * 256) b = ((x * 256 + b.toNat : Nat) : Int) := by
  have h := u32_or ((x : Int) * 256) b (by omega) (by omega) h0 (by omega)
  rw [h]
  congr 1
  exact nat_join 8 _ _ (by omega) (by omega)

set_option maxHeartbeats 400000 in
theorem words_c (b : ByteArray) (w : World) (hb : b.size = 64) :
    Calls Tryd.prog 138 #[.string b] w fun e w' => e = .returned (.agg (rowC .u32 64 (schW (btn b)))) ∧ Below w.heap.size w w' := by
  go_enter Tryd.func138, Tryd.ntmps138
  go_wp2
  go_loopw [8] (fun i wr => ∃ k : Nat, k ≤ 64 ∧ i = .int .i64 k ∧ Row wr (w.heap.size + 1) .u32 184 64 (fun j => bpart (btn b) (4 * j) (min 4 (k - 4 * j))) ∧ Row wr w.heap.size .u32 184 64 (fun _ => 0) ∧ Below w.heap.size w wr) (fun i _ => 64 - (intOf i).toNat)
  case atStart =>
    refine ⟨0, by omega, rfl, ?_, ?_, ?_⟩
    · refine Row.congr (f := fun _ => 0) ?_ (fun j _ => by rw [show min 4 (0 - 4 * j) = 0 by omega]; rfl)
      exact Row.made _ .u32 184 64 (fun _ => 0) _ (by kernel_rfl) _ (by simp)
    · exact (Row.made w .u32 184 64 (fun _ => 0) _ (by kernel_rfl) _ rfl).alloc _
    · exact ((Below.refl _ _).alloc (Nat.le_refl _) _).alloc (by simp) _
  case round =>
    obtain ⟨k, hk, rfl, hr, hr0, hbl⟩ := hrel
    by_cases hlt : k < 64
    · have hkb : k < b.size := by omega
      have hg := get_bt b k hkb
      have hc := hr.cell (k / 4) (by omega)
      have hf := hr.frozen (k / 4)
      have hm : min 4 (k - 4 * (k / 4)) = k % 4 := by omega
      have hX : bpart (btn b) (4 * (k / 4)) (k % 4) < 16777216 := by
        have h4 := bpart_lt (btn b) (btn_lt b) (4 * (k / 4))
        have : k % 4 = 0 ∨ k % 4 = 1 ∨ k % 4 = 2 ∨ k % 4 = 3 := by omega
        rcases this with e | e | e | e <;> rw [e]
        · exact (by decide : (0 : Nat) < 16777216)
        · omega
        · omega
        · omega
      have hnx : bpart (btn b) (4 * (k / 4)) (k % 4) * 256 + (bt b k).toNat = bpart (btn b) (4 * (k / 4)) (k % 4 + 1) := by
        rw [bpart]
        unfold btn
        congr 3
        omega
      simp only [hm] at hc
      generalize bpart (btn b) (4 * (k / 4)) (k % 4) = X at hc hX hnx
      have b0 := bt_nonneg b k
      have b1 := bt_le b k
      have x1 := u32_or_byte X (bt b k) hX b0 b1
      rw [hnx] at x1
      have HR := Lib.hid hr
      have HR0 := Lib.hid hr0
      have HB := Lib.hid hbl
      clear hr hr0 hbl hnx hm
      go_wp2
      refine wp_region_quiet_tail 13 (by kernel_rfl) (by kernel_rfl) ?_
      simp only [List.take_succ_cons, List.take_zero, List.drop_succ_cons, List.drop_zero]
      repeat (first | go_big_quiet_step (fail))
      refine wpQuiet_nil ?_
      go_wp2
      go_roundw
      case rel =>
        refine ⟨k + 1, by omega, by go_num, ?_, ?_, ?_⟩
        · refine ((HR.out.drew).set (k / 4) _).congr ?_
          intro j hj
          by_cases e : j = k / 4
          · subst e
            rw [upd_same, show min 4 (k + 1 - 4 * (k / 4)) = k % 4 + 1 by omega]
          · rw [upd_other _ _ _ _ e, show min 4 (k + 1 - 4 * j) = min 4 (k - 4 * j) by omega]
        · exact (HR0.out.drew).set_other _ _ (by simp)
        · exact (HB.out.drew).setCell (by simp) _
      case measure => simp [intOf]; omega
    · obtain rfl : k = 64 := by omega
      have HR := Lib.hid hr
      have HR0 := Lib.hid hr0
      have HB := Lib.hid hbl
      clear hr hr0 hbl hk hlt
      go_wp2
      go_loopw [5] (fun i wx => ∃ (k : Nat) (f : Nat → Nat), 16 ≤ k ∧ k ≤ 64 ∧ i = .int .i64 k ∧ Row wx (w.heap.size + 1) .u32 184 64 f ∧ (∀ j, j < k → f j = schW (btn b) j) ∧ Row wx w.heap.size .u32 184 64 (fun _ => 0) ∧ Below w.heap.size w wx) (fun i _ => 64 - (intOf i).toNat)
      case atStart =>
        refine ⟨16, _, by omega, by omega, rfl, HR.out, ?_, HR0.out, HB.out⟩
        intro j hj
        rw [schW_low _ _ hj, show min 4 (64 - 4 * j) = 4 by omega]
      case round =>
        clear HR HR0 HB
        obtain ⟨k, f, hk16, hk, rfl, hr, hfs, hr0, hbl⟩ := hrel
        by_cases hlt : k < 64
        · have c15 := hr.cell (k - 15) (by omega)
          have c2 := hr.cell (k - 2) (by omega)
          have c16 := hr.cell (k - 16) (by omega)
          have c7 := hr.cell (k - 7) (by omega)
          rw [hfs _ (by omega)] at c15 c2 c16 c7
          have hf := hr.frozen k
          have ck := hr.cell k hlt
          have hn := schW_high (btn b) k hk16 hlt
          have E1 := schW_lt (btn b) (btn_lt b) (k - 15)
          have L1 := schW_lt (btn b) (btn_lt b) (k - 2)
          have P1 := schW_lt (btn b) (btn_lt b) (k - 16)
          have G1 := schW_lt (btn b) (btn_lt b) (k - 7)
          generalize schW (btn b) (k - 15) = E at c15 hn E1
          generalize schW (btn b) (k - 2) = L at c2 hn L1
          generalize schW (btn b) (k - 16) = P at c16 hn P1
          generalize schW (btn b) (k - 7) = G at c7 hn G1
          have x1 := u32_xor_nat (rotr E 7) (rotr E 18) (rotr_lt _ _) (rotr_lt _ _)
          have x2 : bits .xor .u32 ((rotr E 7 ^^^ rotr E 18 : Nat) : Int) ((E : Int) / 8) = ((sg0 E : Nat) : Int) := u32_xor_nat (rotr E 7 ^^^ rotr E 18) (E / 8) (xor_lt32 (rotr_lt _ _) (rotr_lt _ _)) (by omega)
          have y1 := u32_xor_nat (rotr L 17) (rotr L 19) (rotr_lt _ _) (rotr_lt _ _)
          have y2 : bits .xor .u32 ((rotr L 17 ^^^ rotr L 19 : Nat) : Int) ((L : Int) / 1024) = ((sg1 L : Nat) : Int) := u32_xor_nat (rotr L 17 ^^^ rotr L 19) (L / 1024) (xor_lt32 (rotr_lt _ _) (rotr_lt _ _)) (by omega)
          have HR := Lib.hid hr
          have HR0 := Lib.hid hr0
          have HB := Lib.hid hbl
          have HF := Lib.hid hfs
          have HN := Lib.hid hn
          clear hr hr0 hbl hfs hn
          go_wp2
          go_quiet (fail)
          go_wp2
          refine wp_region_quiet_tail 29 (by kernel_rfl) (by kernel_rfl) ?_
          simp only [List.take_succ_cons, List.take_zero, List.drop_succ_cons, List.drop_zero]
          repeat (first | go_big_quiet_step (fail))
          go_big_quiet_want
          go_big_quiet_op
          refine ⟨_, turn_q E 7 _ E1 (by decide) (by decide), ?_⟩
          go_big_quiet_on
          repeat (first | go_big_quiet_step (fail))
          go_big_quiet_want
          go_big_quiet_op
          refine ⟨_, turn_q E 18 _ E1 (by decide) (by decide), ?_⟩
          go_big_quiet_on
          repeat (first | go_big_quiet_step (fail))
          go_big_quiet_want
          go_big_quiet_op
          refine ⟨_, turn_q L 17 _ L1 (by decide) (by decide), ?_⟩
          go_big_quiet_on
          repeat (first | go_big_quiet_step (fail))
          go_big_quiet_want
          go_big_quiet_op
          refine ⟨_, turn_q L 19 _ L1 (by decide) (by decide), ?_⟩
          go_big_quiet_on
          repeat (first | go_big_quiet_step (fail))
          refine wpQuiet_nil ?_
          go_wp2
          go_roundw
          case rel =>
            refine ⟨k + 1, _, by omega, by omega, by go_num, (HR.out.drewN (nq + 1)).set_eq k (schW (btn b) k) _ ?_, ?_, ?_, ?_⟩
            · rw [HN.out]; omega
            · intro j hj
              by_cases e : j = k
              · subst e; rw [upd_same]
              · rw [upd_other _ _ _ _ e, HF.out j (by omega)]
            · exact (HR0.out.drewN (nq + 1)).set_other _ _ (by simp)
            · exact (below_drewN HB.out (nq + 1)).setCell (by simp) _
          case measure => simp [intOf]; omega
        · obtain rfl : k = 64 := by omega
          have HR := Lib.hid hr
          have HR0 := Lib.hid hr0
          have HB := Lib.hid hbl
          have HF := Lib.hid hfs
          clear hr hr0 hbl hfs hk hlt hk16
          go_wp2_with (first | refine wp_load_all 184 153 HR.out Tryd.underlying184 Tryd.size184 rfl _ rfl rfl ?_ | refine wp_store_all 184 HR0.out Tryd.size184 rfl _ _ rfl rfl rfl ?_)
          refine bodyPost_ret (v := .agg (rowC .u32 64 f)) ?_ rfl ⟨?_, ?_⟩
          · exact results_all (e := 153) Tryd.results138 _ _ w.heap.size 64 f 184 (HR0.out.setRow f) rfl Tryd.underlying184 Tryd.size184
          · rw [rowC_congr .u32 64 f _ HF.out]
          · exact below_setRow HB.out (Nat.le_refl _) _
end Go.Proofs.YtemhhjkmolndbaaDoor
