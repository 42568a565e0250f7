/- The walks of the model's Sha. -/
import Derived.Test.YtemhhjkmolndbaaDoorShaL
import Derived.Test.YtemhhjkmolndbaaDoorShaA
import Derived.Deep.RegionHeld3
import Derived.Laws.OwnMore
namespace Go.Proofs.YtemhhjkmolndbaaDoor
open Go.RowKit Go.PlainAid
set_option linter.unusedVariables false

theorem Grows.take {w : World} {base : Nat} {v : Value} {l : List Int} (h : Grows w base v l) (n : Nat) (hl : l.length = n) (h0 : 0 < n) : ∃ g cap, v = .slice (some ⟨g, 0, none⟩) n cap := by
  subst hl
  rcases h.2 with ⟨rfl, h1⟩ | ⟨g, cap, cur, rfl, _⟩
  · omega
  · exact ⟨g, cap, rfl⟩
theorem grows_one (w : World) (b : Int) : Grows (w.alloc (.cells #[.int .u8 b] 5)) w.heap.size (.slice (some ⟨w.heap.size, 0, none⟩) 1 1) [b] :=
  World.ownsRow_lit w #[.int .u8 b] 1 (Nat.le_refl _) (by decide) rfl

def lenB (n j : Nat) : Int := ((8 * n / 256 ^ (7 - j) % 256 : Nat) : Int)
theorem lenB_bounds (n j : Nat) : 0 ≤ lenB n j ∧ lenB n j < 256 := by unfold lenB; omega
theorem lenB_bits (n j : Nat) (hn : n ≤ 1048577) (hj : j < 8) : bits .and .i64 ((n : Int) * 8 / 2 ^ (56 - 8 * j)) 255 = lenB n j := by
  have e : (n : Int) * 8 / 2 ^ (56 - 8 * j) = ((n * 8 / 2 ^ (56 - 8 * j) : Nat) : Int) := by simp
  have hb : n * 8 / 2 ^ (56 - 8 * j) ≤ n * 8 := Nat.div_le_self _ _
  rw [e, i64_low8 _ (by omega)]
  unfold lenB
  rw [show 56 - 8 * j = 8 * (7 - j) by omega, Nat.pow_mul, Nat.mul_comm]

theorem u8_in (z : Int) (h0 : 0 ≤ z) (h1 : z < 256) : IntKind.u8.wrap z = z := by
  rw [IntKind.wrap_u8']
  omega
theorem word4 (X : Nat) (hX : X < 4294967296) : ∃ a b c d : Int, wordL X = [a, b, c, d] ∧ IntKind.u8.wrap ((X : Int) / 16777216) = a
    ∧ bits .and .i64 ((X : Int) / 65536) 255 = b ∧ IntKind.u8.wrap b = b ∧ bits .and .i64 ((X : Int) / 256) 255 = c ∧ IntKind.u8.wrap c = c ∧ bits .and .i64 (X : Int) 255 = d ∧ IntKind.u8.wrap d = d := by
  refine ⟨_, _, _, _, rfl, ?_, ?_, ?_, ?_, ?_, ?_, ?_⟩
  · rw [u8_in _ (by omega) (by omega)]; omega
  · exact i64_low8 (X / 65536) (by omega)
  · exact u8_in _ (by omega) (by omega)
  · exact i64_low8 (X / 256) (by omega)
  · exact u8_in _ (by omega) (by omega)
  · exact i64_low8 X (by omega)
  · exact u8_in _ (by omega) (by omega)
theorem btn_append (s t : ByteArray) (j : Nat) : btn (s ++ t) j = if j < s.size then btn s j else btn t (j - s.size) := by
  unfold btn bt
  by_cases h : j < s.size
  · have h' : j < (s ++ t).size := by rw [ByteArray.size_append]; omega
    rw [if_pos h, dif_pos h', dif_pos h, ByteArray.getElem_append_left h]
  · rw [if_neg h]
    by_cases h2 : j - s.size < t.size
    · have h' : j < (s ++ t).size := by rw [ByteArray.size_append]; omega
      rw [dif_pos h', dif_pos h2, ByteArray.getElem_append_right (by omega)]
    · rw [dif_neg (by rw [ByteArray.size_append]; omega), dif_neg h2]
theorem btn_nums (l : List Int) (i : Nat) (x : Int) (h : l[i]? = some x) (h0 : 0 ≤ x) (h1 : x ≤ 255) : btn (strOfNums l) i = x.toNat := by
  unfold btn
  rw [bt_nums l i x h h0 h1]
theorem sha_msg (s : ByteArray) (q : Nat) (hq : s.size + q + 8 = msgL s.size) (h1 : 1 ≤ q) (PD : ByteArray) (hP : strOfNums (128 :: List.replicate (q - 1) 0 ++ (List.range 8).map (lenB s.size)) = PD) :
    (s ++ PD).size = msgL s.size ∧ hsh st0 (btn (s ++ PD)) (msgL s.size / 64) = shaS s := by
  have hsz : (s ++ PD).size = msgL s.size := by
    rw [ByteArray.size_append, ← hP, strOfNums_size]
    simp
    omega
  refine ⟨hsz, ?_⟩
  rw [shaS]
  apply hsh_congr
  intro j hj
  rw [btn_append]
  unfold padF
  by_cases c1 : j < s.size
  · rw [if_pos c1, if_pos c1]
  · rw [if_neg c1, if_neg c1, ← hP]
    by_cases c2 : j = s.size
    · rw [if_pos c2, btn_nums _ _ 128 (by rw [c2, Nat.sub_self]; rfl) (by decide) (by decide)]
      rfl
    · rw [if_neg c2]
      by_cases c3 : msgL s.size ≤ j + 8
      · have hi : j - s.size - q < 8 := by omega
        have hv : (128 :: List.replicate (q - 1) 0 ++ (List.range 8).map (lenB s.size) : List Int)[j - s.size]? = some (lenB s.size (j - s.size - q)) := by
          rw [List.getElem?_append_right (by simp; omega)]
          simp only [List.length_cons, List.length_replicate]
          rw [show j - s.size - (q - 1 + 1) = j - s.size - q by omega, List.getElem?_map, List.getElem?_range hi]
          rfl
        obtain ⟨z0, z1⟩ := lenB_bounds s.size (j - s.size - q)
        rw [if_pos c3, btn_nums _ _ _ hv z0 (by omega)]
        unfold lenB
        rw [Int.toNat_natCast, show 7 - (j - s.size - q) = msgL s.size - 1 - j by omega]
      · have hv : (128 :: List.replicate (q - 1) 0 ++ (List.range 8).map (lenB s.size) : List Int)[j - s.size]? = some 0 := by
          rw [List.getElem?_append_left (by simp; omega), show j - s.size = (j - s.size - 1) + 1 by omega, List.getElem?_cons_succ, List.getElem?_replicate, if_pos (by omega)]
        rw [if_neg c3, btn_nums _ _ _ hv (by decide) (by decide)]
        rfl

set_option maxRecDepth 100000 in
set_option maxHeartbeats 4000000 in
theorem spec_sha (s : ByteArray) (hs : s.size ≤ 1048577) (w : World) :
    Calls Tryd.prog 66 #[.string s] w fun e w' => e = .returned (.string (strOfNums (digL (shaS s) 8))) ∧ Below w.heap.size w w' := by
  obtain ⟨p, hp⟩ : ∃ p, p = msgL s.size - 8 - s.size := ⟨_, rfl⟩
  have hL : msgL s.size = (s.size + 72) / 64 * 64 := rfl
  have p1 : 1 ≤ p := by omega
  have p2 : p ≤ 64 := by omega
  have p3 : (s.size + p) % 64 = 56 := by omega
  have p4 : s.size + p + 8 = msgL s.size := by omega
  have HL := Lib.hid hL
  have HP := Lib.hid hp
  have H4 := Lib.hid p4
  clear hL hp p4
  go_enter Tryd.func66, Tryd.ntmps66
  go_wp2
  go_loopw [4] (fun v wr => ∃ q : Nat, 1 ≤ q ∧ q ≤ p ∧ Grows wr w.heap.size v (128 :: List.replicate (q - 1) 0) ∧ Below w.heap.size w wr) (fun v _ => match v with | .slice _ n _ => 100 - n | _ => 0)
  case atStart => exact ⟨1, by omega, p1, grows_one w 128, (Below.refl _ _).alloc (Nat.le_refl _) _⟩
  case round =>
    obtain ⟨q, hq1, hq, hgr, hbl⟩ := hrel
    obtain ⟨g, cap, rfl⟩ := hgr.take q (by simp; omega) (by omega)
    have HG := Lib.hid hgr
    have HB := Lib.hid hbl
    clear hgr hbl
    by_cases hlt : q < p
    · have hne : ¬ ((s.size : Int) + (q : Int)) % 64 = 56 := by omega
      go_wp2_with (refine wp_append_bytes rfl (.tmp 21) (.tmp 22) rfl w.heap.size _ (128 :: List.replicate (q - 1) 0) [0] (by simp [Act.eval]) (HG.out.alloc _) wr.heap.size 1 1 (by simp [Act.eval]) rfl (src_one wr 0) (by simp; omega) (by have := HB.out.size; simp; omega) ?_; intro v' w' hgr' hb')
      go_roundw
      case rel =>
        refine ⟨q + 1, by omega, by omega, ?_, (HB.out.alloc HB.out.size _).trans hb'⟩
        have e : (128 : Int) :: List.replicate (q + 1 - 1) 0 = (128 :: List.replicate (q - 1) 0) ++ [0] := by
          rw [show q + 1 - 1 = (q - 1) + 1 by omega, List.replicate_succ']; rfl
        rw [e]
        exact hgr'
      case measure =>
        obtain ⟨g', cap', rfl⟩ := hgr'.take (q + 1) (by simp; omega) (by omega)
        simp; omega
    · obtain rfl : q = p := by omega
      have heq : ((s.size : Int) + (q : Int)) % 64 = 56 := by omega
      go_wp2
      go_loopw [4, 5] (fun v vi wx => ∃ i : Nat, i ≤ 8 ∧ vi = .int .i64 i ∧ Grows wx w.heap.size v (128 :: List.replicate (q - 1) 0 ++ (List.range i).map (lenB s.size)) ∧ Below w.heap.size w wx) (fun _ i _ => 8 - (intOf i).toNat)
      case atStart => exact ⟨0, by omega, rfl, by simpa using HG.out, HB.out⟩
      case round =>
        clear HG HB heq
        obtain ⟨i, hi, rfl, hgr, hbl⟩ := hrel
        obtain ⟨g2, cap2, rfl⟩ := hgr.take (q + i) (by simp; omega) (by omega)
        have HG := Lib.hid hgr
        have HB := Lib.hid hbl
        clear hgr hbl
        by_cases hli : i < 8
        · have hbt := lenB_bits s.size i hs hli
          obtain ⟨z0, z1⟩ := lenB_bounds s.size i
          generalize hZ : lenB s.size i = Z at hbt z0 z1
          have HZ := Lib.hid hZ
          clear hZ
          go_wp2_with (refine wp_append_bytes rfl (.tmp 28) (.tmp 38) rfl w.heap.size _ (128 :: List.replicate (q - 1) 0 ++ (List.range i).map (lenB s.size)) [Z] (by simp [Act.eval]) (HG.out.alloc _) wr.heap.size 1 1 (by simp [Act.eval]) rfl (src_one wr Z) (by simp; omega) (by have := HB.out.size; simp; omega) ?_; intro v' w' hgr' hb')
          go_roundw
          case rel =>
            refine ⟨i + 1, by omega, by go_num, ?_, (HB.out.alloc HB.out.size _).trans hb'⟩
            rw [List.range_succ, List.map_append, List.map_singleton, HZ.out, ← List.append_assoc]
            exact hgr'
          case measure => simp [intOf]; omega
        · obtain rfl : i = 8 := by omega
          have hconv := conv_grows wr w.heap.size _ _ HG.out
          have hPs : (strOfNums (128 :: List.replicate (q - 1) 0 ++ (List.range 8).map (lenB s.size))).size = q + 8 := by rw [strOfNums_size]; simp; omega
          generalize hPD : strOfNums (128 :: List.replicate (q - 1) 0 ++ (List.range 8).map (lenB s.size)) = PD at hconv hPs
          have HPD := Lib.hid hPD
          clear hPD hi hli
          go_wp2_with (go_at_call 97; refine (keys_c _).mono ?_; rintro e w2 ⟨rfl, hik, hbk⟩)
          obtain ⟨hTs, hTh⟩ := sha_msg s q H4.out hq1 PD HPD.out
          have hL64 : msgL s.size % 64 = 0 := by rw [HL.out]; omega
          have hLb : msgL s.size ≤ 1048700 := by rw [HL.out]; omega
          rw [← hTs] at hTh hL64 hLb
          generalize s ++ PD = T at hTh hL64 hLb ⊢
          have i2 : IntsAt w2 wr.heap.size 8 st0.at := (ints8 wr _ _ _ _ _ _ _ _ st0 rfl rfl rfl rfl rfl rfl rfl rfl).later hbk
          have b2 : Below w.heap.size w w2 := (HB.out.alloc HB.out.size _).trans (hbk.mono (by have := HB.out.size; simp; omega))
          have ik : IntsAt w2 (wr.heap.size + 1) 64 keyN := by simpa using hik
          have I2 := Lib.hid i2
          have IK := Lib.hid ik
          have B2 := Lib.hid b2
          have HTh := Lib.hid hTh
          clear i2 ik b2 hik hbk hTs hTh hconv hPs HPD HG HB HP H4 HL
          go_loopw [7, 9] (fun vh va wx => ∃ a k g cap : Nat, a = 64 * k ∧ a ≤ T.size ∧ va = .int .i64 a ∧ vh = .slice (some ⟨g, 0, none⟩) 8 cap ∧ IntsAt wx g 8 (hsh st0 (btn T) k).at ∧ Below w2.heap.size w2 wx) (fun _ a _ => T.size - (intOf a).toNat)
          case atStart => exact ⟨0, 0, wr.heap.size, 8, rfl, by omega, rfl, rfl, by rw [hsh_zero]; exact I2.out, Below.refl _ _⟩
          case round =>
            clear I2
            obtain ⟨a, k, gh, ch, hak, ha, rfl, rfl, hi, hbl⟩ := hrel
            have HI := Lib.hid hi
            have HB := Lib.hid hbl
            have HA := Lib.hid hak
            clear hi hbl
            by_cases hlt : a < T.size
            · have ha64 : a + 64 ≤ T.size := by omega
              clear hak
              go_wp2_with (go_at_call 98; refine (block_c (hsh st0 (btn T) k) (hsh_fit _ st0_fit _ _) _ ?_ gh ch _ 64 _ HI.out (IK.out.later HB.out)).mono ?_; (· rw [ByteArray.size_extract]; omega); rintro e w3 ⟨g3, c3, rfl, hi3, hb3⟩)
              go_roundw
              case rel =>
                refine ⟨a + 64, k + 1, g3, c3, by rw [HA.out]; omega, ha64, by go_num, rfl, ?_, HB.out.trans (hb3.mono HB.out.size)⟩
                rw [hsh_succ, blk_congr _ (fun j => btn T (64 * k + j)) (btn (T.extract a (a + 64))) (fun j hj => by rw [btn_extract T a (a + 64) j (by omega) ha64, HA.out])]
                exact hi3
              case measure => simp [intOf]; omega
            · obtain rfl : a = T.size := by omega
              have hk : k = T.size / 64 := by omega
              have hi4 := HI.out
              rw [hk, HTh.out] at hi4
              have b4 : Below w.heap.size w wr := B2.out.trans (HB.out.mono B2.out.size)
              have I4 := Lib.hid hi4
              have B4 := Lib.hid b4
              clear HI HB HA IK B2 HTh hk hi4 b4 hak ha hlt hL64
              go_wp2
              go_loopw [10, 11] (fun vo vi wx => ∃ m : Nat, m ≤ 8 ∧ vi = .int .i64 m ∧ Grows wx wr.heap.size vo (digL (shaS s) m) ∧ Below wr.heap.size wr wx) (fun _ i _ => 8 - (intOf i).toNat)
              case atStart => exact ⟨0, by omega, rfl, grows_empty wr, (Below.refl _ _).alloc (Nat.le_refl _) _⟩
              case round =>
                obtain ⟨m, hm, rfl, hgr, hb5⟩ := hrel
                by_cases hlt : m < 8
                · have ci := (I4.out.later hb5) m hlt
                  have bX := Reg.at_lt (shaS s) (shaS_fit s) m
                  have hgl := block_lt_of_cell (I4.out 0 (by omega))
                  dsimp only at hgl
                  generalize hXX : (shaS s).at m = X at ci bX
                  obtain ⟨Z0, Z1, Z2, Z3, hw4, f0, f1, f1', f2, f2', f3, f3'⟩ := word4 X bX
                  have HX := Lib.hid hXX
                  have HG := Lib.hid hgr
                  have HB := Lib.hid hb5
                  have HW4 := Lib.hid hw4
                  clear hgr hb5 hXX hw4
                  have y1 : (0 : Int) ≤ (m : Int) := by omega
                  have y2 : (m : Int) < 8 := by omega
                  go_wp2
                  go_region_held3 (fun w' => w'.cell? ⟨gh, m, none⟩ = some (.int .i64 (X : Int))) (first | go_keep | (rw [hb'.cell (p := ⟨gh, m, none⟩) hgl]; go_keep))
                    (first | (refine step_append_bytes rfl (.tmp 65) (.tmp 92) rfl _ u10 (digL (shaS s) m) [Z0, Z1, Z2, Z3] (by simp [Act.eval]) (HG.out.alloc _).drew wr.heap.size 4 4 (by simp [Act.eval]) rfl (src_four wr Z0 Z1 Z2 Z3).drew (by rw [digL_length]; omega) (by have := HB.out.size; simp; omega) ?_; intro v' w' hgr' hb'))
                  go_wp2
                  go_roundw
                  case rel =>
                    refine ⟨m + 1, by omega, by go_num, ?_, ((HB.out.alloc HB.out.size _).drew).trans hb'⟩
                    rw [digL, HX.out, HW4.out]
                    exact hgr'
                  case measure => simp [intOf]; omega
                · obtain rfl : m = 8 := by omega
                  have hconv := conv_grows wr _ _ _ hgr
                  have HB := Lib.hid hb5
                  clear hgr hb5
                  go_wp2
                  go_ret
                  exact ⟨rfl, B4.out.trans (HB.out.mono B4.out.size)⟩
end Go.Proofs.YtemhhjkmolndbaaDoor
