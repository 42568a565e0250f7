/- JoinIds: the model's walk. -/
import Derived.Test.YtlbebeedkcdgpaaDoorJnI
namespace Go.Proofs.YtlbebeedkcdgpaaDoor
open Go.RowKit Go.PlainAid
set_option linter.unusedVariables false

theorem drop_cons_ii (l : List Ii) (k : Nat) (h : k < l.length) : l.drop k = ⟨iR l k, iS l k⟩ :: l.drop (k + 1) := by
  have g := ii_get l k h
  rw [List.getElem?_eq_getElem h, Option.some.injEq] at g
  rw [List.drop_eq_getElem_cons h, g]
theorem mrg_step_a (a b : List Ii) (i k : Nat) (hi : i < a.length) (hk : k < b.length) (h : ltB (iR a i) (iS a i) (iR b k) (iS b k) = true) : mrg (a.drop i) (b.drop k) = ⟨iR a i, iS a i⟩ :: mrg (a.drop (i + 1)) (b.drop k) := by
  rw [drop_cons_ii a i hi, drop_cons_ii b k hk, mrg_lt _ _ (show ltI _ _ = true from h)]
theorem mrg_step_e (a b : List Ii) (i k : Nat) (hi : i < a.length) (hk : k < b.length) (h1 : iR a i = iR b k) (h2 : iS a i = iS b k) : mrg (a.drop i) (b.drop k) = ⟨iR b k, iS b k⟩ :: mrg (a.drop (i + 1)) (b.drop (k + 1)) := by
  rw [drop_cons_ii a i hi, drop_cons_ii b k hk, h1, h2, mrg_eq]
theorem mrg_step_b (a b : List Ii) (i k : Nat) (hi : i < a.length) (hk : k < b.length) (h : ltB (iR a i) (iS a i) (iR b k) (iS b k) = false) (hne : ¬ (iR a i = iR b k ∧ iS a i = iS b k)) : mrg (a.drop i) (b.drop k) = ⟨iR b k, iS b k⟩ :: mrg (a.drop i) (b.drop (k + 1)) := by
  rw [drop_cons_ii a i hi, drop_cons_ii b k hk, mrg_gt _ _ (show ltI _ _ = false from h) (fun e => hne (by simpa using e))]
theorem mrg_step_n (a b : List Ii) (i k : Nat) (hi : a.length ≤ i) (hk : k < b.length) : mrg (a.drop i) (b.drop k) = ⟨iR b k, iS b k⟩ :: mrg (a.drop i) (b.drop (k + 1)) := by
  rw [List.drop_eq_nil_of_le hi, mrg_nil_left, mrg_nil_left, drop_cons_ii b k hk]
/-- Nothing is appended. -/
theorem run_app_zero (w : World) (base : Option Addr) (sLen sCap : Nat) (hle : sLen ≤ sCap) (a : Option Addr) (c : Nat) (ty : TypeId) :
    (Builtin.append_ #[26, 26] ty #[.slice base sLen sCap, .slice a 0 c]).run Tryd.prog w = .ok (.slice base sLen sCap) w := by
  obtain ⟨i, hi, hz, hs, hby⟩ := info_parts Tryd.infoId
  cases base <;> cases a <;> simp [Builtin.append_, run_underlying Tryd.underlying26, sizeOf, typeInfo, hi, hle, storeCells, go_sem]
set_option maxRecDepth 100000 in
set_option maxHeartbeats 2000000 in
theorem spec_l8join (v u : Value) (a b : List Ii) (w : World) (hv : Ids w v a) (hu : Ids w u b) (hl : a.length + b.length ≤ 1048576) :
    Calls Tryd.prog 34 #[v, u] w fun e w' => (∃ u, e = .returned u ∧ IdRow w' w.heap.size u (mrg a b)) ∧ Below w.heap.size w w' := by
  obtain ⟨h1, va, ca, rfl, hca, ha⟩ := hv
  obtain ⟨k1, vb, cb, rfl, hcb, hb⟩ := hu
  obtain ⟨na, hna⟩ : ∃ n, a.length = n := ⟨_, rfl⟩
  obtain ⟨nb, hnb⟩ : ∃ n, b.length = n := ⟨_, rfl⟩
  rw [hna] at h1 hca ha hl ⊢
  rw [hnb] at k1 hcb hb hl ⊢
  have HNA := Lib.hid hna
  have HNB := Lib.hid hnb
  have HA := Lib.hid ha
  have HB := Lib.hid hb
  clear hna hnb ha hb hcb
  go_enter Tryd.func34, Tryd.ntmps34
  go_wp2
  go_loopw [5, 6, 7] (fun q iv kv wr => ∃ (i k : Nat) (acc : List Ii) (a' : Option Addr) (n' c' : Nat), i ≤ na ∧ k ≤ nb ∧ iv = .int .i64 i ∧ kv = .int .i64 k ∧ q = .slice a' n' c' ∧ IdRow wr w.heap.size (.slice a' n' c') acc ∧ acc ++ mrg (a.drop i) (b.drop k) = mrg a b ∧ acc.length ≤ i + k ∧ Af w wr) (fun _ _ kv _ => nb - (intOf kv).toNat)
  case atStart => exact ⟨0, 0, [], _, _, _, by omega, by omega, rfl, rfl, rfl, idRow_new w w.heap.size (Nat.le_refl _), by simp, by simp, (Af.refl w).alloc _⟩
  case round =>
    obtain ⟨i0, k, acc0, a0, n0, c0, hi0, hk, rfl, rfl, rfl, hr0, he0, hl0, haf0⟩ := hrel
    have R0 := Lib.hid hr0
    have E0 := Lib.hid he0
    have A0 := Lib.hid haf0
    clear hr0 he0 haf0
    by_cases hkb : k < nb
    · obtain ⟨xb, ob, rfl, hxb, hcb⟩ := HB.out (by omega)
      have HCB := Lib.hid (hcb k hkb)
      have y1 : (k : Int) < (nb : Int) := by omega
      have y0 : (0 : Int) ≤ (k : Int) := by omega
      clear hcb
      go_wp2
      go_loopw [5, 6] (fun q iv wr => ∃ (i : Nat) (acc : List Ii) (a' : Option Addr) (n' c' : Nat), i ≤ na ∧ iv = .int .i64 i ∧ q = .slice a' n' c' ∧ IdRow wr w.heap.size (.slice a' n' c') acc ∧ acc ++ mrg (a.drop i) (b.drop k) = mrg a b ∧ acc.length ≤ i + k ∧ Af w wr) (fun _ iv _ => na - (intOf iv).toNat)
      case atStart => exact ⟨i0, acc0, a0, n0, c0, hi0, rfl, rfl, R0.out, E0.out, hl0, A0.out⟩
      case round =>
        clear R0 E0 A0 hl0 hi0
        obtain ⟨i, acc, a', n', c', hi, rfl, rfl, hr, he, hl1, haf⟩ := hrel
        have R := Lib.hid hr
        have E := Lib.hid he
        have A := Lib.hid haf
        have hszr : w.heap.size ≤ wr.heap.size := haf.size
        have cb0 := HCB.out.below A.out hxb
        have CBH := Lib.hid (show (wr.cell? ⟨xb, ob + k * 2, none⟩ = some (.int .i64 (iR b k)) ∧ wr.cell? ⟨xb, ob + k * 2 + 1, none⟩ = some (.int .i64 (iS b k))) from cb0)
        have hxbr : xb < wr.heap.size := Nat.lt_of_lt_of_le hxb A.out.size
        clear hr he haf cb0
        by_cases hia : i < na
        · obtain ⟨xa, oa, rfl, hxa, hca1⟩ := HA.out (by omega)
          have CAH := Lib.hid (show (wr.cell? ⟨xa, oa + i * 2, none⟩ = some (.int .i64 (iR a i)) ∧ wr.cell? ⟨xa, oa + i * 2 + 1, none⟩ = some (.int .i64 (iS a i))) from (hca1 i hia).below A.out hxa)
          have hxar : xa < wr.heap.size := Nat.lt_of_lt_of_le hxa A.out.size
          have z1 : (i : Int) < (na : Int) := by omega
          have z0 : (0 : Int) ≤ (i : Int) := by omega
          clear hca1
          have HL := Lib.hid (fun W (h : LatI wr W) => (show (W.cell? ⟨xa, oa + i * 2, none⟩ = some (.int .i64 (iR a i)) ∧ W.cell? ⟨xa, oa + i * 2 + 1, none⟩ = some (.int .i64 (iS a i))) ∧ (W.cell? ⟨xb, ob + k * 2, none⟩ = some (.int .i64 (iR b k)) ∧ W.cell? ⟨xb, ob + k * 2 + 1, none⟩ = some (.int .i64 (iS b k))) from ⟨cells2_below CAH.out h hxar, cells2_below CBH.out h hxbr⟩))
          cases hq : ltB (iR a i) (iS a i) (iR b k) (iS b k)
          · have HC1 := Lib.hid (fun W (h : LatI wr W) => l_spec_lt _ _ _ _ _ hq wr W h)
            have HQ := Lib.hid hq
            clear hq
            go_wp2_with fail
            refine wp_region_quiet (C := LatI wr) (by kernel_rfl) (by kernel_rfl) (show LatI wr wr.drew from Below.drew (Below.refl _ _)) ?_
            dsimp only
            repeat (first | go_big_quiet_skip | (go_big_quiet_want; go_big_quiet_op; (first | go_big_quiet_on | (refine ⟨_, fun _ _ => rfl, ?_⟩; go_big_quiet_on) | (refine ⟨.agg #[.int .i64 (iR a i), .int .i64 (iS a i)], ?_, ?_⟩; intro w' hw'; obtain ⟨⟨d0, d1⟩, p0, p1⟩ := HL.out w' hw'; simp [d0, d1, Result.andThen]; go_big_quiet_on) | (refine ⟨.agg #[.int .i64 (iR b k), .int .i64 (iS b k)], ?_, ?_⟩; intro w' hw'; obtain ⟨⟨d0, d1⟩, p0, p1⟩ := HL.out w' hw'; simp [p0, p1, Result.andThen]; go_big_quiet_on) | (refine ⟨_, fun w' hw' => HC1.out w' hw', ?_⟩; go_big_quiet_on))))
            refine wpQuiet_nil ?_
            intro w2 L2
            have R2 := Lib.hid (R.out.later L2)
            have A2 := Lib.hid (A.out.after L2)
            have HL2 := Lib.hid (fun W (h : LatI w2 W) => (show (W.cell? ⟨xa, oa + i * 2, none⟩ = some (.int .i64 (iR a i)) ∧ W.cell? ⟨xa, oa + i * 2 + 1, none⟩ = some (.int .i64 (iS a i))) ∧ (W.cell? ⟨xb, ob + k * 2, none⟩ = some (.int .i64 (iR b k)) ∧ W.cell? ⟨xb, ob + k * 2 + 1, none⟩ = some (.int .i64 (iS b k))) from HL.out W (LatI.trans L2 h)))
            have hxbr2 : xb < w2.heap.size := Nat.lt_of_lt_of_le hxbr (Below.size L2)
            clear L2 HC1 HL R A CAH CBH
            by_cases hee : iR a i = iR b k ∧ iS a i = iS b k
            · have HM := Lib.hid (mrg_step_e a b i k (by rw [HNA.out]; exact hia) (by rw [HNB.out]; exact hkb) hee.1 hee.2)
              obtain ⟨he1, he2⟩ := hee
              have hs1 : (iR a i == iR b k) = true := by simpa using he1
              have hs2 : (iS a i == iS b k) = true := by simpa using he2
              clear he1 he2
              go_wp2_with fail
              refine wp_region_quiet (C := LatI w2) (by kernel_rfl) (by kernel_rfl) (show LatI w2 w2.drew from Below.drew (Below.refl _ _)) ?_
              dsimp only
              repeat (first | go_big_quiet_skip | (go_big_quiet_want; go_big_quiet_op; (first | go_big_quiet_on | (refine ⟨_, fun _ _ => rfl, ?_⟩; go_big_quiet_on) | (refine ⟨.agg #[.int .i64 (iR a i), .int .i64 (iS a i)], ?_, ?_⟩; intro w' hw'; obtain ⟨⟨d0, d1⟩, p0, p1⟩ := HL2.out w' hw'; simp [d0, d1, Result.andThen]; go_big_quiet_on) | (refine ⟨.agg #[.int .i64 (iR b k), .int .i64 (iS b k)], ?_, ?_⟩; intro w' hw'; obtain ⟨⟨d0, d1⟩, p0, p1⟩ := HL2.out w' hw'; simp [p0, p1, Result.andThen]; go_big_quiet_on))))
              refine wpQuiet_nil ?_
              intro w3 L3
              have R3 := Lib.hid (R2.out.later L3)
              have A3 := Lib.hid (A2.out.after L3)
              obtain ⟨_, p0, p1⟩ := HL2.out w3 L3
              clear L3 R2 A2
              go_wp2_with (at_builtin; refine wp_append_id rfl (.tmp 56) (.tmp 61) rfl w.heap.size (.slice a' n' c') acc [⟨iR b k, iS b k⟩] rfl (R3.out.alloc _) w3.heap.size 0 1 rfl (fun j hj => ii_one (x := ⟨iR b k, iS b k⟩) (Bx.new w3 _ _ _ rfl).c2 j hj) (by simp only [List.length_singleton]; omega) (by have := A3.out.size; simp; omega) ?_; intro v6 w6 hr6 hg6; obtain ⟨a6, n6, c6, hv6⟩ := hr6.own.form; subst hv6; have A6 := Lib.hid ((A3.out.alloc (.cells #[.int .i64 (iR b k), .int .i64 (iS b k)] 30)).grow hg6 (fun k hk => (R3.out.lt _ hk).1)); have R6 := Lib.hid hr6; clear hr6 hg6)
              go_roundw
              case rel => exact ⟨i + 1, k + 1, acc ++ [⟨iR b k, iS b k⟩], a6, n6, c6, by omega, by omega, by go_num, by go_num, rfl, R6.out, by rw [← E.out, HM.out]; simp, by simp; omega, A6.out⟩
              case measure => simp only [intOf]; omega
            · have HM := Lib.hid (mrg_step_b a b i k (by rw [HNA.out]; exact hia) (by rw [HNB.out]; exact hkb) HQ.out hee)
              by_cases hr1 : iR a i = iR b k
              · have hs2 := ine_no (fun e => hee ⟨hr1, e⟩)
                have hs1 : (iR a i == iR b k) = true := by simpa using hr1
                clear hee hr1
                go_wp2_with fail
                refine wp_region_quiet (C := LatI w2) (by kernel_rfl) (by kernel_rfl) (show LatI w2 w2.drew from Below.drew (Below.refl _ _)) ?_
                dsimp only
                repeat (first | go_big_quiet_skip | (go_big_quiet_want; go_big_quiet_op; (first | go_big_quiet_on | (refine ⟨_, fun _ _ => rfl, ?_⟩; go_big_quiet_on) | (refine ⟨.agg #[.int .i64 (iR a i), .int .i64 (iS a i)], ?_, ?_⟩; intro w' hw'; obtain ⟨⟨d0, d1⟩, p0, p1⟩ := HL2.out w' hw'; simp [d0, d1, Result.andThen]; go_big_quiet_on) | (refine ⟨.agg #[.int .i64 (iR b k), .int .i64 (iS b k)], ?_, ?_⟩; intro w' hw'; obtain ⟨⟨d0, d1⟩, p0, p1⟩ := HL2.out w' hw'; simp [p0, p1, Result.andThen]; go_big_quiet_on))))
                refine wpQuiet_nil ?_
                intro w3 L3
                have R3 := Lib.hid (R2.out.later L3)
                have A3 := Lib.hid (A2.out.after L3)
                obtain ⟨_, p0, p1⟩ := HL2.out w3 L3
                clear L3 R2 A2
                go_wp2_with (at_builtin; refine wp_append_id rfl (.tmp 56) (.tmp 61) rfl w.heap.size (.slice a' n' c') acc [⟨iR b k, iS b k⟩] rfl (R3.out.alloc _) w3.heap.size 0 1 rfl (fun j hj => ii_one (x := ⟨iR b k, iS b k⟩) (Bx.new w3 _ _ _ rfl).c2 j hj) (by simp only [List.length_singleton]; omega) (by have := A3.out.size; simp; omega) ?_; intro v6 w6 hr6 hg6; obtain ⟨a6, n6, c6, hv6⟩ := hr6.own.form; subst hv6; have A6 := Lib.hid ((A3.out.alloc (.cells #[.int .i64 (iR b k), .int .i64 (iS b k)] 30)).grow hg6 (fun k hk => (R3.out.lt _ hk).1)); have R6 := Lib.hid hr6; clear hr6 hg6)
                go_roundw
                case rel => exact ⟨i, k + 1, acc ++ [⟨iR b k, iS b k⟩], a6, n6, c6, by omega, by omega, by go_num, by go_num, rfl, R6.out, by rw [← E.out, HM.out]; simp, by simp; omega, A6.out⟩
                case measure => simp only [intOf]; omega
              · have hs1 := ine_no hr1
                clear hee hr1
                go_wp2_with fail
                refine wp_region_quiet (C := LatI w2) (by kernel_rfl) (by kernel_rfl) (show LatI w2 w2.drew from Below.drew (Below.refl _ _)) ?_
                dsimp only
                repeat (first | go_big_quiet_skip | (go_big_quiet_want; go_big_quiet_op; (first | go_big_quiet_on | (refine ⟨_, fun _ _ => rfl, ?_⟩; go_big_quiet_on) | (refine ⟨.agg #[.int .i64 (iR a i), .int .i64 (iS a i)], ?_, ?_⟩; intro w' hw'; obtain ⟨⟨d0, d1⟩, p0, p1⟩ := HL2.out w' hw'; simp [d0, d1, Result.andThen]; go_big_quiet_on) | (refine ⟨.agg #[.int .i64 (iR b k), .int .i64 (iS b k)], ?_, ?_⟩; intro w' hw'; obtain ⟨⟨d0, d1⟩, p0, p1⟩ := HL2.out w' hw'; simp [p0, p1, Result.andThen]; go_big_quiet_on))))
                refine wpQuiet_nil ?_
                intro w3 L3
                have R3 := Lib.hid (R2.out.later L3)
                have A3 := Lib.hid (A2.out.after L3)
                obtain ⟨_, p0, p1⟩ := HL2.out w3 L3
                clear L3 R2 A2
                go_wp2_with (at_builtin; refine wp_append_id rfl (.tmp 56) (.tmp 61) rfl w.heap.size (.slice a' n' c') acc [⟨iR b k, iS b k⟩] rfl (R3.out.alloc _) w3.heap.size 0 1 rfl (fun j hj => ii_one (x := ⟨iR b k, iS b k⟩) (Bx.new w3 _ _ _ rfl).c2 j hj) (by simp only [List.length_singleton]; omega) (by have := A3.out.size; simp; omega) ?_; intro v6 w6 hr6 hg6; obtain ⟨a6, n6, c6, hv6⟩ := hr6.own.form; subst hv6; have A6 := Lib.hid ((A3.out.alloc (.cells #[.int .i64 (iR b k), .int .i64 (iS b k)] 30)).grow hg6 (fun k hk => (R3.out.lt _ hk).1)); have R6 := Lib.hid hr6; clear hr6 hg6)
                go_roundw
                case rel => exact ⟨i, k + 1, acc ++ [⟨iR b k, iS b k⟩], a6, n6, c6, by omega, by omega, by go_num, by go_num, rfl, R6.out, by rw [← E.out, HM.out]; simp, by simp; omega, A6.out⟩
                case measure => simp only [intOf]; omega
          · have HM := Lib.hid (mrg_step_a a b i k (by rw [HNA.out]; exact hia) (by rw [HNB.out]; exact hkb) hq)
            have HC1 := Lib.hid (fun W (h : LatI wr W) => l_spec_lt _ _ _ _ _ hq wr W h)
            clear hq
            go_wp2_with fail
            refine wp_region_quiet (C := LatI wr) (by kernel_rfl) (by kernel_rfl) (show LatI wr wr.drew from Below.drew (Below.refl _ _)) ?_
            dsimp only
            repeat (first | go_big_quiet_skip | (go_big_quiet_want; go_big_quiet_op; (first | go_big_quiet_on | (refine ⟨_, fun _ _ => rfl, ?_⟩; go_big_quiet_on) | (refine ⟨.agg #[.int .i64 (iR a i), .int .i64 (iS a i)], ?_, ?_⟩; intro w' hw'; obtain ⟨⟨d0, d1⟩, p0, p1⟩ := HL.out w' hw'; simp [d0, d1, Result.andThen]; go_big_quiet_on) | (refine ⟨.agg #[.int .i64 (iR b k), .int .i64 (iS b k)], ?_, ?_⟩; intro w' hw'; obtain ⟨⟨d0, d1⟩, p0, p1⟩ := HL.out w' hw'; simp [p0, p1, Result.andThen]; go_big_quiet_on) | (refine ⟨_, fun w' hw' => HC1.out w' hw', ?_⟩; go_big_quiet_on))))
            refine wpQuiet_nil ?_
            intro w2 L2
            have R2 := Lib.hid (R.out.later L2)
            have A2 := Lib.hid (A.out.after L2)
            obtain ⟨⟨p0, p1⟩, _⟩ := HL.out w2 L2
            clear L2 HC1 HL R A CAH CBH
            go_wp2_with (at_builtin; refine wp_append_id rfl (.tmp 30) (.tmp 35) rfl w.heap.size (.slice a' n' c') acc [⟨iR a i, iS a i⟩] rfl (R2.out.alloc _) w2.heap.size 0 1 rfl (fun j hj => ii_one (x := ⟨iR a i, iS a i⟩) (Bx.new w2 _ _ _ rfl).c2 j hj) (by simp only [List.length_singleton]; omega) (by have := A2.out.size; simp; omega) ?_; intro v6 w6 hr6 hg6; obtain ⟨a6, n6, c6, hv6⟩ := hr6.own.form; subst hv6; have A6 := Lib.hid ((A2.out.alloc (.cells #[.int .i64 (iR a i), .int .i64 (iS a i)] 30)).grow hg6 (fun k hk => (R2.out.lt _ hk).1)); have R6 := Lib.hid hr6; clear hr6 hg6)
            go_roundw
            case rel => exact ⟨i + 1, acc ++ [⟨iR a i, iS a i⟩], a6, n6, c6, by omega, by go_num, rfl, R6.out, by rw [← E.out, HM.out]; simp, by simp; omega, A6.out⟩
            case measure => simp only [intOf]; omega
        · obtain rfl : i = na := by omega
          have HM := Lib.hid (mrg_step_n a b i k (by rw [HNA.out]; exact Nat.le_refl _) (by rw [HNB.out]; exact hkb))
          have hdd : decide (i < i) = false := dec_f (by omega)
          have HL := Lib.hid (fun W (h : LatI wr W) => (show (W.cell? ⟨xb, ob + k * 2, none⟩ = some (.int .i64 (iR b k)) ∧ W.cell? ⟨xb, ob + k * 2 + 1, none⟩ = some (.int .i64 (iS b k))) from cells2_below CBH.out h hxbr))
          go_wp2_with fail
          refine wp_region_quiet (C := LatI wr) (by kernel_rfl) (by kernel_rfl) (show LatI wr wr.drew from Below.drew (Below.refl _ _)) ?_
          dsimp only
          repeat (first | go_big_quiet_skip | (go_big_quiet_want; go_big_quiet_op; (first | go_big_quiet_on | (refine ⟨_, fun _ _ => rfl, ?_⟩; go_big_quiet_on) | (refine ⟨.agg #[.int .i64 (iR a i), .int .i64 (iS a i)], ?_, ?_⟩; intro w' hw'; obtain ⟨⟨d0, d1⟩, p0, p1⟩ := HL.out w' hw'; simp [d0, d1, Result.andThen]; go_big_quiet_on) | (refine ⟨.agg #[.int .i64 (iR b k), .int .i64 (iS b k)], ?_, ?_⟩; intro w' hw'; obtain ⟨⟨d0, d1⟩, p0, p1⟩ := HL.out w' hw'; simp [p0, p1, Result.andThen]; go_big_quiet_on))))
          refine wpQuiet_nil ?_
          intro w2 L2
          have R2 := Lib.hid (R.out.later L2)
          have A2 := Lib.hid (A.out.after L2)
          have HL2 := Lib.hid (fun W (h : LatI w2 W) => (show (W.cell? ⟨xb, ob + k * 2, none⟩ = some (.int .i64 (iR b k)) ∧ W.cell? ⟨xb, ob + k * 2 + 1, none⟩ = some (.int .i64 (iS b k))) from HL.out W (LatI.trans L2 h)))
          have hxbr2 : xb < w2.heap.size := Nat.lt_of_lt_of_le hxbr (Below.size L2)
          clear L2 HL R A CBH
          go_wp2_with fail
          refine wp_region_quiet (C := LatI w2) (by kernel_rfl) (by kernel_rfl) (show LatI w2 w2.drew from Below.drew (Below.refl _ _)) ?_
          dsimp only
          repeat (first | go_big_quiet_skip | (go_big_quiet_want; go_big_quiet_op; (first | go_big_quiet_on | (refine ⟨_, fun _ _ => rfl, ?_⟩; go_big_quiet_on) | (refine ⟨.agg #[.int .i64 (iR a i), .int .i64 (iS a i)], ?_, ?_⟩; intro w' hw'; obtain ⟨⟨d0, d1⟩, p0, p1⟩ := HL2.out w' hw'; simp [d0, d1, Result.andThen]; go_big_quiet_on) | (refine ⟨.agg #[.int .i64 (iR b k), .int .i64 (iS b k)], ?_, ?_⟩; intro w' hw'; obtain ⟨⟨d0, d1⟩, p0, p1⟩ := HL2.out w' hw'; simp [p0, p1, Result.andThen]; go_big_quiet_on))))
          refine wpQuiet_nil ?_
          intro w3 L3
          have R3 := Lib.hid (R2.out.later L3)
          have A3 := Lib.hid (A2.out.after L3)
          obtain ⟨p0, p1⟩ := HL2.out w3 L3
          clear L3 R2 A2
          go_wp2_with (at_builtin; refine wp_append_id rfl (.tmp 56) (.tmp 61) rfl w.heap.size (.slice a' n' c') acc [⟨iR b k, iS b k⟩] rfl (R3.out.alloc _) w3.heap.size 0 1 rfl (fun j hj => ii_one (x := ⟨iR b k, iS b k⟩) (Bx.new w3 _ _ _ rfl).c2 j hj) (by simp only [List.length_singleton]; omega) (by have := A3.out.size; simp; omega) ?_; intro v6 w6 hr6 hg6; obtain ⟨a6, n6, c6, hv6⟩ := hr6.own.form; subst hv6; have A6 := Lib.hid ((A3.out.alloc (.cells #[.int .i64 (iR b k), .int .i64 (iS b k)] 30)).grow hg6 (fun k hk => (R3.out.lt _ hk).1)); have R6 := Lib.hid hr6; clear hr6 hg6)
          go_roundw
          case rel => exact ⟨i, k + 1, acc ++ [⟨iR b k, iS b k⟩], a6, n6, c6, by omega, by omega, by go_num, by go_num, rfl, R6.out, by rw [← E.out, HM.out]; simp, by simp; omega, A6.out⟩
          case measure => simp only [intOf]; omega
    · obtain rfl : k = nb := by omega
      have HE := Lib.hid (show acc0 ++ a.drop i0 = mrg a b by have h := E0.out; rw [← HNB.out, List.drop_length, mrg_nil] at h; exact h)
      clear E0
      by_cases hp : 0 < na
      · obtain ⟨xa, oa, rfl, hxa, hca1⟩ := HA.out hp
        have z0 : (0 : Int) ≤ (i0 : Int) := by omega
        have z1 : (i0 : Int) ≤ (na : Int) := by omega
        have z2 : (na : Int) ≤ (ca : Int) := by omega
        have HLD := Lib.hid (show (a.drop i0).length = na - i0 by rw [List.length_drop, HNA.out])
        by_cases hci : ca = i0
        · go_wp2_with (at_builtin; refine wp_append_id rfl (.tmp 63) (.tmp 66) rfl w.heap.size (.slice a0 n0 c0) acc0 (a.drop i0) rfl R0.out xa oa (ca - i0) (by rw [HLD.out]; simp [Act.eval, hci]) (fun j hj => by rw [HLD.out] at hj; omega) (by rw [HLD.out]; omega) A0.out.size ?_; intro v6 w6 hr6 hg6; have A6 := Lib.hid (A0.out.grow hg6 (fun k hk => (R0.out.lt _ hk).1)); have R6 := Lib.hid hr6; clear hr6 hg6)
          go_ret
          exact ⟨⟨_, rfl, by rw [← HE.out]; exact R6.out⟩, A6.out⟩
        · have HX := Lib.hid (fun j (hj : j < (a.drop i0).length) => (by
            rw [HLD.out] at hj
            have h := (hca1 (i0 + j) (by omega)).below A0.out hxa
            unfold IiAt at h ⊢
            have g := ii_get a (i0 + j) (by rw [HNA.out]; omega)
            have g2 : (a.drop i0)[j]? = some ⟨iR a (i0 + j), iS a (i0 + j)⟩ := by rw [List.getElem?_drop]; exact g
            rw [iR_of g2, iS_of g2, show oa + i0 * 2 + j * 2 = oa + (i0 + j) * 2 by omega]
            exact h : IiAt wr xa (oa + i0 * 2) (a.drop i0) j))
          go_wp2_with (at_builtin; refine wp_append_id rfl (.tmp 63) (.tmp 66) rfl w.heap.size (.slice a0 n0 c0) acc0 (a.drop i0) rfl R0.out xa (oa + i0 * 2) (ca - i0) (by rw [HLD.out]; simp [Act.eval]) HX.out (by rw [HLD.out]; omega) A0.out.size ?_; intro v6 w6 hr6 hg6; have A6 := Lib.hid (A0.out.grow hg6 (fun k hk => (R0.out.lt _ hk).1)); have R6 := Lib.hid hr6; clear hr6 hg6)
          go_ret
          exact ⟨⟨_, rfl, by rw [← HE.out]; exact R6.out⟩, A6.out⟩
      · obtain rfl : na = 0 := by omega
        obtain rfl : i0 = 0 := by omega
        have e0 : a = [] := List.eq_nil_of_length_eq_zero HNA.out
        have hnc : n0 ≤ c0 := by
          obtain ⟨q1, q2, q3, q4, _⟩ := R0.out.own
          simp only [Value.slice.injEq] at q3
          omega
        have hap := run_app_zero wr a0 n0 c0 hnc va ca 26
        subst e0
        cases a0 with
        | none =>
          cases va with
          | none =>
            go_wp2
            go_ret
            exact ⟨⟨_, rfl, by rw [← HE.out]; simpa using R0.out⟩, A0.out⟩
          | some ad =>
            go_wp2
            go_ret
            exact ⟨⟨_, rfl, by rw [← HE.out]; simpa using R0.out⟩, A0.out⟩
        | some a00 =>
          cases va with
          | none =>
            go_wp2
            go_ret
            exact ⟨⟨_, rfl, by rw [← HE.out]; simpa using R0.out⟩, A0.out⟩
          | some ad =>
            go_wp2
            go_ret
            exact ⟨⟨_, rfl, by rw [← HE.out]; simpa using R0.out⟩, A0.out⟩
theorem l_spec_ids (v : Value) (l : List Ii) (b : Bool) (e : idlB l = b) (w0 w : World) (hv : Ids w0 v l) (h : LatI w0 w) : Calls Tryd.prog 50 #[v] w fun e w' => e = .returned (.bool b) ∧ LatI w0 w' :=
  (spec_ids v l w (hv.later h)).mono fun _ w' hh => ⟨e ▸ hh.1, h.trans hh.2⟩
end Go.Proofs.YtlbebeedkcdgpaaDoor
