/- IdsOk: the loops, the model's and the program's. -/
import Derived.Test.YtlbebeedkcdgpaaDoorIdW
import Derived.BigQuiet
namespace Go.Proofs.YtlbebeedkcdgpaaDoor
open Go.RowKit Go.PlainAid
set_option linter.unusedVariables false

theorem cells2_below {w w' : World} {B x o : Nat} {a b : Value} (h : w.cell? ⟨x, o, none⟩ = some a ∧ w.cell? ⟨x, o + 1, none⟩ = some b) (hb : Below B w w') (hx : x < B) : w'.cell? ⟨x, o, none⟩ = some a ∧ w'.cell? ⟨x, o + 1, none⟩ = some b := by
  rw [hb.cell (p := ⟨x, o, none⟩) hx, hb.cell (p := ⟨x, o + 1, none⟩) hx]; exact h
def LatI (w0 w : World) : Prop := Below w0.heap.size w0 w
theorem LatI.trans {w0 w w' : World} (h : LatI w0 w) (hb : Below w.heap.size w w') : LatI w0 w' := Below.trans h (hb.mono (Below.size h))
theorem l_spec_id (r s : Int) (b : Bool) (e : idB r s = b) (w0 w : World) (h : LatI w0 w) : Calls Tryd.prog 47 #[.agg #[.int .i64 r, .int .i64 s]] w fun e w' => e = .returned (.bool b) ∧ LatI w0 w' :=
  (spec_id r s w).mono fun _ w' hh => ⟨e ▸ hh.1, h.trans hh.2⟩
theorem l_spec_lt (r s r' s' : Int) (b : Bool) (e : ltB r s r' s' = b) (w0 w : World) (h : LatI w0 w) : Calls Tryd.prog 33 #[.agg #[.int .i64 r, .int .i64 s], .agg #[.int .i64 r', .int .i64 s']] w fun e w' => e = .returned (.bool b) ∧ LatI w0 w' :=
  (spec_lt r s r' s' w).mono fun _ w' hh => ⟨e ▸ hh.1, h.trans hh.2⟩
theorem l_impl_id (r s : Int) (b : Bool) (e : idB r s = b) (w0 w : World) (h : LatI w0 w) : Calls Tryd.prog 60 #[.agg #[.int .i64 r, .int .i64 s]] w fun e w' => e = .returned (.bool b) ∧ LatI w0 w' :=
  (impl_id r s w).mono fun _ w' hh => ⟨e ▸ hh.1, h.trans hh.2⟩
theorem l_impl_lt (r s r' s' : Int) (b : Bool) (e : ltB r s r' s' = b) (w0 w : World) (h : LatI w0 w) : Calls Tryd.prog 42 #[.agg #[.int .i64 r, .int .i64 s], .agg #[.int .i64 r', .int .i64 s']] w fun e w' => e = .returned (.bool b) ∧ LatI w0 w' :=
  (impl_lt r s r' s' w).mono fun _ w' hh => ⟨e ▸ hh.1, h.trans hh.2⟩
set_option maxRecDepth 100000 in
set_option maxHeartbeats 2000000 in
theorem spec_ids (v : Value) (l : List Ii) (w : World) (hv : Ids w v l) :
    Calls Tryd.prog 50 #[v] w fun e w' => e = .returned (.bool (idlB l)) ∧ Below w.heap.size w w' := by
  obtain ⟨h1, a, ca, rfl, hca, ha⟩ := hv
  generalize hn : l.length = n at h1 ha hca
  have HN := Lib.hid hn
  have HA := Lib.hid ha
  clear hn ha hca
  go_enter Tryd.func50, Tryd.ntmps50
  go_wp2
  go_loopw [3] (fun i wr => ∃ k : Nat, k ≤ n ∧ i = .int .i64 k ∧ (∀ j, j < k → okAt l j = true) ∧ Below w.heap.size w wr) (fun i _ => n - (intOf i).toNat)
  case atStart => exact ⟨0, by omega, rfl, fun j hj => by omega, Below.refl _ _⟩
  case round =>
    obtain ⟨k, hk, rfl, he, hbw⟩ := hrel
    have HE := Lib.hid he
    have HBW := Lib.hid hbw
    clear he hbw
    by_cases hlt : k < n
    · obtain ⟨x, o, rfl, hx, hcx⟩ := HA.out (by omega)
      have cc := (hcx k hlt).below HBW.out hx
      have hxr : x < wr.heap.size := Nat.lt_of_lt_of_le hx HBW.out.size
      have y1 : (k : Int) < (n : Int) := by omega
      have y0 : (0 : Int) ≤ (k : Int) := by omega
      have CK := Lib.hid (show (wr.cell? ⟨x, o + k * 2, none⟩ = some (.int .i64 (iR l k)) ∧ wr.cell? ⟨x, o + k * 2 + 1, none⟩ = some (.int .i64 (iS l k))) from cc)
      obtain ⟨c1, c2⟩ := id cc
      cases hid : idB (iR l k) (iS l k)
      · have HK := Lib.hid (show okAt l k = false by rw [okAt_eq, hid]; rfl)
        clear hcx cc
        have HC1 := Lib.hid (fun W (h : LatI wr W) => l_spec_id _ _ _ hid wr W h)
        clear hid
        go_wp2_with fail
        clear c1 c2
        have HL := Lib.hid (fun W (h : LatI wr W) => (show (W.cell? ⟨x, o + k * 2, none⟩ = some (.int .i64 (iR l k)) ∧ W.cell? ⟨x, o + k * 2 + 1, none⟩ = some (.int .i64 (iS l k))) from cells2_below CK.out h hxr))
        refine wp_region_quiet (C := LatI wr) (by kernel_rfl) (by kernel_rfl) (show LatI wr wr.drew from Below.drew (Below.refl _ _)) ?_
        dsimp only
        repeat (first | go_big_quiet_skip | (go_big_quiet_want; go_big_quiet_op; (first | go_big_quiet_on | (refine ⟨_, fun _ _ => rfl, ?_⟩; go_big_quiet_on) | (refine ⟨.agg #[.int .i64 (iR l k), .int .i64 (iS l k)], ?_, ?_⟩; intro w' hw'; obtain ⟨d0, d1⟩ := HL.out w' hw'; simp [d0, d1, Result.andThen]; go_big_quiet_on) | (refine ⟨_, fun w' hw' => HC1.out w' hw', ?_⟩; go_big_quiet_on))))
        refine wpQuiet_nil ?_
        intro w2 L2
        have HB2 := Lib.hid (HBW.out.trans (Below.mono L2 HBW.out.size))
        clear L2 HL
        go_wp2
        go_ret
        exact ⟨by rw [idlB_no l k (by rw [HN.out]; exact hlt) HK.out]; rfl, HB2.out⟩
      · by_cases hk0 : k = 0
        · have HK := Lib.hid (show okAt l k = true by subst hk0; rw [okAt_zero, hid])
          have hz : decide (0 < k) = false := dec_f (by omega)
          clear hcx cc hk0
          have HC1 := Lib.hid (fun W (h : LatI wr W) => l_spec_id _ _ _ hid wr W h)
          clear hid
          go_wp2_with fail
          clear c1 c2
          have HL := Lib.hid (fun W (h : LatI wr W) => (show (W.cell? ⟨x, o + k * 2, none⟩ = some (.int .i64 (iR l k)) ∧ W.cell? ⟨x, o + k * 2 + 1, none⟩ = some (.int .i64 (iS l k))) from cells2_below CK.out h hxr))
          refine wp_region_quiet (C := LatI wr) (by kernel_rfl) (by kernel_rfl) (show LatI wr wr.drew from Below.drew (Below.refl _ _)) ?_
          dsimp only
          repeat (first | go_big_quiet_skip | (go_big_quiet_want; go_big_quiet_op; (first | go_big_quiet_on | (refine ⟨_, fun _ _ => rfl, ?_⟩; go_big_quiet_on) | (refine ⟨.agg #[.int .i64 (iR l k), .int .i64 (iS l k)], ?_, ?_⟩; intro w' hw'; obtain ⟨d0, d1⟩ := HL.out w' hw'; simp [d0, d1, Result.andThen]; go_big_quiet_on) | (refine ⟨_, fun w' hw' => HC1.out w' hw', ?_⟩; go_big_quiet_on))))
          refine wpQuiet_nil ?_
          intro w2 L2
          have HB2 := Lib.hid (HBW.out.trans (Below.mono L2 HBW.out.size))
          clear L2 HL
          go_wp2
          go_roundw
          case rel =>
            refine ⟨k + 1, by omega, by go_num, fun j hj => ?_, HB2.out⟩
            by_cases e : j = k
            · subst e; exact HK.out
            · exact HE.out j (by omega)
          case measure => simp only [intOf]; omega
        · have dd := (hcx (k - 1) (by omega)).below HBW.out hx
          have hz : decide (0 < k) = true := dec_t (by omega)
          have y2 : (0 : Int) ≤ (k : Int) - 1 := by omega
          have y3 : (k : Int) - 1 < (n : Int) := by omega
          have y4 : ((k : Int) - 1).toNat = k - 1 := by omega
          have CP := Lib.hid (show (wr.cell? ⟨x, o + (k - 1) * 2, none⟩ = some (.int .i64 (iR l (k - 1))) ∧ wr.cell? ⟨x, o + (k - 1) * 2 + 1, none⟩ = some (.int .i64 (iS l (k - 1)))) from dd)
          cases hlt2 : ltB (iR l (k - 1)) (iS l (k - 1)) (iR l k) (iS l k)
          · have HK := Lib.hid (show okAt l k = false by rw [okAt_succ _ _ (by omega), hid, hlt2]; rfl)
            clear hcx cc dd hk0
            have HC1 := Lib.hid (fun W (h : LatI wr W) => l_spec_id _ _ _ hid wr W h)
            have HC2 := Lib.hid (fun W (h : LatI wr W) => l_spec_lt _ _ _ _ _ hlt2 wr W h)
            clear hid hlt2
            go_wp2_with fail
            clear c1 c2
            have HL := Lib.hid (fun W (h : LatI wr W) => (show (W.cell? ⟨x, o + k * 2, none⟩ = some (.int .i64 (iR l k)) ∧ W.cell? ⟨x, o + k * 2 + 1, none⟩ = some (.int .i64 (iS l k))) ∧ (W.cell? ⟨x, o + (k - 1) * 2, none⟩ = some (.int .i64 (iR l (k - 1))) ∧ W.cell? ⟨x, o + (k - 1) * 2 + 1, none⟩ = some (.int .i64 (iS l (k - 1)))) from ⟨cells2_below CK.out h hxr, cells2_below CP.out h hxr⟩))
            refine wp_region_quiet (C := LatI wr) (by kernel_rfl) (by kernel_rfl) (show LatI wr wr.drew from Below.drew (Below.refl _ _)) ?_
            dsimp only
            repeat (first | go_big_quiet_skip | (go_big_quiet_want; go_big_quiet_op; (first | go_big_quiet_on | (refine ⟨_, fun _ _ => rfl, ?_⟩; go_big_quiet_on) | (refine ⟨.agg #[.int .i64 (iR l k), .int .i64 (iS l k)], ?_, ?_⟩; intro w' hw'; obtain ⟨⟨d0, d1⟩, p0, p1⟩ := HL.out w' hw'; simp [d0, d1, Result.andThen]; go_big_quiet_on) | (refine ⟨.agg #[.int .i64 (iR l (k - 1)), .int .i64 (iS l (k - 1))], ?_, ?_⟩; intro w' hw'; obtain ⟨⟨d0, d1⟩, p0, p1⟩ := HL.out w' hw'; simp [p0, p1, Result.andThen]; go_big_quiet_on) | (refine ⟨_, fun w' hw' => HC1.out w' hw', ?_⟩; go_big_quiet_on) | (refine ⟨_, fun w' hw' => HC2.out w' hw', ?_⟩; go_big_quiet_on))))
            refine wpQuiet_nil ?_
            intro w2 L2
            have HB2 := Lib.hid (HBW.out.trans (Below.mono L2 HBW.out.size))
            clear L2 HL
            go_wp2
            go_ret
            exact ⟨by rw [idlB_no l k (by rw [HN.out]; exact hlt) HK.out]; rfl, HB2.out⟩
          · have HK := Lib.hid (show okAt l k = true by rw [okAt_succ _ _ (by omega), hid, hlt2]; rfl)
            clear hcx cc dd hk0
            have HC1 := Lib.hid (fun W (h : LatI wr W) => l_spec_id _ _ _ hid wr W h)
            have HC2 := Lib.hid (fun W (h : LatI wr W) => l_spec_lt _ _ _ _ _ hlt2 wr W h)
            clear hid hlt2
            go_wp2_with fail
            clear c1 c2
            have HL := Lib.hid (fun W (h : LatI wr W) => (show (W.cell? ⟨x, o + k * 2, none⟩ = some (.int .i64 (iR l k)) ∧ W.cell? ⟨x, o + k * 2 + 1, none⟩ = some (.int .i64 (iS l k))) ∧ (W.cell? ⟨x, o + (k - 1) * 2, none⟩ = some (.int .i64 (iR l (k - 1))) ∧ W.cell? ⟨x, o + (k - 1) * 2 + 1, none⟩ = some (.int .i64 (iS l (k - 1)))) from ⟨cells2_below CK.out h hxr, cells2_below CP.out h hxr⟩))
            refine wp_region_quiet (C := LatI wr) (by kernel_rfl) (by kernel_rfl) (show LatI wr wr.drew from Below.drew (Below.refl _ _)) ?_
            dsimp only
            repeat (first | go_big_quiet_skip | (go_big_quiet_want; go_big_quiet_op; (first | go_big_quiet_on | (refine ⟨_, fun _ _ => rfl, ?_⟩; go_big_quiet_on) | (refine ⟨.agg #[.int .i64 (iR l k), .int .i64 (iS l k)], ?_, ?_⟩; intro w' hw'; obtain ⟨⟨d0, d1⟩, p0, p1⟩ := HL.out w' hw'; simp [d0, d1, Result.andThen]; go_big_quiet_on) | (refine ⟨.agg #[.int .i64 (iR l (k - 1)), .int .i64 (iS l (k - 1))], ?_, ?_⟩; intro w' hw'; obtain ⟨⟨d0, d1⟩, p0, p1⟩ := HL.out w' hw'; simp [p0, p1, Result.andThen]; go_big_quiet_on) | (refine ⟨_, fun w' hw' => HC1.out w' hw', ?_⟩; go_big_quiet_on) | (refine ⟨_, fun w' hw' => HC2.out w' hw', ?_⟩; go_big_quiet_on))))
            refine wpQuiet_nil ?_
            intro w2 L2
            have HB2 := Lib.hid (HBW.out.trans (Below.mono L2 HBW.out.size))
            clear L2 HL
            go_wp2
            go_roundw
            case rel =>
              refine ⟨k + 1, by omega, by go_num, fun j hj => ?_, HB2.out⟩
              by_cases e : j = k
              · subst e; exact HK.out
              · exact HE.out j (by omega)
            case measure => simp only [intOf]; omega
    · obtain rfl : k = n := by omega
      go_wp2
      go_ret
      exact ⟨by rw [idlB_yes l (fun j hj => HE.out j (by rw [← HN.out]; exact hj))]; rfl, HBW.out⟩
set_option maxRecDepth 100000 in
set_option maxHeartbeats 2000000 in
theorem impl_ordered (v : Value) (l : List Ii) (w : World) (hv : Ids w v l) :
    Calls Tryd.prog 77 #[v, .func (.func 60) #[] #[], .func (.func 42) #[] #[]] w fun e w' => e = .returned (.bool (idlB l)) ∧ Below w.heap.size w w' := by
  obtain ⟨h1, a, ca, rfl, hca, ha⟩ := hv
  generalize hn : l.length = n at h1 ha hca
  have HN := Lib.hid hn
  have HA := Lib.hid ha
  clear hn ha hca
  go_enter Tryd.func77, Tryd.ntmps77
  go_wp2
  go_loopw [11] (fun i wr => ∃ k : Nat, k ≤ n ∧ i = .int .i64 k ∧ (∀ j, j < k → okAt l j = true) ∧ Below w.heap.size w wr) (fun i _ => n - (intOf i).toNat)
  case atStart => exact ⟨0, by omega, rfl, fun j hj => by omega, Below.refl _ _⟩
  case round =>
    obtain ⟨k, hk, rfl, he, hbw⟩ := hrel
    have HE := Lib.hid he
    have HBW := Lib.hid hbw
    clear he hbw
    by_cases hlt : k < n
    · obtain ⟨x, o, rfl, hx, hcx⟩ := HA.out (by omega)
      have cc := (hcx k hlt).below HBW.out hx
      have hxr : x < wr.heap.size := Nat.lt_of_lt_of_le hx HBW.out.size
      have y1 : (k : Int) < (n : Int) := by omega
      have y0 : (0 : Int) ≤ (k : Int) := by omega
      have CK := Lib.hid (show (wr.cell? ⟨x, o + k * 2, none⟩ = some (.int .i64 (iR l k)) ∧ wr.cell? ⟨x, o + k * 2 + 1, none⟩ = some (.int .i64 (iS l k))) from cc)
      obtain ⟨c1, c2⟩ := id cc
      have Z := Lib.hid (Bx.new wr 30 #[.int .i64 (iR l k), .int .i64 (iS l k)] _ rfl)
      cases hid : idB (iR l k) (iS l k)
      · have HK := Lib.hid (show okAt l k = false by rw [okAt_eq, hid]; rfl)
        clear hcx cc
        have HC1 := Lib.hid (fun W (h : LatI (wr.alloc (.cells #[.int .i64 (iR l k), .int .i64 (iS l k)] 30)) W) => l_impl_id _ _ _ hid (wr.alloc (.cells #[.int .i64 (iR l k), .int .i64 (iS l k)] 30)) W h)
        clear hid
        go_wp2_with fail
        clear c1 c2
        have HL := Lib.hid (fun W (h : LatI (wr.alloc (.cells #[.int .i64 (iR l k), .int .i64 (iS l k)] 30)) W) => (show (W.cell? ⟨wr.heap.size, 0, none⟩ = some (.int .i64 (iR l k)) ∧ W.cell? ⟨wr.heap.size, 0 + 1, none⟩ = some (.int .i64 (iS l k))) from ⟨(Z.out.after h).cell 0 _ rfl, (Z.out.after h).cell 1 _ rfl⟩))
        refine wp_region_quiet (C := LatI (wr.alloc (.cells #[.int .i64 (iR l k), .int .i64 (iS l k)] 30))) (by kernel_rfl) (by kernel_rfl) (show LatI (wr.alloc (.cells #[.int .i64 (iR l k), .int .i64 (iS l k)] 30)) (wr.alloc (.cells #[.int .i64 (iR l k), .int .i64 (iS l k)] 30)).drew from Below.drew (Below.refl _ _)) ?_
        dsimp only
        repeat (first | go_big_quiet_skip | (go_big_quiet_want; go_big_quiet_op; (first | go_big_quiet_on | (refine ⟨_, fun _ _ => rfl, ?_⟩; go_big_quiet_on) | (refine ⟨.agg #[.int .i64 (iR l k), .int .i64 (iS l k)], ?_, ?_⟩; intro w' hw'; obtain ⟨d0, d1⟩ := HL.out w' hw'; simp [d0, d1, Result.andThen]; go_big_quiet_on) | (refine ⟨_, fun w' hw' => HC1.out w' hw', ?_⟩; go_big_quiet_on))))
        refine wpQuiet_nil ?_
        intro w2 L2
        have HB2 := Lib.hid ((Af.alloc (show Af w wr from HBW.out) _).after L2)
        clear L2 HL
        go_wp2
        go_ret
        exact ⟨by rw [idlB_no l k (by rw [HN.out]; exact hlt) HK.out]; rfl, HB2.out⟩
      · by_cases hk0 : k = 0
        · have HK := Lib.hid (show okAt l k = true by subst hk0; rw [okAt_zero, hid])
          have hz : decide (0 < k) = false := dec_f (by omega)
          clear hcx cc hk0
          have HC1 := Lib.hid (fun W (h : LatI (wr.alloc (.cells #[.int .i64 (iR l k), .int .i64 (iS l k)] 30)) W) => l_impl_id _ _ _ hid (wr.alloc (.cells #[.int .i64 (iR l k), .int .i64 (iS l k)] 30)) W h)
          clear hid
          go_wp2_with fail
          clear c1 c2
          have HL := Lib.hid (fun W (h : LatI (wr.alloc (.cells #[.int .i64 (iR l k), .int .i64 (iS l k)] 30)) W) => (show (W.cell? ⟨wr.heap.size, 0, none⟩ = some (.int .i64 (iR l k)) ∧ W.cell? ⟨wr.heap.size, 0 + 1, none⟩ = some (.int .i64 (iS l k))) from ⟨(Z.out.after h).cell 0 _ rfl, (Z.out.after h).cell 1 _ rfl⟩))
          refine wp_region_quiet (C := LatI (wr.alloc (.cells #[.int .i64 (iR l k), .int .i64 (iS l k)] 30))) (by kernel_rfl) (by kernel_rfl) (show LatI (wr.alloc (.cells #[.int .i64 (iR l k), .int .i64 (iS l k)] 30)) (wr.alloc (.cells #[.int .i64 (iR l k), .int .i64 (iS l k)] 30)).drew from Below.drew (Below.refl _ _)) ?_
          dsimp only
          repeat (first | go_big_quiet_skip | (go_big_quiet_want; go_big_quiet_op; (first | go_big_quiet_on | (refine ⟨_, fun _ _ => rfl, ?_⟩; go_big_quiet_on) | (refine ⟨.agg #[.int .i64 (iR l k), .int .i64 (iS l k)], ?_, ?_⟩; intro w' hw'; obtain ⟨d0, d1⟩ := HL.out w' hw'; simp [d0, d1, Result.andThen]; go_big_quiet_on) | (refine ⟨_, fun w' hw' => HC1.out w' hw', ?_⟩; go_big_quiet_on))))
          refine wpQuiet_nil ?_
          intro w2 L2
          have HB2 := Lib.hid ((Af.alloc (show Af w wr from HBW.out) _).after L2)
          clear L2 HL
          go_wp2
          go_roundw
          case rel =>
            refine ⟨k + 1, by omega, by go_num, fun j hj => ?_, HB2.out⟩
            by_cases e : j = k
            · subst e; exact HK.out
            · exact HE.out j (by omega)
          case measure => simp only [intOf]; omega
        · have dd := (hcx (k - 1) (by omega)).below HBW.out hx
          have hz : decide (0 < k) = true := dec_t (by omega)
          have y2 : (0 : Int) ≤ (k : Int) - 1 := by omega
          have y3 : (k : Int) - 1 < (n : Int) := by omega
          have y4 : ((k : Int) - 1).toNat = k - 1 := by omega
          have CP := Lib.hid (show (wr.cell? ⟨x, o + (k - 1) * 2, none⟩ = some (.int .i64 (iR l (k - 1))) ∧ wr.cell? ⟨x, o + (k - 1) * 2 + 1, none⟩ = some (.int .i64 (iS l (k - 1)))) from dd)
          cases hlt2 : ltB (iR l (k - 1)) (iS l (k - 1)) (iR l k) (iS l k)
          · have HK := Lib.hid (show okAt l k = false by rw [okAt_succ _ _ (by omega), hid, hlt2]; rfl)
            clear hcx cc dd hk0
            have HC1 := Lib.hid (fun W (h : LatI (wr.alloc (.cells #[.int .i64 (iR l k), .int .i64 (iS l k)] 30)) W) => l_impl_id _ _ _ hid (wr.alloc (.cells #[.int .i64 (iR l k), .int .i64 (iS l k)] 30)) W h)
            have HC2 := Lib.hid (fun W (h : LatI (wr.alloc (.cells #[.int .i64 (iR l k), .int .i64 (iS l k)] 30)) W) => l_impl_lt _ _ _ _ _ hlt2 (wr.alloc (.cells #[.int .i64 (iR l k), .int .i64 (iS l k)] 30)) W h)
            clear hid hlt2
            go_wp2_with fail
            clear c1 c2
            have HL := Lib.hid (fun W (h : LatI (wr.alloc (.cells #[.int .i64 (iR l k), .int .i64 (iS l k)] 30)) W) => (show (W.cell? ⟨wr.heap.size, 0, none⟩ = some (.int .i64 (iR l k)) ∧ W.cell? ⟨wr.heap.size, 0 + 1, none⟩ = some (.int .i64 (iS l k))) ∧ (W.cell? ⟨x, o + (k - 1) * 2, none⟩ = some (.int .i64 (iR l (k - 1))) ∧ W.cell? ⟨x, o + (k - 1) * 2 + 1, none⟩ = some (.int .i64 (iS l (k - 1)))) from ⟨⟨(Z.out.after h).cell 0 _ rfl, (Z.out.after h).cell 1 _ rfl⟩, cells2_below (cells2_below CP.out ((Below.refl _ _).alloc (Nat.le_refl _) (.cells #[.int .i64 (iR l k), .int .i64 (iS l k)] 30)) hxr) h (by simp; omega)⟩))
            refine wp_region_quiet (C := LatI (wr.alloc (.cells #[.int .i64 (iR l k), .int .i64 (iS l k)] 30))) (by kernel_rfl) (by kernel_rfl) (show LatI (wr.alloc (.cells #[.int .i64 (iR l k), .int .i64 (iS l k)] 30)) (wr.alloc (.cells #[.int .i64 (iR l k), .int .i64 (iS l k)] 30)).drew from Below.drew (Below.refl _ _)) ?_
            dsimp only
            repeat (first | go_big_quiet_skip | (go_big_quiet_want; go_big_quiet_op; (first | go_big_quiet_on | (refine ⟨_, fun _ _ => rfl, ?_⟩; go_big_quiet_on) | (refine ⟨.agg #[.int .i64 (iR l k), .int .i64 (iS l k)], ?_, ?_⟩; intro w' hw'; obtain ⟨⟨d0, d1⟩, p0, p1⟩ := HL.out w' hw'; simp [d0, d1, Result.andThen]; go_big_quiet_on) | (refine ⟨.agg #[.int .i64 (iR l (k - 1)), .int .i64 (iS l (k - 1))], ?_, ?_⟩; intro w' hw'; obtain ⟨⟨d0, d1⟩, p0, p1⟩ := HL.out w' hw'; simp [p0, p1, Result.andThen]; go_big_quiet_on) | (refine ⟨_, fun w' hw' => HC1.out w' hw', ?_⟩; go_big_quiet_on) | (refine ⟨_, fun w' hw' => HC2.out w' hw', ?_⟩; go_big_quiet_on))))
            refine wpQuiet_nil ?_
            intro w2 L2
            have HB2 := Lib.hid ((Af.alloc (show Af w wr from HBW.out) _).after L2)
            clear L2 HL
            go_wp2
            go_ret
            exact ⟨by rw [idlB_no l k (by rw [HN.out]; exact hlt) HK.out]; rfl, HB2.out⟩
          · have HK := Lib.hid (show okAt l k = true by rw [okAt_succ _ _ (by omega), hid, hlt2]; rfl)
            clear hcx cc dd hk0
            have HC1 := Lib.hid (fun W (h : LatI (wr.alloc (.cells #[.int .i64 (iR l k), .int .i64 (iS l k)] 30)) W) => l_impl_id _ _ _ hid (wr.alloc (.cells #[.int .i64 (iR l k), .int .i64 (iS l k)] 30)) W h)
            have HC2 := Lib.hid (fun W (h : LatI (wr.alloc (.cells #[.int .i64 (iR l k), .int .i64 (iS l k)] 30)) W) => l_impl_lt _ _ _ _ _ hlt2 (wr.alloc (.cells #[.int .i64 (iR l k), .int .i64 (iS l k)] 30)) W h)
            clear hid hlt2
            go_wp2_with fail
            clear c1 c2
            have HL := Lib.hid (fun W (h : LatI (wr.alloc (.cells #[.int .i64 (iR l k), .int .i64 (iS l k)] 30)) W) => (show (W.cell? ⟨wr.heap.size, 0, none⟩ = some (.int .i64 (iR l k)) ∧ W.cell? ⟨wr.heap.size, 0 + 1, none⟩ = some (.int .i64 (iS l k))) ∧ (W.cell? ⟨x, o + (k - 1) * 2, none⟩ = some (.int .i64 (iR l (k - 1))) ∧ W.cell? ⟨x, o + (k - 1) * 2 + 1, none⟩ = some (.int .i64 (iS l (k - 1)))) from ⟨⟨(Z.out.after h).cell 0 _ rfl, (Z.out.after h).cell 1 _ rfl⟩, cells2_below (cells2_below CP.out ((Below.refl _ _).alloc (Nat.le_refl _) (.cells #[.int .i64 (iR l k), .int .i64 (iS l k)] 30)) hxr) h (by simp; omega)⟩))
            refine wp_region_quiet (C := LatI (wr.alloc (.cells #[.int .i64 (iR l k), .int .i64 (iS l k)] 30))) (by kernel_rfl) (by kernel_rfl) (show LatI (wr.alloc (.cells #[.int .i64 (iR l k), .int .i64 (iS l k)] 30)) (wr.alloc (.cells #[.int .i64 (iR l k), .int .i64 (iS l k)] 30)).drew from Below.drew (Below.refl _ _)) ?_
            dsimp only
            repeat (first | go_big_quiet_skip | (go_big_quiet_want; go_big_quiet_op; (first | go_big_quiet_on | (refine ⟨_, fun _ _ => rfl, ?_⟩; go_big_quiet_on) | (refine ⟨.agg #[.int .i64 (iR l k), .int .i64 (iS l k)], ?_, ?_⟩; intro w' hw'; obtain ⟨⟨d0, d1⟩, p0, p1⟩ := HL.out w' hw'; simp [d0, d1, Result.andThen]; go_big_quiet_on) | (refine ⟨.agg #[.int .i64 (iR l (k - 1)), .int .i64 (iS l (k - 1))], ?_, ?_⟩; intro w' hw'; obtain ⟨⟨d0, d1⟩, p0, p1⟩ := HL.out w' hw'; simp [p0, p1, Result.andThen]; go_big_quiet_on) | (refine ⟨_, fun w' hw' => HC1.out w' hw', ?_⟩; go_big_quiet_on) | (refine ⟨_, fun w' hw' => HC2.out w' hw', ?_⟩; go_big_quiet_on))))
            refine wpQuiet_nil ?_
            intro w2 L2
            have HB2 := Lib.hid ((Af.alloc (show Af w wr from HBW.out) _).after L2)
            clear L2 HL
            go_wp2
            go_roundw
            case rel =>
              refine ⟨k + 1, by omega, by go_num, fun j hj => ?_, HB2.out⟩
              by_cases e : j = k
              · subst e; exact HK.out
              · exact HE.out j (by omega)
            case measure => simp only [intOf]; omega
    · obtain rfl : k = n := by omega
      go_wp2
      go_ret
      exact ⟨by rw [idlB_yes l (fun j hj => HE.out j (by rw [← HN.out]; exact hj))]; rfl, HBW.out⟩
set_option maxHeartbeats 400000 in
theorem impl_ids (v : Value) (l : List Ii) (w : World) (hv : Ids w v l) :
    Calls Tryd.prog 70 #[v] w fun e w' => e = .returned (.bool (idlB l)) ∧ Below w.heap.size w w' := by
  have HV := Lib.hid (fun W (h : w = W) => impl_ordered v l W (h ▸ hv))
  obtain ⟨a, n, c, rfl⟩ := hv.form
  clear hv
  go_enter Tryd.func70, Tryd.ntmps70
  go_wp2_with fail
  refine (HV.out _ rfl).mono ?_
  rintro e w2 ⟨rfl, hb⟩
  have HB := Lib.hid hb
  clear hb
  go_wp2
  go_ret
  exact ⟨rfl, HB.out⟩
end Go.Proofs.YtlbebeedkcdgpaaDoor
