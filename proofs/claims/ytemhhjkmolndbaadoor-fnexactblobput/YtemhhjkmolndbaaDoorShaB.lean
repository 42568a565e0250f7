/- The walks of the program's shaBlocks. -/
import Derived.Test.YtemhhjkmolndbaaDoorShaI
import Derived.Test.YtemhhjkmolndbaaDoorShaX
import Derived.Deep.RegionLaw
namespace Go.Proofs.YtemhhjkmolndbaaDoor
open Go.RowKit Go.PlainAid
set_option linter.unusedVariables false

theorem TabK.drew {w : World} (h : TabK w) : TabK w.drew := h
theorem btn_extract (s : ByteArray) (a b j : Nat) (h : a + j < b) (hb : b ≤ s.size) : btn (s.extract a b) j = btn s (a + j) := by
  unfold btn
  rw [← get_bt s (a + j) (by omega), ← get_bt (s.extract a b) j (by rw [ByteArray.size_extract]; omega)]
  rw [ByteArray.getElem_extract]
theorem blk_extract (S : Reg) (t : ByteArray) (k : Nat) (h : 64 * k + 64 ≤ t.size) : S.plus (rnds (schW (btn (t.extract (64 * k) (64 * k + 64)))) S 64) = blk S (fun j => btn t (64 * k + j)) := by
  rw [blk, schW_congr (fun j => btn t (64 * k + j)) (btn (t.extract (64 * k) (64 * k + 64))) (fun j hj => (btn_extract t _ _ _ (by omega) (by omega)).symm)]
/-- shaMix, its state written out. -/
theorem mix_e (A B C D E F G H : Nat) (hs : (Reg.mk A B C D E F G H).fit) (W : Nat → Nat) (hW : ∀ j, W j < 4294967296) (w : World) (ht : TabK w) :
    Calls Tryd.prog 137 #[.agg #[.int .u32 A, .int .u32 B, .int .u32 C, .int .u32 D, .int .u32 E, .int .u32 F, .int .u32 G, .int .u32 H], .agg (rowC .u32 64 W)] w fun e w' =>
      ∃ A' B' C' D' E' F' G' H' : Nat, e = .returned (.agg #[.int .u32 A', .int .u32 B', .int .u32 C', .int .u32 D', .int .u32 E', .int .u32 F', .int .u32 G', .int .u32 H'])
        ∧ (Reg.mk A B C D E F G H).plus (rnds W (Reg.mk A B C D E F G H) 64) = ⟨A', B', C', D', E', F', G', H'⟩ ∧ Below w.heap.size w w' := by
  refine (mix_c ⟨A, B, C, D, E, F, G, H⟩ hs W hW w ht).mono ?_
  rintro e w' ⟨rfl, hb⟩
  generalize (Reg.mk A B C D E F G H).plus (rnds W (Reg.mk A B C D E F G H) 64) = r
  obtain ⟨A', B', C', D', E', F', G', H'⟩ := r
  exact ⟨A', B', C', D', E', F', G', H', rfl, rfl, hb⟩

theorem Row.cells8 {w : World} {g : Nat} {t : TypeId} {s : Reg} (h : Row w g .u32 t 8 s.at) :
    w.cell? ⟨g, 0, none⟩ = some (.int .u32 s.a) ∧ w.cell? ⟨g, 1, none⟩ = some (.int .u32 s.b) ∧ w.cell? ⟨g, 2, none⟩ = some (.int .u32 s.c) ∧ w.cell? ⟨g, 3, none⟩ = some (.int .u32 s.d)
    ∧ w.cell? ⟨g, 4, none⟩ = some (.int .u32 s.e) ∧ w.cell? ⟨g, 5, none⟩ = some (.int .u32 s.f) ∧ w.cell? ⟨g, 6, none⟩ = some (.int .u32 s.g) ∧ w.cell? ⟨g, 7, none⟩ = some (.int .u32 s.h) :=
  ⟨h.cell 0 (by omega), h.cell 1 (by omega), h.cell 2 (by omega), h.cell 3 (by omega), h.cell 4 (by omega), h.cell 5 (by omega), h.cell 6 (by omega), h.cell 7 (by omega)⟩
theorem Row.set8 {w : World} {g : Nat} {t : TypeId} {f : Nat → Nat} (h : Row w g .u32 t 8 f) (s : Reg) :
    Row ((((((((w.setCell ⟨g, 0, none⟩ (.int .u32 s.a)).setCell ⟨g, 1, none⟩ (.int .u32 s.b)).setCell ⟨g, 2, none⟩ (.int .u32 s.c)).setCell ⟨g, 3, none⟩ (.int .u32 s.d)).setCell ⟨g, 4, none⟩ (.int .u32 s.e)).setCell ⟨g, 5, none⟩ (.int .u32 s.f)).setCell ⟨g, 6, none⟩ (.int .u32 s.g)).setCell ⟨g, 7, none⟩ (.int .u32 s.h)) g .u32 t 8 s.at := by
  refine ((((((((h.set 0 s.a).set 1 s.b).set 2 s.c).set 3 s.d).set 4 s.e).set 5 s.f).set 6 s.g).set 7 s.h).congr ?_
  intro j hj
  match j, hj with
  | 0, _ => rfl
  | 1, _ => rfl
  | 2, _ => rfl
  | 3, _ => rfl
  | 4, _ => rfl
  | 5, _ => rfl
  | 6, _ => rfl
  | 7, _ => rfl

theorem below_set8 {B g : Nat} {a w : World} (h : Below B a w) (hg : B ≤ g) (s : Reg) :
    Below B a ((((((((w.setCell ⟨g, 0, none⟩ (.int .u32 s.a)).setCell ⟨g, 1, none⟩ (.int .u32 s.b)).setCell ⟨g, 2, none⟩ (.int .u32 s.c)).setCell ⟨g, 3, none⟩ (.int .u32 s.d)).setCell ⟨g, 4, none⟩ (.int .u32 s.e)).setCell ⟨g, 5, none⟩ (.int .u32 s.f)).setCell ⟨g, 6, none⟩ (.int .u32 s.g)).setCell ⟨g, 7, none⟩ (.int .u32 s.h)) :=
  (((((((h.setCell hg _).setCell hg _).setCell hg _).setCell hg _).setCell hg _).setCell hg _).setCell hg _).setCell hg _

set_option maxRecDepth 100000 in
set_option maxHeartbeats 1000000 in
theorem blocks_c (s : Reg) (hs : s.fit) (t : ByteArray) (hsz : t.size ≤ 1099511627776) (w : World) (ht : TabK w) :
    Calls Tryd.prog 119 #[.agg (rowC .u32 8 s.at), .string t] w fun e w' => e = .returned (.agg (rowC .u32 8 (hsh s (btn t) (t.size / 64)).at)) ∧ Below w.heap.size w w' := by
  have HT := Lib.hid ht
  have HS := Lib.hid hs
  clear ht hs
  go_enter Tryd.func119, Tryd.ntmps119
  go_wp2
  go_loopw [9] (fun vi wr => ∃ k : Nat, k ≤ t.size / 64 ∧ vi = .int .i64 k ∧ Row wr w.heap.size .u32 155 8 (hsh s (btn t) k).at ∧ Row wr (w.heap.size + 1) .u32 155 8 (fun _ => 0) ∧ Below w.heap.size w wr) (fun i _ => t.size / 64 - (intOf i).toNat)
  case atStart =>
    refine ⟨0, by omega, rfl, ?_, ?_, ?_⟩
    · rw [hsh_zero]; exact (Row.new w .u32 155 8 s.at).alloc _
    · exact Row.made _ .u32 155 8 (fun _ => 0) _ (by kernel_rfl) _ (by simp)
    · exact ((Below.refl _ _).alloc (Nat.le_refl _) _).alloc (by simp) _
  case round =>
    obtain ⟨k, hk, rfl, hr1, hr2, hbl⟩ := hrel
    by_cases hlt : k < t.size / 64
    · have hfit := hsh_fit s HS.out (btn t) k
      have hnext := hsh_succ s (btn t) k
      generalize hsh s (btn t) k = S at hr1 hfit hnext
      obtain ⟨A, B, C, D, E, F, G, H⟩ := S
      obtain ⟨c0, c1, c2, c3, c4, c5, c6, c7⟩ := hr1.cells8
      dsimp only at c0 c1 c2 c3 c4 c5 c6 c7
      have hk1 : (k : Int) * 64 + 64 ≤ t.size := by omega
      have TK := Lib.hid (HT.out.later hbl)
      have R1 := Lib.hid hr1
      have R2 := Lib.hid hr2
      have HB := Lib.hid hbl
      have HF := Lib.hid hfit
      have HN := Lib.hid hnext
      clear hr1 hr2 hbl hfit hnext
      go_wp2
      have i1 : IntKind.i64.wrap ((k : Int) * 64) = (k : Int) * 64 := IntWalk.i64_in _ (by omega)
      have i2 : IntKind.i64.wrap ((k : Int) + 1) = (k : Int) + 1 := IntWalk.i64_in _ (by omega)
      have i3 : IntKind.i64.wrap (((k : Int) + 1) * 64) = ((k : Int) + 1) * 64 := IntWalk.i64_in _ (by omega)
      have j1 : (0 : Int) ≤ (k : Int) * 64 := by omega
      have j2 : (k : Int) * 64 ≤ ((k : Int) + 1) * 64 := by omega
      have j3 : ((k : Int) + 1) * 64 ≤ (t.size : Int) := by omega
      have j4 : (0 : Int) ≤ ((k : Int) + 1) * 64 := by omega
      have j5 : (k : Int) ≤ (k : Int) + 1 := by omega
      have n1 : ((k : Int) * 64).toNat = 64 * k := by omega
      have n2 : (((k : Int) + 1) * 64).toNat = 64 * k + 64 := by omega
      go_region_law (first
        | (go_simp; go_at_call 138; refine (words_c _ _ (by rw [ByteArray.size_extract]; omega)).mono ?_; rintro e w2 ⟨rfl, hb2⟩; have rr2 := R1.out.drew.later hb2 R1.out.lt; obtain ⟨d0, d1, d2, d3, d4, d5, d6, d7⟩ := rr2.cells8; dsimp only at d0 d1 d2 d3 d4 d5 d6 d7; have RR2 := Lib.hid rr2; have HB2 := Lib.hid hb2; clear rr2 hb2)
        | (go_simp; go_at_call 137; refine (mix_e A B C D E F G H HF.out _ (schW_lt _ (btn_lt _)) _ (TK.out.drew.later HB2.out)).mono ?_; rintro e w3 ⟨A', B', C', D', E', F', G', H', rfl, hpl, hb3⟩; have rr3 := RR2.out.later hb3 RR2.out.lt; obtain ⟨e0, e1, e2, e3, e4, e5, e6, e7⟩ := rr3.cells8; dsimp only at e0 e1 e2 e3 e4 e5 e6 e7; have g0 := rr3.frozen 0; have g1 := rr3.frozen 1; have g2 := rr3.frozen 2; have g3 := rr3.frozen 3; have g4 := rr3.frozen 4; have g5 := rr3.frozen 5; have g6 := rr3.frozen 6; have g7 := rr3.frozen 7; have RR3 := Lib.hid rr3; have HB3 := Lib.hid hb3; have HP := Lib.hid hpl; clear rr3 hb3 hpl))
      all_goals
        have hq : hsh s (btn t) (k + 1) = ⟨A', B', C', D', E', F', G', H'⟩ := by rw [HN.out, ← blk_extract _ t k (by omega), HP.out]
        have HQ := Lib.hid hq
        clear hq
        go_wp2
        go_roundw
        case rel =>
          refine ⟨k + 1, by omega, by go_num, ?_, ?_, ?_⟩
          · rw [HQ.out]
            exact RR3.out.set8 ⟨A', B', C', D', E', F', G', H'⟩
          · have r2 := (R2.out.drew.later HB2.out R2.out.lt)
            have r3 := r2.later HB3.out r2.lt
            exact (((((((r3.set_other _ _ (by simp)).set_other _ _ (by simp)).set_other _ _ (by simp)).set_other _ _ (by simp)).set_other _ _ (by simp)).set_other _ _ (by simp)).set_other _ _ (by simp)).set_other _ _ (by simp)
          · have b3 := (HB.out.drew.trans (HB2.out.mono HB.out.size)).trans (HB3.out.mono (Nat.le_trans HB.out.size HB2.out.size))
            exact (((((((b3.setCell (by simp) _).setCell (by simp) _).setCell (by simp) _).setCell (by simp) _).setCell (by simp) _).setCell (by simp) _).setCell (by simp) _).setCell (by simp) _
        case measure => simp [intOf]; omega
    · obtain rfl : k = t.size / 64 := by omega
      have R1 := Lib.hid hr1
      have R2 := Lib.hid hr2
      have HB := Lib.hid hbl
      clear hr1 hr2 hbl hlt hk
      go_wp2_with (first | refine wp_load_all 155 153 R1.out Tryd.underlying155 Tryd.size155 rfl _ rfl rfl ?_ | refine wp_store_all 155 R2.out Tryd.size155 rfl _ _ rfl rfl rfl ?_)
      refine bodyPost_ret (v := .agg (rowC .u32 8 (hsh s (btn t) (t.size / 64)).at)) ?_ rfl ⟨rfl, ?_⟩
      · exact results_all (e := 153) Tryd.results119 _ _ (w.heap.size + 1) 8 _ 155 (R2.out.setRow _) rfl Tryd.underlying155 Tryd.size155
      · exact below_setRow HB.out (by omega) _
end Go.Proofs.YtemhhjkmolndbaaDoor
