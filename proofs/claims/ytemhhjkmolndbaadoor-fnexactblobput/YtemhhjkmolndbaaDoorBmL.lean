/- The program's listBlobs. -/
import Derived.Test.YtemhhjkmolndbaaDoorBmI
import Derived.Test.YtemhhjkmolndbaaDoorQTake
namespace Go.Proofs.YtemhhjkmolndbaaDoor
open Go.RowKit Go.PlainAid Go.Maps
set_option linter.unusedVariables false

theorem grow_below {w0 w w' : World} {row : Option Nat} (h : w0.grownBy w row) (hb : Below w0.heap.size w w') : w0.grownBy w' row :=
  ⟨hb.os.trans h.os, hb.tape.trans h.tape, hb.output.trans h.output, Nat.le_trans h.size hb.size, fun k hk hne => (hb.block k hk).trans (h.block k hk hne)⟩
theorem encStr_k (s : ByteArray) : encStr (kOf s) = .string s := by
  cases s
  simp [encStr, kOf]
/-- What slices.Sorted(maps.Keys(m)) hands back, in plain words. -/
theorem keys_cells {w : World} {base : Nat} {v : Value} {l : List Bb} {ss : List (List UInt8)} (hp : ss.mergeSort (fun x y => decide (x ≤ y)) = l.map fun x => kOf x.id) (hr : w.ownsRow base 9 1 v ss.length ((ss.mergeSort (fun x y => decide (x ≤ y))).map encStr)) :
    ∃ a cap, v = .slice a l.length cap ∧ (0 < l.length → ∃ g, a = some ⟨g, 0, none⟩ ∧ base ≤ g ∧ g < w.heap.size ∧ l.length ≤ cap ∧ ∀ j, j < l.length → w.cell? ⟨g, j, none⟩ = some (.string (bI l j))) := by
  have hlen : ss.length = l.length := by
    have := congrArg List.length hp
    rw [List.length_mergeSort, List.length_map] at this
    exact this
  rw [hp] at hr
  obtain ⟨h1, ⟨rfl, h2⟩ | ⟨g, cap, cur, rfl, hb, hg, hc, hm, hs, ht⟩⟩ := hr
  · exact ⟨none, 0, by rw [← hlen, h2], fun h0 => by omega⟩
  · rw [hlen] at hc ht ⊢
    refine ⟨_, cap, rfl, fun h0 => ⟨g, rfl, hb, (Array.getElem?_eq_some_iff.1 hg).1, hc, fun j hj => ?_⟩⟩
    rw [cell_of_row w g j cur 9 (0, 0) hg]
    have e : (List.map encStr (List.map (fun x => kOf x.id) l))[j]? = some (.string (bI l j)) := by
      rw [List.getElem?_map, List.getElem?_map, bb_get l j hj]
      simp only [Option.map_some, encStr_k]
    rw [← ht, List.getElem?_take, if_pos (by omega)] at e
    simpa using e
set_option maxRecDepth 100000 in
set_option maxHeartbeats 2000000 in
theorem impl_listBlobs (q : Int) (b n : Nat) (l : List Bb) (w : World) (hM : BMap w b n l) (hA : Asc l) (hs : Sml l) (hn : n ≤ 1000) (hl : l.length ≤ 1000) :
    Calls Tryd.prog 59 #[.int .i64 q, .map (some b)] w fun e w' => ∃ v, e = .returned (.agg #[.int .i64 q, v]) ∧ BlRow w' w.heap.size v l ∧ Below w.heap.size w w' := by
  obtain ⟨m, hm⟩ : ∃ m, l.length = m := ⟨_, rfl⟩
  have HL := Lib.hid hm
  have HA := Lib.hid hA
  have HS := Lib.hid hs
  have hbw := hM.lt
  have M0 := Lib.hid ((hM.alloc (.cells #[.int .i64 0, .slice none 0 0] 41)).alloc (.cells #[.int .i64 q, .slice none 0 0] 41))
  have Z0 := Lib.hid ((Bx.new w 41 #[.int .i64 0, .slice none 0 0] _ rfl).alloc (.cells #[.int .i64 q, .slice none 0 0] 41))
  have X0 := Lib.hid (Bx.new (w.alloc (.cells #[.int .i64 0, .slice none 0 0] 41)) 41 #[.int .i64 q, .slice none 0 0] (w.heap.size + 1) (by simp))
  have A0 := Lib.hid (((Af.refl w).alloc (.cells #[.int .i64 0, .slice none 0 0] 41)).alloc (.cells #[.int .i64 q, .slice none 0 0] 41))
  rw [hm] at hl
  clear hM hA hs hm
  go_enter Tryd.func59, Tryd.ntmps59
  go_wp2_with fail
  refine (callsIn_wide.1 (Tryd.maps_Keys_94 (some b) _)).mono ?_
  rintro e w' ⟨rfl, rfl⟩
  obtain ⟨D, hown, hrel⟩ := M0.out
  have hsz := hown.size_le
  have HREL := Lib.hid hrel
  have HOWN := Lib.hid hown
  clear hrel hown
  go_wp2_with fail
  have hsrt := callsIn_wide.1 (Tryd.slices_Sorted_keys_93_94 b n D bbE _ HOWN.out (by unfold maxLen; omega) (by omega))
  have hse : ((w.alloc (.cells #[.int .i64 0, .slice none 0 0] 41)).alloc (.cells #[.int .i64 q, .slice none 0 0] 41)).heap.size = w.heap.size + 1 + 1 := by simp
  rw [hse] at hsrt
  refine hsrt.mono ?_
  clear hsrt hse
  rintro e w1 ⟨kv, ss, rfl, hS, hrow, hnil, hb⟩
  obtain ⟨ka, kc, rfl, hkeys⟩ := keys_cells (keys_sorted HOWN.out HREL.out HA.out hS) hrow
  rw [HL.out] at hkeys ⊢
  have HK := Lib.hid hkeys
  have M1 := Lib.hid ((M0.out.alloc (.cells #[.map (some b)] 85)).later hb)
  have Z1 := Lib.hid ((Z0.out.alloc (.cells #[.map (some b)] 85)).after hb)
  have X1 := Lib.hid ((X0.out.alloc (.cells #[.map (some b)] 85)).after hb)
  have A1 := Lib.hid ((A0.out.alloc (.cells #[.map (some b)] 85)).after hb)
  have xlt := X1.out.lt
  clear hb hS hrow hnil hkeys M0 Z0 X0 A0 HREL HOWN hsz
  go_wp2_with fail
  go_loopw [15] (fun i wr => ∃ (k : Nat) (va : Option Addr) (vn vc : Nat), k ≤ m ∧ i = .int .i64 k ∧ Bx wr (w.heap.size + 1) 41 #[.int .i64 q, .slice va vn vc] ∧ BlRow wr w1.heap.size (.slice va vn vc) (l.take k) ∧ w1.grownBy wr (some (w.heap.size + 1))) (fun i _ => m - (intOf i).toNat)
  case atStart => exact ⟨0, none, 0, 0, by omega, rfl, X1.out, blRow_nil _ _, World.grownBy.refl _ _⟩
  case round =>
    obtain ⟨k, va, vn, vc, hk, rfl, hx, hr, hg⟩ := hrel
    have X := Lib.hid hx
    have R := Lib.hid hr
    have G := Lib.hid hg
    have hgs := hg.size
    clear hx hr hg X1
    by_cases hlt : k < m
    · obtain ⟨g, rfl, hg0, hg1, hgc, hcl⟩ := HK.out (by omega)
      have hgne : g ≠ w.heap.size + 1 := by simp at hg0; omega
      have ck : wr.cell? ⟨g, k, none⟩ = some (.string (bI l k)) := by
        rw [World.cell?_of_block (w := w1) (a := ⟨g, k, none⟩) (G.out.block g hg1 (by simpa using hgne))]
        exact hcl k hlt
      have hsz := HS.out k (by rw [HL.out]; exact hlt)
      have hmem : (⟨bI l k, bD l k, bX l k⟩ : Bb) ∈ l := List.mem_of_getElem? (bb_get l k (by rw [HL.out]; exact hlt))
      have hlk := (((M1.out.keep G.out (by simp; omega)).look (bI l k) (by omega)).1 _ (getB_mem HA.out hmem)).2
      have Z := Lib.hid (Bx.new wr 89 #[.string (bI l k), .string (bD l k), .bool (bX l k)] _ rfl)
      have X2 := Lib.hid (X.out.alloc (.cells #[.string (bI l k), .string (bD l k), .bool (bX l k)] 89))
      have R2 := Lib.hid (R.out.alloc (.cells #[.string (bI l k), .string (bD l k), .bool (bX l k)] 89))
      have G2 := Lib.hid (G.out.trans (World.grownBy_alloc wr (.cells #[.string (bI l k), .string (bD l k), .bool (bX l k)] 89) (some (w.heap.size + 1))))
      have C1 := Lib.hid (fun W => clone_c (bI l k) W hsz.1)
      have C2 := Lib.hid (fun W => clone_c (bD l k) W hsz.2)
      obtain ⟨x0, x1⟩ := X2.out.cells2
      obtain ⟨z0, z1, z2⟩ := Z.out.cells3
      have tl : (l.take k).length ≤ 1048576 := by rw [List.length_take, HL.out]; omega
      have TL := Lib.hid tl
      clear hcl hmem tl hsz
      go_wp2_with fail
      clear hlk ck
      refine wp_region_noPanic ?_
      refine wp_region_takes (T := fun j => decide (13 ≤ j)) (S := fun w' => ((w'.cell? ⟨wr.heap.size, 0, none⟩ = some (.string (bI l k)) ∧ w'.cell? ⟨wr.heap.size, 1, none⟩ = some (.string (bD l k)) ∧ w'.cell? ⟨wr.heap.size, 2, none⟩ = some (.bool (bX l k))) ∧ w'.cell? ⟨w.heap.size + 1, 0, none⟩ = some (.int .i64 q) ∧ w'.cell? ⟨w.heap.size + 1, 1, none⟩ = some (.slice va vn vc))) [0, 1, 2, 3, 5, 6, 8, 9] [4, 7, 10, 11, 12, 13, 14] (by kernel_rfl) (by kernel_rfl) (by kernel_rfl) (by kernel_rfl) (fun _ _ _ _ _ h => h) (And.intro Z.out.drew.cells3 X2.out.drew.cells2) ?_
      clear x0 x1 z0 z1 z2
      iterate 8 (refine wpTakes_step (v := ?_) rfl rfl ?_ ?_; rotate_left; (intro w' hS'; (try dsimp only at hS'); go_simp; (try with_reducible rfl)); simp only [Act.put, List.setIfInBounds_toArray])
      unfold wpTakes
      refine wpSeqT_step rfl ?_
      go_wp2_with fail
      refine (C1.out _).mono ?_
      rintro e w3 ⟨rfl, hb3⟩
      have Z3 := Lib.hid (Z.out.drew.after hb3)
      have X3 := Lib.hid (X2.out.drew.after hb3)
      have R3 := Lib.hid (R2.out.drew.later hb3)
      have G3 := Lib.hid (G2.out.trans (grown_all (show Below (wr.alloc (.cells #[.string (bI l k), .string (bD l k), .bool (bX l k)] 89)).heap.size _ w3 from (Below.refl _ _).drew.trans hb3) _))
      clear hb3 Z X2 R2 G2
      go_wp2
      refine ⟨fun _ => And.intro Z3.out.cells3 X3.out.cells2, ?_⟩
      refine wpSeqT_step rfl ?_
      go_wp2_with fail
      refine (C2.out _).mono ?_
      rintro e w4 ⟨rfl, hb4⟩
      have Z4 := Lib.hid (Z3.out.after hb4)
      have X4 := Lib.hid (X3.out.after hb4)
      have R4 := Lib.hid (R3.out.later hb4)
      have G4 := Lib.hid (G3.out.trans (grown_all hb4 _))
      clear hb4 Z3 X3 R3 G3
      go_wp2
      refine ⟨fun _ => And.intro Z4.out.cells3 X4.out.cells2, ?_⟩
      refine wpSeqT_step rfl ?_
      go_wp2
      refine ⟨fun _ => And.intro Z4.out.cells3 X4.out.cells2, ?_⟩
      refine wpSeqT_step rfl ?_
      go_wp2
      refine ⟨fun _ => And.intro (Z4.out.alloc (.cells #[.string (bI l k), .string (bD l k), .bool (bX l k)] 89)).cells3 (X4.out.alloc (.cells #[.string (bI l k), .string (bD l k), .bool (bX l k)] 89)).cells2, ?_⟩
      refine wpSeqT_step rfl ?_
      refine wp_append_bl rfl (.tmp 23) (.tmp 33) rfl w1.heap.size (.slice va vn vc) (l.take k) [⟨bI l k, bD l k, bX l k⟩] rfl (R4.out.alloc _) w4.heap.size 0 1 rfl (fun j hj => bb_one (x := ⟨bI l k, bD l k, bX l k⟩) (Bx.new w4 _ _ _ rfl).cells3 j hj) (by have := TL.out; simp only [List.length_singleton]; omega) (by have := G4.out.size; simp; omega) ?_
      intro v5 w5 hr5 hg5
      obtain ⟨a5, n5, c5, rfl⟩ := hr5.own.form
      have X5 := Lib.hid ((X4.out.alloc (.cells #[.string (bI l k), .string (bD l k), .bool (bX l k)] 89)).keep hg5 (fun e => by have := (R4.out.lt _ e.symm).1; omega))
      have Z5 := Lib.hid ((Z4.out.alloc (.cells #[.string (bI l k), .string (bD l k), .bool (bX l k)] 89)).keep hg5 (fun e => by have := (R.out.lt _ e.symm).2; omega))
      have R5 := Lib.hid hr5
      have G5 := Lib.hid (grow_below (G4.out.trans (World.grownBy_alloc w4 (.cells #[.string (bI l k), .string (bD l k), .bool (bX l k)] 89) _)) (below_of_row (R4.out.alloc _) (by have := G4.out.size; simp; omega) hg5))
      clear hr5 hg5 Z4 R4 G4 X4
      refine ⟨fun _ => And.intro Z5.out.cells3 X5.out.cells2, ?_⟩
      refine wpSeqT_step rfl ?_
      go_wp2
      refine ⟨fun h => absurd h (by decide), ?_⟩
      obtain ⟨s0, s1⟩ := X5.out.cells2
      have f1 := X5.out.frozen 1
      refine wpSeqT_step rfl ?_
      go_wp2
      refine ⟨fun h => absurd h (by decide), ?_⟩
      unfold wpSeqT
      refine NoPanic.normal ?_
      clear s0 s1 f1
      go_wp2
      go_roundw
      case rel => exact ⟨k + 1, _, _, _, by omega, by go_num, X5.out.set 1 _, by rw [take_snoc l k (by rw [HL.out]; exact hlt)]; exact R5.out.setO (q := w.heap.size + 1) (by omega) _, G5.out.trans (grownBy_set w5 (w.heap.size + 1) 1 _)⟩
      case measure => simp only [intOf]; omega
    · obtain rfl : k = m := by omega
      obtain ⟨x0, x1⟩ := X.out.cells2
      have Z := Lib.hid (Z1.out.keep G.out (by simp))
      obtain ⟨z0, z1⟩ := Z.out.cells2
      have fz0 := Z.out.frozen 0
      have fz1 := Z.out.frozen 1
      go_wp2
      exact bodyPost_ret (results_blobs Tryd.results59 _ _ w.heap.size _ _ rfl (Z.out.st2 _ _).cells2) rfl ⟨_, rfl, by have h := (R.out.st2 (q := w.heap.size) (by omega) (.int .i64 q) (.slice va vn vc)).mono (show w.heap.size ≤ w1.heap.size by omega); rw [List.take_of_length_le (by rw [HL.out]; exact Nat.le_refl _)] at h; exact h, (A1.out.grow G.out (fun j hj => by cases hj; omega)).st2 (Nat.le_refl _) _ _⟩
end Go.Proofs.YtemhhjkmolndbaaDoor
