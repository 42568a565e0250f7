/- The iterator over the frames of a string. -/
import Derived.RangeFuncNested
import Derived.RangeFuncBound
import Derived.RangeFuncCalls
import Derived.RangeFuncLeaves
import Derived.RangeFuncBox
import Derived.Shelf.Abstract
import Derived.Shelf.RegionOpen
import Derived.WalkKit
import Derived.OwnWalkIn
import Derived.TacticsInMore
import Derived.LoopNIn
import Derived.LoopIn
import Derived.WalkMore
import Derived.Test.YtemhhjkmolndbaaDoorFrRead
import Derived.Test.YtemhhjkmolndbaaDoorRdr
namespace Go.Proofs.YtemhhjkmolndbaaDoor
open Go.RowKit Go.Shelf Go.PlainAid
set_option linter.unusedVariables false
attribute [local go_sem] Oper.semAt_some

theorem wpIn_scope_wide {n : Nat} {P : Program} {c : Code} {Q : Exit → Act → World → Prop} {a : Act} {w : World} (h : c.wpIn Fence.wide n P (Exit.noGoto Q) a w) : (Code.scope c).wpIn Fence.wide n P Q a w :=
  wpIn_wide.2 (wp_scope_straight (wpIn_wide.1 h))
/-- What comes of the first k frames: the contents, and the place behind. -/
def fX (s : ByteArray) (k : Nat) : List (ByteArray × Int) := (List.range k).map fun i => (frC (fS s i), ((fP s (i + 1) : Nat) : Int))
theorem fX_length (s : ByteArray) (k : Nat) : (fX s k).length = k := by simp [fX]
theorem fX_succ (s : ByteArray) (k : Nat) : fX s (k + 1) = fX s k ++ [(frC (fS s k), ((fP s (k + 1) : Nat) : Int))] := by
  unfold fX
  rw [List.range_succ]
  simp
theorem fX_pre (s : ByteArray) (k m : Nat) (h : k ≤ m) : fX s k <+: fX s m := by
  obtain ⟨d, rfl⟩ := Nat.exists_eq_add_of_le h
  unfold fX
  rw [List.range_add, List.map_append]
  exact List.prefix_append _ _
theorem fX_fst (s : ByteArray) (k : Nat) : (fX s k).map Prod.fst = fL s k := by
  unfold fX fL
  rw [List.map_map]
  rfl
/-- What a round keeps: all that stood before, and the iterator's own string. -/
def KpF (n0 Bn : Nat) (W W' : World) : Prop := Below n0 W W' ∧ W'.heap[Bn]? = W.heap[Bn]?
theorem KpF.cell {n0 Bn : Nat} {W W' : World} {v : Value} (h : KpF n0 Bn W W') (hc : W.cell? ⟨Bn, 0, none⟩ = some v) : W'.cell? ⟨Bn, 0, none⟩ = some v := by
  rw [World.cell?_of_block (w := W) h.2]
  exact hc

set_option maxRecDepth 100000 in
set_option maxHeartbeats 1000000 in
theorem frames_stops (n : Nat) (hn : 1 ≤ n) (Bn n0 : Nat) (s : ByteArray) (hs : s.size ≤ 1048576) (w : World) (hBn : Bn < w.heap.size) (hc : w.cell? ⟨Bn, 0, none⟩ = some (.string s)) (ht : TabC w) (hg : 2 < n0) :
    SeqStopsK Fence.wide n Tryd.prog 81 #[.pointer (some ⟨Bn, 0, none⟩)] (fun x : ByteArray × Int => #[.string x.1, .int .i64 x.2]) (KpF n0 Bn) (fun ys => ys = fX s (nF s)) (fun pre => pre <+: fX s (nF s)) (nF s) w := fun l J Jx W hW hJ hJx hY h0 => by
  have hcW : W.cell? ⟨Bn, 0, none⟩ = some (.string s) := (hW.cell (p := ⟨Bn, 0, none⟩) hBn).trans hc
  have htW : TabC W := ht.later hW (Nat.le_refl _)
  have HY := Lib.hid hY
  have HJ := Lib.hid hJ
  clear hY hJ hJx hc ht hW
  refine callsIn_of_wp Tryd.func81 rfl trivial ?_ rfl
  simp only [Tryd.ntmps81, List.size_toArray, List.length_cons, List.length_nil, Nat.reduceAdd, Nat.reduceSub, Array.replicate_succ, Array.replicate_zero, List.push_toArray, List.append_toArray, List.nil_append, List.cons_append]
  refine wpIn_scope_wide ?_
  gi_wp2
  refine wpIn_label ?_
  gi_wp2
  gi_loopw [3] (fun p wr => ∃ k : Nat, k ≤ nF s ∧ p = .int .i64 (fP s k : Nat) ∧ J (fX s k) wr ∧ TabC wr ∧ wr.cell? ⟨Bn, 0, none⟩ = some (.string s)) (fun p _ => s.size - (intOf p).toNat)
  case atStart => exact ⟨0, by omega, by rw [fP_zero]; rfl, h0, htW, hcW⟩
  case round =>
    obtain ⟨k, hk, rfl, hJs, hts, hcs⟩ := hrel
    have hx := fS_ext s k hk
    have hq := fP_size s k hk
    obtain ⟨r, hr⟩ : ∃ r, fS s k = r := ⟨_, rfl⟩
    obtain ⟨q, hqq⟩ : ∃ q, fP s k = q := ⟨_, rfl⟩
    rw [hr] at hx hq
    rw [hqq] at hx hq ⊢
    have HTS := Lib.hid hts
    have HJS := Lib.hid hJs
    have HR := Lib.hid hr
    have HQ := Lib.hid hqq
    clear hts hJs hr hqq h0 htW hcW
    have hqi : (q : Int) ≤ (s.size : Int) := by omega
    gi_wp2_with fail
    refine ⟨trivial, (callsIn_wide.2 (read_frame r wr (by omega) HTS.out)).mono ?_⟩
    rintro e w1 ⟨rfl, hb1⟩
    have HJ1 := Lib.hid (HJ.out _ wr w1 none HJS.out (grown_of_below hb1 none) (fun r e => by cases e))
    have HT1 := Lib.hid (HTS.out.later hb1 (Nat.le_refl _))
    have hc1 : w1.cell? ⟨Bn, 0, none⟩ = some (.string s) := by rw [hb1.cell (p := ⟨Bn, 0, none⟩) (cell_lt hcs)]; exact hcs
    clear HTS HJS hb1 hcs
    cases ho : frOk r with
    | false =>
      rw [frA_no r ho, frZ_no r ho]
      have hkn : k = nF s := nF_last s k hk (by rw [HR.out]; exact ho)
      have HK := Lib.hid hkn
      clear hkn ho
      gi_wp2
      rw [Exit.noGoto_normal]
      go_end0
      exact ⟨⟨_, rfl⟩, .inl ⟨fX s k, by rw [HK.out], HJ1.out⟩⟩
    | true =>
      have hkn : k < nF s := nF_more s k hk (by rw [HR.out]; exact ho)
      rw [frA_ok r ho, frZ_ok r ho]
      have hz := frR_size r ho
      have hsu := fP_succ s k hkn
      rw [HR.out, HQ.out] at hsu
      have hX := fX_succ s k
      rw [HR.out, hsu] at hX
      have hfs := frameS_le (frC r)
      generalize frC r = c at *
      generalize (frameS c).size = z at *
      have hX2 : fX s (k + 1) = fX s k ++ [(c, (q : Int) + (z : Int))] := by rw [hX]; rfl
      have HX := Lib.hid hX2
      have HSU := Lib.hid hsu
      clear hX hX2 hsu ho
      obtain ⟨hz1, hz2⟩ := hz
      have hzz : ((z : Int) == 0) = false := beq_no (by omega)
      have hwq : IntKind.i64.wrap ((q : Int) + (z : Int)) = (q : Int) + (z : Int) := IntWalk.i64_in _ (by omega)
      obtain ⟨fn, tmps, assign, body, hy, hR⟩ := HY.out (fX s k) (c, (q : Int) + (z : Int)) w1 HJ1.out (by rw [fX_length]; exact hkn)
      dsimp only at hy
      gi_wp2
      refine hR.mono ?_
      rintro e W3 (⟨rfl, hJ3, hk3⟩ | ⟨rfl, hJx3⟩)
      · have HJ3 := Lib.hid hJ3
        have HT3 := Lib.hid (HT1.out.below hk3.1 hg)
        have hc3 := hk3.cell hc1
        clear hJ3 hk3
        gi_wp2
        go_roundw
        case rel => exact ⟨k + 1, by omega, by rw [HSU.out]; rfl, by rw [HX.out]; exact HJ3.out, HT3.out, hc3⟩
        case measure => simp only [intOf]; omega
      · gi_wp2
        rw [Exit.noGoto_ret]
        refine bodyPost_ret (results_none rfl _ _ _) rfl ?_
        exact ⟨⟨_, rfl⟩, .inr ⟨fX s (k + 1), fX_pre s _ _ (by omega), by rw [HX.out]; exact hJx3⟩⟩
end Go.Proofs.YtemhhjkmolndbaaDoor
