/- The model's cursor: a string that is spoilt. -/
import Derived.Test.YtoofnlckeodefaaDoorDraw3
import Derived.Deep.RegionWith
namespace Go.Proofs.YtoofnlckeodefaaDoor
open Go.RowKit Go.PlainAid
set_option linter.unusedVariables false

theorem At.drew {xs : List Int} {w : World} {g : Nat} {v : Value} {s : St} (h : At xs w g v s) : At xs w.drew g v s := ⟨h.cur, h.code, h.le⟩
theorem grown_drew (w : World) (row : Option Nat) : w.grownBy w.drew row := ⟨rfl, rfl, rfl, Nat.le_refl _, fun _ _ _ => rfl⟩
/-- What a drawing function gives, a string here, and where it leaves the cursor, is settled by the bytes and the cursor's state. -/
def StrDet (f : Nat) (pre : Array Value) (xs : List Int) (s : St) (r : ByteArray) (s' : St) : Prop :=
  ∀ w g v, At xs w g v s → Calls Tryd.prog f (#[.pointer (some ⟨g, 0, none⟩)] ++ pre) w fun e w' => e = .returned (.string r) ∧ At xs w' g v s' ∧ w.grownBy w' (some g)

theorem nil_str (t : ByteArray) (h : t.size = 0) : t = ByteArray.empty := by
  apply ByteArray.ext
  apply Array.toList_inj.1
  have : t.data.toList = [] := List.eq_nil_of_length_eq_zero (by simpa using h)
  rw [this]; rfl

set_option maxHeartbeats 1000000 in
theorem spoil_empty (xs : List Int) (s : St) : StrDet 20 #[.string ByteArray.empty] xs s (strOfNums (teL xs 3 s)) (teS xs 3 s) := by
  intro w g v h
  go_enter Tryd.func20, Tryd.ntmps20
  go_wp2_with (go_at_call 19; refine (text_at xs 3 _ g v s h (by omega) (by omega)).mono ?_; rintro e w1 ⟨rfl, hA, hg⟩)
  go_ret
  exact ⟨rfl, hA, hg⟩

theorem ext_le (t : ByteArray) (a b : Nat) : (t.extract a b).size ≤ t.size := by simp only [ByteArray.size_extract]; omega

set_option maxHeartbeats 1000000 in
theorem spoil0 (xs : List Int) (t : ByteArray) (s : St) (k : Nat) (h0 : 0 < t.size) (h1 : t.size ≤ 1000) (hk : beV xs t.size s = k) (hc : beV xs 4 (beS xs t.size s) = 0) :
    StrDet 20 #[.string t] xs s (t.extract 0 k ++ t.extract (k + 1) t.size) (beS xs 4 (beS xs t.size s)) := by
  intro w g v h
  have r := beV_range xs t.size s (by omega)
  rw [hk] at r
  have z0 : ((t.size : Int) == 0) = false := beq_eq_false_iff_ne.2 (by omega)
  have HK := Lib.hid hk
  have HC := Lib.hid hc
  clear hk hc
  have kt : k ≤ t.size := by omega
  have kt1 : k + 1 ≤ t.size := by omega
  have x1 := ext_le t 0 k
  have x2 := ext_le t (k + 1) t.size
  have hsz : (t.extract 0 k).size + (t.extract (k + 1) t.size).size ≤ 9223372036854775807 := by omega
  have e1 : IntKind.i64.wrap ((k : Int) + 1) = (k : Int) + 1 := IntWalk.i64_in _ (by omega)
  have e2 : ((k : Int) + 1).toNat = k + 1 := by omega
  go_enter Tryd.func20, Tryd.ntmps20
  go_wp2_with fail
  refine (below_at xs _ _ g v s h (by omega)).mono ?_
  rw [HK.out]
  rintro e w1 ⟨rfl, hA1, hg1⟩
  go_wp2_with fail
  refine (below_at xs _ _ g v _ hA1 (by omega)).mono ?_
  rw [HC.out]
  rintro e w2 ⟨rfl, hA2, hg2⟩
  go_wp2
  go_quiet (fail)
  go_wp2
  go_ret
  exact ⟨rfl, ⟨hA2.cur, hA2.code, hA2.le⟩, (hg1.trans hg2).trans ⟨rfl, rfl, rfl, Nat.le_refl _, fun _ _ _ => rfl⟩⟩

set_option maxHeartbeats 1000000 in
theorem spoil2 (xs : List Int) (t : ByteArray) (s : St) (k : Nat) (h0 : 0 < t.size) (h1 : t.size ≤ 1000) (hk : beV xs t.size s = k) (hc : beV xs 4 (beS xs t.size s) = 2) :
    StrDet 20 #[.string t] xs s (t.extract 0 k) (beS xs 4 (beS xs t.size s)) := by
  intro w g v h
  have r := beV_range xs t.size s (by omega)
  rw [hk] at r
  have z0 : ((t.size : Int) == 0) = false := beq_eq_false_iff_ne.2 (by omega)
  have HK := Lib.hid hk
  have HC := Lib.hid hc
  clear hk hc
  have kt : k ≤ t.size := by omega
  have kt1 : k + 1 ≤ t.size := by omega
  go_enter Tryd.func20, Tryd.ntmps20
  go_wp2_with fail
  refine (below_at xs _ _ g v s h (by omega)).mono ?_
  rw [HK.out]
  rintro e w1 ⟨rfl, hA1, hg1⟩
  go_wp2_with fail
  refine (below_at xs _ _ g v _ hA1 (by omega)).mono ?_
  rw [HC.out]
  rintro e w2 ⟨rfl, hA2, hg2⟩
  go_wp2
  go_ret
  exact ⟨rfl, hA2, hg1.trans hg2⟩

set_option maxHeartbeats 1000000 in
theorem spoil1 (xs : List Int) (t : ByteArray) (s : St) (k : Nat) (h0 : 0 < t.size) (h1 : t.size ≤ 1000) (hk : beV xs t.size s = k) (hc : beV xs 4 (beS xs t.size s) = 1) :
    StrDet 20 #[.string t] xs s (t.extract 0 k ++ strOfNums [bV xs (beS xs 4 (beS xs t.size s))] ++ t.extract k t.size) (sN xs (beS xs 4 (beS xs t.size s))) := by
  intro w g v h
  have r := beV_range xs t.size s (by omega)
  rw [hk] at r
  have z0 : ((t.size : Int) == 0) = false := beq_eq_false_iff_ne.2 (by omega)
  have HK := Lib.hid hk
  have HC := Lib.hid hc
  clear hk hc
  have kt : k ≤ t.size := by omega
  have kt1 : k + 1 ≤ t.size := by omega
  have x1 := ext_le t 0 k
  have x2 := ext_le t k t.size
  have rb := bV_range xs (beS xs 4 (beS xs t.size s))
  have hconv := conv_one
  have q1 : (t.extract 0 k).size + (strOfNums [bV xs (beS xs 4 (beS xs t.size s))]).size ≤ 9223372036854775807 := by rw [strOfNums_size]; simp only [List.length_singleton]; omega
  have q2 : (t.extract 0 k ++ strOfNums [bV xs (beS xs 4 (beS xs t.size s))]).size + (t.extract k t.size).size ≤ 9223372036854775807 := by rw [ByteArray.size_append, strOfNums_size]; simp only [List.length_singleton]; omega
  clear x1 x2
  have s1 := fun W => run_string_add_sum (P := Tryd.prog) W _ _ q1
  have s2 := fun W => run_string_add_sum (P := Tryd.prog) W _ _ q2
  have e8 : IntKind.u8.wrap (bV xs (beS xs 4 (beS xs t.size s))) = bV xs (beS xs 4 (beS xs t.size s)) := IntWalk.u8_in _ rb
  go_enter Tryd.func20, Tryd.ntmps20
  go_wp2_with fail
  refine (below_at xs _ _ g v s h (by omega)).mono ?_
  rw [HK.out]
  rintro e w1 ⟨rfl, hA1, hg1⟩
  go_wp2_with fail
  refine (below_at xs _ _ g v _ hA1 (by omega)).mono ?_
  rw [HC.out]
  rintro e w2 ⟨rfl, hA2, hg2⟩
  go_wp2
  go_region_with ((go_at_call 30; refine (byte_at xs _ g v _ hA2.drew).mono ?_; rintro e w3 ⟨rfl, hA3, hg3⟩))
  all_goals go_wp2
  all_goals go_ret
  all_goals exact ⟨rfl, hA3.other (World.grownBy_alloc w3 _ none), (((hg1.trans hg2).trans (grown_drew w2 _)).trans hg3).trans (World.grownBy_alloc w3 _ _)⟩

set_option maxHeartbeats 1000000 in
theorem spoil3 (xs : List Int) (t : ByteArray) (s : St) (k : Nat) (h0 : 0 < t.size) (h1 : t.size ≤ 1000) (hk : beV xs t.size s = k) (hc : beV xs 4 (beS xs t.size s) = 3) :
    StrDet 20 #[.string t] xs s (t.extract 0 k ++ strOfNums [bits .xor .i64 (bt t k) (1 + beV xs 255 (beS xs 4 (beS xs t.size s))) % 256] ++ t.extract (k + 1) t.size) (beS xs 255 (beS xs 4 (beS xs t.size s))) := by
  intro w g v h
  have r := beV_range xs t.size s (by omega)
  rw [hk] at r
  have z0 : ((t.size : Int) == 0) = false := beq_eq_false_iff_ne.2 (by omega)
  have HK := Lib.hid hk
  have HC := Lib.hid hc
  clear hk hc
  have kt : k ≤ t.size := by omega
  have kt1 : k + 1 ≤ t.size := by omega
  have x1 := ext_le t 0 k
  have x2 := ext_le t (k + 1) t.size
  have rb := beV_range xs 255 (beS xs 4 (beS xs t.size s)) (by omega)
  have hconv := conv_one
  have q1 : ∀ y : Int, (t.extract 0 k).size + (strOfNums [y]).size ≤ 9223372036854775807 := fun y => by rw [strOfNums_size]; simp only [List.length_singleton]; omega
  have q2 : ∀ y : Int, (t.extract 0 k ++ strOfNums [y]).size + (t.extract (k + 1) t.size).size ≤ 9223372036854775807 := fun y => by rw [ByteArray.size_append, strOfNums_size]; simp only [List.length_singleton]; omega
  have p1 := q1 (bits .xor .i64 (bt t k) (1 + beV xs 255 (beS xs 4 (beS xs t.size s))) % 256)
  have p2 := q2 (bits .xor .i64 (bt t k) (1 + beV xs 255 (beS xs 4 (beS xs t.size s))) % 256)
  clear x1 x2 q1 q2
  have hks : k < t.size := by omega
  have hgb := get_bt t k hks
  have b0 := bt_nonneg t k
  have b1 := bt_le t k
  have e1 : IntKind.i64.wrap (bt t k) = bt t k := IntWalk.i64_in _ (by omega)
  have e2 : IntKind.i64.wrap (1 + beV xs 255 (beS xs 4 (beS xs t.size s))) = 1 + beV xs 255 (beS xs 4 (beS xs t.size s)) := IntWalk.i64_in _ (by omega)
  have e3 : IntKind.i64.wrap ((k : Int) + 1) = (k : Int) + 1 := IntWalk.i64_in _ (by omega)
  have e4 : ((k : Int) + 1).toNat = k + 1 := by omega
  have s1 := fun W => run_string_add_sum (P := Tryd.prog) W _ _ p1
  have s2 := fun W => run_string_add_sum (P := Tryd.prog) W _ _ p2
  have e8 : IntKind.u8.wrap (bits .xor .i64 (bt t k) (1 + beV xs 255 (beS xs 4 (beS xs t.size s)))) = bits .xor .i64 (bt t k) (1 + beV xs 255 (beS xs 4 (beS xs t.size s))) % 256 := IntKind.wrap_u8' _
  go_enter Tryd.func20, Tryd.ntmps20
  go_wp2_with fail
  refine (below_at xs _ _ g v s h (by omega)).mono ?_
  rw [HK.out]
  rintro e w1 ⟨rfl, hA1, hg1⟩
  go_wp2_with fail
  refine (below_at xs _ _ g v _ hA1 (by omega)).mono ?_
  rw [HC.out]
  rintro e w2 ⟨rfl, hA2, hg2⟩
  go_wp2
  go_region_with ((go_at_call 18; refine (below_at xs _ _ g v _ hA2.drew (by omega)).mono ?_; rintro e w3 ⟨rfl, hA3, hg3⟩))
  all_goals go_wp2
  all_goals go_ret
  all_goals exact ⟨rfl, hA3.other (World.grownBy_alloc w3 _ none), (((hg1.trans hg2).trans (grown_drew w2 _)).trans hg3).trans (World.grownBy_alloc w3 _ _)⟩
end Go.Proofs.YtoofnlckeodefaaDoor
