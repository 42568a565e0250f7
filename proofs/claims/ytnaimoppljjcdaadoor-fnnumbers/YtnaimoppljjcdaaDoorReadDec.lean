/- The walks of the program's ReadDec, by the library's contracts for TrimPrefix, Atoi and Itoa. -/
import Derived.Test.YtnaimoppljjcdaaDoorDecLaw
import Derived.Test.YtnaimoppljjcdaaDoorDecMath
import Derived.Lib.AtoiBound
import Derived.Lib.SmallJoins
namespace Go.Proofs.YtnaimoppljjcdaaDoor
open Go.RowKit Go.PlainAid
set_option linter.unusedVariables false

theorem trim_call (s t : ByteArray) (w : World) (ht : t.data.toList = Lib.trimPrefix s.data.toList [45]) :
    Calls Tryd.prog 25 #[.string s, .string { data := #[45] }] w fun e w' => e = .returned (.string t) ∧ w = w' := by
  refine (Tryd.strings_TrimPrefix s { data := #[45] } w).mono fun e w' ⟨he, hw⟩ => ⟨?_, hw.symm⟩
  rw [he]
  have : (⟨(Lib.trimPrefix s.data.toList ({ data := #[45] } : ByteArray).data.toList).toArray⟩ : ByteArray) = t := by
    apply ByteArray.ext
    apply Array.toList_inj.1
    rw [ht]
  rw [this]
theorem exists_trim (s : ByteArray) : ∃ t : ByteArray, t.data.toList = Lib.trimPrefix s.data.toList [45] ∧ (t.size : Int) = ((Lib.trimPrefix s.data.toList [45]).length : Int) :=
  ⟨⟨(Lib.trimPrefix s.data.toList [45]).toArray⟩, rfl, by simp [ByteArray.size]⟩

theorem str_of_list (s : ByteArray) (l : List UInt8) (h : l = s.data.toList) : (⟨l.toArray⟩ : ByteArray) = s := by
  subst h; exact Lib.mk_data s
theorem str_ne (s : ByteArray) (l : List UInt8) (h : l ≠ s.data.toList) : (!(l == s.toList)) = true := by
  rw [Lib.toList_data]
  simpa using h

set_option maxHeartbeats 400000 in
theorem impl_rd_long (s : ByteArray) (w : World) (hs : s.size ≤ 1048576) (h : 9 < (Lib.trimPrefix s.data.toList [45]).length) :
    Calls Tryd.prog 13 #[.string s] w fun e w' => e = .returned (.tuple #[.int .i64 0, .bool false]) ∧ Below w.heap.size w w' := by
  obtain ⟨t, ht, hz⟩ := exists_trim s
  have hlt : (9 : Int) < t.size := by omega
  have HT := Lib.hid ht
  clear ht hz h
  go_enter Tryd.func13, Tryd.ntmps13
  go_wp2_with (go_at_call 25; refine (trim_call s t _ HT.out).mono ?_; rintro e w' ⟨rfl, rfl⟩)
  go_ret2
  exact ⟨rfl, Below.refl _ _⟩

set_option maxHeartbeats 400000 in
theorem impl_rd_err (s : ByteArray) (w : World) (hs : s.size ≤ 18) (h : (Lib.trimPrefix s.data.toList [45]).length ≤ 9) (hn : Lib.atoi s.data.toList = none) (hy : Syn w) :
    Calls Tryd.prog 13 #[.string s] w fun e w' => e = .returned (.tuple #[.int .i64 0, .bool false]) ∧ Below w.heap.size w w' := by
  obtain ⟨t, ht, hz⟩ := exists_trim s
  obtain ⟨tp, p, hy⟩ := hy
  have hle : (t.size : Int) ≤ 9 := by omega
  have HT := Lib.hid ht
  have HN := Lib.hid hn
  have HY := Lib.hid hy
  clear ht hz h hn hy
  go_enter Tryd.func13, Tryd.ntmps13
  go_wp2_with (first | (go_at_call 25; refine (trim_call s t _ HT.out).mono ?_; rintro e w' ⟨rfl, rfl⟩) | (go_at_call 26; refine (Tryd.strconv_Atoi_err_var s hs HN.out tp p _ HY.out).mono ?_; rintro e w' ⟨N, rfl, hN, hcell, hb⟩; clear hcell))
  go_ret2
  exact ⟨rfl, hb⟩

set_option maxHeartbeats 400000 in
theorem impl_rd_ne (s : ByteArray) (m : Int) (w : World) (hs : s.size ≤ 18) (h : (Lib.trimPrefix s.data.toList [45]).length ≤ 9) (hm : Lib.atoi s.data.toList = some m) (hne : Lib.itoa m ≠ s.data.toList) (ht : Tab w) :
    Calls Tryd.prog 13 #[.string s] w fun e w' => e = .returned (.tuple #[.int .i64 0, .bool false]) ∧ Below w.heap.size w w' := by
  obtain ⟨t, htr, hz⟩ := exists_trim s
  have hle : (t.size : Int) ≤ 9 := by omega
  have hbd := Lib.atoi_bound hm (by rw [← Lib.size_eq]; exact hs)
  have hq := str_ne s _ hne
  have HT := Lib.hid htr
  have HM := Lib.hid hm
  clear htr hz h hm hne
  go_enter Tryd.func13, Tryd.ntmps13
  go_wp2_with (first | (go_at_call 25; refine (trim_call s t _ HT.out).mono ?_; rintro e w' ⟨rfl, rfl⟩) | (go_at_call 26; refine (Tryd.strconv_Atoi s m hs HM.out _).mono ?_; rintro e w' ⟨rfl, u, rfl⟩; have hb := Joins.below_bytesWorld w.heap.size w 5 u (Nat.le_refl _)) | (go_at_call 14; refine (impl_dec m _ (by omega) (by omega) (ht.below hb)).mono ?_; rintro e w' ⟨rfl, hb2⟩))
  go_ret2
  exact ⟨rfl, hb.trans (hb2.mono hb.size)⟩

set_option maxHeartbeats 400000 in
theorem impl_rd_ok (s : ByteArray) (n : Int) (w : World) (h : RdOk s.data.toList n) (ht : Tab w) :
    Calls Tryd.prog 13 #[.string s] w fun e w' => e = .returned (.tuple #[.int .i64 n, .bool true]) ∧ Below w.heap.size w w' := by
  obtain ⟨t, htr, hz⟩ := exists_trim s
  have hk := ok_model _ _ h
  have hle : (t.size : Int) ≤ 9 := by have := h.1; omega
  have hs : s.size ≤ 18 := by rw [Lib.size_eq]; omega
  have hm : Lib.atoi s.data.toList = some n := by rw [← h.2]; exact atoi_itoa n
  have hbd := Lib.atoi_bound hm (by rw [← Lib.size_eq]; exact hs)
  have he := str_of_list s _ h.2
  have HT := Lib.hid htr
  have HM := Lib.hid hm
  have HE := Lib.hid he
  clear htr hz h hm hk he
  go_enter Tryd.func13, Tryd.ntmps13
  go_wp2_with (first | (go_at_call 25; refine (trim_call s t _ HT.out).mono ?_; rintro e w' ⟨rfl, rfl⟩) | (go_at_call 26; refine (Tryd.strconv_Atoi s n hs HM.out _).mono ?_; rintro e w' ⟨rfl, u, rfl⟩; have hb := Joins.below_bytesWorld w.heap.size w 5 u (Nat.le_refl _)) | (go_at_call 14; refine (impl_dec n _ (by omega) (by omega) (ht.below hb)).mono ?_; rw [HE.out]; rintro e w' ⟨rfl, hb2⟩))
  go_ret2
  exact ⟨rfl, hb.trans (hb2.mono hb.size)⟩
end Go.Proofs.YtnaimoppljjcdaaDoor
