/- A bundle of texts: VarBack, RdBack, Clash, CmdsM, RmM, RmN. -/
import Derived.Test.YtkeoeempdkpafaaDoorVarMath
import Derived.Test.YtkeoeempdkpafaaDoorRD
import Derived.Test.YtkeoeempdkpafaaDoorOkC
import Derived.Test.YtkeoeempdkpafaaDoorOkS
import Derived.Test.YtkeoeempdkpafaaDoorSwM
/- A varint at the beginning of a string is read back. Nothing of the program is used here. -/
namespace Go.Proofs.YtkeoeempdkpafaaDoor
open Go.PlainAid
theorem bt_of (s : ByteArray) (i : Nat) (x : UInt8) (h : s.data.toList[i]? = some x) : bt s i = x.toNat := by
  have hi : i < s.size := by
    rw [Lib.size_eq]
    rcases Nat.lt_or_ge i s.data.toList.length with h' | h'
    · exact h'
    · rw [List.getElem?_eq_none h'] at h; cases h
  rw [← get_bt s i hi]
  rw [Lib.data_getElem? s i hi, Option.some.injEq] at h
  rw [h]
/-- Byte i of a string that was made of numbers. -/
theorem bt_nums (l : List Int) (t : ByteArray) (i : Nat) (x : Int) (h : l[i]? = some x) (h0 : 0 ≤ x) (h1 : x ≤ 255) : bt (strOfNums l ++ t) i = x := by
  have hi : i < l.length := by
    rcases Nat.lt_or_ge i l.length with h' | h'
    · exact h'
    · rw [List.getElem?_eq_none h'] at h; cases h
  have e : (strOfNums l ++ t).data.toList[i]? = some (UInt8.ofNat x.toNat) := by
    rw [ByteArray.data_append, Array.toList_append, strOfNums_data, List.getElem?_append_left (by simpa using hi), List.getElem?_map, h]
    rfl
  rw [bt_of _ i _ e, u8_back x h0 h1]
theorem bt_nums' (l : List Int) (i : Nat) (x : Int) (h : l[i]? = some x) (h0 : 0 ≤ x) (h1 : x ≤ 255) : bt (strOfNums l) i = x := by
  have e : (strOfNums l).data.toList[i]? = some (UInt8.ofNat x.toNat) := by
    rw [strOfNums_data, List.getElem?_map, h]
    rfl
  rw [bt_of _ i _ e, u8_back x h0 h1]
theorem size_nums (l : List Int) (t : ByteArray) : (strOfNums l ++ t).size = l.length + t.size := by rw [ByteArray.size_append, strOfNums_size]

/-! ### varints -/
theorem var_high (n : Int) (k i : Nat) (t : ByteArray) (h : i < k) : bt (strOfNums (varL n k) ++ t) i = 128 + vd n i % 128 := bt_nums _ t i _ (varL_get n k i h) (by omega) (by omega)
theorem var_last (n : Int) (k : Nat) (t : ByteArray) (h0 : 0 ≤ n) (hv : VK n k) : bt (strOfNums (varL n k) ++ t) k = vd n k := by
  have := vd_nonneg n h0 k
  have := hv.2
  exact bt_nums _ t k _ (varL_last n k) (by omega) (by omega)
theorem var_nz (n : Int) (k : Nat) (hv : VK n k) : k = 0 ∨ vd n k ≠ 0 := by
  cases k with
  | zero => exact .inl rfl
  | succ k =>
    right
    have := hv.1 k (by omega)
    simp only [vd]
    omega
theorem var_rvr (n : Int) (k : Nat) (t : ByteArray) (h0 : 0 ≤ n) (hv : VK n k) (m : Nat) (hm : m ≤ k + 1) : rvr (strOfNums (varL n k) ++ t) (k + 1) m = vd n (k + 1 - m) := by
  induction m with
  | zero =>
    simp only [rvr, Nat.sub_zero, vd]
    have := vd_nonneg n h0 k
    have := hv.2
    omega
  | succ m ih =>
    simp only [rvr]
    rw [ih (by omega)]
    obtain ⟨j, hj⟩ : ∃ j, k + 1 - (m + 1) = j := ⟨_, rfl⟩
    have hj' : k + 1 - m = j + 1 := by omega
    rw [hj, hj']
    simp only [vd]
    have hg : bt (strOfNums (varL n k) ++ t) j % 128 = vd n j % 128 := by
      by_cases e : j < k
      · rw [var_high n k j t e]; omega
      · obtain rfl : j = k := by omega
        rw [var_last n j t h0 hv]
    rw [hg]
    have := vd_nonneg n h0 j
    omega
theorem var_acc (n : Int) (k : Nat) (t : ByteArray) (h0 : 0 ≤ n) (hv : VK n k) : acc (strOfNums (varL n k) ++ t) (k + 1) = n := by
  rw [acc_eq, var_rvr n k t h0 hv (k + 1) (Nat.le_refl _), Nat.sub_self]; rfl
end Go.Proofs.YtkeoeempdkpafaaDoor
/- What is encoded is read back. Nothing of the program is used here. -/
namespace Go.Proofs.YtkeoeempdkpafaaDoor
open Go.RowKit Go.PlainAid
set_option linter.unusedVariables false

theorem oN_var (n : Int) (r : ByteArray) (h0 : 0 ≤ n) (hm : n ≤ 562949953421311) : oN (some (varS n ++ r)) = (n, some r) := by
  have hv := varS_vk n hm
  have hk := vkF_le 6 n
  have es : (varS n ++ r) = strOfNums (varL n (vkF 6 n)) ++ r := by unfold varS; rfl
  generalize vkF 6 n = k at *
  have hz : (strOfNums (varL n k) ++ r).size = k + 1 + r.size := by rw [ByteArray.size_append, strOfNums_size, varL_length]
  have hl := var_last n k r h0 hv
  have hhit := rv_hit (strOfNums (varL n k) ++ r) k (by omega) hk (fun i hi => by rw [var_high n k i r hi]; omega) (by rw [hl]; exact hv.2)
  have hK : rvK (strOfNums (varL n k) ++ r) = k + 1 := by
    unfold rvK
    rw [hhit]
    simp only
    rw [if_pos]
    rcases var_nz n k hv with h | h
    · exact .inl h
    · exact .inr (by rw [hl]; exact h)
  have hN : rvN (strOfNums (varL n k) ++ r) = n := by
    unfold rvN
    rw [if_neg (by omega), hK]
    exact var_acc n k r h0 hv
  rw [es, oN_ok _ (by omega), hK, hN, hz]
  congr 2
  have hx : (strOfNums (varL n k)).size = k + 1 := by rw [strOfNums_size, varL_length]
  apply bytes_ext
  rw [ext_data, data_append, size_data] at *
  rw [List.drop_append, List.drop_of_length_le (by omega), List.nil_append, hx, Nat.sub_self, List.drop_zero, List.take_of_length_le]
  rw [← size_data]
  omega
theorem oB_front (t r : ByteArray) : oB (t.size : Int) (some (t ++ r)) = (t, some r) := by
  have hz : (t ++ r).size = t.size + r.size := ByteArray.size_append
  rw [oB_ok _ _ (by omega), Int.toNat_natCast]
  have h1 : (t ++ r).extract 0 t.size = t := by
    apply bytes_ext
    rw [ext_data, data_append, List.drop_zero, Nat.sub_zero, size_data, List.take_left]
  have h2 : (t ++ r).extract t.size (t ++ r).size = r := by
    apply bytes_ext
    rw [ext_data, data_append, hz, size_data t, List.drop_left, List.take_of_length_le]
    rw [← size_data r]
    omega
  rw [h1, h2]
theorem oT_text (t r : ByteArray) (h : t.size ≤ 1048576) : oT (some (showT t ++ r)) = (t, some r) := by
  unfold oT
  have e : showT t ++ r = varS t.size ++ (t ++ r) := by unfold showT; rw [append_assoc]
  rw [e, oN_var _ _ (by omega) (by omega)]
  exact oB_front t r
end Go.Proofs.YtkeoeempdkpafaaDoor
/- When two commands conflict: the program's walk and the model's. -/
namespace Go.Proofs.YtkeoeempdkpafaaDoor
open Go.RowKit Go.PlainAid
set_option linter.unusedVariables false

/-- Two commands conflict. -/
@[irreducible] def clashB (c d : CmdM) : Bool := okB c && (okB d && (!(c.kind == 0) && (!(d.kind == 0) && ((c.kind == 7) || ((d.kind == 7) || decide (c.set = d.set))))))
end Go.Proofs.YtkeoeempdkpafaaDoor
/- What is encoded is read back; conflicts are symmetric. Nothing of the program is used here. -/
namespace Go.Proofs.YtkeoeempdkpafaaDoor
open Go.RowKit Go.PlainAid
set_option linter.unusedVariables false

theorem cat_split (l : List ByteArray) (k : Nat) (h8 : ∀ j, j < k → (el l j).size = 8) : (catN l k).size = 8 * k := by
  induction k with
  | zero => rw [catN_zero]; rfl
  | succ k ih => rw [catN_succ, ByteArray.size_append, ih (fun j hj => h8 j (by omega)), h8 k (by omega)]; omega
theorem cat_piece (l : List ByteArray) (k j : Nat) (hj : j < k) (h8 : ∀ j, j < k → (el l j).size = 8) : (catN l k).extract (8 * j) (8 * j + 8) = el l j := by
  induction k with
  | zero => omega
  | succ k ih =>
    have hz := cat_split l k (fun j hj => h8 j (by omega))
    rw [catN_succ]
    by_cases e : j = k
    · subst e
      apply bytes_ext
      rw [ext_data, data_append, List.drop_append, List.drop_of_length_le (by rw [← size_data]; omega), List.nil_append, ← size_data, hz, Nat.sub_self, List.drop_zero, List.take_of_length_le]
      rw [← size_data, h8 j (by omega)]
      omega
    · rw [← ih (by omega) (fun j hj => h8 j (by omega))]
      apply bytes_ext
      rw [ext_data, ext_data, data_append, List.drop_append, List.take_append_of_le_length]
      rw [List.length_drop, ← size_data, hz]
      omega
theorem back_parts (c : CmdM) (h : okB c = true) : wholeB (showB c) = true ∧ rawC (showB c) = c := by
  obtain ⟨⟨k0, k1⟩, ⟨c0, c1⟩, ⟨n0, n1⟩, ⟨m0, m1⟩, h5, h6, h7, h8, h9⟩ := okB_fit c h
  have e0 : showB c = varS c.kind ++ (varS c.client ++ (varS c.no ++ (varS c.n ++ (showT c.set ++ (showT c.name ++ (showT c.tag ++ (varS c.ch.length ++ catN c.ch c.ch.length))))))) := by
    unfold showB
    simp only [append_assoc]
  have r1 : s1 (showB c) = (c.kind, some (varS c.client ++ (varS c.no ++ (varS c.n ++ (showT c.set ++ (showT c.name ++ (showT c.tag ++ (varS c.ch.length ++ catN c.ch c.ch.length)))))))) := by unfold s1; rw [e0]; exact oN_var _ _ (by omega) (by omega)
  have r2 : s2 (showB c) = (c.client, some (varS c.no ++ (varS c.n ++ (showT c.set ++ (showT c.name ++ (showT c.tag ++ (varS c.ch.length ++ catN c.ch c.ch.length))))))) := by unfold s2; rw [r1]; exact oN_var _ _ (by omega) (by omega)
  have r3 : s3 (showB c) = (c.no, some (varS c.n ++ (showT c.set ++ (showT c.name ++ (showT c.tag ++ (varS c.ch.length ++ catN c.ch c.ch.length)))))) := by unfold s3; rw [r2]; exact oN_var _ _ (by omega) (by omega)
  have r4 : s4 (showB c) = (c.n, some (showT c.set ++ (showT c.name ++ (showT c.tag ++ (varS c.ch.length ++ catN c.ch c.ch.length))))) := by unfold s4; rw [r3]; exact oN_var _ _ (by omega) (by omega)
  have r5 : s5 (showB c) = (c.set, some (showT c.name ++ (showT c.tag ++ (varS c.ch.length ++ catN c.ch c.ch.length)))) := by unfold s5; rw [r4]; exact oT_text _ _ (by omega)
  have r6 : s6 (showB c) = (c.name, some (showT c.tag ++ (varS c.ch.length ++ catN c.ch c.ch.length))) := by unfold s6; rw [r5]; exact oT_text _ _ (by omega)
  have r7 : s7 (showB c) = (c.tag, some (varS c.ch.length ++ catN c.ch c.ch.length)) := by unfold s7; rw [r6]; exact oT_text _ _ (by omega)
  have r8 : s8 (showB c) = ((c.ch.length : Int), some (catN c.ch c.ch.length)) := by unfold s8; rw [r7]; exact oN_var _ _ (by omega) (by omega)
  have hz := cat_split c.ch c.ch.length h9
  have hw := whole_of (showB c) (catN c.ch c.ch.length) (by rw [r8]; omega) (by rw [r8]) (by rw [r8, hz]; simp)
  refine ⟨hw, ?_⟩
  have r9 : (s9 (showB c)).1 = c.ch := by
    unfold s9
    rw [r8, if_neg (by simp only; omega)]
    simp only [Int.toNat_natCast]
    exact (oI_list (catN c.ch c.ch.length) c.ch.length c.ch (by omega) rfl (fun j hj => (cat_piece c.ch c.ch.length j hj h9).symm)).symm
  unfold rawC
  rw [r1, r2, r3, r4, r5, r6, r7, r9]
theorem read_back (c : CmdM) : goodB (showS c) = okB c ∧ (okB c = true → readC (showS c) = c) := by
  cases h : okB c
  · have e : showS c = ⟨#[]⟩ := by unfold showS; rw [h]; rfl
    rw [e]
    refine ⟨?_, fun h => by cases h⟩
    have hk : rvK ⟨#[]⟩ = 0 := by
      have := rvK_le ⟨#[]⟩
      have h0 : (ByteArray.mk #[]).size = 0 := rfl
      omega
    have h4 : (s4 ⟨#[]⟩).2 = none := by
      unfold s4 s3 s2 s1
      rw [oN_bad _ hk]
      rfl
    have hw : wholeB ⟨#[]⟩ = false := by
      cases e : wholeB ⟨#[]⟩
      · rfl
      · exfalso
        obtain ⟨_, r8, e8, _⟩ := whole_parts _ e
        obtain ⟨r7, e7, _⟩ := oN_some (st := (s7 ⟨#[]⟩).2) e8
        obtain ⟨r6, e6, _⟩ := oT_some (st := (s6 ⟨#[]⟩).2) e7
        obtain ⟨r5, e5, _⟩ := oT_some (st := (s5 ⟨#[]⟩).2) e6
        obtain ⟨r4, e4, _⟩ := oT_some (st := (s4 ⟨#[]⟩).2) e5
        rw [h4] at e4
        cases e4
    unfold goodB
    rw [hw]
    rfl
  · have e : showS c = showB c := by unfold showS; rw [h]; rfl
    obtain ⟨hw, hr⟩ := back_parts c h
    have hg : goodB (showB c) = true := by unfold goodB; rw [hw, hr, h]; rfl
    rw [e]
    refine ⟨hg, fun _ => ?_⟩
    unfold readC
    rw [hg]
    exact hr
theorem show_read (t : ByteArray) (h : goodB t = true) : showS (readC t) = t := by
  have hw : wholeB t = true := by
    have := h
    unfold goodB at this
    rw [Bool.and_eq_true] at this
    exact this.1
  have hs := good_show t hw
  rw [h] at hs
  have e : readC t = rawC t := by unfold readC; rw [h]; rfl
  rw [e]
  exact of_decide_eq_true hs.symm
theorem clash_symm (c d : CmdM) : clashB c d = clashB d c := by
  unfold clashB
  cases okB c <;> cases okB d <;> cases (c.kind == 0) <;> cases (d.kind == 0) <;> cases (c.kind == 7) <;> cases (d.kind == 7) <;> simp [eq_comm]
theorem clash_zero (c : CmdM) : clashB c zeroC = false := by
  unfold clashB
  have : (zeroC.kind == 0) = true := by decide
  rw [this]
  simp
theorem clash_self (c : CmdM) : (!okB c || ((c.kind == 0) || clashB c c)) = true := by
  unfold clashB
  cases okB c <;> cases (c.kind == 0) <;> simp
end Go.Proofs.YtkeoeempdkpafaaDoor
/- How a message is read, in plain words. Nothing of the program is used here. -/
namespace Go.Proofs.YtkeoeempdkpafaaDoor
open Go.RowKit Go.PlainAid
set_option linter.unusedVariables false

theorem ba_assoc (a b c : ByteArray) : a ++ b ++ c = a ++ (b ++ c) := ByteArray.append_assoc
theorem ba_nil (a : ByteArray) : a ++ (⟨#[]⟩ : ByteArray) = a := ByteArray.ext (by simp)
theorem ba_empty {r : ByteArray} (h : r.size = 0) : r = ⟨#[]⟩ := by
  have : r.extract 0 r.size = r := ext_all r
  rw [h] at this
  rw [← this]
  apply bytes_ext
  rw [ext_data]
  simp
/-- k Ids off the front. -/
def oD (st : Option ByteArray) : Nat → List Ii × Option ByteArray
  | 0 => ([], st)
  | k + 1 => ((oD st k).1 ++ [⟨(oN (oD st k).2).1, (oN (oN (oD st k).2).2).1⟩], (oN (oN (oD st k).2).2).2)
theorem oD_zero (st : Option ByteArray) : oD st 0 = ([], st) := rfl
theorem oD_succ (st : Option ByteArray) (k : Nat) : oD st (k + 1) = ((oD st k).1 ++ [⟨(oN (oD st k).2).1, (oN (oN (oD st k).2).2).1⟩], (oN (oN (oD st k).2).2).2) := rfl
theorem oD_length (st : Option ByteArray) (k : Nat) : (oD st k).1.length = k := by
  induction k with
  | zero => rfl
  | succ k ih => rw [oD_succ, List.length_append, ih]; rfl
theorem oD_none (st : Option ByteArray) (k : Nat) (h : (oD st k).2 = none) (m : Nat) : (oD st (k + m)).2 = none := by
  induction m with
  | zero => exact h
  | succ m ih => rw [Nat.add_succ, oD_succ, ih]; rfl
theorem iR_left (l m : List Ii) (j : Nat) (h : j < l.length) : iR (l ++ m) j = iR l j ∧ iS (l ++ m) j = iS l j := by
  simp only [iR_eq, iS_eq, List.getD, List.getElem?_append_left h, and_self]
theorem iR_last (l : List Ii) (x : Ii) : iR (l ++ [x]) l.length = x.rep ∧ iS (l ++ [x]) l.length = x.slot := by
  have h : (l ++ [x])[l.length]? = some x := by simp
  exact ⟨iR_of h, iS_of h⟩
theorem idsS_left (l m : List Ii) (k : Nat) (h : k ≤ l.length) : idsS (l ++ m) k = idsS l k := by
  induction k with
  | zero => rw [idsS_zero, idsS_zero]
  | succ k ih =>
    obtain ⟨a, b⟩ := iR_left l m k (by omega)
    rw [idsS_succ, idsS_succ, ih (by omega), a, b]
theorem oD_some (st : Option ByteArray) (k : Nat) (q : ByteArray) (h : (oD st k).2 = some q) : ∃ r, st = some r ∧ r = idsS (oD st k).1 k ++ q := by
  induction k generalizing q with
  | zero => exact ⟨q, h, by rw [oD_zero, idsS_zero]; exact (ByteArray.ext (by simp)).symm⟩
  | succ k ih =>
    rw [oD_succ] at h ⊢
    obtain ⟨r2, e2, q2⟩ := oN_some h
    obtain ⟨r1, e1, q1⟩ := oN_some e2
    obtain ⟨r, e, hr⟩ := ih r1 e1
    refine ⟨r, e, ?_⟩
    have hl := oD_length st k
    obtain ⟨a, b⟩ := iR_last (oD st k).1 ⟨(oN (oD st k).2).1, (oN (oN (oD st k).2).2).1⟩
    rw [hl] at a b
    rw [idsS_succ, a, b, idsS_left _ _ _ (by omega), ba_assoc, ba_assoc, ← q2, ← q1]
    exact hr
theorem oD_ids (l : List Ii) (k : Nat) (q : ByteArray) (hk : k ≤ l.length) (hr : ∀ j, j < l.length → (0 ≤ iR l j ∧ iR l j ≤ 2) ∧ (0 ≤ iS l j ∧ iS l j ≤ 6)) : oD (some (idsS l k ++ q)) k = (l.take k, some q) := by
  induction k generalizing q with
  | zero => rw [oD_zero, idsS_zero, List.take_zero]; congr 2
  | succ k ih =>
    have hb := hr k (by omega)
    rw [oD_succ, idsS_succ, ba_assoc, ba_assoc, ih _ (by omega)]
    simp only
    rw [oN_var _ _ (by omega) (by omega)]
    simp only
    rw [oN_var _ _ (by omega) (by omega)]
    rw [List.take_add_one, ii_get l k (by omega)]
    rfl
theorem oD_all (l : List Ii) (hr : ∀ j, j < l.length → (0 ≤ iR l j ∧ iR l j ≤ 2) ∧ (0 ≤ iS l j ∧ iS l j ≤ 6)) : oD (some (idsS l l.length)) l.length = (l, some ⟨#[]⟩) := by
  have := oD_ids l l.length ⟨#[]⟩ (Nat.le_refl _) hr
  rw [ba_nil, List.take_length] at this
  exact this
/-! ### the fields of a message, off the front -/
def k1 (s : ByteArray) := oN (some s)
def k2 (s : ByteArray) := oN (k1 s).2
def k3 (s : ByteArray) := oN (k2 s).2
def k4 (s : ByteArray) := oN (k3 s).2
def k5 (s : ByteArray) := oN (k4 s).2
def k6 (s : ByteArray) := oN (k5 s).2
def k7 (s : ByteArray) := oN (k6 s).2
def k8 (s : ByteArray) := oN (k7 s).2
def k9 (s : ByteArray) := oN (k8 s).2
def k10 (s : ByteArray) := oN (k9 s).2
def f10 (s : ByteArray) : Option ByteArray := if 1 < (k10 s).1 then none else (k10 s).2
def k11 (s : ByteArray) := oT (f10 s)
def f11 (s : ByteArray) : Option ByteArray := if goodB (k11 s).1 then (k11 s).2 else none
def k12 (s : ByteArray) := oN (f11 s)
def k13 (s : ByteArray) : List Ii × Option ByteArray := if 17 < (k12 s).1 then ([], none) else oD (k12 s).2 (k12 s).1.toNat
def rawM (s : ByteArray) : Em := ⟨(k1 s).1, (k2 s).1, (k3 s).1, ⟨(k4 s).1, (k5 s).1, (k6 s).1, (k8 s).1 - 1, (k7 s).1, readC (k11 s).1, (k9 s).1, (k13 s).1, decide ((k10 s).1 = 1)⟩⟩
def allM (s : ByteArray) : Bool := match (k13 s).2 with
  | some r => decide (r.size = 0)
  | none => false
abbrev em0 : Em := ⟨0, 0, 0, in0⟩
@[irreducible] def goodM (s : ByteArray) : Bool := allM s && emB (rawM s)
@[irreducible] def readM (s : ByteArray) : Em := if goodM s then rawM s else em0
theorem readM_yes {s : ByteArray} (h : goodM s = true) : readM s = rawM s := by unfold readM; rw [h]; rfl
theorem readM_no {s : ByteArray} (h : goodM s = false) : readM s = em0 := by unfold readM; rw [h]; rfl
theorem goodM_iff (s : ByteArray) : goodM s = true ↔ allM s = true ∧ emB (rawM s) = true := by unfold goodM; rw [Bool.and_eq_true]
/-- What stands where all fields do. -/
theorem all_parts {s : ByteArray} (h : allM s = true) : (k10 s).1 ≤ 1 ∧ goodB (k11 s).1 = true ∧ (k12 s).1 ≤ 17 ∧ ∃ r9 r10 r11 r12, (k9 s).2 = some r9 ∧ (k10 s).2 = some r10 ∧ (k11 s).2 = some r11 ∧ (k12 s).2 = some r12 ∧
    r9 = varS (k10 s).1 ++ r10 ∧ r10 = showT (k11 s).1 ++ r11 ∧ r11 = varS (k12 s).1 ++ r12 ∧ r12 = idsS (k13 s).1 (k12 s).1.toNat ∧ (k13 s).1 = (oD (k12 s).2 (k12 s).1.toNat).1 ∧ (k13 s).1.length = (k12 s).1.toNat := by
  unfold allM at h
  have hk : (k12 s).1 ≤ 17 := by
    by_cases hk : 17 < (k12 s).1
    · unfold k13 at h; rw [if_pos hk] at h; cases h
    · omega
  have e13 : k13 s = oD (k12 s).2 (k12 s).1.toNat := by unfold k13; rw [if_neg (by omega)]
  cases hq : (k13 s).2 with
  | none => rw [hq] at h; cases h
  | some q =>
    rw [hq] at h
    have h0 := ba_empty (of_decide_eq_true h)
    subst h0
    rw [e13] at hq
    obtain ⟨r12, a12, b12⟩ := oD_some _ _ _ hq
    obtain ⟨r11, a11, b11⟩ := oN_some a12
    have hg : goodB (k11 s).1 = true := by
      cases hg : goodB (k11 s).1
      · unfold f11 at a11; rw [hg] at a11; cases a11
      · rfl
    have c11 : (k11 s).2 = some r11 := by unfold f11 at a11; rw [if_pos hg] at a11; exact a11
    obtain ⟨r10, a10, b10⟩ := oT_some c11
    have h1 : (k10 s).1 ≤ 1 := by
      by_cases h1 : 1 < (k10 s).1
      · unfold f10 at a10; rw [if_pos h1] at a10; cases a10
      · omega
    have c10 : (k10 s).2 = some r10 := by unfold f10 at a10; rw [if_neg (by omega)] at a10; exact a10
    obtain ⟨r9, a9, b9⟩ := oN_some c10
    refine ⟨h1, hg, hk, r9, r10, r11, r12, a9, c10, c11, a12, b9, b10, b11, ?_, by rw [e13], by rw [e13, oD_length]⟩
    rw [e13, b12, ba_nil]
theorem flag_var (n : Int) (h0 : 0 ≤ n) (h1 : n ≤ 1) : varS n = flagS (decide (n = 1)) := by
  rcases (show n = 0 ∨ n = 1 by omega) with rfl | rfl
  · rw [varS_0]; rfl
  · rw [varS_1]; rfl
theorem var_flag (b : Bool) : flagS b = varS (if b then 1 else 0) := by
  cases b
  · exact varS_0.symm
  · exact varS_1.symm
theorem all_show {s : ByteArray} (h : allM s = true) : headW (rawM s) ++ idsS (rawM s).i.deps (rawM s).i.deps.length = s := by
  obtain ⟨h1, hg, hk, r9, r10, r11, r12, c9, c10, c11, c12, b9, b10, b11, b12, e13, hl⟩ := all_parts h
  obtain ⟨r8, e8, q8⟩ := oN_some (st := (k8 s).2) c9
  obtain ⟨r7, e7, q7⟩ := oN_some (st := (k7 s).2) e8
  obtain ⟨r6, e6, q6⟩ := oN_some (st := (k6 s).2) e7
  obtain ⟨r5, e5, q5⟩ := oN_some (st := (k5 s).2) e6
  obtain ⟨r4, e4, q4⟩ := oN_some (st := (k4 s).2) e5
  obtain ⟨r3, e3, q3⟩ := oN_some (st := (k3 s).2) e4
  obtain ⟨r2, e2, q2⟩ := oN_some (st := (k2 s).2) e3
  obtain ⟨r1, e1, q1⟩ := oN_some (st := (k1 s).2) e2
  obtain ⟨r0, e0, q0⟩ := oN_some (st := some s) e1
  have hs : s = r0 := by simpa using e0
  have h0 := oN_nonneg (f11 s)
  have hn : (((k13 s).1.length : Nat) : Int) = (k12 s).1 := by rw [hl]; exact Int.toNat_of_nonneg h0
  have hv : (k8 s).1 - 1 + 1 = (k8 s).1 := by omega
  have hf := flag_var (k10 s).1 (oN_nonneg _) h1
  rw [headW_eq]
  show varS (k1 s).1 ++ varS (k2 s).1 ++ varS (k3 s).1 ++ varS (k4 s).1 ++ varS (k5 s).1 ++ varS (k6 s).1 ++ varS (k7 s).1 ++ varS ((k8 s).1 - 1 + 1) ++ varS (k9 s).1 ++ flagS (decide ((k10 s).1 = 1)) ++ showT (showS (readC (k11 s).1)) ++ varS ((k13 s).1.length : Nat) ++ idsS (k13 s).1 (k13 s).1.length = s
  rw [hv, ← hf, show_read _ hg, hn, hl, ← b12]
  simp only [ba_assoc]
  have q8' : r8 = varS (k9 s).1 ++ r9 := q8
  have q7' : r7 = varS (k8 s).1 ++ r8 := q7
  have q6' : r6 = varS (k7 s).1 ++ r7 := q6
  have q5' : r5 = varS (k6 s).1 ++ r6 := q5
  have q4' : r4 = varS (k5 s).1 ++ r5 := q4
  have q3' : r3 = varS (k4 s).1 ++ r4 := q3
  have q2' : r2 = varS (k3 s).1 ++ r3 := q2
  have q1' : r1 = varS (k2 s).1 ++ r2 := q1
  have q0' : r0 = varS (k1 s).1 ++ r1 := q0
  rw [← b11, ← b10, ← b9, ← q8', ← q7', ← q6', ← q5', ← q4', ← q3', ← q2', ← q1', ← q0', ← hs]
theorem good_show_m {s : ByteArray} (h : goodM s = true) : showE (rawM s) = s := by
  rw [goodM_iff] at h
  rw [showE_yes h.2]
  exact all_show h.1
end Go.Proofs.YtkeoeempdkpafaaDoor
/- A message's encoding is read back, in plain words. Nothing of the program is used here. -/
namespace Go.Proofs.YtkeoeempdkpafaaDoor
open Go.RowKit Go.PlainAid
set_option linter.unusedVariables false

/-- The number of an Id among the eighteen. -/
def nrI (r s : Int) : Int := r * 6 + s - 1
theorem hasB_at {l : List Ii} {r s : Int} (h : hasB l r s = false) (j : Nat) (hj : j < l.length) : ¬ (iR l j = r ∧ iS l j = s) := by
  intro e
  unfold hasB at h
  rw [List.any_eq_false] at h
  exact h j (List.mem_range.2 hj) (by simpa using e)
theorem idlB_rise {l : List Ii} (h : idlB l = true) (j : Nat) (hj : j + 1 < l.length) : nrI (iR l j) (iS l j) < nrI (iR l (j + 1)) (iS l (j + 1)) := by
  have h1 := idlB_at h (j + 1) hj
  have h0 := idlB_at h j (by omega)
  rw [okAt_succ _ _ (by omega), Bool.and_eq_true, idB_iv, Bool.and_eq_true, ivE_iff, ivE_iff, ltB_eq, Nat.add_sub_cancel] at h1
  rw [okAt_eq, Bool.and_eq_true, idB_iv, Bool.and_eq_true, ivE_iff, ivE_iff] at h0
  unfold nrI
  obtain ⟨⟨a1, a2⟩, a3⟩ := h1
  split at a3
  · have := of_decide_eq_true a3
    omega
  · have := of_decide_eq_true a3
    omega
theorem idlB_in {l : List Ii} (h : idlB l = true) (j : Nat) (hj : j < l.length) : 0 ≤ nrI (iR l j) (iS l j) ∧ nrI (iR l j) (iS l j) ≤ 17 := by
  have h0 := idlB_at h j hj
  rw [okAt_eq, Bool.and_eq_true, idB_iv, Bool.and_eq_true, ivE_iff, ivE_iff] at h0
  unfold nrI
  omega
theorem rise_skip {l : List Ii} {c : Int} (h : idlB l = true) (hc0 : 0 ≤ c) (hc : ∀ j, j < l.length → nrI (iR l j) (iS l j) ≠ c) : ∀ j, j < l.length → (j : Int) ≤ (if nrI (iR l j) (iS l j) < c then nrI (iR l j) (iS l j) else nrI (iR l j) (iS l j) - 1)
  | 0, hj => by
    have a := idlB_in h 0 hj
    have b := hc 0 hj
    split <;> omega
  | j + 1, hj => by
    have ih := rise_skip h hc0 hc j (by omega)
    have a := idlB_rise h j hj
    have b := hc (j + 1) hj
    have b' := hc j (by omega)
    split at ih <;> split <;> omega
theorem deps_len {x : Em} (h : emB x = true) : x.i.deps.length ≤ 17 := by
  have hh := h
  rw [emB_eq] at hh
  simp only [Bool.and_eq_true, ivE_iff] at hh
  obtain ⟨_, _, _, _, h5, _, _, _, h9, h10, _, _⟩ := hh
  rw [idB_iv, Bool.and_eq_true, ivE_iff, ivE_iff] at h5
  have hn : hasB x.i.deps x.i.rep x.i.slot = false := by simpa using h10
  by_cases hl : x.i.deps.length ≤ 17
  · exact hl
  · exfalso
    have hno := hasB_at hn
    have hc : ∀ j, j < x.i.deps.length → nrI (iR x.i.deps j) (iS x.i.deps j) ≠ nrI x.i.rep x.i.slot := by
      intro j hj e
      have h0 := idlB_at h9 j hj
      rw [okAt_eq, Bool.and_eq_true, idB_iv, Bool.and_eq_true, ivE_iff, ivE_iff] at h0
      unfold nrI at e
      exact hno j hj (by omega)
    have c0 : 0 ≤ nrI x.i.rep x.i.slot ∧ nrI x.i.rep x.i.slot ≤ 17 := by unfold nrI; omega
    have hr := rise_skip h9 c0.1 hc 17 (by omega)
    have hi := idlB_in h9 17 (by omega)
    split at hr <;> omega
/-- What is encoded is read back. -/
theorem back_m {x : Em} (h : emB x = true) : allM (showE x) = true ∧ rawM (showE x) = x := by
  have hf := emB_fit h
  have hl := deps_len h
  have ho : okB x.i.cmd = true := by
    have hh := h
    rw [emB_eq] at hh
    simp only [Bool.and_eq_true] at hh
    exact hh.2.2.2.2.2.2.1
  obtain ⟨g1, g2⟩ := read_back x.i.cmd
  rw [ho] at g1
  have g2 := g2 ho
  have es : showE x = varS x.kind ++ (varS x.frm ++ (varS x.dst ++ (varS x.i.rep ++ (varS x.i.slot ++ (varS x.i.bal ++ (varS x.i.st ++ (varS (x.i.vbal + 1) ++ (varS x.i.seq ++ (varS (if x.i.same then 1 else 0) ++ (showT (showS x.i.cmd) ++ (varS x.i.deps.length ++ idsS x.i.deps x.i.deps.length))))))))))) := by
    rw [showE_yes h, headW_eq, var_flag]
    simp only [ba_assoc]
  have hsm : (0 : Int) ≤ (if x.i.same then 1 else 0) ∧ ((if x.i.same then 1 else 0) : Int) ≤ 1 := by cases x.i.same <;> decide
  generalize showE x = s at *
  have e1 : k1 s = (x.kind, some _) := (congrArg oN (congrArg some es)).trans (oN_var x.kind _ (by omega) (by omega))
  have e2 : k2 s = (x.frm, some _) := (congrArg oN (congrArg Prod.snd e1)).trans (oN_var x.frm _ (by omega) (by omega))
  have e3 : k3 s = (x.dst, some _) := (congrArg oN (congrArg Prod.snd e2)).trans (oN_var x.dst _ (by omega) (by omega))
  have e4 : k4 s = (x.i.rep, some _) := (congrArg oN (congrArg Prod.snd e3)).trans (oN_var x.i.rep _ (by omega) (by omega))
  have e5 : k5 s = (x.i.slot, some _) := (congrArg oN (congrArg Prod.snd e4)).trans (oN_var x.i.slot _ (by omega) (by omega))
  have e6 : k6 s = (x.i.bal, some _) := (congrArg oN (congrArg Prod.snd e5)).trans (oN_var x.i.bal _ (by omega) (by omega))
  have e7 : k7 s = (x.i.st, some _) := (congrArg oN (congrArg Prod.snd e6)).trans (oN_var x.i.st _ (by omega) (by omega))
  have e8 : k8 s = ((x.i.vbal + 1), some _) := (congrArg oN (congrArg Prod.snd e7)).trans (oN_var (x.i.vbal + 1) _ (by omega) (by omega))
  have e9 : k9 s = (x.i.seq, some _) := (congrArg oN (congrArg Prod.snd e8)).trans (oN_var x.i.seq _ (by omega) (by omega))
  have e10 : k10 s = ((if x.i.same then 1 else 0), some _) := (congrArg oN (congrArg Prod.snd e9)).trans (oN_var (if x.i.same then 1 else 0) _ (by omega) (by omega))
  have f10' : f10 s = some _ := (by unfold f10; rw [e10]; exact if_neg (by simp only; omega) : f10 s = (k10 s).2).trans (congrArg Prod.snd e10)
  have e11 : k11 s = (showS x.i.cmd, some _) := (congrArg oT f10').trans (oT_text (showS x.i.cmd) _ (by have := showS_size x.i.cmd; omega))
  have f11' : f11 s = some _ := (by unfold f11; rw [e11]; exact if_pos g1 : f11 s = (k11 s).2).trans (congrArg Prod.snd e11)
  have e12 : k12 s = ((x.i.deps.length : Int), some _) := (congrArg oN f11').trans (oN_var (x.i.deps.length : Int) _ (by omega) (by omega))
  have e13 : k13 s = (x.i.deps, some ⟨#[]⟩) := by
    unfold k13
    rw [e12]
    simp only
    rw [if_neg (by omega), Int.toNat_natCast]
    exact oD_all _ (fun j hj => hf.2.2.2.2.2.2.2.2.2 j hj)
  refine ⟨by unfold allM; rw [e13]; rfl, ?_⟩
  have hb : decide (((if x.i.same then 1 else 0) : Int) = 1) = x.i.same := by cases x.i.same <;> rfl
  have hv : x.i.vbal + 1 - 1 = x.i.vbal := by omega
  unfold rawM
  rw [e1, e2, e3, e4, e5, e6, e7, e8, e9, e10, e11, e13]
  simp only [g2, hv, hb]
theorem good_back {x : Em} {s : ByteArray} (h : showE x = s) (h0 : s.size ≠ 0) : goodM s = true ∧ rawM s = x := by
  cases hb : emB x
  · rw [showE_no hb] at h
    rw [← h] at h0
    exact absurd rfl h0
  · obtain ⟨a, b⟩ := back_m hb
    rw [h] at a b
    exact ⟨by rw [goodM_iff, b]; exact ⟨a, hb⟩, b⟩
/-! ### the model's way: the byte of the flag is looked at in the end -/
def q11 (r : ByteArray) := oT (some (r.extract 1 r.size))
def q12 (r : ByteArray) := oN (q11 r).2
def q13 (r : ByteArray) := oD (q12 r).2 (q12 r).1.toNat
def mS (s r : ByteArray) : Em := ⟨(k1 s).1, (k2 s).1, (k3 s).1, ⟨(k4 s).1, (k5 s).1, (k6 s).1, (k8 s).1 - 1, (k7 s).1, readC (q11 r).1, (k9 s).1, (q13 r).1, decide (bt r 0 = 1)⟩⟩
theorem flag_front (b : Bool) (r : ByteArray) : (flagS b ++ r).extract 1 (flagS b ++ r).size = r ∧ bt (flagS b ++ r) 0 = (if b then 1 else 0) := by
  constructor
  · apply bytes_ext
    rw [ext_data, ByteArray.size_append, flagS_size, ByteArray.data_append, Array.toList_append]
    cases b
    · rw [flagS_f]
      show List.take (1 + r.size - 1) r.data.toList = _
      rw [Nat.add_sub_cancel_left, List.take_of_length_le (by rw [← size_data]; exact Nat.le_refl _)]
    · rw [flagS_t]
      show List.take (1 + r.size - 1) r.data.toList = _
      rw [Nat.add_sub_cancel_left, List.take_of_length_le (by rw [← size_data]; exact Nat.le_refl _)]
  · cases b
    · rw [flagS_f]
      rw [bt_of _ 0 0 (by rw [ByteArray.data_append, Array.toList_append]; rfl)]
      rfl
    · rw [flagS_t]
      rw [bt_of _ 0 1 (by rw [ByteArray.data_append, Array.toList_append]; rfl)]
      rfl
theorem model_m {s : ByteArray} (h : goodM s = true) : ∃ r, (k9 s).2 = some r ∧ 1 ≤ r.size ∧ (∃ q, (q12 r).2 = some q) ∧ (q12 r).1 ≤ 17 ∧ (∃ q, (q13 r).2 = some q) ∧ mS s r = rawM s := by
  have hh := (goodM_iff s).1 h
  obtain ⟨h1, hg, hk, r9, r10, r11, r12, c9, c10, c11, c12, b9, b10, b11, b12, e13, hl⟩ := all_parts hh.1
  have hfl := flag_var (k10 s).1 (oN_nonneg _) h1
  rw [hfl] at b9
  obtain ⟨x1, x2⟩ := flag_front (decide ((k10 s).1 = 1)) r10
  rw [← b9] at x1 x2
  have ef : f10 s = some r10 := by unfold f10; rw [if_neg (by omega), c10]
  have e11 : q11 r9 = k11 s := by unfold q11 k11; rw [x1, ef]
  have ef1 : f11 s = (k11 s).2 := by unfold f11; rw [if_pos hg]
  have e12 : q12 r9 = k12 s := by unfold q12 k12; rw [e11, ef1]
  have e13' : q13 r9 = k13 s := by unfold q13 k13; rw [e12, if_neg (by omega)]
  refine ⟨r9, c9, ?_, ⟨r12, by rw [e12, c12]⟩, by rw [e12]; exact hk, ?_, ?_⟩
  · rw [b9, ByteArray.size_append, flagS_size]; omega
  · rw [e13']
    have := hh.1
    unfold allM at this
    cases hq : (k13 s).2 with
    | none => rw [hq] at this; cases this
    | some q => exact ⟨q, rfl⟩
  · unfold mS rawM
    rw [e11, e13', x2]
    have : decide ((if decide ((k10 s).1 = 1) then (1 : Int) else 0) = 1) = decide ((k10 s).1 = 1) := by by_cases e : (k10 s).1 = 1 <;> simp [e]
    simp only [this]
end Go.Proofs.YtkeoeempdkpafaaDoor
