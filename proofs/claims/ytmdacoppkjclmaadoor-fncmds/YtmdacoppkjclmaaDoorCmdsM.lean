/- What is encoded is read back; conflicts are symmetric. Nothing of the program is used here. -/
import Derived.Test.YtmdacoppkjclmaaDoorReadM
import Derived.Test.YtmdacoppkjclmaaDoorVarBack
import Derived.Test.YtmdacoppkjclmaaDoorClash
namespace Go.Proofs.YtmdacoppkjclmaaDoor
open Go.RowKit Go.PlainAid
set_option linter.unusedVariables false

theorem oN_var (n : Int) (r : ByteArray) (h0 : 0 ≤ n) (hm : n ≤ 562949953421311) : oN (some (varS n ++ r)) = (n, some r) := by
  have hv := varS_vk n hm
  have hk := vkF_le 6 n
  have es : (varS n ++ r) = strOfNums (varL n (vkF 6 n)) ++ r := by unfold varS; rfl
  generalize vkF 6 n = k at *
  have hz : (strOfNums (varL n k) ++ r).size = k + 1 + r.size := by rw [ByteArray.size_append, strOfNums_size, varL_length]
  have hl := var_last n k r h0 hv
  have hhit := rv_hit (strOfNums (varL n k) ++ r) k (by omega) hk (fun i hi => by rw [var_high n k i r hi]; omega) (by rw [hl]; exact hv.2)
  have hK : rvK (strOfNums (varL n k) ++ r) = k + 1 := by
    unfold rvK
    rw [hhit]
    simp only
    rw [if_pos]
    rcases var_nz n k hv with h | h
    · exact .inl h
    · exact .inr (by rw [hl]; exact h)
  have hN : rvN (strOfNums (varL n k) ++ r) = n := by
    unfold rvN
    rw [if_neg (by omega), hK]
    exact var_acc n k r h0 hv
  rw [es, oN_ok _ (by omega), hK, hN, hz]
  congr 2
  have hx : (strOfNums (varL n k)).size = k + 1 := by rw [strOfNums_size, varL_length]
  apply bytes_ext
  rw [ext_data, data_append, size_data] at *
  rw [List.drop_append, List.drop_of_length_le (by omega), List.nil_append, hx, Nat.sub_self, List.drop_zero, List.take_of_length_le]
  rw [← size_data]
  omega
theorem oB_front (t r : ByteArray) : oB (t.size : Int) (some (t ++ r)) = (t, some r) := by
  have hz : (t ++ r).size = t.size + r.size := ByteArray.size_append
  rw [oB_ok _ _ (by omega), Int.toNat_natCast]
  have h1 : (t ++ r).extract 0 t.size = t := by
    apply bytes_ext
    rw [ext_data, data_append, List.drop_zero, Nat.sub_zero, size_data, List.take_left]
  have h2 : (t ++ r).extract t.size (t ++ r).size = r := by
    apply bytes_ext
    rw [ext_data, data_append, hz, size_data t, List.drop_left, List.take_of_length_le]
    rw [← size_data r]
    omega
  rw [h1, h2]
theorem oT_text (t r : ByteArray) (h : t.size ≤ 1048576) : oT (some (showT t ++ r)) = (t, some r) := by
  unfold oT
  have e : showT t ++ r = varS t.size ++ (t ++ r) := by unfold showT; rw [append_assoc]
  rw [e, oN_var _ _ (by omega) (by omega)]
  exact oB_front t r
theorem cat_split (l : List ByteArray) (k : Nat) (h8 : ∀ j, j < k → (el l j).size = 8) : (catN l k).size = 8 * k := by
  induction k with
  | zero => rw [catN_zero]; rfl
  | succ k ih => rw [catN_succ, ByteArray.size_append, ih (fun j hj => h8 j (by omega)), h8 k (by omega)]; omega
theorem cat_piece (l : List ByteArray) (k j : Nat) (hj : j < k) (h8 : ∀ j, j < k → (el l j).size = 8) : (catN l k).extract (8 * j) (8 * j + 8) = el l j := by
  induction k with
  | zero => omega
  | succ k ih =>
    have hz := cat_split l k (fun j hj => h8 j (by omega))
    rw [catN_succ]
    by_cases e : j = k
    · subst e
      apply bytes_ext
      rw [ext_data, data_append, List.drop_append, List.drop_of_length_le (by rw [← size_data]; omega), List.nil_append, ← size_data, hz, Nat.sub_self, List.drop_zero, List.take_of_length_le]
      rw [← size_data, h8 j (by omega)]
      omega
    · rw [← ih (by omega) (fun j hj => h8 j (by omega))]
      apply bytes_ext
      rw [ext_data, ext_data, data_append, List.drop_append, List.take_append_of_le_length]
      rw [List.length_drop, ← size_data, hz]
      omega
theorem back_parts (c : CmdM) (h : okB c = true) : wholeB (showB c) = true ∧ rawC (showB c) = c := by
  obtain ⟨⟨k0, k1⟩, ⟨c0, c1⟩, ⟨n0, n1⟩, ⟨m0, m1⟩, h5, h6, h7, h8, h9⟩ := okB_fit c h
  have e0 : showB c = varS c.kind ++ (varS c.client ++ (varS c.no ++ (varS c.n ++ (showT c.set ++ (showT c.name ++ (showT c.tag ++ (varS c.ch.length ++ catN c.ch c.ch.length))))))) := by
    unfold showB
    simp only [append_assoc]
  have r1 : s1 (showB c) = (c.kind, some (varS c.client ++ (varS c.no ++ (varS c.n ++ (showT c.set ++ (showT c.name ++ (showT c.tag ++ (varS c.ch.length ++ catN c.ch c.ch.length)))))))) := by unfold s1; rw [e0]; exact oN_var _ _ (by omega) (by omega)
  have r2 : s2 (showB c) = (c.client, some (varS c.no ++ (varS c.n ++ (showT c.set ++ (showT c.name ++ (showT c.tag ++ (varS c.ch.length ++ catN c.ch c.ch.length))))))) := by unfold s2; rw [r1]; exact oN_var _ _ (by omega) (by omega)
  have r3 : s3 (showB c) = (c.no, some (varS c.n ++ (showT c.set ++ (showT c.name ++ (showT c.tag ++ (varS c.ch.length ++ catN c.ch c.ch.length)))))) := by unfold s3; rw [r2]; exact oN_var _ _ (by omega) (by omega)
  have r4 : s4 (showB c) = (c.n, some (showT c.set ++ (showT c.name ++ (showT c.tag ++ (varS c.ch.length ++ catN c.ch c.ch.length))))) := by unfold s4; rw [r3]; exact oN_var _ _ (by omega) (by omega)
  have r5 : s5 (showB c) = (c.set, some (showT c.name ++ (showT c.tag ++ (varS c.ch.length ++ catN c.ch c.ch.length)))) := by unfold s5; rw [r4]; exact oT_text _ _ (by omega)
  have r6 : s6 (showB c) = (c.name, some (showT c.tag ++ (varS c.ch.length ++ catN c.ch c.ch.length))) := by unfold s6; rw [r5]; exact oT_text _ _ (by omega)
  have r7 : s7 (showB c) = (c.tag, some (varS c.ch.length ++ catN c.ch c.ch.length)) := by unfold s7; rw [r6]; exact oT_text _ _ (by omega)
  have r8 : s8 (showB c) = ((c.ch.length : Int), some (catN c.ch c.ch.length)) := by unfold s8; rw [r7]; exact oN_var _ _ (by omega) (by omega)
  have hz := cat_split c.ch c.ch.length h9
  have hw := whole_of (showB c) (catN c.ch c.ch.length) (by rw [r8]; omega) (by rw [r8]) (by rw [r8, hz]; simp)
  refine ⟨hw, ?_⟩
  have r9 : (s9 (showB c)).1 = c.ch := by
    unfold s9
    rw [r8, if_neg (by simp only; omega)]
    simp only [Int.toNat_natCast]
    exact (oI_list (catN c.ch c.ch.length) c.ch.length c.ch (by omega) rfl (fun j hj => (cat_piece c.ch c.ch.length j hj h9).symm)).symm
  unfold rawC
  rw [r1, r2, r3, r4, r5, r6, r7, r9]
theorem read_back (c : CmdM) : goodB (showS c) = okB c ∧ (okB c = true → readC (showS c) = c) := by
  cases h : okB c
  · have e : showS c = ⟨#[]⟩ := by unfold showS; rw [h]; rfl
    rw [e]
    refine ⟨?_, fun h => by cases h⟩
    have hk : rvK ⟨#[]⟩ = 0 := by
      have := rvK_le ⟨#[]⟩
      have h0 : (ByteArray.mk #[]).size = 0 := rfl
      omega
    have h4 : (s4 ⟨#[]⟩).2 = none := by
      unfold s4 s3 s2 s1
      rw [oN_bad _ hk]
      rfl
    have hw : wholeB ⟨#[]⟩ = false := by
      cases e : wholeB ⟨#[]⟩
      · rfl
      · exfalso
        obtain ⟨_, r8, e8, _⟩ := whole_parts _ e
        obtain ⟨r7, e7, _⟩ := oN_some (st := (s7 ⟨#[]⟩).2) e8
        obtain ⟨r6, e6, _⟩ := oT_some (st := (s6 ⟨#[]⟩).2) e7
        obtain ⟨r5, e5, _⟩ := oT_some (st := (s5 ⟨#[]⟩).2) e6
        obtain ⟨r4, e4, _⟩ := oT_some (st := (s4 ⟨#[]⟩).2) e5
        rw [h4] at e4
        cases e4
    unfold goodB
    rw [hw]
    rfl
  · have e : showS c = showB c := by unfold showS; rw [h]; rfl
    obtain ⟨hw, hr⟩ := back_parts c h
    have hg : goodB (showB c) = true := by unfold goodB; rw [hw, hr, h]; rfl
    rw [e]
    refine ⟨hg, fun _ => ?_⟩
    unfold readC
    rw [hg]
    exact hr
theorem show_read (t : ByteArray) (h : goodB t = true) : showS (readC t) = t := by
  have hw : wholeB t = true := by
    have := h
    unfold goodB at this
    rw [Bool.and_eq_true] at this
    exact this.1
  have hs := good_show t hw
  rw [h] at hs
  have e : readC t = rawC t := by unfold readC; rw [h]; rfl
  rw [e]
  exact of_decide_eq_true hs.symm
theorem clash_symm (c d : CmdM) : clashB c d = clashB d c := by
  unfold clashB
  cases okB c <;> cases okB d <;> cases (c.kind == 0) <;> cases (d.kind == 0) <;> cases (c.kind == 7) <;> cases (d.kind == 7) <;> simp [eq_comm]
theorem clash_zero (c : CmdM) : clashB c zeroC = false := by
  unfold clashB
  have : (zeroC.kind == 0) = true := by decide
  rw [this]
  simp
theorem clash_self (c : CmdM) : (!okB c || ((c.kind == 0) || clashB c c)) = true := by
  unfold clashB
  cases okB c <;> cases (c.kind == 0) <;> simp
end Go.Proofs.YtmdacoppkjclmaaDoor
