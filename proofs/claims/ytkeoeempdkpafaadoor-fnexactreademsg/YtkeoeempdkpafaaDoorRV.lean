/- A bundle of texts: ReadVarS, IntG, ReadS, ReadT, ReadU, ReadV. -/
import Derived.Test.YtkeoeempdkpafaaDoorVarMath
import Derived.Test.YtkeoeempdkpafaaDoorSw
import Derived.Deep.RegionWith
import Derived.Test.YtkeoeempdkpafaaDoorBytes
import Derived.Test.YtkeoeempdkpafaaDoorRD
import Derived.Test.YtkeoeempdkpafaaDoorStrG
import Derived.BigQuiet
import Derived.Test.YtkeoeempdkpafaaDoorRC
/- The walks of the model's ReadVar, for every string. -/
namespace Go.Proofs.YtkeoeempdkpafaaDoor
open Go.RowKit Go.PlainAid
set_option linter.unusedVariables false


set_option maxHeartbeats 400000 in
theorem spec_rv_hit (s : ByteArray) (t : Nat) (w : World) (hs : s.size ≤ maxLen) (ht : t < s.size) (h6 : t ≤ 6) (hno : ∀ k, 1 ≤ k → k ≤ t → NoVar s k) (hyes : IsVar s (t + 1)) :
    Calls Tryd.prog 89 #[.string s] w fun e w' => e = .returned (.tuple #[.int .i64 (rvr s (t + 1) (t + 1)), .int .i64 ((t : Int) + 1)]) ∧ Below w.heap.size w w' := by
  unfold maxLen at hs
  have HN := Lib.hid hno
  have HY := Lib.hid hyes
  clear hno hyes
  go_enter Tryd.func89, Tryd.ntmps89
  go_wp2
  go_loopw [4] (fun kv wr => ∃ k : Nat, 1 ≤ k ∧ k ≤ t + 1 ∧ kv = .int .i64 k ∧ Below w.heap.size w wr) (fun kv _ => (8 - intOf kv).toNat)
  case atStart => exact ⟨1, by omega, by omega, rfl, Below.refl _ _⟩
  case round =>
    obtain ⟨k, hk1, hk2, rfl, hbw⟩ := hrel
    have hk7 : decide ((k : Int) ≤ 7) = true := by simp; omega
    have hks : decide (k ≤ s.size) = true := by simp; omega
    go_wp2
    go_loop [5, 6] (fun nv iv => ∃ m : Nat, m ≤ k ∧ iv = .int .i64 ((k : Int) - 1 - m) ∧ nv = .int .i64 (rvr s k m)) (fun _ iv => (intOf iv + 1).toNat)
    case atStart => exact ⟨0, by omega, by go_num, rfl⟩
    case round =>
      obtain ⟨m, hm, rfl, rfl⟩ := hrel
      have r0 := rvr_nonneg s k m
      by_cases hlt : m < k
      · have r1 := rvr_lt s k m (by omega)
        have hj : k - 1 - m < s.size := by omega
        have hg := get_bt s (k - 1 - m) hj
        have b0 := bt_nonneg s (k - 1 - m)
        have b1 := bt_le s (k - 1 - m)
        go_wp2
        go_round
        case rel => exact ⟨m + 1, by omega, by go_num, by rw [rvr, show k - (m + 1) = k - 1 - m by omega]⟩
        case measure => simp only [intOf]; omega
      · obtain rfl : m = k := by omega
        have r1 := rvr_max s m m (by omega)
        obtain ⟨K, hK6, hK⟩ := vk_exists _ r0 r1
        by_cases hlt : m < t + 1
        · have hne := HN.out m hk1 (by omega) K hK
          have hms : m ≤ s.size := by omega
          go_wp2
          go_region_with ((go_at_call 31; refine (spec_var _ K _ r0 r1 hK6 hK).mono ?_; rintro e w' ⟨rfl, hb'⟩))
          all_goals go_wp2
          all_goals
            go_roundw
            case rel => exact ⟨m + 1, by omega, by omega, by go_num, hbw.drew.trans (hb'.mono hbw.size)⟩
            case measure => simp only [intOf]; omega
        · obtain rfl : m = t + 1 := by omega
          have hne := HY.out K hK
          have hms : t + 1 ≤ s.size := by omega
          go_wp2
          go_region_with ((go_at_call 31; refine (spec_var _ K _ r0 r1 hK6 hK).mono ?_; rintro e w' ⟨rfl, hb'⟩))
          all_goals go_wp2
          all_goals go_ret2
          all_goals exact ⟨rfl, hbw.drew.trans (hb'.mono hbw.size)⟩

set_option maxHeartbeats 400000 in
theorem spec_rv_miss (s : ByteArray) (w : World) (hs : s.size ≤ maxLen) (hno : ∀ k, 1 ≤ k → k ≤ 7 → k ≤ s.size → NoVar s k) :
    Calls Tryd.prog 89 #[.string s] w fun e w' => e = .returned (.tuple #[.int .i64 0, .int .i64 0]) ∧ Below w.heap.size w w' := by
  unfold maxLen at hs
  have HN := Lib.hid hno
  clear hno
  go_enter Tryd.func89, Tryd.ntmps89
  go_wp2
  go_loopw [4] (fun kv wr => ∃ k : Nat, 1 ≤ k ∧ k ≤ 8 ∧ k ≤ s.size + 1 ∧ kv = .int .i64 k ∧ Below w.heap.size w wr) (fun kv _ => (8 - intOf kv).toNat)
  case atStart => exact ⟨1, by omega, by omega, by omega, rfl, Below.refl _ _⟩
  case round =>
    obtain ⟨k, hk1, hk8, hks1, rfl, hbw⟩ := hrel
    by_cases hin : k ≤ 7 ∧ k ≤ s.size
    · obtain ⟨hi7, his⟩ := hin
      have hk7 : decide ((k : Int) ≤ 7) = true := by simp; omega
      have hks : decide (k ≤ s.size) = true := by simp; omega
      go_wp2
      go_loop [5, 6] (fun nv iv => ∃ m : Nat, m ≤ k ∧ iv = .int .i64 ((k : Int) - 1 - m) ∧ nv = .int .i64 (rvr s k m)) (fun _ iv => (intOf iv + 1).toNat)
      case atStart => exact ⟨0, by omega, by go_num, rfl⟩
      case round =>
        obtain ⟨m, hm, rfl, rfl⟩ := hrel
        have r0 := rvr_nonneg s k m
        by_cases hlt : m < k
        · have r1 := rvr_lt s k m (by omega)
          have hj : k - 1 - m < s.size := by omega
          have hg := get_bt s (k - 1 - m) hj
          have b0 := bt_nonneg s (k - 1 - m)
          have b1 := bt_le s (k - 1 - m)
          go_wp2
          go_round
          case rel => exact ⟨m + 1, by omega, by go_num, by rw [rvr, show k - (m + 1) = k - 1 - m by omega]⟩
          case measure => simp only [intOf]; omega
        · obtain rfl : m = k := by omega
          have r1 := rvr_max s m m (by omega)
          obtain ⟨K, hK6, hK⟩ := vk_exists _ r0 r1
          have hne := HN.out m hk1 hi7 his K hK
          go_wp2
          go_region_with ((go_at_call 31; refine (spec_var _ K _ r0 r1 hK6 hK).mono ?_; rintro e w' ⟨rfl, hb'⟩))
          all_goals go_wp2
          all_goals
            go_roundw
            case rel => exact ⟨m + 1, by omega, by omega, by omega, by go_num, hbw.drew.trans (hb'.mono hbw.size)⟩
            case measure => simp only [intOf]; omega
    · by_cases h7 : k ≤ 7
      · have hk7 : decide ((k : Int) ≤ 7) = true := by simp; omega
        have hks : decide (k ≤ s.size) = false := by simp; omega
        go_wp2
        go_ret2
        exact ⟨rfl, hbw⟩
      · have hk7 : decide ((k : Int) ≤ 7) = false := by simp; omega
        go_wp2
        go_ret2
        exact ⟨rfl, hbw⟩
end Go.Proofs.YtkeoeempdkpafaaDoor
/- Slices of ints that a call makes itself and that grow by append. -/
namespace Go.Proofs.YtkeoeempdkpafaaDoor
open Go.RowKit Go.PlainAid
set_option linter.unusedVariables false

def i64s (l : List Int) : List Value := l.map (Value.int .i64)
theorem i64s_one (l : List Int) : ∀ v ∈ i64s l, v.oneCell' = true := by
  intro v hv
  unfold i64s at hv
  obtain ⟨x, _, rfl⟩ := List.mem_map.1 hv
  rfl
theorem Tryd.info3 : (Tryd.prog.info? 3).map (fun i => (i.zero, i.size, i.bytes)) = some (some (.int .i64 0), 1, 8) := by kernel_rfl
/-- An int slice that grows by append. -/
def GrowsI (w : World) (base : Nat) (v : Value) (l : List Int) : Prop := w.ownsRow base 3 1 v l.length (i64s l)
theorem GrowsI.alloc {w : World} {base : Nat} {v : Value} {l : List Int} (h : GrowsI w base v l) (o : Obj) : GrowsI (w.alloc o) base v l := World.ownsRow.alloc h o
theorem GrowsI.drew {w : World} {base : Nat} {v : Value} {l : List Int} (h : GrowsI w base v l) : GrowsI w.drew base v l := h
theorem growsI_empty (w : World) : GrowsI (w.alloc (.cells #[] 3)) w.heap.size (.slice (some ⟨w.heap.size, 0, none⟩) 0 0) [] :=
  World.ownsRow_made w #[] 0 (Nat.le_refl _) (by decide) rfl
def SrcI (w : World) (h : Nat) (X : List Int) : Prop := ∀ (j : Nat) v, (i64s X)[j]? = some v → w.cell? ⟨h, j, none⟩ = some v
theorem wp_append_ints {w : World} {ops : Array Oper} {rest : List Oper} {o : Oper} {a : Act} {Q : Exit → Act → World → Prop} (hgd : o.guard = none) (s x : Operand)
    (ho : o.op = .call { callee := .builtin .append, args := #[s, x], argTypes := #[87, 87] }) (base : Nat) (v : Value) (l X : List Int) (hs : a.eval s = v) (hown : GrowsI w base v l)
    (h m c : Nat) (hx : a.eval x = .slice (some ⟨h, 0, none⟩) m c) (hm : X.length = m) (hX : SrcI w h X) (hlen : l.length + m ≤ 1099511627776) (hbase : base ≤ w.heap.size)
    (hK : ∀ v' w', GrowsI w' base v' (l ++ X) → Below base w w' → wpList Tryd.prog ops Q rest (a.put o.dst v') w') : wpList Tryd.prog ops Q (o :: rest) a w := by
  obtain ⟨i0, hi, hz0, hz1, hz2⟩ := info_parts Tryd.info3
  subst hm
  refine wpList_append_own w hgd s x 87 ho base 3 i0 (.int .i64 0) 1 8 Tryd.underlying87 hi hz0 hz1 hz2 rfl (by decide) v l.length (i64s l) hs hown ⟨h, 0, none⟩ X.length c (i64s X) hx (by simp [i64s]) ?_ (i64s_one X) (by unfold maxLen; omega) (by omega) hbase ?_
  · intro j u hj
    rw [plain_add, Nat.zero_add]
    exact hX j u hj
  · intro v' w' h1 h2 _
    refine hK v' w' ?_ ?_
    · unfold GrowsI
      rw [List.length_append]
      simpa [i64s] using h1
    · refine (Below.refl _ _).grown h2 hbase ?_
      intro k hk
      exact (hown.lt k hk).1
theorem step_append_ints {w : World} {ops : Array Oper} {o : Oper} {a : Act} {K : Act → World → Prop} {Q : Exit → Act → World → Prop} {E : Prop} (hgd : o.guard = none) (s x : Operand)
    (ho : o.op = .call { callee := .builtin .append, args := #[s, x], argTypes := #[87, 87] }) (base : Nat) (v : Value) (l X : List Int) (hs : a.eval s = v) (hown : GrowsI w base v l)
    (h m c : Nat) (hx : a.eval x = .slice (some ⟨h, 0, none⟩) m c) (hm : X.length = m) (hX : SrcI w h X) (hlen : l.length + m ≤ 1099511627776) (hbase : base ≤ w.heap.size)
    (hK : ∀ v' w', GrowsI w' base v' (l ++ X) → Below base w w' → K (a.put o.dst v') w') : if Region.wanted o (yielded ops a.tmps) = true then Oper.wp Tryd.prog o a w K Q else E := by
  have hw : Region.wanted o (yielded ops a.tmps) = true := by simp [Region.wanted, hgd]
  rw [if_pos hw]
  obtain ⟨i0, hi, hz0, hz1, hz2⟩ := info_parts Tryd.info3
  subst hm
  refine wp_append_own w s x 87 ho base 3 i0 (.int .i64 0) 1 8 Tryd.underlying87 hi hz0 hz1 hz2 rfl (by decide) v l.length (i64s l) hs hown ⟨h, 0, none⟩ X.length c (i64s X) hx (by simp [i64s]) ?_ (i64s_one X) (by unfold maxLen; omega) (by omega) hbase ?_
  · intro j u hj
    rw [plain_add, Nat.zero_add]
    exact hX j u hj
  · intro v' w' h1 h2 _
    refine hK v' w' ?_ ?_
    · unfold GrowsI
      rw [List.length_append]
      simpa [i64s] using h1
    · refine (Below.refl _ _).grown h2 hbase ?_
      intro k hk
      exact (hown.lt k hk).1
theorem srcI_one (w : World) (b : Int) : SrcI (w.alloc (.cells #[.int .i64 b] 3)) w.heap.size [b] := by
  intro j v hj
  match j, hj with
  | 0, hj => simp [i64s] at hj; subst hj; simp
  | j + 1, hj => simp [i64s] at hj
theorem SrcI.drew {w : World} {g : Nat} {X : List Int} (h : SrcI w g X) : SrcI w.drew g X := h

theorem GrowsI.later {w w' : World} {base : Nat} {v : Value} {l : List Int} (h : GrowsI w base v l) (hb : Below w.heap.size w w') : GrowsI w' base v l := by
  refine World.ownsRow.kept (row := none) h ⟨hb.os, hb.tape, hb.output, hb.size, fun k hk _ => hb.block k hk⟩ ?_
  cases v.ownBlock with
  | none => exact .inl rfl
  | some k => exact .inr (by simp)
theorem GrowsI.cell {w : World} {base : Nat} {v : Value} {l : List Int} (h : GrowsI w base v l) (h0 : 0 < l.length) : ∃ g cap, v = .slice (some ⟨g, 0, none⟩) l.length cap ∧ g < w.heap.size ∧ ∀ j x, l[j]? = some x → w.cell? ⟨g, j, none⟩ = some (.int .i64 x) := by
  rcases h.2 with ⟨rfl, h1⟩ | ⟨g, cap, cur, rfl, _, hh, _⟩
  · omega
  · refine ⟨g, cap, rfl, (Array.getElem?_eq_some_iff.1 hh).1, fun j x hx => ?_⟩
    have hj : j < l.length := (List.getElem?_eq_some_iff.1 hx).1
    rw [World.ownsRow.cellAt h j (by omega)]
    simp only [i64s, List.getElem?_map, hx]
    rfl
theorem GrowsI.form {w : World} {base : Nat} {v : Value} {l : List Int} (h : GrowsI w base v l) : ∃ a n cap, v = .slice a n cap := by
  rcases h.2 with ⟨rfl, _⟩ | ⟨g, cap, cur, rfl, _⟩
  · exact ⟨_, _, _, rfl⟩
  · exact ⟨_, _, _, rfl⟩
end Go.Proofs.YtkeoeempdkpafaaDoor
/- The model's readers of fields. -/
namespace Go.Proofs.YtkeoeempdkpafaaDoor
open Go.RowKit Go.PlainAid
set_option linter.unusedVariables false

theorem spec_rv (s : ByteArray) (w : World) (hs : s.size ≤ 1048576) : Calls Tryd.prog 89 #[.string s] w fun e w' => e = .returned (.tuple #[.int .i64 (rvN s), .int .i64 (rvK s : Nat)]) ∧ Below w.heap.size w w' := by
  have hm : s.size ≤ maxLen := by unfold maxLen; omega
  by_cases h : rvK s = 0
  · have hn : rvN s = 0 := by unfold rvN; rw [if_pos h]
    rw [h, hn]
    refine spec_rv_miss s w hm fun k k1 k7 ks => ?_
    rcases first_low s with ⟨t, ht, h6, hh, hb⟩ | hh
    · have e := rv_hit s t ht h6 hh hb
      have hz : ¬ (t = 0 ∨ bt s t ≠ 0) := by
        intro hz
        unfold rvK at h
        rw [e] at h
        simp only at h
        rw [if_pos hz] at h
        omega
      have hb0 : bt s t = 0 := Decidable.byContradiction fun h => hz (Or.inr h)
      by_cases c1 : k ≤ t
      · exact noVar_high s k k1 ks (hh (k - 1) (by omega))
      · by_cases c2 : k = t + 1
        · exact noVar_zero s k (by omega) ks (by rw [show k - 1 = t by omega]; exact hb0)
        · exact noVar_low s k t ks (by omega) hb
    · exact noVar_high s k k1 ks (hh (k - 1) (by omega) (by omega))
  · obtain ⟨t, e, ht, h6, hh, hb, hz⟩ := rvK_pos s h
    have hn : rvN s = rvr s (t + 1) (t + 1) := by unfold rvN; rw [if_neg h, e, acc_eq]
    rw [hn, e]
    refine (spec_rv_hit s t w hm ht h6 (fun k k1 kt => noVar_high s k k1 (by omega) (hh (k - 1) (by omega))) (isVar_of s t ht hh hb hz)).mono fun e' w' ⟨he, hw⟩ => ⟨by rw [he]; simp, hw⟩

/-- A state of the reading is the rest of s. -/
def Suf (s : ByteArray) : Option ByteArray → Prop
  | none => True
  | some r => r.size ≤ s.size ∧ r = s.extract (s.size - r.size) s.size
/-- The place of a state in s. -/
def posI (s : ByteArray) : Option ByteArray → Int
  | none => -1
  | some r => ((s.size - r.size : Nat) : Int)
theorem suf_all (s : ByteArray) : Suf s (some s) := ⟨Nat.le_refl _, by rw [Nat.sub_self, ext_all]⟩
theorem suf_cut (s r : ByteArray) (k : Nat) (h : Suf s (some r)) (hk : k ≤ r.size) : Suf s (some (r.extract k r.size)) := by
  obtain ⟨h1, h2⟩ := h
  have hz : (r.extract k r.size).size = r.size - k := ext_size r k _ (Nat.le_refl _)
  refine ⟨by omega, ?_⟩
  rw [hz]
  have e : r.extract k r.size = (s.extract (s.size - r.size) s.size).extract k r.size := by rw [← h2]
  rw [e, ext_ext s _ _ _ _ (Nat.le_refl _) (by omega)]
  congr 1 <;> omega
theorem suf_N (s : ByteArray) (st : Option ByteArray) (h : Suf s st) : Suf s (oN st).2 := by
  cases st with
  | none => trivial
  | some r =>
    by_cases hk : rvK r = 0
    · rw [oN_bad r hk]; trivial
    · rw [oN_ok r hk]; exact suf_cut s r _ h (rvK_le r)
theorem suf_B (s : ByteArray) (n : Int) (st : Option ByteArray) (h0 : 0 ≤ n) (h : Suf s st) : Suf s (oB n st).2 := by
  cases st with
  | none => trivial
  | some r =>
    by_cases hk : (r.size : Int) < n
    · rw [oB_bad r n hk]; trivial
    · rw [oB_ok r n (by omega)]; exact suf_cut s r _ h (by omega)
theorem suf_T (s : ByteArray) (st : Option ByteArray) (h : Suf s st) : Suf s (oT st).2 := suf_B s _ _ (oN_nonneg st) (suf_N s st h)
/-- So many numbers off the front. -/
def vS (st : Option ByteArray) : Nat → Option ByteArray
  | 0 => st
  | k + 1 => (oN (vS st k)).2
def vL (st : Option ByteArray) : Nat → List Int
  | 0 => []
  | k + 1 => vL st k ++ [(oN (vS st k)).1]
theorem vL_length (st : Option ByteArray) (k : Nat) : (vL st k).length = k := by
  induction k with
  | zero => rfl
  | succ k ih => simp [vL, ih]
theorem vS_none (st : Option ByteArray) (k : Nat) (h : vS st k = none) (m : Nat) : vS st (k + m) = none := by
  induction m with
  | zero => exact h
  | succ m ih => show (oN (vS st (k + m))).2 = none; rw [ih]; rfl
theorem suf_V (s : ByteArray) (st : Option ByteArray) (h : Suf s st) (k : Nat) : Suf s (vS st k) := by
  induction k with
  | zero => exact h
  | succ k ih => exact suf_N s _ ih

set_option maxHeartbeats 1000000 in
theorem vars_c (s : ByteArray) (st : Option ByteArray) (n : Nat) (w : World) (hs : s.size ≤ 1048576) (hsf : Suf s st) (hn : n ≤ 16) :
    Calls Tryd.prog 47 #[.string s, .int .i64 (posI s st), .int .i64 n] w fun e w' => (∃ v, e = .returned (.tuple #[v, .int .i64 (posI s (vS st n))]) ∧ (∃ a m c, v = .slice a m c) ∧ (vS st n ≠ none → GrowsI w' w.heap.size v (vL st n))) ∧ Below w.heap.size w w' := by
  have HSF := Lib.hid (suf_V s st hsf)
  clear hsf
  obtain ⟨p0, hp0⟩ : ∃ p, posI s st = p := ⟨_, rfl⟩
  rw [hp0]
  have HP0 := Lib.hid hp0
  clear hp0
  go_enter Tryd.func47, Tryd.ntmps47
  go_wp2
  go_loopw [1, 8, 9] (fun p v i wr => ∃ k : Nat, k ≤ n ∧ i = .int .i64 k ∧ p = .int .i64 (posI s (vS st k)) ∧ GrowsI wr w.heap.size v (vL st k) ∧ Below w.heap.size w wr) (fun _ _ i _ => n - (intOf i).toNat)
  case atStart => exact ⟨0, by omega, rfl, by rw [← HP0.out]; rfl, growsI_empty w, (Below.refl _ _).alloc (Nat.le_refl _) _⟩
  case round =>
    clear HP0
    obtain ⟨k, hk, rfl, rfl, hv, hb⟩ := hrel
    have HV := Lib.hid hv
    have HB := Lib.hid hb
    have HF := Lib.hid hv.form
    clear hv hb
    by_cases hlt : k < n
    · cases hst : vS st k with
      | none =>
        have HE := Lib.hid (show vS st n = none by have := vS_none st k hst (n - k); rwa [show k + (n - k) = n by omega] at this)
        have hp : posI s none = -1 := rfl
        rw [hp]
        go_wp2
        go_ret2
        rw [HE.out]
        exact ⟨⟨_, rfl, HF.out, fun h => absurd rfl h⟩, HB.out⟩
      | some r =>
        have hsu := HSF.out k
        rw [hst] at hsu
        obtain ⟨z1, z2⟩ := hsu
        have hp : posI s (some r) = ((s.size - r.size : Nat) : Int) := rfl
        rw [hp]
        have HST := Lib.hid hst
        have HZ := Lib.hid z2
        clear hst z2 hp
        obtain ⟨q, hq⟩ : ∃ q, s.size - r.size = q := ⟨_, rfl⟩
        rw [hq]
        have hq1 : q ≤ s.size := by omega
        have hq2 : q + r.size = s.size := by omega
        have HQ := Lib.hid hq
        clear hq
        have hx : s.extract q s.size = r := by rw [← HQ.out]; exact HZ.out.symm
        have hr : r.size ≤ 1048576 := by omega
        have hl : (vL st k).length ≤ 16 := by rw [vL_length]; omega
        have r7 := rvK_le7 r
        have HX := Lib.hid hx
        have hbs := HB.out.size
        go_wp2_with fail
        refine (spec_rv r _ hr).mono ?_
        rintro e w1 ⟨rfl, hb1⟩
        have HV1 := Lib.hid (HV.out.later hb1)
        have HB1 := Lib.hid (HB.out.trans (hb1.mono hbs))
        have hbs1 := hb1.size
        clear HV HB hb1 hx
        by_cases hk0 : rvK r = 0
        · have hkz : (((rvK r : Nat) : Int) == 0) = true := by rw [hk0]; rfl
          have hst2 : vS st (k + 1) = none := by show (oN (vS st k)).2 = none; rw [HST.out, oN_bad r hk0]
          have HE := Lib.hid (show vS st n = none by have := vS_none st (k + 1) hst2 (n - (k + 1)); rwa [show k + 1 + (n - (k + 1)) = n by omega] at this)
          clear hk0 hst2
          go_wp2
          go_ret2
          rw [HE.out]
          exact ⟨⟨_, rfl, HF.out, fun h => absurd rfl h⟩, HB1.out⟩
        · have hkz : (((rvK r : Nat) : Int) == 0) = false := beq_no (by omega)
          have hE1 : oN (vS st k) = (rvN r, some (r.extract (rvK r) r.size)) := by rw [HST.out, oN_ok r hk0]
          have HE1 := Lib.hid hE1
          have hle := rvK_le r
          clear hk0 hE1
          go_wp2_with (at_builtin; refine wp_append_ints rfl (.tmp 37) (.tmp 39) rfl w.heap.size _ (vL st k) [rvN r] rfl (HV1.out.alloc _) w1.heap.size 1 1 rfl rfl (srcI_one w1 _) (by omega) (by simp; omega) ?_; intro v' w' hv' hb')
          go_roundw
          case rel =>
            refine ⟨k + 1, by omega, by go_num, ?_, ?_, ?_⟩
            · show _ = Value.int .i64 (posI s (oN (vS st k)).2)
              rw [HE1.out]
              show _ = Value.int .i64 ((s.size - (r.extract (rvK r) r.size).size : Nat) : Int)
              rw [ext_size r _ _ (Nat.le_refl _)]
              congr 1
              omega
            · show GrowsI _ _ _ (vL st k ++ [(oN (vS st k)).1])
              rw [HE1.out]
              exact hv'
            · exact (HB1.out.alloc (by omega) _).trans hb'
          case measure => simp only [intOf]; omega
    · obtain rfl : k = n := by omega
      go_wp2
      go_ret2
      exact ⟨⟨_, rfl, HF.out, fun _ => HV.out⟩, HB.out⟩
end Go.Proofs.YtkeoeempdkpafaaDoor
/- The model's l4Take. -/
namespace Go.Proofs.YtkeoeempdkpafaaDoor
open Go.RowKit Go.PlainAid
set_option linter.unusedVariables false

set_option maxRecDepth 100000 in
set_option maxHeartbeats 1000000 in
theorem take_c (s : ByteArray) (st : Option ByteArray) (w : World) (hs : s.size ≤ 1048576) (hsf : Suf s st) :
    Calls Tryd.prog 48 #[.string s, .int .i64 (posI s st)] w fun e w' => e = .returned (.tuple #[.string (oT st).1, .int .i64 (posI s (oT st).2)]) ∧ Below w.heap.size w w' := by
  have hsu := suf_N s st hsf
  have hvars := vars_c s st 1 w hs hsf (by decide)
  have h0 := oN_nonneg st
  have h1 := oN_le st
  unfold oT
  have ev : vS st 1 = (oN st).2 := rfl
  have el : vL st 1 = [(oN st).1] := rfl
  rw [ev, el] at hvars
  clear ev el hsf
  generalize posI s st = p0 at *
  obtain ⟨m, hm⟩ := Int.eq_ofNat_of_zero_le h0
  rw [hm] at h1 hvars ⊢
  clear h0 hm
  generalize (oN st).2 = st1 at *
  have HV := Lib.hid hvars
  clear hvars
  cases st1 with
  | none =>
    rw [oB_none]
    go_enter Tryd.func48, Tryd.ntmps48
    go_wp2_with fail
    refine HV.out.mono ?_
    rintro e w1 ⟨⟨v, rfl, ⟨a, k, c, rfl⟩, _⟩, hb⟩
    have HB := Lib.hid hb
    have hp : posI s none = -1 := rfl
    rw [hp]
    clear hb
    go_wp2
    go_ret2
    exact ⟨rfl, HB.out⟩
  | some r =>
    obtain ⟨z1, z2⟩ := hsu
    have hp : posI s (some r) = ((s.size - r.size : Nat) : Int) := rfl
    rw [hp] at HV
    obtain ⟨q, hq⟩ : ∃ q, s.size - r.size = q := ⟨_, rfl⟩
    rw [hq] at HV z2
    have hq2 : q + r.size = s.size := by omega
    clear hp
    by_cases hbad : (r.size : Int) < (m : Int)
    · rw [oB_bad r _ hbad]
      clear z2 hq
      go_enter Tryd.func48, Tryd.ntmps48
      go_wp2_with fail
      refine HV.out.mono ?_
      rintro e w1 ⟨⟨v, rfl, _, hv⟩, hb⟩
      obtain ⟨g, cap, rfl, hg, hc⟩ := (hv (by simp)).cell (by simp)
      have c0 := hc 0 _ rfl
      have HB := Lib.hid hb
      clear hb hv hc HV
      go_wp2
      go_ret2
      exact ⟨rfl, HB.out⟩
    · rw [oB_ok r _ (by omega)]
      simp only [Int.toNat_natCast]
      have e1 : r.extract 0 m = s.extract q (q + m) := by
        rw [z2, ext_ext s _ _ _ _ (Nat.le_refl _) (by omega)]
        rfl
      have e2 : posI s (some (r.extract m r.size)) = (q : Int) + m := by
        show ((s.size - (r.extract m r.size).size : Nat) : Int) = _
        rw [ext_size r _ _ (Nat.le_refl _)]
        omega
      rw [e1, e2]
      clear z2 hq e1 e2
      have hbd : q + m ≤ s.size := by omega
      go_enter Tryd.func48, Tryd.ntmps48
      go_wp2_with fail
      refine HV.out.mono ?_
      rintro e w1 ⟨⟨v, rfl, _, hv⟩, hb⟩
      obtain ⟨g, cap, rfl, hg, hc⟩ := (hv (by simp)).cell (by simp)
      have c0 := hc 0 _ rfl
      have HB := Lib.hid hb
      clear hb hv hc HV
      go_wp2_with fail
      have y1 : (q : Int) ≤ (s.size : Int) := by omega
      have y2 : (q : Int) + (m : Int) ≤ (s.size : Int) := by omega
      have y3 : IntKind.i64.wrap ((q : Int) + (m : Int)) = (q : Int) + (m : Int) := IntWalk.i64_in _ (by omega)
      go_quiet (fail)
      go_wp2
      go_ret2
      exact ⟨rfl, dn HB.out _⟩
end Go.Proofs.YtkeoeempdkpafaaDoor
/- The model's ReadCmd. -/
namespace Go.Proofs.YtkeoeempdkpafaaDoor
open Go.RowKit Go.PlainAid
set_option linter.unusedVariables false

theorem vars4 (s : ByteArray) (w : World) (hs : s.size ≤ 1048576) :
    Calls Tryd.prog 47 #[.string s, .int .i64 0, .int .i64 4] w fun e w' => (∃ v, e = .returned (.tuple #[v, .int .i64 (posI s (s4 s).2)]) ∧ (∃ a m c, v = .slice a m c) ∧ ((s4 s).2 ≠ none → GrowsI w' w.heap.size v [(s1 s).1, (s2 s).1, (s3 s).1, (s4 s).1])) ∧ Below w.heap.size w w' := by
  have h := vars_c s (some s) 4 w hs (suf_all s) (by decide)
  have e0 : posI s (some s) = 0 := by simp [posI]
  rw [e0] at h
  exact h
theorem vars8 (s : ByteArray) (w : World) (hs : s.size ≤ 1048576) (hsf : Suf s (s7 s).2) :
    Calls Tryd.prog 47 #[.string s, .int .i64 (posI s (s7 s).2), .int .i64 1] w fun e w' => (∃ v, e = .returned (.tuple #[v, .int .i64 (posI s (s8 s).2)]) ∧ (∃ a m c, v = .slice a m c) ∧ ((s8 s).2 ≠ none → GrowsI w' w.heap.size v [(s8 s).1])) ∧ Below w.heap.size w w' :=
  vars_c s (s7 s).2 1 w hs hsf (by decide)
theorem take5 (s : ByteArray) (w : World) (hs : s.size ≤ 1048576) (hsf : Suf s (s4 s).2) :
    Calls Tryd.prog 48 #[.string s, .int .i64 (posI s (s4 s).2)] w fun e w' => e = .returned (.tuple #[.string (s5 s).1, .int .i64 (posI s (s5 s).2)]) ∧ Below w.heap.size w w' := take_c s _ w hs hsf
theorem take6 (s : ByteArray) (w : World) (hs : s.size ≤ 1048576) (hsf : Suf s (s5 s).2) :
    Calls Tryd.prog 48 #[.string s, .int .i64 (posI s (s5 s).2)] w fun e w' => e = .returned (.tuple #[.string (s6 s).1, .int .i64 (posI s (s6 s).2)]) ∧ Below w.heap.size w w' := take_c s _ w hs hsf
theorem take7 (s : ByteArray) (w : World) (hs : s.size ≤ 1048576) (hsf : Suf s (s6 s).2) :
    Calls Tryd.prog 48 #[.string s, .int .i64 (posI s (s6 s).2)] w fun e w' => e = .returned (.tuple #[.string (s7 s).1, .int .i64 (posI s (s7 s).2)]) ∧ Below w.heap.size w w' := take_c s _ w hs hsf
theorem suf4 (s : ByteArray) : Suf s (s4 s).2 := suf_N _ _ (suf_N _ _ (suf_N _ _ (suf_N _ _ (suf_all s))))
theorem suf7 (s : ByteArray) : Suf s (s7 s).2 := suf_T _ _ (suf_T _ _ (suf_T _ _ (suf4 s)))
theorem suf8 (s : ByteArray) : Suf s (s8 s).2 := suf_N _ _ (suf7 s)
theorem no_good (s : ByteArray) (h : wholeB s = false) : readC s = zeroC ∧ goodB s = false := by
  have e : goodB s = false := by unfold goodB; rw [h]; rfl
  refine ⟨?_, e⟩
  unfold readC
  rw [e]
  rfl
theorem no4 (s : ByteArray) (h : (s4 s).2 = none) : wholeB s = false := by
  cases e : wholeB s
  · rfl
  · exfalso
    obtain ⟨_, r8, e8, _⟩ := whole_parts s e
    obtain ⟨r7, e7, _⟩ := oN_some (st := (s7 s).2) e8
    obtain ⟨r6, e6, _⟩ := oT_some (st := (s6 s).2) e7
    obtain ⟨r5, e5, _⟩ := oT_some (st := (s5 s).2) e6
    obtain ⟨r4, e4, _⟩ := oT_some (st := (s4 s).2) e5
    rw [h] at e4
    cases e4
theorem no8 (s : ByteArray) (h : (s8 s).2 = none ∨ 4 < (s8 s).1 ∨ ∃ r, (s8 s).2 = some r ∧ r.size ≠ 8 * (s8 s).1.toNat) : wholeB s = false := by
  cases e : wholeB s
  · rfl
  · exfalso
    obtain ⟨h4, r8, e8, hr⟩ := whole_parts s e
    rcases h with h | h | ⟨r, h, hn⟩
    · rw [h] at e8; cases e8
    · omega
    · rw [e8] at h
      cases h
      exact hn hr
theorem posI_pos (s : ByteArray) (st : Option ByteArray) (h : st ≠ none) : 0 ≤ posI s st := by
  cases st with
  | none => exact absurd rfl h
  | some r => show (0 : Int) ≤ ((s.size - r.size : Nat) : Int); omega
theorem posI_le (s : ByteArray) (st : Option ByteArray) : posI s st ≤ s.size := by
  cases st with
  | none => show (-1 : Int) ≤ _; omega
  | some r => show ((s.size - r.size : Nat) : Int) ≤ _; omega

set_option maxRecDepth 100000 in
set_option maxHeartbeats 8000000 in
theorem spec_read_no (s : ByteArray) (w : World) (hs : s.size ≤ 1048576) (hno : wholeB s = false) :
    Calls Tryd.prog 49 #[.string s] w fun e w' => (∃ va vn vcap, e = .returned (.tuple #[.agg #[.int .i64 (readC s).kind, .int .i64 (readC s).client, .int .i64 (readC s).no, .string (readC s).set, .string (readC s).name, .string (readC s).tag, .int .i64 (readC s).n, .slice va vn vcap], .bool (goodB s)]) ∧ GrowsS w' (w.heap.size + 1) (.slice va vn vcap) (readC s).ch) ∧ Below w.heap.size w w' := by
  have HNO := Lib.hid hno
  clear hno
  go_enter Tryd.func49, Tryd.ntmps49
  go_wp2_with fail
  refine (vars4 s _ hs).mono ?_
  rintro e w1 ⟨⟨lv, rfl, ⟨la, lm, lc, rfl⟩, hl⟩, hb⟩
  have B0 := Lib.hid ((Box.new w 33 #[.int .i64 0, .int .i64 0, .int .i64 0, .string ⟨#[]⟩, .string ⟨#[]⟩, .string ⟨#[]⟩, .int .i64 0, .slice none 0 0] w.heap.size rfl).after hb)
  have HW := Lib.hid (((Aft.refl w).alloc _).after hb)
  clear hb
  by_cases h4 : (s4 s).2 = none
  · have hp : posI s (s4 s).2 = -1 := by rw [h4]; rfl
    rw [hp]
    clear h4 hl hp
    have e0 := B0.out.frozen 0
    have e1 := B0.out.frozen 1
    have e2 := B0.out.frozen 2
    have e3 := B0.out.frozen 3
    have e4 := B0.out.frozen 4
    have e5 := B0.out.frozen 5
    have e6 := B0.out.frozen 6
    have e7 := B0.out.frozen 7
    obtain ⟨x0, x1, x2, x3, x4, x5, x6, x7⟩ := B0.out.cells8
    have l0 := B0.out.lt
    have HNW := Lib.hid (HNO.out)
    go_wp2
    refine bodyPost_ret (results_cmd2 Tryd.results49 _ _ w.heap.size _ _ _ _ _ _ _ _ _ rfl rfl (B0.out.set8cells _ _ _ _ _ _ _ _)) rfl ⟨⟨none, 0, 0, by rw [(no_good s HNW.out).1, (no_good s HNW.out).2]; rfl, ?_⟩, ?_⟩
    · rw [(no_good s HNW.out).1]
      exact growsS_nil _ _
    · exact HW.out.set8 _ (Nat.le_refl _) _ _ _ _ _ _ _ _

  have hp4 := posI_pos s _ h4
  have HL := Lib.hid (hl h4)
  clear hl h4
  go_wp2_with fail
  refine (take5 s _ hs (suf4 s)).mono ?_
  rintro e w2 ⟨rfl, hb⟩
  have B0' := Lib.hid (B0.out.after hb)
  have HL' := Lib.hid (HL.out.later hb)
  have HW' := Lib.hid (HW.out.after hb)
  clear hb B0 HL HW
  have B0 := Lib.hid B0'.out
  have HL := Lib.hid HL'.out
  have HW := Lib.hid HW'.out
  clear B0' HL' HW'
  clear hp4
  go_wp2_with fail
  refine (take6 s _ hs (suf_T _ _ (suf4 s))).mono ?_
  rintro e w3 ⟨rfl, hb⟩
  have B0' := Lib.hid (B0.out.after hb)
  have HL' := Lib.hid (HL.out.later hb)
  have HW' := Lib.hid (HW.out.after hb)
  clear hb B0 HL HW
  have B0 := Lib.hid B0'.out
  have HL := Lib.hid HL'.out
  have HW := Lib.hid HW'.out
  clear B0' HL' HW'
  go_wp2_with fail
  refine (take7 s _ hs (suf_T _ _ (suf_T _ _ (suf4 s)))).mono ?_
  rintro e w4 ⟨rfl, hb⟩
  have B0' := Lib.hid (B0.out.after hb)
  have HL' := Lib.hid (HL.out.later hb)
  have HW' := Lib.hid (HW.out.after hb)
  clear hb B0 HL HW
  have B0 := Lib.hid B0'.out
  have HL := Lib.hid HL'.out
  have HW := Lib.hid HW'.out
  clear B0' HL' HW'
  go_wp2_with fail
  refine (vars8 s _ hs (suf7 s)).mono ?_
  rintro e w5 ⟨⟨nv, rfl, ⟨na, nm, nc, rfl⟩, hn⟩, hb⟩
  have B0' := Lib.hid (B0.out.after hb)
  have HL' := Lib.hid (HL.out.later hb)
  have HW' := Lib.hid (HW.out.after hb)
  clear hb B0 HL HW
  have B0 := Lib.hid B0'.out
  have HL := Lib.hid HL'.out
  have HW := Lib.hid HW'.out
  clear B0' HL' HW'
  by_cases h8 : (s8 s).2 = none
  · have hp : posI s (s8 s).2 = -1 := by rw [h8]; rfl
    rw [hp]
    clear h8 hn hp
    have e0 := B0.out.frozen 0
    have e1 := B0.out.frozen 1
    have e2 := B0.out.frozen 2
    have e3 := B0.out.frozen 3
    have e4 := B0.out.frozen 4
    have e5 := B0.out.frozen 5
    have e6 := B0.out.frozen 6
    have e7 := B0.out.frozen 7
    obtain ⟨x0, x1, x2, x3, x4, x5, x6, x7⟩ := B0.out.cells8
    have l0 := B0.out.lt
    have HNW := Lib.hid (HNO.out)
    go_wp2
    refine bodyPost_ret (results_cmd2 Tryd.results49 _ _ w.heap.size _ _ _ _ _ _ _ _ _ rfl rfl (B0.out.set8cells _ _ _ _ _ _ _ _)) rfl ⟨⟨none, 0, 0, by rw [(no_good s HNW.out).1, (no_good s HNW.out).2]; rfl, ?_⟩, ?_⟩
    · rw [(no_good s HNW.out).1]
      exact growsS_nil _ _
    · exact HW.out.set8 _ (Nat.le_refl _) _ _ _ _ _ _ _ _

  have HN := Lib.hid (hn h8)
  clear hn
  have hp8 := posI_pos s _ h8
  have hp9 := posI_le s (s8 s).2
  have n0 := oN_nonneg (s7 s).2
  have n1 := oN_le (s7 s).2
  have n0' : 0 ≤ (s8 s).1 := n0
  have n1' : (s8 s).1 ≤ 562949953421311 := n1
  clear n0 n1
  obtain ⟨gn, ncap, en, hgn, hcn⟩ := HN.out.cell (by simp)
  simp only [Value.slice.injEq] at en
  obtain ⟨rfl, rfl, rfl⟩ := en
  have cn0 := hcn 0 _ rfl
  clear hcn
  by_cases h5 : 4 < (s8 s).1
  · clear h8 hp9
    have e0 := B0.out.frozen 0
    have e1 := B0.out.frozen 1
    have e2 := B0.out.frozen 2
    have e3 := B0.out.frozen 3
    have e4 := B0.out.frozen 4
    have e5 := B0.out.frozen 5
    have e6 := B0.out.frozen 6
    have e7 := B0.out.frozen 7
    obtain ⟨x0, x1, x2, x3, x4, x5, x6, x7⟩ := B0.out.cells8
    have l0 := B0.out.lt
    have HNW := Lib.hid (HNO.out)
    go_wp2
    refine bodyPost_ret (results_cmd2 Tryd.results49 _ _ w.heap.size _ _ _ _ _ _ _ _ _ rfl rfl (B0.out.set8cells _ _ _ _ _ _ _ _)) rfl ⟨⟨none, 0, 0, by rw [(no_good s HNW.out).1, (no_good s HNW.out).2]; rfl, ?_⟩, ?_⟩
    · rw [(no_good s HNW.out).1]
      exact growsS_nil _ _
    · exact HW.out.set8 _ (Nat.le_refl _) _ _ _ _ _ _ _ _

  have hneq : (((s.size : Nat) : Int) != posI s (s8 s).2 + 8 * (s8 s).1) = true := by
    refine bne_yes fun e => ?_
    cases h9 : (s8 s).2 with
    | none => exact h8 h9
    | some r =>
      have hr := whole_of s r (by omega) h9 (by
        have hsu := suf8 s
        rw [h9] at hsu e
        have hz := hsu.1
        have hpp : posI s (some r) = ((s.size - r.size : Nat) : Int) := rfl
        rw [hpp] at e
        omega)
      rw [HNO.out] at hr
      cases hr
  clear h8
  have e0 := B0.out.frozen 0
  have e1 := B0.out.frozen 1
  have e2 := B0.out.frozen 2
  have e3 := B0.out.frozen 3
  have e4 := B0.out.frozen 4
  have e5 := B0.out.frozen 5
  have e6 := B0.out.frozen 6
  have e7 := B0.out.frozen 7
  obtain ⟨x0, x1, x2, x3, x4, x5, x6, x7⟩ := B0.out.cells8
  have l0 := B0.out.lt
  have HNW := Lib.hid (HNO.out)
  go_wp2
  refine bodyPost_ret (results_cmd2 Tryd.results49 _ _ w.heap.size _ _ _ _ _ _ _ _ _ rfl rfl (B0.out.set8cells _ _ _ _ _ _ _ _)) rfl ⟨⟨none, 0, 0, by rw [(no_good s HNW.out).1, (no_good s HNW.out).2]; rfl, ?_⟩, ?_⟩
  · rw [(no_good s HNW.out).1]
    exact growsS_nil _ _
  · exact HW.out.set8 _ (Nat.le_refl _) _ _ _ _ _ _ _ _
end Go.Proofs.YtkeoeempdkpafaaDoor
/- The model's ReadCmd where all fields stand there. -/
namespace Go.Proofs.YtkeoeempdkpafaaDoor
open Go.RowKit Go.PlainAid
set_option linter.unusedVariables false

/-- The string s is read whole: the place and the number of its chunks. -/
theorem whole_place (s : ByteArray) (h : wholeB s = true) : (s4 s).2 ≠ none ∧ ∃ (r : ByteArray) (m q : Nat), (s8 s).2 = some r ∧ (s8 s).1 = (m : Int) ∧ m ≤ 4 ∧ r.size = 8 * m ∧ q + 8 * m = s.size ∧ posI s (s8 s).2 = (q : Int) ∧ (s9 s).1 = (oI (some r) m).1 ∧ ∀ k, k < m → s.extract (q + 8 * k) (q + 8 * k + 8) = (oB 8 (oI (some r) k).2).1 := by
  obtain ⟨h4, r, e8, hr⟩ := whole_parts s h
  refine ⟨(fun e => by rw [no4 s e] at h; cases h), r, (s8 s).1.toNat, s.size - r.size, e8, (Int.toNat_of_nonneg (oN_nonneg (s7 s).2)).symm, by omega, hr, ?_, by rw [e8]; rfl, ?_, ?_⟩
  · have := suf8 s
    rw [e8] at this
    have := this.1
    omega
  · unfold s9
    rw [if_neg (by omega), e8]
  · intro k hk
    have hsu := suf8 s
    rw [e8] at hsu
    obtain ⟨z1, z2⟩ := hsu
    have hs8 : (r.extract (8 * k) r.size).size = r.size - 8 * k := ext_size r _ _ (Nat.le_refl _)
    rw [oI_rest r k (by omega), oB_ok _ _ (by omega)]
    show _ = (r.extract (8 * k) r.size).extract 0 8
    rw [ext_ext r _ _ _ _ (Nat.le_refl _) (by omega)]
    conv => rhs; rw [z2]
    rw [ext_ext s _ _ _ _ (Nat.le_refl _) (by omega)]
    congr 1 <;> omega

set_option maxRecDepth 100000 in
set_option maxHeartbeats 8000000 in
theorem spec_read_yes (s : ByteArray) (w : World) (hs : s.size ≤ 1048576) (hyes : wholeB s = true) :
    Calls Tryd.prog 49 #[.string s] w fun e w' => (∃ va vn vcap, e = .returned (.tuple #[.agg #[.int .i64 (readC s).kind, .int .i64 (readC s).client, .int .i64 (readC s).no, .string (readC s).set, .string (readC s).name, .string (readC s).tag, .int .i64 (readC s).n, .slice va vn vcap], .bool (goodB s)]) ∧ GrowsS w' (w.heap.size + 1) (.slice va vn vcap) (readC s).ch) ∧ Below w.heap.size w w' := by
  have HY := Lib.hid hyes
  obtain ⟨h4, r, m, q, h8, hm, hm4, hr, hq, hpos, h9, hch⟩ := whole_place s hyes
  have HM := Lib.hid hm
  have HR := Lib.hid hr
  have HP := Lib.hid hpos
  have H9 := Lib.hid h9
  have HCH := Lib.hid hch
  have H8 := Lib.hid h8
  have H4 := Lib.hid h4
  clear hyes h4 h8 hm hr hpos h9 hch
  go_enter Tryd.func49, Tryd.ntmps49
  go_wp2_with fail
  refine (vars4 s _ hs).mono ?_
  rintro e w1 ⟨⟨lv, rfl, ⟨la, lm, lc, rfl⟩, hl⟩, hb⟩
  have B0 := Lib.hid ((Box.new w 33 #[.int .i64 0, .int .i64 0, .int .i64 0, .string ⟨#[]⟩, .string ⟨#[]⟩, .string ⟨#[]⟩, .int .i64 0, .slice none 0 0] w.heap.size rfl).after hb)
  have HW := Lib.hid (((Aft.refl w).alloc _).after hb)
  have hp4 := posI_pos s _ H4.out
  have HL := Lib.hid (hl H4.out)
  clear hl hb
  go_wp2_with fail
  refine (take5 s _ hs (suf4 s)).mono ?_
  rintro e w2 ⟨rfl, hb⟩
  have B0' := Lib.hid (B0.out.after hb)
  have HL' := Lib.hid (HL.out.later hb)
  have HW' := Lib.hid (HW.out.after hb)
  clear hb B0 HL HW
  have B0 := Lib.hid B0'.out
  have HL := Lib.hid HL'.out
  have HW := Lib.hid HW'.out
  clear B0' HL' HW'
  clear hp4
  go_wp2_with fail
  refine (take6 s _ hs (suf_T _ _ (suf4 s))).mono ?_
  rintro e w3 ⟨rfl, hb⟩
  have B0' := Lib.hid (B0.out.after hb)
  have HL' := Lib.hid (HL.out.later hb)
  have HW' := Lib.hid (HW.out.after hb)
  clear hb B0 HL HW
  have B0 := Lib.hid B0'.out
  have HL := Lib.hid HL'.out
  have HW := Lib.hid HW'.out
  clear B0' HL' HW'
  go_wp2_with fail
  refine (take7 s _ hs (suf_T _ _ (suf_T _ _ (suf4 s)))).mono ?_
  rintro e w4 ⟨rfl, hb⟩
  have B0' := Lib.hid (B0.out.after hb)
  have HL' := Lib.hid (HL.out.later hb)
  have HW' := Lib.hid (HW.out.after hb)
  clear hb B0 HL HW
  have B0 := Lib.hid B0'.out
  have HL := Lib.hid HL'.out
  have HW := Lib.hid HW'.out
  clear B0' HL' HW'
  go_wp2_with fail
  refine (vars8 s _ hs (suf7 s)).mono ?_
  rintro e w5 ⟨⟨nv, rfl, ⟨na, nm, nc, rfl⟩, hn⟩, hb⟩
  have HN := Lib.hid (hn (by rw [H8.out]; simp))
  have B0' := Lib.hid (B0.out.after hb)
  have HL' := Lib.hid (HL.out.later hb)
  have HW' := Lib.hid (HW.out.after hb)
  clear hb B0 HL HW
  have B0 := Lib.hid B0'.out
  have HL := Lib.hid HL'.out
  have HW := Lib.hid HW'.out
  clear B0' HL' HW'
  clear hn
  obtain ⟨gn, ncap, en, hgn, hcn⟩ := HN.out.cell (by simp)
  simp only [Value.slice.injEq] at en
  obtain ⟨rfl, rfl, rfl⟩ := en
  have cn0 := hcn 0 _ rfl
  rw [HM.out] at cn0
  obtain ⟨gl, lcap, el, hgl, hcl⟩ := HL.out.cell (by simp)
  simp only [Value.slice.injEq] at el
  obtain ⟨rfl, rfl, rfl⟩ := el
  have k0 := hcl 0 _ rfl
  have k1 := hcl 1 _ rfl
  have k2 := hcl 2 _ rfl
  have k3 := hcl 3 _ rfl
  have CN := Lib.hid cn0
  have B0l := B0.out.lt
  clear hcn hcl HN HL
  rw [HP.out]
  have t1 : decide ((4 : Int) < (m : Int)) = false := by simp; omega
  have t2 : (((s.size : Nat) : Int) != (q : Int) + 8 * (m : Int)) = false := by simp; omega
  go_wp2_with fail
  go_region_held3 (fun w' => w'.cell? ⟨gl, 0, none⟩ = some (.int .i64 (s1 s).1) ∧ w'.cell? ⟨gl, 1, none⟩ = some (.int .i64 (s2 s).1) ∧ w'.cell? ⟨gl, 2, none⟩ = some (.int .i64 (s3 s).1) ∧ w'.cell? ⟨gl, 3, none⟩ = some (.int .i64 (s4 s).1)) (go_keep) (first | fail)
  clear k0 k1 k2 k3 t1 t2
  have hsz5 := HW.out.size
  have BZ := Lib.hid B0.out
  have hG0 : w.heap.size < w5.heap.size := B0l
  clear B0l
  go_wp2
  go_loopw [11] (fun i wr => ∃ (k : Nat) (va : Option Addr) (vn vc : Nat), k ≤ m ∧ i = .int .i64 k ∧ Box wr w5.heap.size 33 #[.int .i64 (s1 s).1, .int .i64 (s2 s).1, .int .i64 (s3 s).1, .string (s5 s).1, .string (s6 s).1, .string (s7 s).1, .int .i64 (s4 s).1, .slice va vn vc] ∧ GrowsS wr (w5.heap.size + 1) (.slice va vn vc) (oI (some r) k).1 ∧ Box wr w.heap.size 33 #[.int .i64 0, .int .i64 0, .int .i64 0, .string ⟨#[]⟩, .string ⟨#[]⟩, .string ⟨#[]⟩, .int .i64 0, .slice none 0 0] ∧ wr.cell? ⟨gn, 0, none⟩ = some (.int .i64 (m : Int)) ∧ Aft w wr) (fun i _ => m - (intOf i).toNat)
  case atStart =>
    refine ⟨0, none, 0, 0, by omega, rfl, (Box.new w5 33 _ _ rfl).drew, growsS_nil _ _, (BZ.out.alloc _).drew, ?_, (HW.out.alloc _).drew⟩
    rw [Below.cell (w := w5) (B := w5.heap.size) (((Below.refl _ _).alloc (Nat.le_refl _) _).drew) (p := ⟨gn, 0, none⟩) hgn]
    exact CN.out
  case round =>
    clear BZ HW CN B0
    obtain ⟨k, va, vn, vc, hk, rfl, hbc, hv, hbz, hcg, haf⟩ := hrel
    have BC := Lib.hid hbc
    have HV := Lib.hid hv
    have BZ := Lib.hid hbz
    have CG := Lib.hid hcg
    have HW := Lib.hid haf
    have hwl := hbc.lt
    clear hbc hv hbz haf
    by_cases hlt : k < m
    · have c7 := BC.out.cell 7 _ rfl
      have f7 := BC.out.frozen 7
      have y1 : IntKind.i64.wrap (8 * (k : Int)) = 8 * (k : Int) := IntWalk.i64_in _ (by omega)
      obtain ⟨p, hp⟩ : ∃ p, q + 8 * k = p := ⟨_, rfl⟩
      have y2 : IntKind.i64.wrap ((q : Int) + 8 * (k : Int)) = (p : Int) := by rw [IntWalk.i64_in _ (by omega)]; omega
      have y3 : IntKind.i64.wrap ((p : Int) + 8) = (p : Int) + 8 := IntWalk.i64_in _ (by omega)
      have y4 : (p : Int) + 8 ≤ (s.size : Int) := by omega
      have y5 : (0 : Int) ≤ (p : Int) + 8 := by omega
      have y6 : (p : Int) ≤ (p : Int) + 8 := by omega
      have y7 : ((p : Int) + 8).toNat = p + 8 := by omega
      have HPP := Lib.hid hp
      clear hp
      have hgc : ∀ row, row = Value.ownBlock (.slice va vn vc) → some w5.heap.size ≠ row := fun row hr e => by
        have := (World.ownsRow.lt HV.out w5.heap.size (by rw [← hr, e])).1
        omega
      have hlen : (oI (some r) k).1.length ≤ 1048576 := by rw [oI_length]; omega
      go_wp2
      go_region_law (first | (refine step_append_str rfl (.tmp 88) (.tmp 100) rfl (w5.heap.size + 1) (.slice va vn vc) (oI (some r) k).1 (s.extract p (p + 8)) (by simp [Act.eval]) (HV.out.alloc _).drew wr.heap.size 1 (by simp [Act.eval]) (by simp) hlen (by simp; omega) ?_; intro v' w' hv' hg'; obtain ⟨va', vn', vc', rfl⟩ := hv'.form; have BK := Lib.hid (((BC.out.alloc _).drew).keep hg' (hgc _ rfl)); have c7' := BK.out.cell 7 _ rfl; have f7' := BK.out.frozen 7))
      all_goals
        go_wp2
        have hBel : Below w5.heap.size wr (w'.setCell ⟨w5.heap.size, 7, none⟩ (.slice va' vn' vc')) := (((((Below.refl _ _).alloc (Nat.le_of_lt hwl) _).drew).trans ((below_of_grown ((HV.out.alloc _).drew) (by simp; omega) hg').mono (by omega)))).setCell (Nat.le_refl _) _
        have HBL := Lib.hid hBel
        clear hBel
        go_roundw
        case rel =>
          refine ⟨k + 1, va', vn', vc', by omega, by go_num, BK.out.setTo 7 _ _ rfl, ?_, BZ.out.later HBL.out hG0, ?_, Below.trans HW.out (HBL.out.mono (by omega))⟩
          · show GrowsS _ _ _ ((oI (some r) k).1 ++ [(oB 8 (oI (some r) k).2).1])
            rw [← HCH.out k hlt, HPP.out]
            exact hv'.kept (setG _ _ _ _) (by omega)
          · rw [HBL.out.cell (p := ⟨gn, 0, none⟩) hgn]
            exact CG.out
        case measure => simp only [intOf]; omega
    · obtain rfl : k = m := by omega
      have hvs : GrowsS wr (w5.heap.size + 1) (.slice va vn vc) (rawC s).ch := by
        show GrowsS _ _ _ (s9 s).1
        rw [H9.out]
        exact HV.out
      have KA := Lib.hid (show Has wr w5.heap.size 33 (rawC s) (.slice va vn vc) from ⟨BC.out, hvs.strs (fun j hj => Nat.le_trans (Nat.le_of_eq (raw_chunk s HY.out j hj)) (by decide))⟩)
      have KV := Lib.hid (hvs.mono (base' := w.heap.size + 1) (by omega))
      have HGS := Lib.hid (good_show s HY.out)
      obtain ⟨z1, z2, z3⟩ := raw_sizes s HY.out
      have Z1 : (rawC s).set.size ≤ 9223372036854775807 := by omega
      have Z2 : (rawC s).name.size ≤ 9223372036854775807 := by omega
      have Z3 : (rawC s).tag.size ≤ 9223372036854775807 := by omega
      clear hvs z1 z2 z3 BC HV HCH HM HR HP H9 H8 H4
      generalize hcc : rawC s = c at *
      have HCC := Lib.hid hcc
      clear hcc
      obtain ⟨b0, b1, b2, b3, b4, b5, b6, b7⟩ := KA.out.cells
      go_wp2_with fail
      clear b0 b1 b2 b3 b4 b5 b6 b7
      refine (spec_show c _ _ KA.out.2 Z1 Z2 Z3).mono ?_
      rintro e w7 ⟨rfl, hb⟩
      have KA7 := Lib.hid (KA.out.after hb)
      have KV7 := Lib.hid (KV.out.later hb)
      have BZ7 := Lib.hid (BZ.out.after hb)
      have HW7 := Lib.hid (HW.out.after hb)
      clear hb KA KV BZ HW CG hcg
      have e0 := BZ7.out.frozen 0
      have e1 := BZ7.out.frozen 1
      have e2 := BZ7.out.frozen 2
      have e3 := BZ7.out.frozen 3
      have e4 := BZ7.out.frozen 4
      have e5 := BZ7.out.frozen 5
      have e6 := BZ7.out.frozen 6
      have e7 := BZ7.out.frozen 7
      obtain ⟨x0, x1, x2, x3, x4, x5, x6, x7⟩ := BZ7.out.cells8
      have l0 := BZ7.out.lt
      by_cases hgd : showS c = s
      · have HGD := Lib.hid (show goodB s = true by rw [HGS.out]; exact decide_eq_true hgd)
        have hteq : ((showS c).toList == s.toList) = true := by rw [hgd]; simp
        clear hgd
        obtain ⟨b0, b1, b2, b3, b4, b5, b6, b7⟩ := KA7.out.cells
        go_wp2
        refine bodyPost_ret (results_cmd2 Tryd.results49 _ _ w.heap.size _ _ _ _ _ _ _ _ _ rfl rfl (BZ7.out.set8cells _ _ _ _ _ _ _ _)) rfl ⟨⟨va, vn, vc, ?_, ?_⟩, ?_⟩
        · have e1 : readC s = c := by unfold readC; rw [HGD.out, if_pos rfl, HCC.out]
          rw [e1, HGD.out]
          rfl
        · have e1 : readC s = c := by unfold readC; rw [HGD.out, if_pos rfl, HCC.out]
          rw [e1]
          exact KV7.out.set8 _ (by omega) _ _ _ _ _ _ _ _
        · exact HW7.out.set8 _ (Nat.le_refl _) _ _ _ _ _ _ _ _
      · have HGD := Lib.hid (show goodB s = false by rw [HGS.out]; exact decide_eq_false hgd)
        have hteq := ne_list hgd
        clear hgd
        go_wp2
        refine bodyPost_ret (results_cmd2 Tryd.results49 _ _ w.heap.size _ _ _ _ _ _ _ _ _ rfl rfl (BZ7.out.set8cells _ _ _ _ _ _ _ _)) rfl ⟨⟨none, 0, 0, ?_, ?_⟩, ?_⟩
        · have e1 : readC s = zeroC := by unfold readC; rw [HGD.out]; rfl
          rw [e1, HGD.out]
          rfl
        · have e1 : readC s = zeroC := by unfold readC; rw [HGD.out]; rfl
          rw [e1]
          exact growsS_nil _ _
        · exact HW7.out.set8 _ (Nat.le_refl _) _ _ _ _ _ _ _ _
theorem spec_read (s : ByteArray) (w : World) (hs : s.size ≤ 1048576) :
    Calls Tryd.prog 49 #[.string s] w fun e w' => (∃ va vn vcap, e = .returned (.tuple #[.agg #[.int .i64 (readC s).kind, .int .i64 (readC s).client, .int .i64 (readC s).no, .string (readC s).set, .string (readC s).name, .string (readC s).tag, .int .i64 (readC s).n, .slice va vn vcap], .bool (goodB s)]) ∧ GrowsS w' (w.heap.size + 1) (.slice va vn vcap) (readC s).ch) ∧ Below w.heap.size w w' := by
  cases h : wholeB s
  · exact spec_read_no s w hs h
  · exact spec_read_yes s w hs h
end Go.Proofs.YtkeoeempdkpafaaDoor
