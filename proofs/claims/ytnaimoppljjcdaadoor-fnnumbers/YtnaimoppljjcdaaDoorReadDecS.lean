/- The walks of ReadDec's model, and the law over ReadDec and its model: it returns true at every string. -/
import Derived.Test.YtnaimoppljjcdaaDoorReadDec
import Derived.Lib.IndexBytes
namespace Go.Proofs.YtnaimoppljjcdaaDoor
open Go.RowKit Go.PlainAid
set_option linter.unusedVariables false

theorem take_snoc (s : ByteArray) (k : Nat) (h : k < s.size) : s.data.toList.take (k + 1) = s.data.toList.take k ++ [s[k]] := by
  rw [List.take_succ_eq_append_getElem (by simpa using h)]; rfl
/-- The first k bytes. -/
def pre (s : ByteArray) (k : Nat) : List UInt8 := s.data.toList.take k
theorem pre_length (s : ByteArray) (k : Nat) (h : k ≤ s.size) : (pre s k).length = k := by
  unfold pre; rw [List.length_take, ← Lib.size_eq]; omega
theorem pre_dig (s : ByteArray) (k : Nat) (h : k < s.size) (h1 : 48 ≤ bt s k) (h2 : bt s k ≤ 57) :
    (val (pre s (k + 1)) : Int) = (val (pre s k) : Int) * 10 + (bt s k - 48) ∧ (cnt (pre s (k + 1)) : Int) = (cnt (pre s k) : Int) + 1 := by
  have hg := get_bt s k h
  unfold pre
  rw [take_snoc s k h, val_snoc, cnt_snoc, if_pos (by omega), vstep, if_pos (by omega)]
  omega
theorem pre_other (s : ByteArray) (k : Nat) (h : k < s.size) (h1 : bt s k < 48 ∨ 57 < bt s k) : val (pre s (k + 1)) = val (pre s k) ∧ cnt (pre s (k + 1)) = cnt (pre s k) := by
  have hg := get_bt s k h
  unfold pre
  rw [take_snoc s k h, val_snoc, cnt_snoc, if_neg (by omega), vstep, if_neg (by omega)]
  omega
theorem pre_val (s : ByteArray) (k : Nat) (h : k ≤ 10) : val (pre s k) ≤ 9999999999 := val_small _ (by unfold pre; rw [List.length_take]; omega)

/-- What ReadDec answers at s. -/
def Ans (s : ByteArray) (a : Int) (b : Bool) : Prop := (b = true ∧ RdOk s.data.toList a) ∨ (b = false ∧ a = 0 ∧ ∀ n, ¬ RdOk s.data.toList n)
def RdPost (s : ByteArray) (w : World) (e : Ending) (w' : World) : Prop := ∃ a b, e = .returned (.tuple #[.int .i64 a, .bool b]) ∧ Ans s a b ∧ Below w.heap.size w w'
theorem no_cnt (s : ByteArray) (k : Nat) (hk : k ≤ s.size) (he : k = s.size ∨ k = 11) (h : 9 < cnt (pre s k)) : Ans s 0 false := by
  refine .inr ⟨rfl, rfl, fun n hn => ?_⟩
  have := ok_model _ _ hn
  rw [← Lib.size_eq] at this
  by_cases e : k = s.size
  · have ep : pre s k = s.data.toList := by unfold pre; exact List.take_of_length_le (by rw [← Lib.size_eq]; omega)
    rw [ep] at h; omega
  · omega
theorem no_len (s : ByteArray) (h : 10 < s.size) : Ans s 0 false := by
  refine .inr ⟨rfl, rfl, fun n hn => ?_⟩
  have := ok_model _ _ hn
  rw [← Lib.size_eq] at this
  omega
theorem head_byte (s : ByteArray) (h : 0 < s.size) : s.data.toList.head? = some 45 ↔ bt s 0 = 45 := by
  have hg := get_bt s 0 h
  have hd := Lib.data_getElem? s 0 h
  rw [List.head?_eq_getElem?, hd, Option.some.injEq]
  constructor
  · intro e; rw [← hg, e]; rfl
  · intro e
    rw [← hg] at e
    exact Lib.byte_eq_of_toNat (by rw [e]; rfl)
theorem rdv_neg (s : ByteArray) (k : Nat) (he : k = s.size) (h : 0 < s.size) (hb : bt s 0 = 45) : -((val (pre s k) : Nat) : Int) = rdv s.data.toList := by
  have ep : pre s k = s.data.toList := by unfold pre; exact List.take_of_length_le (by rw [← Lib.size_eq]; omega)
  unfold rdv
  rw [if_pos ((head_byte s h).2 hb), ep]
theorem rdv_pos (s : ByteArray) (k : Nat) (he : k = s.size) (h : s.size = 0 ∨ bt s 0 ≠ 45) : ((val (pre s k) : Nat) : Int) = rdv s.data.toList := by
  have ep : pre s k = s.data.toList := by unfold pre; exact List.take_of_length_le (by rw [← Lib.size_eq]; omega)
  unfold rdv
  rw [if_neg, ep]
  intro e
  rcases Nat.eq_zero_or_pos s.size with h0 | h0
  · have : s.data.toList = [] := List.eq_nil_of_length_eq_zero (by rw [← Lib.size_eq]; exact h0)
    rw [this] at e; cases e
  · have := (head_byte s h0).1 e
    omega
theorem no_itoa (s : ByteArray) (n : Int) (hn : n = rdv s.data.toList) (h : Lib.itoa n ≠ s.data.toList) : Ans s 0 false := by
  refine .inr ⟨rfl, rfl, fun m hm => h ?_⟩
  have := ok_model _ _ hm
  rw [hn]; exact this.2.2.2
theorem yes_itoa (s : ByteArray) (k : Nat) (n : Int) (hn : n = rdv s.data.toList) (he : k = s.size) (h1 : ¬ 9 < cnt (pre s k)) (h2 : ¬ 10 < s.size) (h : Lib.itoa n = s.data.toList) : Ans s n true := by
  have ep : pre s k = s.data.toList := by unfold pre; exact List.take_of_length_le (by rw [← Lib.size_eq]; omega)
  rw [ep] at h1
  refine .inl ⟨rfl, ?_⟩
  rw [hn] at h ⊢
  exact model_ok _ (by omega) (by rw [← Lib.size_eq]; omega) h
theorem str_eq (s : ByteArray) (l : List UInt8) (h : l = s.data.toList) : (!(l == s.toList)) = false := by
  rw [Lib.toList_data]
  simpa using h

set_option maxHeartbeats 2000000 in
theorem spec_rd (s : ByteArray) (w : World) (hs : s.size ≤ 1048576) : Calls Tryd.prog 19 #[.string s] w (RdPost s w) := by
  go_enter Tryd.func19, Tryd.ntmps19
  go_wp2
  go_loop [4, 5, 6] (fun nv kv iv => ∃ k : Nat, k ≤ s.size ∧ k ≤ 11 ∧ iv = .int .i64 k ∧ nv = .int .i64 (val (pre s k)) ∧ kv = .int .i64 (cnt (pre s k))) (fun _ _ iv => (11 - intOf iv).toNat)
  case atStart => exact ⟨0, by omega, by omega, rfl, rfl, rfl⟩
  case round =>
    obtain ⟨k, hk, hk11, rfl, rfl, rfl⟩ := hrel
    have c0 : cnt (pre s k) ≤ 11 := by have := cnt_le (pre s k); have := pre_length s k hk; omega
    by_cases hin : k < s.size ∧ k < 11
    · obtain ⟨hks, hk1⟩ := hin
      have g1 : decide (k < s.size) = true := by simpa using hks
      have hv := pre_val s k (by omega)
      have hg := get_bt s k hks
      have b0 := bt_nonneg s k
      have b1 := bt_le s k
      by_cases hd : 48 ≤ bt s k
      · have d1 : decide (48 ≤ bt s k) = true := by simpa using hd
        by_cases hd' : bt s k ≤ 57
        · have d2 : decide (bt s k ≤ 57) = true := by simpa using hd'
          have HP := Lib.hid (pre_dig s k hks hd hd')
          go_wp2
          go_round
          case rel => exact ⟨k + 1, by omega, by omega, by go_num, by rw [HP.out.1], by rw [HP.out.2]⟩
          case measure => simp only [intOf]; omega
        · have d2 : decide (bt s k ≤ 57) = false := by simpa using hd'
          have HP := Lib.hid (pre_other s k hks (by omega))
          go_wp2
          go_round
          case rel => exact ⟨k + 1, by omega, by omega, by go_num, by rw [HP.out.1], by rw [HP.out.2]⟩
          case measure => simp only [intOf]; omega
      · have d1 : decide (48 ≤ bt s k) = false := by simpa using hd
        have HP := Lib.hid (pre_other s k hks (by omega))
        go_wp2
        go_round
        case rel => exact ⟨k + 1, by omega, by omega, by go_num, by rw [HP.out.1], by rw [HP.out.2]⟩
        case measure => simp only [intOf]; omega
    · have he : k = s.size ∨ k = 11 := by omega
      have HE := Lib.hid he
      have hv : val (pre s k) ≤ 99999999999 := by
        have h1 := val_lt (pre s k)
        rw [pre_length s k hk] at h1
        have h2 := Nat.pow_le_pow_right (n := 10) (by decide) hk11
        have e : (10 : Nat) ^ 11 = 100000000000 := by decide
        omega
      clear he
      by_cases hk1 : k < s.size
      · have g1 : decide (k < s.size) = true := by simpa using hk1
        have hk11b : ¬ k < 11 := fun h => hin ⟨hk1, h⟩
        have hbig : 10 < s.size := by omega
        clear hin
        obtain ⟨q, z1⟩ : ∃ q : Bool, (bt s 0 == 45) = q := ⟨_, rfl⟩
        cases q
        all_goals
          have hp0 : 0 < s.size := by omega
          have z0 : decide (0 < s.size) = true := by simpa using hp0
          have hg0 := get_bt s 0 hp0
          have u2 : decide ((10 : Int) < (s.size : Int)) = true := by simp; omega
          by_cases t1 : 9 < cnt (pre s k)
          · have u1 : decide ((9 : Int) < (cnt (pre s k) : Int)) = true := by simp; omega
            go_wp2
            go_ret2
            exact ⟨0, false, rfl, no_len s hbig, Below.refl _ _⟩
          · have u1 : decide ((9 : Int) < (cnt (pre s k) : Int)) = false := by simp; omega
            go_wp2
            go_ret2
            exact ⟨0, false, rfl, no_len s hbig, Below.refl _ _⟩
      · have g1 : decide (k < s.size) = false := by simpa using hk1
        clear hin
        by_cases hz : 0 < s.size ∧ bt s 0 = 45
        · obtain ⟨hp0, hb0⟩ := hz
          have z0 : decide (0 < s.size) = true := by simpa using hp0
          have hg0 := get_bt s 0 hp0
          have z1 : (bt s 0 == 45) = true := by rw [hb0]; rfl
          have HB := Lib.hid hb0
          clear hb0
          by_cases t1 : 9 < cnt (pre s k)
          · have u1 : decide ((9 : Int) < (cnt (pre s k) : Int)) = true := by simp; omega
            go_wp2
            go_ret2
            exact ⟨0, false, rfl, no_cnt s k hk HE.out t1, Below.refl _ _⟩
          · have u1 : decide ((9 : Int) < (cnt (pre s k) : Int)) = false := by simp; omega
            by_cases t2 : 10 < s.size
            · have u2 : decide ((10 : Int) < (s.size : Int)) = true := by simp; omega
              go_wp2
              go_ret2
              exact ⟨0, false, rfl, no_len s t2, Below.refl _ _⟩
            · have u2 : decide ((10 : Int) < (s.size : Int)) = false := by simp; omega
              have hks : k = s.size := by rcases HE.out with h | h <;> omega
              by_cases t3 : Lib.itoa (-((val (pre s k) : Nat) : Int)) = s.data.toList
              · have u3 := str_eq s _ t3
                have HA := Lib.hid (yes_itoa s k _ (rdv_neg s k hks hp0 HB.out) hks t1 t2 t3)
                clear t3 hks
                go_wp2_with (go_at_call 18; refine (spec_dec _ _ (by omega) (by omega)).mono ?_; rintro e w1 ⟨rfl, hb1⟩)
                go_ret2
                exact ⟨_, true, rfl, HA.out, hb1⟩
              · have u3 := str_ne s _ t3
                have HA := Lib.hid (no_itoa s _ (rdv_neg s k hks hp0 HB.out) t3)
                clear t3 hks
                go_wp2_with (go_at_call 18; refine (spec_dec _ _ (by omega) (by omega)).mono ?_; rintro e w1 ⟨rfl, hb1⟩)
                go_ret2
                exact ⟨0, false, rfl, HA.out, hb1⟩
        · by_cases hp0 : 0 < s.size
          · have z0 : decide (0 < s.size) = true := by simpa using hp0
            have hg0 := get_bt s 0 hp0
            have hne0 : bt s 0 ≠ 45 := fun e => hz ⟨hp0, e⟩
            have z1 : (bt s 0 == 45) = false := by simpa using hne0
            have HB := Lib.hid hne0
            clear hne0 hz
            by_cases t1 : 9 < cnt (pre s k)
            · have u1 : decide ((9 : Int) < (cnt (pre s k) : Int)) = true := by simp; omega
              go_wp2
              go_ret2
              exact ⟨0, false, rfl, no_cnt s k hk HE.out t1, Below.refl _ _⟩
            · have u1 : decide ((9 : Int) < (cnt (pre s k) : Int)) = false := by simp; omega
              by_cases t2 : 10 < s.size
              · have u2 : decide ((10 : Int) < (s.size : Int)) = true := by simp; omega
                go_wp2
                go_ret2
                exact ⟨0, false, rfl, no_len s t2, Below.refl _ _⟩
              · have u2 : decide ((10 : Int) < (s.size : Int)) = false := by simp; omega
                have hks : k = s.size := by rcases HE.out with h | h <;> omega
                by_cases t3 : Lib.itoa ((val (pre s k) : Nat) : Int) = s.data.toList
                · have u3 := str_eq s _ t3
                  have HA := Lib.hid (yes_itoa s k _ (rdv_pos s k hks (.inr HB.out)) hks t1 t2 t3)
                  clear t3 hks
                  go_wp2_with (go_at_call 18; refine (spec_dec _ _ (by omega) (by omega)).mono ?_; rintro e w1 ⟨rfl, hb1⟩)
                  go_ret2
                  exact ⟨_, true, rfl, HA.out, hb1⟩
                · have u3 := str_ne s _ t3
                  have HA := Lib.hid (no_itoa s _ (rdv_pos s k hks (.inr HB.out)) t3)
                  clear t3 hks
                  go_wp2_with (go_at_call 18; refine (spec_dec _ _ (by omega) (by omega)).mono ?_; rintro e w1 ⟨rfl, hb1⟩)
                  go_ret2
                  exact ⟨0, false, rfl, HA.out, hb1⟩
          · have z0 : decide (0 < s.size) = false := by simpa using hp0
            clear hz
            by_cases t1 : 9 < cnt (pre s k)
            · have u1 : decide ((9 : Int) < (cnt (pre s k) : Int)) = true := by simp; omega
              go_wp2
              go_ret2
              exact ⟨0, false, rfl, no_cnt s k hk HE.out t1, Below.refl _ _⟩
            · have u1 : decide ((9 : Int) < (cnt (pre s k) : Int)) = false := by simp; omega
              by_cases t2 : 10 < s.size
              · have u2 : decide ((10 : Int) < (s.size : Int)) = true := by simp; omega
                go_wp2
                go_ret2
                exact ⟨0, false, rfl, no_len s t2, Below.refl _ _⟩
              · have u2 : decide ((10 : Int) < (s.size : Int)) = false := by simp; omega
                have hks : k = s.size := by rcases HE.out with h | h <;> omega
                by_cases t3 : Lib.itoa ((val (pre s k) : Nat) : Int) = s.data.toList
                · have u3 := str_eq s _ t3
                  have HA := Lib.hid (yes_itoa s k _ (rdv_pos s k hks (.inl (by omega))) hks t1 t2 t3)
                  clear t3 hks
                  go_wp2_with (go_at_call 18; refine (spec_dec _ _ (by omega) (by omega)).mono ?_; rintro e w1 ⟨rfl, hb1⟩)
                  go_ret2
                  exact ⟨_, true, rfl, HA.out, hb1⟩
                · have u3 := str_ne s _ t3
                  have HA := Lib.hid (no_itoa s _ (rdv_pos s k hks (.inl (by omega))) t3)
                  clear t3 hks
                  go_wp2_with (go_at_call 18; refine (spec_dec _ _ (by omega) (by omega)).mono ?_; rintro e w1 ⟨rfl, hb1⟩)
                  go_ret2
                  exact ⟨0, false, rfl, HA.out, hb1⟩
end Go.Proofs.YtnaimoppljjcdaaDoor
