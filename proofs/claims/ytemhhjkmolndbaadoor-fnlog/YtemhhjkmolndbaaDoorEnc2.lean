import Derived.Test.YtemhhjkmolndbaaDoorMath
import Derived.Laws.BytesArg
import Derived.Lib.IndexBytes
import Derived.Test.YtemhhjkmolndbaaDoorStrs
import Derived.PlainAid
import Derived.Laws.BitsAllLaws
/- Plain facts on varints: what the first groups of a string say, and when a beginning of it is the varint of that number. Nothing of the program is used here. -/
namespace Go.Proofs.YtemhhjkmolndbaaDoor
open Go.PlainAid

/-- The m groups of s that end before place k, the last one most significant. -/
def rvr (s : ByteArray) (k : Nat) : Nat → Int
  | 0 => 0
  | m + 1 => rvr s k m * 128 + bt s (k - (m + 1)) % 128
/-- The first i groups of s. -/
def acc (s : ByteArray) : Nat → Int
  | 0 => 0
  | i + 1 => acc s i + bt s i % 128 * 2 ^ (7 * i)

theorem rvr_nonneg (s : ByteArray) (k m : Nat) : 0 ≤ rvr s k m := by
  induction m with
  | zero => exact Int.le_refl _
  | succ m ih => simp only [rvr]; omega
theorem acc_nonneg (s : ByteArray) (i : Nat) : 0 ≤ acc s i := by
  induction i with
  | zero => exact Int.le_refl _
  | succ i ih =>
    have h1 : (0 : Int) ≤ 2 ^ (7 * i) := Int.pow_nonneg (by decide)
    have h2 : 0 ≤ bt s i % 128 := by omega
    have := Int.mul_nonneg h2 h1
    simp only [acc]; omega
theorem pow7 (i : Nat) : (2 : Int) ^ (7 * (i + 1)) = 2 ^ (7 * i) * 128 := by
  rw [Nat.mul_succ, Int.pow_add]; rfl
theorem pow7_pos (i : Nat) : (0 : Int) < 2 ^ (7 * i) := Int.pow_pos (by decide)
theorem acc_lt (s : ByteArray) (i : Nat) : acc s i < 2 ^ (7 * i) := by
  induction i with
  | zero => simp [acc]
  | succ i ih =>
    have h1 := pow7_pos i
    have h2 : bt s i % 128 ≤ 127 := by omega
    have h3 : bt s i % 128 * 2 ^ (7 * i) ≤ 127 * 2 ^ (7 * i) := Int.mul_le_mul_of_nonneg_right h2 (by omega)
    simp only [acc]
    rw [pow7]
    omega
theorem acc_rvr (s : ByteArray) (k m : Nat) (h : m ≤ k) : acc s k = rvr s k m * 2 ^ (7 * (k - m)) + acc s (k - m) := by
  induction m with
  | zero => simp [rvr]
  | succ m ih =>
    obtain ⟨j, hj⟩ : ∃ j, k - m = j + 1 := ⟨k - m - 1, by omega⟩
    have hj' : k - (m + 1) = j := by omega
    rw [ih (by omega), hj, hj']
    simp only [rvr, acc]
    rw [hj', pow7]
    have e : (rvr s k m * 128 + bt s j % 128) * 2 ^ (7 * j) = rvr s k m * 128 * 2 ^ (7 * j) + bt s j % 128 * 2 ^ (7 * j) := Int.add_mul _ _ _
    rw [e, Int.mul_comm (2 ^ (7 * j)) 128, ← Int.mul_assoc]
    omega
theorem acc_eq (s : ByteArray) (k : Nat) : acc s k = rvr s k k := by
  rw [acc_rvr s k k (Nat.le_refl _)]; simp [acc]
theorem rvr_lt (s : ByteArray) (k m : Nat) (hm : m ≤ 6) : rvr s k m ≤ 4398046511103 := by
  have hk : m = 0 ∨ m = 1 ∨ m = 2 ∨ m = 3 ∨ m = 4 ∨ m = 5 ∨ m = 6 := by omega
  rcases hk with rfl | rfl | rfl | rfl | rfl | rfl | rfl <;> simp only [rvr] <;> omega
theorem rvr_max (s : ByteArray) (k m : Nat) (hm : m ≤ 7) : rvr s k m ≤ 562949953421311 := by
  match m with
  | 0 => simp [rvr]
  | m + 1 => have := rvr_lt s k m (by omega); simp only [rvr]; omega
theorem vd_rvr (s : ByteArray) (k j : Nat) (h : j ≤ k) : vd (rvr s k k) j = rvr s k (k - j) := by
  induction j with
  | zero => simp [vd]
  | succ j ih =>
    obtain ⟨m, hm⟩ : ∃ m, k - j = m + 1 := ⟨k - j - 1, by omega⟩
    have hm' : k - (j + 1) = m := by omega
    simp only [vd]
    rw [ih (by omega), hm, hm']
    simp only [rvr]
    omega
theorem vd_group (s : ByteArray) (k j : Nat) (h : j < k) : vd (rvr s k k) j % 128 = bt s j % 128 := by
  obtain ⟨m, hm⟩ : ∃ m, k - j = m + 1 := ⟨k - j - 1, by omega⟩
  rw [vd_rvr s k j (by omega), hm]
  simp only [rvr]
  have : k - (m + 1) = j := by omega
  rw [this]
  omega
theorem vk_unique (n : Int) (a b : Nat) (ha : VK n a) (hb : VK n b) : a = b := by
  rcases Nat.lt_trichotomy a b with h | h | h
  · have := hb.1 a h; have := ha.2; omega
  · exact h
  · have := ha.1 b h; have := hb.2; omega
theorem vpre_get (n : Int) (k j : Nat) (h : j < k) : (vpre n k)[j]? = some (128 + vd n j % 128) := by
  induction k with
  | zero => omega
  | succ k ih =>
    simp only [vpre]
    by_cases e : j = k
    · subst e
      rw [List.getElem?_append_right (by rw [vpre_length]; exact Nat.le_refl _), vpre_length]
      simp
    · rw [List.getElem?_append_left (by rw [vpre_length]; omega)]
      exact ih (by omega)
theorem varL_get (n : Int) (k j : Nat) (h : j < k) : (varL n k)[j]? = some (128 + vd n j % 128) := by
  unfold varL
  rw [List.getElem?_append_left (by rw [vpre_length]; exact h)]
  exact vpre_get n k j h
theorem varL_last (n : Int) (k : Nat) : (varL n k)[k]? = some (vd n k) := by
  unfold varL
  rw [List.getElem?_append_right (by rw [vpre_length]; exact Nat.le_refl _), vpre_length]
  simp

/-! ### when a list of numbers is a beginning of a string -/
theorem byte_num (s : ByteArray) (j : Nat) (h : j < s.size) : s.data.toList[j]? = some (UInt8.ofNat (bt s j).toNat) := by
  rw [Lib.data_getElem? s j h, ← get_bt s j h]
  simp
theorem piece_eq (s : ByteArray) (k : Nat) (l : List Int) (hk : k ≤ s.size) (hlen : l.length = k) (hl : ∀ j, j < k → l[j]? = some (bt s j)) : (strOfNums l).toList = (s.extract 0 k).toList := by
  rw [Lib.extract_toList, Lib.toList_data, strOfNums_data, List.drop_zero, Nat.sub_zero]
  apply List.ext_getElem?
  intro j
  by_cases h : j < k
  · rw [List.getElem?_map, hl j h, List.getElem?_take_of_lt h, byte_num s j (by omega)]
    rfl
  · rw [List.getElem?_eq_none (by simp; omega), List.getElem?_eq_none (by rw [List.length_take]; omega)]
theorem u8_back (x : Int) (h0 : 0 ≤ x) (h1 : x ≤ 255) : ((UInt8.ofNat x.toNat).toNat : Int) = x := by
  have : (UInt8.ofNat x.toNat).toNat = x.toNat := by
    simp only [UInt8.toNat_ofNat']
    omega
  omega
theorem piece_get (s : ByteArray) (k : Nat) (l : List Int) (hk : k ≤ s.size) (hr : ∀ x ∈ l, 0 ≤ x ∧ x ≤ 255) (h : (strOfNums l).toList = (s.extract 0 k).toList) :
    l.length = k ∧ ∀ j, j < k → l[j]? = some (bt s j) := by
  rw [Lib.extract_toList, Lib.toList_data, strOfNums_data, List.drop_zero, Nat.sub_zero] at h
  have hl : l.length = k := by
    have := congrArg List.length h
    rw [List.length_map, List.length_take, ← Lib.size_eq] at this
    omega
  refine ⟨hl, fun j hj => ?_⟩
  have hj' : j < l.length := by omega
  have e := congrArg (·[j]?) h
  simp only [List.getElem?_map, List.getElem?_take_of_lt hj, byte_num s j (by omega), List.getElem?_eq_getElem hj', Option.map_some, Option.some.injEq] at e
  rw [List.getElem?_eq_getElem hj', Option.some.injEq]
  have r := hr l[j] (List.getElem_mem hj')
  have e2 := congrArg (fun x : UInt8 => (x.toNat : Int)) e
  have b0 := bt_nonneg s j
  have b1 := bt_le s j
  simp only [u8_back l[j] r.1 r.2, u8_back (bt s j) b0 b1] at e2
  exact e2
theorem varL_range (n : Int) (h0 : 0 ≤ n) (k : Nat) (hv : VK n k) : ∀ x ∈ varL n k, 0 ≤ x ∧ x ≤ 255 := by
  intro x hx
  obtain ⟨j, hj, rfl⟩ := List.getElem_of_mem hx
  rw [varL_length] at hj
  have d := vd_nonneg n h0 k
  have := hv.2
  by_cases e : j < k
  · have g := varL_get n k j e
    rw [List.getElem?_eq_getElem (by rw [varL_length]; omega), Option.some.injEq] at g
    rw [g]; omega
  · obtain rfl : j = k := by omega
    have g := varL_last n j
    rw [List.getElem?_eq_getElem (by rw [varL_length]; omega), Option.some.injEq] at g
    rw [g]; omega

/-- The first k bytes of s are not the varint of what they say. -/
def NoVar (s : ByteArray) (k : Nat) : Prop := ∀ K, VK (rvr s k k) K → ((strOfNums (varL (rvr s k k) K)).toList == (s.extract 0 k).toList) = false
/-- They are. -/
def IsVar (s : ByteArray) (k : Nat) : Prop := ∀ K, VK (rvr s k k) K → ((strOfNums (varL (rvr s k k) K)).toList == (s.extract 0 k).toList) = true

theorem noVar_of (s : ByteArray) (k : Nat) (hk : k ≤ s.size) (h : ∀ K, VK (rvr s k k) K → K + 1 = k → (∀ j, j < k → (varL (rvr s k k) K)[j]? = some (bt s j)) → False) : NoVar s k := by
  intro K hK
  rw [beq_eq_false_iff_ne]
  intro e
  obtain ⟨h1, h2⟩ := piece_get s k _ hk (varL_range _ (rvr_nonneg s k k) K hK) e
  rw [varL_length] at h1
  exact h K hK h1 h2
theorem noVar_high (s : ByteArray) (k : Nat) (h1 : 1 ≤ k) (hk : k ≤ s.size) (hb : 128 ≤ bt s (k - 1)) : NoVar s k := by
  refine noVar_of s k hk fun K hK e g => ?_
  have e' : k - 1 = K := by omega
  have a := g (k - 1) (by omega)
  rw [e', varL_last, Option.some.injEq] at a
  have := hK.2
  rw [e'] at hb
  omega
theorem noVar_low (s : ByteArray) (k t : Nat) (hk : k ≤ s.size) (ht : t + 1 < k) (hb : bt s t < 128) : NoVar s k := by
  refine noVar_of s k hk fun K hK e g => ?_
  have a := g t (by omega)
  rw [varL_get _ K t (by omega), Option.some.injEq] at a
  omega
theorem noVar_zero (s : ByteArray) (k : Nat) (h2 : 2 ≤ k) (hk : k ≤ s.size) (hb : bt s (k - 1) = 0) : NoVar s k := by
  refine noVar_of s k hk fun K hK e g => ?_
  have e' : k - 1 = K := by omega
  have a := g (k - 1) (by omega)
  rw [e', varL_last, Option.some.injEq] at a
  rw [e'] at hb
  obtain ⟨J, rfl⟩ : ∃ J, K = J + 1 := ⟨K - 1, by omega⟩
  have c := hK.1 J (by omega)
  simp only [vd] at a
  omega
theorem isVar_vk (s : ByteArray) (t : Nat) (hb : bt s t < 128) (hz : t = 0 ∨ bt s t ≠ 0) : VK (rvr s (t + 1) (t + 1)) t := by
  have last : vd (rvr s (t + 1) (t + 1)) t = bt s t := by
    rw [vd_rvr s (t + 1) t (by omega), show t + 1 - t = 0 + 1 by omega]
    have b0 := bt_nonneg s t
    simp only [rvr, Nat.zero_add, Nat.add_sub_cancel]
    omega
  refine ⟨fun i hi => ?_, by rw [last]; exact hb⟩
  have step : ∀ d i, i + d + 1 = t → 128 ≤ vd (rvr s (t + 1) (t + 1)) i := by
    intro d
    induction d with
    | zero =>
      intro i hi
      have b0 := bt_nonneg s t
      have : vd (rvr s (t + 1) (t + 1)) (i + 1) = bt s t := by rw [show i + 1 = t by omega]; exact last
      simp only [vd] at this
      omega
    | succ d ih =>
      intro i hi
      have := ih (i + 1) (by omega)
      simp only [vd] at this
      omega
  exact step (t - i - 1) i (by omega)
theorem isVar_of (s : ByteArray) (t : Nat) (ht : t < s.size) (hh : ∀ i, i < t → 128 ≤ bt s i) (hb : bt s t < 128) (hz : t = 0 ∨ bt s t ≠ 0) : IsVar s (t + 1) := by
  have hv := isVar_vk s t hb hz
  intro K hK
  obtain rfl := vk_unique _ _ _ hK hv
  rw [beq_iff_eq]
  refine piece_eq s (K + 1) _ (by omega) (varL_length _ _) fun j hj => ?_
  by_cases e : j < K
  · rw [varL_get _ K j e, vd_group s (K + 1) j (by omega)]
    have := hh j e
    have := bt_le s j
    congr 1
    omega
  · obtain rfl : j = K := by omega
    rw [varL_last, vd_rvr s (j + 1) j (by omega), show j + 1 - j = 0 + 1 by omega]
    have b0 := bt_nonneg s j
    simp only [rvr, Nat.zero_add, Nat.add_sub_cancel]
    congr 1
    omega
theorem pow7_le (i : Nat) (h : i ≤ 6) : (2 : Int) ^ (7 * i) ≤ 4398046511104 := by
  have hk : i = 0 ∨ i = 1 ∨ i = 2 ∨ i = 3 ∨ i = 4 ∨ i = 5 ∨ i = 6 := by omega
  rcases hk with rfl | rfl | rfl | rfl | rfl | rfl | rfl <;> decide
/-- One group more is ORed in. -/
theorem or_group (s : ByteArray) (i : Nat) (h : i ≤ 6) : bits .or .i64 (acc s i) (bt s i % 128 * 2 ^ (7 * i)) = acc s (i + 1) := by
  have p := pow7_pos i
  have q := pow7_le i h
  have a0 := acc_nonneg s i
  have a1 := acc_lt s i
  have g0 : 0 ≤ bt s i % 128 := by omega
  have g1 : bt s i % 128 ≤ 127 := by omega
  have m0 : 0 ≤ bt s i % 128 * 2 ^ (7 * i) := Int.mul_nonneg g0 (by omega)
  have m1 : bt s i % 128 * 2 ^ (7 * i) ≤ 127 * 2 ^ (7 * i) := Int.mul_le_mul_of_nonneg_right g1 (by omega)
  obtain ⟨A, hA⟩ := Int.eq_ofNat_of_zero_le a0
  obtain ⟨G, hG⟩ := Int.eq_ofNat_of_zero_le g0
  have hM : bt s i % 128 * 2 ^ (7 * i) = ((G * 2 ^ (7 * i) : Nat) : Int) := by rw [hG]; simp
  have hp : ((2 ^ (7 * i) : Nat) : Int) = 2 ^ (7 * i) := by simp
  simp only [acc]
  rw [hM] at m0 m1 ⊢
  rw [hA] at a1 ⊢
  rw [i64_or_nat A _ (by omega) (by omega), Nat.or_comm, nat_join (7 * i) _ A (by simp) (by omega)]
  omega
theorem shl_group (s : ByteArray) (i : Nat) (h : i ≤ 6) : 0 ≤ bt s i % 128 * 2 ^ (7 * i) ∧ bt s i % 128 * 2 ^ (7 * i) ≤ 558551906910208 := by
  have p := pow7_pos i
  have q := pow7_le i h
  have g0 : 0 ≤ bt s i % 128 := by omega
  have g1 : bt s i % 128 ≤ 127 := by omega
  have m0 : 0 ≤ bt s i % 128 * 2 ^ (7 * i) := Int.mul_nonneg g0 (by omega)
  have m1 : bt s i % 128 * 2 ^ (7 * i) ≤ 127 * 2 ^ (7 * i) := Int.mul_le_mul_of_nonneg_right g1 (by omega)
  omega
/-- Of a string: its first seven bytes have a last group, or none has. -/
theorem first_low (s : ByteArray) : (∃ t, t < s.size ∧ t ≤ 6 ∧ (∀ i, i < t → 128 ≤ bt s i) ∧ bt s t < 128) ∨ (∀ i, i < 7 → i < s.size → 128 ≤ bt s i) := by
  have go : ∀ m k : Nat, k + m = 7 → (∀ i, i < k → i < s.size → 128 ≤ bt s i) →
      (∃ t, t < s.size ∧ t ≤ 6 ∧ (∀ i, i < t → 128 ≤ bt s i) ∧ bt s t < 128) ∨ (∀ i, i < 7 → i < s.size → 128 ≤ bt s i) := by
    intro m
    induction m with
    | zero => intro k hk hi; exact .inr (fun i h7 hs => hi i (by omega) hs)
    | succ m ih =>
      intro k hk hi
      by_cases hs : k < s.size
      · by_cases hb : bt s k < 128
        · exact .inl ⟨k, hs, by omega, fun i hik => hi i hik (by omega), hb⟩
        · refine ih (k + 1) (by omega) fun i hik his => ?_
          by_cases e : i = k
          · subst e; omega
          · exact hi i (by omega) his
      · exact .inr (fun i h7 his => hi i (by omega) his)
  exact go 7 0 rfl (fun i hi => by omega)
end Go.Proofs.YtemhhjkmolndbaaDoor
/- Varints and texts behind their length, as strings. Nothing of the program is used here. -/
namespace Go.Proofs.YtemhhjkmolndbaaDoor
open Go.RowKit Go.PlainAid
set_option linter.unusedVariables false

/-- How many groups stand before the last one of n. -/
def vkF : Nat → Int → Nat
  | 0, _ => 0
  | f + 1, n => if n < 128 then 0 else vkF f (n / 128) + 1
theorem vd_shift (n : Int) (j : Nat) : vd n (j + 1) = vd (n / 128) j := by
  induction j with
  | zero => rfl
  | succ j ih => rw [vd, ih, vd]
theorem vkF_le (f : Nat) (n : Int) : vkF f n ≤ f := by
  induction f generalizing n with
  | zero => exact Nat.le_refl _
  | succ f ih =>
    unfold vkF
    split
    · omega
    · have := ih (n / 128); omega
theorem vkF_ok (f : Nat) (n : Int) (h : n < 128 ^ (f + 1)) : VK n (vkF f n) := by
  induction f generalizing n with
  | zero => exact ⟨fun i hi => by simp [vkF] at hi, by simpa [vkF, vd] using h⟩
  | succ f ih =>
    unfold vkF
    split
    · rename_i hn
      exact ⟨fun i hi => by omega, by simpa [vd] using hn⟩
    · rename_i hn
      have h2 : n / 128 < 128 ^ (f + 1) := by
        have e : (128 : Int) ^ (f + 1 + 1) = 128 ^ (f + 1) * 128 := by rw [Int.pow_succ]
        rw [e] at h
        exact Int.ediv_lt_of_lt_mul (by decide) h
      obtain ⟨g1, g2⟩ := ih (n / 128) h2
      refine ⟨fun i hi => ?_, by rw [vd_shift]; exact g2⟩
      cases i with
      | zero => simp only [vd]; omega
      | succ i => rw [vd_shift]; exact g1 i (by omega)
/-- The varint of n. -/
@[irreducible] def varS (n : Int) : ByteArray := strOfNums (varL n (vkF 6 n))
theorem varS_vk (n : Int) (h : n ≤ 562949953421311) : VK n (vkF 6 n) := by
  have e : (128 : Int) ^ (6 + 1) = 562949953421312 := by decide
  exact vkF_ok 6 n (by rw [e]; omega)
theorem varS_size (n : Int) : (varS n).size ≤ 7 := by
  unfold varS
  rw [strOfNums_size, varL_length]
  have := vkF_le 6 n
  omega
theorem varS_pos (n : Int) : 1 ≤ (varS n).size := by
  unfold varS
  rw [strOfNums_size, varL_length]
  omega
/-- A text behind its length. -/
@[irreducible] def showT (s : ByteArray) : ByteArray := varS s.size ++ s
theorem showT_size (s : ByteArray) : (showT s).size ≤ 7 + s.size := by
  unfold showT
  rw [ByteArray.size_append]
  have := varS_size s.size
  omega
/-- The first k strings, one behind the other. -/
@[irreducible] def catN (l : List ByteArray) (k : Nat) : ByteArray := ⟨((List.range k).map fun j => (el l j).data.toList).flatten.toArray⟩
theorem catN_zero (l : List ByteArray) : catN l 0 = ⟨#[]⟩ := by unfold catN; rfl
theorem data_append (a b : ByteArray) : (a ++ b).data.toList = a.data.toList ++ b.data.toList := by
  rw [ByteArray.data_append]; simp
theorem bytes_ext {a b : ByteArray} (h : a.data.toList = b.data.toList) : a = b := by
  apply ByteArray.ext
  exact Array.ext' h
theorem catN_succ (l : List ByteArray) (k : Nat) : catN l (k + 1) = catN l k ++ el l k := by
  apply bytes_ext
  rw [data_append]
  unfold catN
  rw [List.range_succ]
  simp
theorem catN_size (l : List ByteArray) (k m : Nat) (h : ∀ j, j < k → (el l j).size ≤ m) : (catN l k).size ≤ k * m := by
  induction k with
  | zero => rw [catN_zero]; simp; rfl
  | succ k ih =>
    rw [catN_succ, ByteArray.size_append, Nat.succ_mul]
    have := ih (fun j hj => h j (by omega))
    have := h k (by omega)
    omega
theorem append_assoc (a b c : ByteArray) : a ++ b ++ c = a ++ (b ++ c) := by
  apply bytes_ext
  simp only [data_append, List.append_assoc]
theorem append_nil (a : ByteArray) : a ++ ⟨#[]⟩ = a := by
  apply bytes_ext
  simp
end Go.Proofs.YtemhhjkmolndbaaDoor
/- How fields are read off the front of a string, in plain words. Nothing of the program is used here. -/
namespace Go.Proofs.YtemhhjkmolndbaaDoor
open Go.RowKit Go.PlainAid
set_option linter.unusedVariables false

/-! ### pieces of a string -/
theorem ext_data (s : ByteArray) (a b : Nat) : (s.extract a b).data.toList = (s.data.toList.drop a).take (b - a) := by
  rw [ByteArray.data_extract, Array.toList_extract, List.extract_eq_take_drop]
theorem size_data (s : ByteArray) : s.size = s.data.toList.length := (Array.length_toList (xs := s.data)).symm
theorem ext_split (s : ByteArray) (k : Nat) : s = s.extract 0 k ++ s.extract k s.size := by
  apply bytes_ext
  rw [data_append, ext_data, ext_data, size_data, List.drop_zero, Nat.sub_zero, List.take_of_length_le (l := s.data.toList.drop k) (by simp)]
  exact (List.take_append_drop k _).symm
theorem ext_all (s : ByteArray) : s.extract 0 s.size = s := by
  apply bytes_ext
  rw [ext_data, List.drop_zero, Nat.sub_zero, size_data, List.take_length]
theorem ext_join (s : ByteArray) (a b c : Nat) (h1 : a ≤ b) (h2 : b ≤ c) : s.extract a b ++ s.extract b c = s.extract a c := by
  apply bytes_ext
  rw [data_append, ext_data, ext_data, ext_data, show c - a = (b - a) + (c - b) by omega, List.take_add, List.drop_drop, show a + (b - a) = b by omega]
theorem ext_size (s : ByteArray) (a b : Nat) (hb : b ≤ s.size) : (s.extract a b).size = b - a := by
  rw [size_data, ext_data, List.length_take, List.length_drop, ← size_data]
  omega
theorem ext_ext (s : ByteArray) (a b k m : Nat) (hb : b ≤ s.size) (hm : a + m ≤ b) : (s.extract a b).extract k m = s.extract (a + k) (a + m) := by
  apply bytes_ext
  rw [ext_data, ext_data, ext_data]
  rw [List.drop_take, List.take_take, List.drop_drop]
  congr 1
  omega

/-! ### a varint at the beginning of a string -/
def lowT (s : ByteArray) : Option Nat := (List.range 7).find? fun t => decide (t < s.size) && decide (bt s t < 128)
@[irreducible] def rvK (s : ByteArray) : Nat := match lowT s with
  | some t => if t = 0 ∨ bt s t ≠ 0 then t + 1 else 0
  | none => 0
@[irreducible] def rvN (s : ByteArray) : Int := if rvK s = 0 then 0 else acc s (rvK s)
theorem rv_hit (s : ByteArray) (t : Nat) (ht : t < s.size) (h6 : t ≤ 6) (hh : ∀ i, i < t → 128 ≤ bt s i) (hb : bt s t < 128) : lowT s = some t := by
  unfold lowT
  rw [List.find?_range_eq_some]
  refine ⟨by simp [ht, hb], by simp; omega, fun j hj => ?_⟩
  have := hh j hj
  simp
  exact Or.inr this
theorem rv_none (s : ByteArray) (hh : ∀ i, i < 7 → i < s.size → 128 ≤ bt s i) : lowT s = none := by
  unfold lowT
  rw [List.find?_eq_none]
  intro i hi
  have hi' : i < 7 := by simpa using hi
  simp
  intro h
  have := hh i hi' h
  omega
/-- What is known where a varint stands. -/
theorem rvK_pos (s : ByteArray) (h : rvK s ≠ 0) : ∃ t, rvK s = t + 1 ∧ t < s.size ∧ t ≤ 6 ∧ (∀ i, i < t → 128 ≤ bt s i) ∧ bt s t < 128 ∧ (t = 0 ∨ bt s t ≠ 0) := by
  rcases first_low s with ⟨t, ht, h6, hh, hb⟩ | hh
  · have e := rv_hit s t ht h6 hh hb
    by_cases hz : t = 0 ∨ bt s t ≠ 0
    · exact ⟨t, by unfold rvK; rw [e]; simp only; rw [if_pos hz], ht, h6, hh, hb, hz⟩
    · exfalso; apply h; unfold rvK; rw [e]; simp only; rw [if_neg hz]
  · exfalso; apply h; unfold rvK; rw [rv_none s hh]
theorem rvK_le (s : ByteArray) : rvK s ≤ s.size := by
  by_cases h : rvK s = 0
  · omega
  · obtain ⟨t, e, ht, _⟩ := rvK_pos s h; omega
theorem rvK_le7 (s : ByteArray) : rvK s ≤ 7 := by
  by_cases h : rvK s = 0
  · omega
  · obtain ⟨t, e, ht, h6, _⟩ := rvK_pos s h; omega
theorem rvN_nonneg (s : ByteArray) : 0 ≤ rvN s := by
  unfold rvN
  split
  · omega
  · exact acc_nonneg s _
theorem rvN_le (s : ByteArray) : rvN s ≤ 562949953421311 := by
  unfold rvN
  split
  · omega
  · rw [acc_eq]; exact rvr_max s _ _ (rvK_le7 s)
theorem rv_read (s : ByteArray) (h : rvK s ≠ 0) : s.extract 0 (rvK s) = varS (rvN s) := by
  obtain ⟨t, e, ht, h6, hh, hb, hz⟩ := rvK_pos s h
  have hi := isVar_of s t ht hh hb hz
  have hn : rvN s = rvr s (t + 1) (t + 1) := by unfold rvN; rw [if_neg h, e, acc_eq]
  have hv := varS_vk (rvr s (t + 1) (t + 1)) (rvr_max s _ _ (by omega))
  have hq := hi _ hv
  rw [beq_iff_eq] at hq
  rw [hn, e]
  unfold varS
  exact (str_eq hq).symm

/-! ### fields off the front of a string; nothing is left where one is not there -/
def oN : Option ByteArray → Int × Option ByteArray
  | none => (0, none)
  | some r => if rvK r = 0 then (0, none) else (rvN r, some (r.extract (rvK r) r.size))
def oB (n : Int) : Option ByteArray → ByteArray × Option ByteArray
  | none => (⟨#[]⟩, none)
  | some r => if (r.size : Int) < n then (⟨#[]⟩, none) else (r.extract 0 n.toNat, some (r.extract n.toNat r.size))
def oT (st : Option ByteArray) : ByteArray × Option ByteArray := oB (oN st).1 (oN st).2
theorem oN_none : oN none = (0, none) := rfl
theorem oB_none (n : Int) : oB n none = (⟨#[]⟩, none) := rfl
theorem oN_bad (r : ByteArray) (h : rvK r = 0) : oN (some r) = (0, none) := by unfold oN; simp [h]
theorem oN_ok (r : ByteArray) (h : rvK r ≠ 0) : oN (some r) = (rvN r, some (r.extract (rvK r) r.size)) := by unfold oN; simp [h]
theorem oB_bad (r : ByteArray) (n : Int) (h : (r.size : Int) < n) : oB n (some r) = (⟨#[]⟩, none) := by unfold oB; simp [h]
theorem oB_ok (r : ByteArray) (n : Int) (h : n ≤ r.size) : oB n (some r) = (r.extract 0 n.toNat, some (r.extract n.toNat r.size)) := by
  show (if (r.size : Int) < n then _ else _) = _
  rw [if_neg (by omega)]
theorem oN_nonneg (st : Option ByteArray) : 0 ≤ (oN st).1 := by
  cases st with
  | none => exact Int.le_refl _
  | some r =>
    by_cases h : rvK r = 0
    · rw [oN_bad r h]; exact Int.le_refl _
    · rw [oN_ok r h]; exact rvN_nonneg r
theorem oN_le (st : Option ByteArray) : (oN st).1 ≤ 562949953421311 := by
  cases st with
  | none => rw [oN_none]; decide
  | some r =>
    by_cases h : rvK r = 0
    · rw [oN_bad r h]; decide
    · rw [oN_ok r h]; exact rvN_le r
theorem oN_some {st : Option ByteArray} {q : ByteArray} (h : (oN st).2 = some q) : ∃ r, st = some r ∧ r = varS (oN st).1 ++ q := by
  cases st with
  | none => rw [oN_none] at h; cases h
  | some r =>
    by_cases hk : rvK r = 0
    · rw [oN_bad r hk] at h; cases h
    · rw [oN_ok r hk] at h ⊢
      refine ⟨r, rfl, ?_⟩
      simp only [Option.some.injEq] at h
      rw [← h, ← rv_read r hk]
      exact ext_split r _
theorem oB_some {st : Option ByteArray} {n : Int} {q : ByteArray} (h0 : 0 ≤ n) (h : (oB n st).2 = some q) : ∃ r, st = some r ∧ r = (oB n st).1 ++ q ∧ ((oB n st).1.size : Int) = n := by
  cases st with
  | none => rw [oB_none] at h; cases h
  | some r =>
    by_cases hk : (r.size : Int) < n
    · rw [oB_bad r n hk] at h; cases h
    · rw [oB_ok r n (by omega)] at h ⊢
      simp only [Option.some.injEq] at h
      refine ⟨r, rfl, by rw [← h]; exact ext_split r _, ?_⟩
      show ((r.extract 0 n.toNat).size : Int) = n
      rw [ext_size r 0 _ (by omega)]
      omega
theorem oT_some {st : Option ByteArray} {q : ByteArray} (h : (oT st).2 = some q) : ∃ r, st = some r ∧ r = showT (oT st).1 ++ q := by
  unfold oT at h ⊢
  obtain ⟨m, hm, e, es⟩ := oB_some (oN_nonneg st) h
  obtain ⟨r, hr, er⟩ := oN_some hm
  refine ⟨r, hr, ?_⟩
  unfold showT
  rw [es, append_assoc, ← e]
  exact er
end Go.Proofs.YtemhhjkmolndbaaDoor
/- A varint at the beginning of a string is read back. Nothing of the program is used here. -/
namespace Go.Proofs.YtemhhjkmolndbaaDoor
open Go.PlainAid
theorem bt_of (s : ByteArray) (i : Nat) (x : UInt8) (h : s.data.toList[i]? = some x) : bt s i = x.toNat := by
  have hi : i < s.size := by
    rw [Lib.size_eq]
    rcases Nat.lt_or_ge i s.data.toList.length with h' | h'
    · exact h'
    · rw [List.getElem?_eq_none h'] at h; cases h
  rw [← get_bt s i hi]
  rw [Lib.data_getElem? s i hi, Option.some.injEq] at h
  rw [h]
/-- Byte i of a string that was made of numbers. -/
theorem bt_nums (l : List Int) (t : ByteArray) (i : Nat) (x : Int) (h : l[i]? = some x) (h0 : 0 ≤ x) (h1 : x ≤ 255) : bt (strOfNums l ++ t) i = x := by
  have hi : i < l.length := by
    rcases Nat.lt_or_ge i l.length with h' | h'
    · exact h'
    · rw [List.getElem?_eq_none h'] at h; cases h
  have e : (strOfNums l ++ t).data.toList[i]? = some (UInt8.ofNat x.toNat) := by
    rw [ByteArray.data_append, Array.toList_append, strOfNums_data, List.getElem?_append_left (by simpa using hi), List.getElem?_map, h]
    rfl
  rw [bt_of _ i _ e, u8_back x h0 h1]
theorem bt_nums' (l : List Int) (i : Nat) (x : Int) (h : l[i]? = some x) (h0 : 0 ≤ x) (h1 : x ≤ 255) : bt (strOfNums l) i = x := by
  have e : (strOfNums l).data.toList[i]? = some (UInt8.ofNat x.toNat) := by
    rw [strOfNums_data, List.getElem?_map, h]
    rfl
  rw [bt_of _ i _ e, u8_back x h0 h1]
theorem size_nums (l : List Int) (t : ByteArray) : (strOfNums l ++ t).size = l.length + t.size := by rw [ByteArray.size_append, strOfNums_size]

/-! ### varints -/
theorem var_high (n : Int) (k i : Nat) (t : ByteArray) (h : i < k) : bt (strOfNums (varL n k) ++ t) i = 128 + vd n i % 128 := bt_nums _ t i _ (varL_get n k i h) (by omega) (by omega)
theorem var_last (n : Int) (k : Nat) (t : ByteArray) (h0 : 0 ≤ n) (hv : VK n k) : bt (strOfNums (varL n k) ++ t) k = vd n k := by
  have := vd_nonneg n h0 k
  have := hv.2
  exact bt_nums _ t k _ (varL_last n k) (by omega) (by omega)
theorem var_nz (n : Int) (k : Nat) (hv : VK n k) : k = 0 ∨ vd n k ≠ 0 := by
  cases k with
  | zero => exact .inl rfl
  | succ k =>
    right
    have := hv.1 k (by omega)
    simp only [vd]
    omega
theorem var_rvr (n : Int) (k : Nat) (t : ByteArray) (h0 : 0 ≤ n) (hv : VK n k) (m : Nat) (hm : m ≤ k + 1) : rvr (strOfNums (varL n k) ++ t) (k + 1) m = vd n (k + 1 - m) := by
  induction m with
  | zero =>
    simp only [rvr, Nat.sub_zero, vd]
    have := vd_nonneg n h0 k
    have := hv.2
    omega
  | succ m ih =>
    simp only [rvr]
    rw [ih (by omega)]
    obtain ⟨j, hj⟩ : ∃ j, k + 1 - (m + 1) = j := ⟨_, rfl⟩
    have hj' : k + 1 - m = j + 1 := by omega
    rw [hj, hj']
    simp only [vd]
    have hg : bt (strOfNums (varL n k) ++ t) j % 128 = vd n j % 128 := by
      by_cases e : j < k
      · rw [var_high n k j t e]; omega
      · obtain rfl : j = k := by omega
        rw [var_last n j t h0 hv]
    rw [hg]
    have := vd_nonneg n h0 j
    omega
theorem var_acc (n : Int) (k : Nat) (t : ByteArray) (h0 : 0 ≤ n) (hv : VK n k) : acc (strOfNums (varL n k) ++ t) (k + 1) = n := by
  rw [acc_eq, var_rvr n k t h0 hv (k + 1) (Nat.le_refl _), Nat.sub_self]; rfl
end Go.Proofs.YtemhhjkmolndbaaDoor
/- What is encoded is read back. Nothing of the program is used here. -/
namespace Go.Proofs.YtemhhjkmolndbaaDoor
open Go.RowKit Go.PlainAid
set_option linter.unusedVariables false

theorem oN_var (n : Int) (r : ByteArray) (h0 : 0 ≤ n) (hm : n ≤ 562949953421311) : oN (some (varS n ++ r)) = (n, some r) := by
  have hv := varS_vk n hm
  have hk := vkF_le 6 n
  have es : (varS n ++ r) = strOfNums (varL n (vkF 6 n)) ++ r := by unfold varS; rfl
  generalize vkF 6 n = k at *
  have hz : (strOfNums (varL n k) ++ r).size = k + 1 + r.size := by rw [ByteArray.size_append, strOfNums_size, varL_length]
  have hl := var_last n k r h0 hv
  have hhit := rv_hit (strOfNums (varL n k) ++ r) k (by omega) hk (fun i hi => by rw [var_high n k i r hi]; omega) (by rw [hl]; exact hv.2)
  have hK : rvK (strOfNums (varL n k) ++ r) = k + 1 := by
    unfold rvK
    rw [hhit]
    simp only
    rw [if_pos]
    rcases var_nz n k hv with h | h
    · exact .inl h
    · exact .inr (by rw [hl]; exact h)
  have hN : rvN (strOfNums (varL n k) ++ r) = n := by
    unfold rvN
    rw [if_neg (by omega), hK]
    exact var_acc n k r h0 hv
  rw [es, oN_ok _ (by omega), hK, hN, hz]
  congr 2
  have hx : (strOfNums (varL n k)).size = k + 1 := by rw [strOfNums_size, varL_length]
  apply bytes_ext
  rw [ext_data, data_append, size_data] at *
  rw [List.drop_append, List.drop_of_length_le (by omega), List.nil_append, hx, Nat.sub_self, List.drop_zero, List.take_of_length_le]
  rw [← size_data]
  omega
theorem oB_front (t r : ByteArray) : oB (t.size : Int) (some (t ++ r)) = (t, some r) := by
  have hz : (t ++ r).size = t.size + r.size := ByteArray.size_append
  rw [oB_ok _ _ (by omega), Int.toNat_natCast]
  have h1 : (t ++ r).extract 0 t.size = t := by
    apply bytes_ext
    rw [ext_data, data_append, List.drop_zero, Nat.sub_zero, size_data, List.take_left]
  have h2 : (t ++ r).extract t.size (t ++ r).size = r := by
    apply bytes_ext
    rw [ext_data, data_append, hz, size_data t, List.drop_left, List.take_of_length_le]
    rw [← size_data r]
    omega
  rw [h1, h2]
theorem oT_text (t r : ByteArray) (h : t.size ≤ 1048576) : oT (some (showT t ++ r)) = (t, some r) := by
  unfold oT
  have e : showT t ++ r = varS t.size ++ (t ++ r) := by unfold showT; rw [append_assoc]
  rw [e, oN_var _ _ (by omega) (by omega)]
  exact oB_front t r
end Go.Proofs.YtemhhjkmolndbaaDoor
/- Plain facts on the CRC's numbers: nothing of the program is used here. -/
namespace Go.Proofs.YtemhhjkmolndbaaDoor
open Go.PlainAid

/-- One bit step of the register. -/
def stepN (c : Nat) : Nat := if c % 2 = 1 then c / 2 ^^^ 2197175160 else c / 2
/-- So many bit steps. -/
def stepsN (c : Nat) : Nat → Nat
  | 0 => c
  | k + 1 => stepN (stepsN c k)
/-- The register behind k bytes of s, begun at c. -/
def crcF (c : Nat) (s : ByteArray) : Nat → Nat
  | 0 => c
  | k + 1 => stepsN (crcF c s k ^^^ (bt s k).toNat) 8
/-- The table of the half bytes. -/
def crcTab : List Int := [0, 274646895, 549293790, 820201905, 1098587580, 1361435347, 1640403810, 1905808397, 2197175160, 2460548119, 2722870694, 2987750089, 3280807620, 3553878443, 3811616794, 4084100981]

theorem stepN_lt (c : Nat) (h : c < 4294967296) : stepN c < 4294967296 := by
  unfold stepN
  split
  · exact Nat.xor_lt_two_pow (n := 32) (by omega) (by omega)
  · omega
theorem stepsN_lt (c k : Nat) (h : c < 4294967296) : stepsN c k < 4294967296 := by
  induction k with
  | zero => exact h
  | succ k ih => exact stepN_lt _ ih
theorem xor_bt_lt (c : Nat) (h : c < 4294967296) (s : ByteArray) (k : Nat) : c ^^^ (bt s k).toNat < 4294967296 := by
  have := bt_le s k
  have := bt_nonneg s k
  exact Nat.xor_lt_two_pow (n := 32) (by omega) (by omega)
theorem crcF_lt (c : Nat) (h : c < 4294967296) (s : ByteArray) (k : Nat) : crcF c s k < 4294967296 := by
  induction k with
  | zero => exact h
  | succ k ih => exact stepsN_lt _ _ (xor_bt_lt _ ih s k)

theorem stepN_lin (x y : Nat) : stepN (x ^^^ 2 * y) = stepN x ^^^ y := by
  have h1 : (x ^^^ 2 * y) % 2 = x % 2 := by
    have h := Nat.xor_mod_two_eq_one (a := x) (b := 2 * y)
    have e : (2 * y) % 2 = 0 := by omega
    rw [e] at h
    by_cases hx : x % 2 = 1
    · have := h.2 (by simp [hx]); omega
    · have : ¬ (x ^^^ 2 * y) % 2 = 1 := fun h1 => by have := h.1 h1; simp [hx] at this
      omega
  have h2 : (x ^^^ 2 * y) / 2 = x / 2 ^^^ y := by
    rw [Nat.xor_div_two, Nat.mul_div_cancel_left y (by decide)]
  unfold stepN
  rw [h1, h2]
  split
  · rw [Nat.xor_assoc, Nat.xor_comm y, ← Nat.xor_assoc]
  · rfl
theorem steps4_lin (x y : Nat) : stepsN (x ^^^ 16 * y) 4 = stepsN x 4 ^^^ y := by
  have e0 : 16 * y = 2 * (8 * y) := by omega
  have e1 : 8 * y = 2 * (4 * y) := by omega
  have e2 : 4 * y = 2 * (2 * y) := by omega
  simp only [stepsN]
  rw [e0, stepN_lin, e1, stepN_lin, e2, stepN_lin, stepN_lin]
theorem split16 (c : Nat) : c = c % 16 ^^^ 16 * (c / 16) := by
  have h : 16 * (c / 16) ^^^ c % 16 = 16 * (c / 16) + c % 16 := by
    apply Nat.eq_of_testBit_eq
    intro i
    rw [Nat.testBit_xor, show (16 : Nat) = 2 ^ 4 from rfl, Nat.testBit_two_pow_mul_add _ (Nat.mod_lt _ (by decide)), Nat.testBit_two_pow_mul, Nat.testBit_mod_two_pow]
    by_cases hi : i < 4
    · simp [hi, show ¬ 4 ≤ i by omega]
    · simp [hi, show 4 ≤ i by omega]
  rw [Nat.xor_comm, h]
  omega
theorem tab_steps : ∀ l : Fin 16, ((stepsN l.val 4 : Nat) : Int) = crcTab.getD l.val 0 := by decide
theorem tab_at (l : Nat) (h : l < 16) : crcTab.getD l 0 = ((stepsN l 4 : Nat) : Int) := (tab_steps ⟨l, h⟩).symm
/-- Four bit steps by the table. -/
theorem nib (c : Nat) : stepsN (c % 16) 4 ^^^ c / 16 = stepsN c 4 := by
  conv => rhs; rw [split16 c, steps4_lin]
theorem stepsN_add (c a b : Nat) : stepsN (stepsN c a) b = stepsN c (a + b) := by
  induction b with
  | zero => rfl
  | succ b ih => rw [stepsN, ih]; rfl

theorem bt_extract (s : ByteArray) (a b j : Nat) (h : a + j < b) (hb : b ≤ s.size) : bt (s.extract a b) j = bt s (a + j) := by
  rw [← get_bt s (a + j) (by omega), ← get_bt (s.extract a b) j (by rw [ByteArray.size_extract]; omega)]
  rw [ByteArray.getElem_extract]
theorem crcF_extract (c : Nat) (s : ByteArray) (a b k : Nat) (h : a + k ≤ b) (hb : b ≤ s.size) : crcF (crcF c s a) (s.extract a b) k = crcF c s (a + k) := by
  induction k with
  | zero => rfl
  | succ k ih =>
    rw [crcF, ih (by omega), bt_extract s a b k (by omega) hb]
    rfl

theorem i64_xor_nat (a b : Nat) (ha : a < 9223372036854775808) (hb : b < 9223372036854775808) : bits .xor .i64 (a : Int) (b : Int) = ((a ^^^ b : Nat) : Int) := by
  have hx : a ^^^ b < 2 ^ 63 := Nat.xor_lt_two_pow (by omega) (by omega)
  show IntKind.i64.wrap ((BitVec.ofInt 64 (a : Int) ^^^ BitVec.ofInt 64 (b : Int)).toNat : Int) = _
  rw [BitVec.toNat_xor, ofInt_u64 a (by omega), ofInt_u64 b (by omega)]
  exact IntWalk.i64_in _ (by omega)
theorem i64_xor (a b : Int) (h1 : 0 ≤ a) (h2 : a < 9223372036854775808) (h3 : 0 ≤ b) (h4 : b < 9223372036854775808) : bits .xor .i64 a b = ((a.toNat ^^^ b.toNat : Nat) : Int) := by
  obtain ⟨A, rfl⟩ := Int.eq_ofNat_of_zero_le h1
  obtain ⟨B, rfl⟩ := Int.eq_ofNat_of_zero_le h3
  simpa using i64_xor_nat A B (by omega) (by omega)
theorem u32_and15 (a : Nat) (ha : a < 4294967296) : bits .and .u32 (a : Int) 15 = ((a % 16 : Nat) : Int) := by
  have h := u32_and_nat a 15 ha (by decide)
  rw [show a &&& 15 = a % 16 from Nat.and_two_pow_sub_one_eq_mod a 4] at h
  exact h
end Go.Proofs.YtemhhjkmolndbaaDoor
/- Frames, in plain words. Nothing of the program is used here. -/
namespace Go.Proofs.YtemhhjkmolndbaaDoor
open Go.RowKit Go.PlainAid
set_option linter.unusedVariables false

/-- The checksum of s. -/
@[irreducible] def crcV (s : ByteArray) : Int := 4294967295 - (crcF 4294967295 s s.size : Nat)
theorem crcV_eq (s : ByteArray) : 4294967295 - ((crcF 4294967295 s s.size : Nat) : Int) = crcV s := by unfold crcV; rfl
theorem crcV_nonneg (s : ByteArray) : 0 ≤ crcV s := by
  have := crcF_lt 4294967295 (by decide) s s.size
  unfold crcV
  omega
theorem crcV_le (s : ByteArray) : crcV s ≤ 4294967295 := by
  unfold crcV
  omega
theorem dv4 (n : Int) (h0 : 0 ≤ n) (h1 : n ≤ 4294967295) : dv n 4 = 0 := by simp only [dv]; omega
/-- The four bytes of a number. -/
@[irreducible] def fix4 (n : Int) : ByteArray := strOfNums (fixL n 4)
theorem fix4_eq (n : Int) : strOfNums (fixL n 4) = fix4 n := by unfold fix4; rfl
theorem fix4_size (n : Int) : (fix4 n).size = 4 := by
  unfold fix4
  rw [strOfNums_size, fixL_length]
theorem fix4_back (n : Int) (h0 : 0 ≤ n) (h1 : n ≤ 4294967295) (t : ByteArray) : rf (fix4 n ++ t) 4 = n := by
  have b : ∀ j, j < 4 → bt (fix4 n ++ t) j = dv n (3 - j) % 256 := by
    intro j hj
    unfold fix4
    refine bt_nums _ t j _ ?_ (by omega) (by omega)
    rw [fixL_get n 4 j hj]
  simp only [rf]
  rw [b 0 (by omega), b 1 (by omega), b 2 (by omega), b 3 (by omega)]
  simp only [Nat.reduceSub, dv]
  omega
theorem rf_append (a t : ByteArray) (k : Nat) (h : k ≤ a.size) : rf (a ++ t) k = rf a k := by
  induction k with
  | zero => rfl
  | succ k ih =>
    have e : bt (a ++ t) k = bt a k := by
      have h1 := byte_num a k (by omega)
      have h2 := byte_num (a ++ t) k (by rw [ByteArray.size_append]; omega)
      rw [data_append, List.getElem?_append_left (by rw [← size_data]; omega), h1] at h2
      have r1 := bt_nonneg a k
      have r2 := bt_le a k
      have r3 := bt_nonneg (a ++ t) k
      have r4 := bt_le (a ++ t) k
      have h3 := Option.some.inj h2
      have u1 := u8_back (bt a k) r1 r2
      have u2 := u8_back (bt (a ++ t) k) r3 r4
      rw [← u1, ← u2, h3]
    simp only [rf]
    rw [ih (by omega), e]
theorem fix4_read (r : ByteArray) (h : 4 ≤ r.size) : fix4 (rf r 4) = r.extract 0 4 := by
  apply str_eq
  unfold fix4
  refine piece_eq r 4 _ h (fixL_length _ _) fun j hj => ?_
  rw [fixL_get _ 4 j hj]
  have r0 := bt_nonneg r 0; have r1 := bt_nonneg r 1; have r2 := bt_nonneg r 2; have r3 := bt_nonneg r 3
  have s0 := bt_le r 0; have s1 := bt_le r 1; have s2 := bt_le r 2; have s3 := bt_le r 3
  congr 1
  match j, hj with
  | 0, _ => show dv (rf r 4) 3 % 256 = _; simp only [dv, rf]; omega
  | 1, _ => show dv (rf r 4) 2 % 256 = _; simp only [dv, rf]; omega
  | 2, _ => show dv (rf r 4) 1 % 256 = _; simp only [dv, rf]; omega
  | 3, _ => show dv (rf r 4) 0 % 256 = _; simp only [dv, rf]; omega
theorem rf4_le (r : ByteArray) : rf r 4 ≤ 4294967295 := by
  have s0 := bt_le r 0; have s1 := bt_le r 1; have s2 := bt_le r 2; have s3 := bt_le r 3
  simp only [rf]; omega
/-- The frame of s. -/
@[irreducible] def frameS (s : ByteArray) : ByteArray := if 200 < s.size then ⟨#[]⟩ else fix4 (crcV (showT s)) ++ showT s
theorem frameS_big (s : ByteArray) (h : 200 < s.size) : frameS s = ⟨#[]⟩ := by unfold frameS; rw [if_pos h]
theorem frameS_ok (s : ByteArray) (h : s.size ≤ 200) : frameS s = fix4 (crcV (showT s)) ++ showT s := by unfold frameS; rw [if_neg (by omega)]
theorem showT_pos (s : ByteArray) : 1 ≤ (showT s).size := by
  unfold showT
  rw [ByteArray.size_append]
  have := varS_pos s.size
  omega
theorem frameS_size (s : ByteArray) (h : s.size ≤ 200) : (frameS s).size = 4 + (showT s).size := by
  rw [frameS_ok s h, ByteArray.size_append, fix4_size]
theorem frameS_le (s : ByteArray) : (frameS s).size ≤ 211 := by
  by_cases h : s.size ≤ 200
  · rw [frameS_size s h]
    have := showT_size s
    omega
  · rw [frameS_big s (by omega)]
    decide

/-! ### a frame at the beginning of a string -/
def frT (r : ByteArray) : ByteArray × Option ByteArray := oT (some (r.extract 4 r.size))
@[irreducible] def frOk (r : ByteArray) : Bool := decide (4 ≤ r.size) && (frT r).2.isSome && decide ((frT r).1.size ≤ 200) && decide (crcV (showT (frT r).1) = rf r 4)
/-- What it holds. -/
@[irreducible] def frC (r : ByteArray) : ByteArray := (frT r).1
/-- What stands behind it. -/
@[irreducible] def frR (r : ByteArray) : ByteArray := (frT r).2.getD ⟨#[]⟩
theorem frOk_iff (r : ByteArray) : frOk r = true ↔ 4 ≤ r.size ∧ (∃ q, (frT r).2 = some q) ∧ (frT r).1.size ≤ 200 ∧ crcV (showT (frT r).1) = rf r 4 := by
  unfold frOk
  simp only [Bool.and_eq_true, decide_eq_true_eq, Option.isSome_iff_exists]
  constructor
  · rintro ⟨⟨⟨a, b⟩, c⟩, d⟩; exact ⟨a, b, c, d⟩
  · rintro ⟨a, b, c, d⟩; exact ⟨⟨⟨a, b⟩, c⟩, d⟩
theorem fr_form (r q : ByteArray) (h4 : 4 ≤ r.size) (h : (frT r).2 = some q) : r = r.extract 0 4 ++ (showT (frT r).1 ++ q) := by
  obtain ⟨m, hm, e⟩ := oT_some h
  have hm' : r.extract 4 r.size = m := Option.some.inj hm
  have h1 := ext_split r 4
  have e' : m = showT (frT r).1 ++ q := e
  rw [← e', ← hm']
  exact h1
theorem frOk_split (r : ByteArray) (h : frOk r = true) : r = frameS (frC r) ++ frR r ∧ (frC r).size ≤ 200 := by
  obtain ⟨h4, ⟨q, hq⟩, hs, hc⟩ := (frOk_iff r).1 h
  have e1 : frC r = (frT r).1 := by unfold frC; rfl
  have e2 : frR r = q := by unfold frR; rw [hq]; rfl
  rw [e1, e2]
  refine ⟨?_, hs⟩
  rw [frameS_ok _ hs, hc, fix4_read r h4, append_assoc]
  exact fr_form r q h4 hq
theorem fr_back (t q : ByteArray) (h : t.size ≤ 200) : frOk (frameS t ++ q) = true ∧ frC (frameS t ++ q) = t ∧ frR (frameS t ++ q) = q := by
  have hz := showT_pos t
  have e : frameS t ++ q = fix4 (crcV (showT t)) ++ (showT t ++ q) := by rw [frameS_ok t h, append_assoc]
  have hf : (fix4 (crcV (showT t))).size = 4 := fix4_size _
  have hx : (fix4 (crcV (showT t)) ++ (showT t ++ q)).extract 4 (fix4 (crcV (showT t)) ++ (showT t ++ q)).size = showT t ++ q := by
    apply bytes_ext
    rw [ext_data, ByteArray.size_append, hf, data_append (fix4 _)]
    have hl : (fix4 (crcV (showT t))).data.toList.length = 4 := by rw [← size_data]; exact hf
    rw [List.drop_append, List.drop_of_length_le (by omega), List.nil_append, hl, Nat.sub_self, List.drop_zero, List.take_of_length_le]
    rw [← size_data]
    omega
  have ht : frT (fix4 (crcV (showT t)) ++ (showT t ++ q)) = (t, some q) := by
    unfold frT
    rw [hx]
    exact oT_text t q (by omega)
  rw [e]
  refine ⟨(frOk_iff _).2 ⟨by rw [ByteArray.size_append, hf]; omega, ⟨q, by rw [ht]⟩, by rw [ht]; exact h, ?_⟩, by unfold frC; rw [ht], by unfold frR; rw [ht]; rfl⟩
  rw [ht, fix4_back _ (crcV_nonneg _) (crcV_le _)]
/-- What a beginning says of a frame the whole says. -/
theorem fr_longer (p q : ByteArray) (h : frOk p = true) : frOk (p ++ q) = true ∧ frC (p ++ q) = frC p ∧ frR (p ++ q) = frR p ++ q := by
  obtain ⟨e, hs⟩ := frOk_split p h
  have e2 : p ++ q = frameS (frC p) ++ (frR p ++ q) := by
    rw [← append_assoc, ← e]
  have hb := fr_back (frC p) (frR p ++ q) hs
  rw [← e2] at hb
  exact hb
theorem frR_size (r : ByteArray) (h : frOk r = true) : r.size = (frameS (frC r)).size + (frR r).size ∧ 5 ≤ (frameS (frC r)).size := by
  obtain ⟨e, hs⟩ := frOk_split r h
  refine ⟨?_, ?_⟩
  · have e2 := congrArg ByteArray.size e
    rw [ByteArray.size_append] at e2
    exact e2
  · rw [frameS_size _ hs]
    have := showT_pos (frC r)
    omega

/-! ### the frames, one behind the other -/
/-- What stands behind k frames. -/
def fS (s : ByteArray) : Nat → ByteArray
  | 0 => s
  | k + 1 => frR (fS s k)
def fL (s : ByteArray) (k : Nat) : List ByteArray := (List.range k).map fun i => frC (fS s i)
theorem fL_length (s : ByteArray) (k : Nat) : (fL s k).length = k := by simp [fL]
theorem fL_succ (s : ByteArray) (k : Nat) : fL s (k + 1) = fL s k ++ [frC (fS s k)] := by
  unfold fL
  rw [List.range_succ]
  simp
theorem fL_el (s : ByteArray) (k j : Nat) (h : j < k) : el (fL s k) j = frC (fS s j) := by
  rw [el_eq, List.getD, fL, List.getElem?_map, List.getElem?_range h]
  rfl
def nFu : Nat → ByteArray → Nat
  | 0, _ => 0
  | f + 1, r => if frOk r then nFu f (frR r) + 1 else 0
/-- How many frames stand there. -/
@[irreducible] def nF (s : ByteArray) : Nat := nFu (s.size + 1) s
theorem fS_shift (s : ByteArray) (k : Nat) : fS (frR s) k = fS s (k + 1) := by
  induction k with
  | zero => rfl
  | succ k ih => show frR (fS (frR s) k) = _; rw [ih]; rfl
theorem nFu_ok (f : Nat) (s : ByteArray) (hf : s.size < f) : (∀ i, i < nFu f s → frOk (fS s i) = true) ∧ frOk (fS s (nFu f s)) = false := by
  induction f generalizing s with
  | zero => omega
  | succ f ih =>
    unfold nFu
    cases h : frOk s
    · simp only [Bool.false_eq_true, if_false]
      exact ⟨fun i hi => by omega, h⟩
    · simp only [if_true]
      obtain ⟨hz, h5⟩ := frR_size s h
      obtain ⟨h1, h2⟩ := ih (frR s) (by omega)
      refine ⟨fun i hi => ?_, by rw [← fS_shift]; exact h2⟩
      cases i with
      | zero => exact h
      | succ i => rw [← fS_shift]; exact h1 i (by omega)
theorem nF_ok (s : ByteArray) (i : Nat) (h : i < nF s) : frOk (fS s i) = true := by
  unfold nF at h
  exact (nFu_ok (s.size + 1) s (by omega)).1 i h
theorem nF_end (s : ByteArray) : frOk (fS s (nF s)) = false := by
  unfold nF
  exact (nFu_ok (s.size + 1) s (by omega)).2
theorem nF_more (s : ByteArray) (k : Nat) (hk : k ≤ nF s) (h : frOk (fS s k) = true) : k < nF s := by
  rcases Nat.lt_or_ge k (nF s) with h' | h'
  · exact h'
  · obtain rfl : k = nF s := by omega
    rw [nF_end] at h
    cases h
theorem nF_last (s : ByteArray) (k : Nat) (hk : k ≤ nF s) (h : frOk (fS s k) = false) : k = nF s := by
  rcases Nat.lt_or_ge k (nF s) with h' | h'
  · rw [nF_ok s k h'] at h
    cases h
  · omega
theorem nF_of (s : ByteArray) (k : Nat) (h : ∀ i, i < k → frOk (fS s i) = true) : k ≤ nF s := by
  induction k with
  | zero => omega
  | succ k ih => exact nF_more s k (ih fun i hi => h i (by omega)) (h k (by omega))
/-- The place behind k frames. -/
@[irreducible] def fP (s : ByteArray) (k : Nat) : Nat := s.size - (fS s k).size
theorem fS_size (s : ByteArray) (k : Nat) (hk : k ≤ nF s) : (fS s k).size + 5 * k ≤ s.size := by
  induction k with
  | zero => exact Nat.le_refl _
  | succ k ih =>
    have := ih (by omega)
    obtain ⟨h1, h2⟩ := frR_size (fS s k) (nF_ok s k (by omega))
    show (frR (fS s k)).size + 5 * (k + 1) ≤ s.size
    omega
theorem fP_size (s : ByteArray) (k : Nat) (hk : k ≤ nF s) : fP s k + (fS s k).size = s.size := by
  unfold fP
  have := fS_size s k hk
  omega
theorem fP_zero (s : ByteArray) : fP s 0 = 0 := by unfold fP; exact Nat.sub_self _
theorem fP_succ (s : ByteArray) (k : Nat) (hk : k < nF s) : fP s (k + 1) = fP s k + (frameS (frC (fS s k))).size := by
  have a := fP_size s k (by omega)
  have b := fP_size s (k + 1) (by omega)
  obtain ⟨h1, h2⟩ := frR_size (fS s k) (nF_ok s k hk)
  have e : (fS s (k + 1)).size = (frR (fS s k)).size := rfl
  omega
theorem ext_behind (a b : ByteArray) : (a ++ b).extract a.size (a ++ b).size = b := by
  apply bytes_ext
  rw [ext_data, data_append, ByteArray.size_append, size_data a, List.drop_left, List.take_of_length_le]
  rw [← size_data b]
  omega
theorem ext_front (a b : ByteArray) : (a ++ b).extract 0 a.size = a := by
  apply bytes_ext
  rw [ext_data, data_append, List.drop_zero, Nat.sub_zero, size_data, List.take_left]
theorem fS_ext (s : ByteArray) (k : Nat) (hk : k ≤ nF s) : s.extract (fP s k) s.size = fS s k := by
  induction k with
  | zero => rw [fP_zero]; exact ext_all s
  | succ k ih =>
    have e := ih (by omega)
    have hp := fP_size s k (by omega)
    obtain ⟨h1, h2⟩ := frOk_split (fS s k) (nF_ok s k (by omega))
    have hz := (frR_size (fS s k) (nF_ok s k (by omega))).1
    rw [fP_succ s k (by omega)]
    show _ = frR (fS s k)
    have e2 : frR (fS s k) = (fS s k).extract (frameS (frC (fS s k))).size (fS s k).size := by
      have := ext_behind (frameS (frC (fS s k))) (frR (fS s k))
      rw [← h1] at this
      exact this.symm
    rw [e2, ← e, ext_ext s _ _ _ _ (Nat.le_refl _) (by rw [ext_size s _ _ (Nat.le_refl _)]; omega), e]
    congr 1
    omega
/-- The frames' texts are what stands up to that place. -/
theorem fS_cat (s : ByteArray) (k : Nat) (hk : k ≤ nF s) : catN ((fL s (nF s)).map frameS) k = s.extract 0 (fP s k) := by
  induction k with
  | zero => rw [catN_zero, fP_zero]; apply bytes_ext; rw [ext_data]; simp
  | succ k ih =>
    have hz := (frR_size (fS s k) (nF_ok s k (by omega))).1
    have hp := fP_size s k (by omega)
    have h1 := (frOk_split (fS s k) (nF_ok s k (by omega))).1
    have hE : el ((fL s (nF s)).map frameS) k = frameS (frC (fS s k)) := by
      rw [el_eq, List.getD, List.getElem?_map, el_get (fL s (nF s)) k (by rw [fL_length]; omega), fL_el s _ k (by omega)]
      rfl
    have hX : frameS (frC (fS s k)) = s.extract (fP s k) (fP s (k + 1)) := by
      have := ext_front (frameS (frC (fS s k))) (frR (fS s k))
      rw [← h1] at this
      rw [← this, ← fS_ext s k (by omega), ext_ext s _ _ _ _ (Nat.le_refl _) (by rw [fS_ext s k (by omega)]; omega), fS_ext s k (by omega), fP_succ s k (by omega)]
      rfl
    rw [catN_succ, ih (by omega), hE, hX, ext_join s _ _ _ (by omega) (by rw [fP_succ s k (by omega)]; omega)]
/-- The frames of a beginning are a beginning of the frames. -/
theorem fr_prefix (p q : ByteArray) (k : Nat) (hk : k ≤ nF p) : fS (p ++ q) k = fS p k ++ q ∧ k ≤ nF (p ++ q) ∧ fL (p ++ q) k = fL p k := by
  induction k with
  | zero => exact ⟨rfl, by omega, rfl⟩
  | succ k ih =>
    obtain ⟨h1, h2, h3⟩ := ih (by omega)
    obtain ⟨a, b, c⟩ := fr_longer (fS p k) q (nF_ok p k (by omega))
    rw [← h1] at a b c
    refine ⟨c, nF_more _ k h2 a, ?_⟩
    rw [fL_succ, fL_succ, h3, b]
end Go.Proofs.YtemhhjkmolndbaaDoor
