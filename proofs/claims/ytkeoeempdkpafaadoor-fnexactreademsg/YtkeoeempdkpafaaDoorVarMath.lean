/- Plain facts on varints: what the first groups of a string say, and when a beginning of it is the varint of that number. Nothing of the program is used here. -/
import Derived.Test.YtkeoeempdkpafaaDoorMath
import Derived.Laws.BytesArg
import Derived.Lib.IndexBytes
namespace Go.Proofs.YtkeoeempdkpafaaDoor
open Go.PlainAid

/-- The m groups of s that end before place k, the last one most significant. -/
def rvr (s : ByteArray) (k : Nat) : Nat → Int
  | 0 => 0
  | m + 1 => rvr s k m * 128 + bt s (k - (m + 1)) % 128
/-- The first i groups of s. -/
def acc (s : ByteArray) : Nat → Int
  | 0 => 0
  | i + 1 => acc s i + bt s i % 128 * 2 ^ (7 * i)

theorem rvr_nonneg (s : ByteArray) (k m : Nat) : 0 ≤ rvr s k m := by
  induction m with
  | zero => exact Int.le_refl _
  | succ m ih => simp only [rvr]; omega
theorem acc_nonneg (s : ByteArray) (i : Nat) : 0 ≤ acc s i := by
  induction i with
  | zero => exact Int.le_refl _
  | succ i ih =>
    have h1 : (0 : Int) ≤ 2 ^ (7 * i) := Int.pow_nonneg (by decide)
    have h2 : 0 ≤ bt s i % 128 := by omega
    have := Int.mul_nonneg h2 h1
    simp only [acc]; omega
theorem pow7 (i : Nat) : (2 : Int) ^ (7 * (i + 1)) = 2 ^ (7 * i) * 128 := by
  rw [Nat.mul_succ, Int.pow_add]; rfl
theorem pow7_pos (i : Nat) : (0 : Int) < 2 ^ (7 * i) := Int.pow_pos (by decide)
theorem acc_lt (s : ByteArray) (i : Nat) : acc s i < 2 ^ (7 * i) := by
  induction i with
  | zero => simp [acc]
  | succ i ih =>
    have h1 := pow7_pos i
    have h2 : bt s i % 128 ≤ 127 := by omega
    have h3 : bt s i % 128 * 2 ^ (7 * i) ≤ 127 * 2 ^ (7 * i) := Int.mul_le_mul_of_nonneg_right h2 (by omega)
    simp only [acc]
    rw [pow7]
    omega
theorem acc_rvr (s : ByteArray) (k m : Nat) (h : m ≤ k) : acc s k = rvr s k m * 2 ^ (7 * (k - m)) + acc s (k - m) := by
  induction m with
  | zero => simp [rvr]
  | succ m ih =>
    obtain ⟨j, hj⟩ : ∃ j, k - m = j + 1 := ⟨k - m - 1, by omega⟩
    have hj' : k - (m + 1) = j := by omega
    rw [ih (by omega), hj, hj']
    simp only [rvr, acc]
    rw [hj', pow7]
    have e : (rvr s k m * 128 + bt s j % 128) * 2 ^ (7 * j) = rvr s k m * 128 * 2 ^ (7 * j) + bt s j % 128 * 2 ^ (7 * j) := Int.add_mul _ _ _
    rw [e, Int.mul_comm (2 ^ (7 * j)) 128, ← Int.mul_assoc]
    omega
theorem acc_eq (s : ByteArray) (k : Nat) : acc s k = rvr s k k := by
  rw [acc_rvr s k k (Nat.le_refl _)]; simp [acc]
theorem rvr_lt (s : ByteArray) (k m : Nat) (hm : m ≤ 6) : rvr s k m ≤ 4398046511103 := by
  have hk : m = 0 ∨ m = 1 ∨ m = 2 ∨ m = 3 ∨ m = 4 ∨ m = 5 ∨ m = 6 := by omega
  rcases hk with rfl | rfl | rfl | rfl | rfl | rfl | rfl <;> simp only [rvr] <;> omega
theorem rvr_max (s : ByteArray) (k m : Nat) (hm : m ≤ 7) : rvr s k m ≤ 562949953421311 := by
  match m with
  | 0 => simp [rvr]
  | m + 1 => have := rvr_lt s k m (by omega); simp only [rvr]; omega
theorem vd_rvr (s : ByteArray) (k j : Nat) (h : j ≤ k) : vd (rvr s k k) j = rvr s k (k - j) := by
  induction j with
  | zero => simp [vd]
  | succ j ih =>
    obtain ⟨m, hm⟩ : ∃ m, k - j = m + 1 := ⟨k - j - 1, by omega⟩
    have hm' : k - (j + 1) = m := by omega
    simp only [vd]
    rw [ih (by omega), hm, hm']
    simp only [rvr]
    omega
theorem vd_group (s : ByteArray) (k j : Nat) (h : j < k) : vd (rvr s k k) j % 128 = bt s j % 128 := by
  obtain ⟨m, hm⟩ : ∃ m, k - j = m + 1 := ⟨k - j - 1, by omega⟩
  rw [vd_rvr s k j (by omega), hm]
  simp only [rvr]
  have : k - (m + 1) = j := by omega
  rw [this]
  omega
theorem vk_unique (n : Int) (a b : Nat) (ha : VK n a) (hb : VK n b) : a = b := by
  rcases Nat.lt_trichotomy a b with h | h | h
  · have := hb.1 a h; have := ha.2; omega
  · exact h
  · have := ha.1 b h; have := hb.2; omega
theorem vpre_get (n : Int) (k j : Nat) (h : j < k) : (vpre n k)[j]? = some (128 + vd n j % 128) := by
  induction k with
  | zero => omega
  | succ k ih =>
    simp only [vpre]
    by_cases e : j = k
    · subst e
      rw [List.getElem?_append_right (by rw [vpre_length]; exact Nat.le_refl _), vpre_length]
      simp
    · rw [List.getElem?_append_left (by rw [vpre_length]; omega)]
      exact ih (by omega)
theorem varL_get (n : Int) (k j : Nat) (h : j < k) : (varL n k)[j]? = some (128 + vd n j % 128) := by
  unfold varL
  rw [List.getElem?_append_left (by rw [vpre_length]; exact h)]
  exact vpre_get n k j h
theorem varL_last (n : Int) (k : Nat) : (varL n k)[k]? = some (vd n k) := by
  unfold varL
  rw [List.getElem?_append_right (by rw [vpre_length]; exact Nat.le_refl _), vpre_length]
  simp

/-! ### when a list of numbers is a beginning of a string -/
theorem byte_num (s : ByteArray) (j : Nat) (h : j < s.size) : s.data.toList[j]? = some (UInt8.ofNat (bt s j).toNat) := by
  rw [Lib.data_getElem? s j h, ← get_bt s j h]
  simp
theorem piece_eq (s : ByteArray) (k : Nat) (l : List Int) (hk : k ≤ s.size) (hlen : l.length = k) (hl : ∀ j, j < k → l[j]? = some (bt s j)) : (strOfNums l).toList = (s.extract 0 k).toList := by
  rw [Lib.extract_toList, Lib.toList_data, strOfNums_data, List.drop_zero, Nat.sub_zero]
  apply List.ext_getElem?
  intro j
  by_cases h : j < k
  · rw [List.getElem?_map, hl j h, List.getElem?_take_of_lt h, byte_num s j (by omega)]
    rfl
  · rw [List.getElem?_eq_none (by simp; omega), List.getElem?_eq_none (by rw [List.length_take]; omega)]
theorem u8_back (x : Int) (h0 : 0 ≤ x) (h1 : x ≤ 255) : ((UInt8.ofNat x.toNat).toNat : Int) = x := by
  have : (UInt8.ofNat x.toNat).toNat = x.toNat := by
    simp only [UInt8.toNat_ofNat']
    omega
  omega
theorem piece_get (s : ByteArray) (k : Nat) (l : List Int) (hk : k ≤ s.size) (hr : ∀ x ∈ l, 0 ≤ x ∧ x ≤ 255) (h : (strOfNums l).toList = (s.extract 0 k).toList) :
    l.length = k ∧ ∀ j, j < k → l[j]? = some (bt s j) := by
  rw [Lib.extract_toList, Lib.toList_data, strOfNums_data, List.drop_zero, Nat.sub_zero] at h
  have hl : l.length = k := by
    have := congrArg List.length h
    rw [List.length_map, List.length_take, ← Lib.size_eq] at this
    omega
  refine ⟨hl, fun j hj => ?_⟩
  have hj' : j < l.length := by omega
  have e := congrArg (·[j]?) h
  simp only [List.getElem?_map, List.getElem?_take_of_lt hj, byte_num s j (by omega), List.getElem?_eq_getElem hj', Option.map_some, Option.some.injEq] at e
  rw [List.getElem?_eq_getElem hj', Option.some.injEq]
  have r := hr l[j] (List.getElem_mem hj')
  have e2 := congrArg (fun x : UInt8 => (x.toNat : Int)) e
  have b0 := bt_nonneg s j
  have b1 := bt_le s j
  simp only [u8_back l[j] r.1 r.2, u8_back (bt s j) b0 b1] at e2
  exact e2
theorem varL_range (n : Int) (h0 : 0 ≤ n) (k : Nat) (hv : VK n k) : ∀ x ∈ varL n k, 0 ≤ x ∧ x ≤ 255 := by
  intro x hx
  obtain ⟨j, hj, rfl⟩ := List.getElem_of_mem hx
  rw [varL_length] at hj
  have d := vd_nonneg n h0 k
  have := hv.2
  by_cases e : j < k
  · have g := varL_get n k j e
    rw [List.getElem?_eq_getElem (by rw [varL_length]; omega), Option.some.injEq] at g
    rw [g]; omega
  · obtain rfl : j = k := by omega
    have g := varL_last n j
    rw [List.getElem?_eq_getElem (by rw [varL_length]; omega), Option.some.injEq] at g
    rw [g]; omega

/-- The first k bytes of s are not the varint of what they say. -/
def NoVar (s : ByteArray) (k : Nat) : Prop := ∀ K, VK (rvr s k k) K → ((strOfNums (varL (rvr s k k) K)).toList == (s.extract 0 k).toList) = false
/-- They are. -/
def IsVar (s : ByteArray) (k : Nat) : Prop := ∀ K, VK (rvr s k k) K → ((strOfNums (varL (rvr s k k) K)).toList == (s.extract 0 k).toList) = true

theorem noVar_of (s : ByteArray) (k : Nat) (hk : k ≤ s.size) (h : ∀ K, VK (rvr s k k) K → K + 1 = k → (∀ j, j < k → (varL (rvr s k k) K)[j]? = some (bt s j)) → False) : NoVar s k := by
  intro K hK
  rw [beq_eq_false_iff_ne]
  intro e
  obtain ⟨h1, h2⟩ := piece_get s k _ hk (varL_range _ (rvr_nonneg s k k) K hK) e
  rw [varL_length] at h1
  exact h K hK h1 h2
theorem noVar_high (s : ByteArray) (k : Nat) (h1 : 1 ≤ k) (hk : k ≤ s.size) (hb : 128 ≤ bt s (k - 1)) : NoVar s k := by
  refine noVar_of s k hk fun K hK e g => ?_
  have e' : k - 1 = K := by omega
  have a := g (k - 1) (by omega)
  rw [e', varL_last, Option.some.injEq] at a
  have := hK.2
  rw [e'] at hb
  omega
theorem noVar_low (s : ByteArray) (k t : Nat) (hk : k ≤ s.size) (ht : t + 1 < k) (hb : bt s t < 128) : NoVar s k := by
  refine noVar_of s k hk fun K hK e g => ?_
  have a := g t (by omega)
  rw [varL_get _ K t (by omega), Option.some.injEq] at a
  omega
theorem noVar_zero (s : ByteArray) (k : Nat) (h2 : 2 ≤ k) (hk : k ≤ s.size) (hb : bt s (k - 1) = 0) : NoVar s k := by
  refine noVar_of s k hk fun K hK e g => ?_
  have e' : k - 1 = K := by omega
  have a := g (k - 1) (by omega)
  rw [e', varL_last, Option.some.injEq] at a
  rw [e'] at hb
  obtain ⟨J, rfl⟩ : ∃ J, K = J + 1 := ⟨K - 1, by omega⟩
  have c := hK.1 J (by omega)
  simp only [vd] at a
  omega
theorem isVar_vk (s : ByteArray) (t : Nat) (hb : bt s t < 128) (hz : t = 0 ∨ bt s t ≠ 0) : VK (rvr s (t + 1) (t + 1)) t := by
  have last : vd (rvr s (t + 1) (t + 1)) t = bt s t := by
    rw [vd_rvr s (t + 1) t (by omega), show t + 1 - t = 0 + 1 by omega]
    have b0 := bt_nonneg s t
    simp only [rvr, Nat.zero_add, Nat.add_sub_cancel]
    omega
  refine ⟨fun i hi => ?_, by rw [last]; exact hb⟩
  have step : ∀ d i, i + d + 1 = t → 128 ≤ vd (rvr s (t + 1) (t + 1)) i := by
    intro d
    induction d with
    | zero =>
      intro i hi
      have b0 := bt_nonneg s t
      have : vd (rvr s (t + 1) (t + 1)) (i + 1) = bt s t := by rw [show i + 1 = t by omega]; exact last
      simp only [vd] at this
      omega
    | succ d ih =>
      intro i hi
      have := ih (i + 1) (by omega)
      simp only [vd] at this
      omega
  exact step (t - i - 1) i (by omega)
theorem isVar_of (s : ByteArray) (t : Nat) (ht : t < s.size) (hh : ∀ i, i < t → 128 ≤ bt s i) (hb : bt s t < 128) (hz : t = 0 ∨ bt s t ≠ 0) : IsVar s (t + 1) := by
  have hv := isVar_vk s t hb hz
  intro K hK
  obtain rfl := vk_unique _ _ _ hK hv
  rw [beq_iff_eq]
  refine piece_eq s (K + 1) _ (by omega) (varL_length _ _) fun j hj => ?_
  by_cases e : j < K
  · rw [varL_get _ K j e, vd_group s (K + 1) j (by omega)]
    have := hh j e
    have := bt_le s j
    congr 1
    omega
  · obtain rfl : j = K := by omega
    rw [varL_last, vd_rvr s (j + 1) j (by omega), show j + 1 - j = 0 + 1 by omega]
    have b0 := bt_nonneg s j
    simp only [rvr, Nat.zero_add, Nat.add_sub_cancel]
    congr 1
    omega
theorem pow7_le (i : Nat) (h : i ≤ 6) : (2 : Int) ^ (7 * i) ≤ 4398046511104 := by
  have hk : i = 0 ∨ i = 1 ∨ i = 2 ∨ i = 3 ∨ i = 4 ∨ i = 5 ∨ i = 6 := by omega
  rcases hk with rfl | rfl | rfl | rfl | rfl | rfl | rfl <;> decide
/-- One group more is ORed in. -/
theorem or_group (s : ByteArray) (i : Nat) (h : i ≤ 6) : bits .or .i64 (acc s i) (bt s i % 128 * 2 ^ (7 * i)) = acc s (i + 1) := by
  have p := pow7_pos i
  have q := pow7_le i h
  have a0 := acc_nonneg s i
  have a1 := acc_lt s i
  have g0 : 0 ≤ bt s i % 128 := by omega
  have g1 : bt s i % 128 ≤ 127 := by omega
  have m0 : 0 ≤ bt s i % 128 * 2 ^ (7 * i) := Int.mul_nonneg g0 (by omega)
  have m1 : bt s i % 128 * 2 ^ (7 * i) ≤ 127 * 2 ^ (7 * i) := Int.mul_le_mul_of_nonneg_right g1 (by omega)
  obtain ⟨A, hA⟩ := Int.eq_ofNat_of_zero_le a0
  obtain ⟨G, hG⟩ := Int.eq_ofNat_of_zero_le g0
  have hM : bt s i % 128 * 2 ^ (7 * i) = ((G * 2 ^ (7 * i) : Nat) : Int) := by rw [hG]; simp
  have hp : ((2 ^ (7 * i) : Nat) : Int) = 2 ^ (7 * i) := by simp
  simp only [acc]
  rw [hM] at m0 m1 ⊢
  rw [hA] at a1 ⊢
  rw [i64_or_nat A _ (by omega) (by omega), Nat.or_comm, nat_join (7 * i) _ A (by simp) (by omega)]
  omega
theorem shl_group (s : ByteArray) (i : Nat) (h : i ≤ 6) : 0 ≤ bt s i % 128 * 2 ^ (7 * i) ∧ bt s i % 128 * 2 ^ (7 * i) ≤ 558551906910208 := by
  have p := pow7_pos i
  have q := pow7_le i h
  have g0 : 0 ≤ bt s i % 128 := by omega
  have g1 : bt s i % 128 ≤ 127 := by omega
  have m0 : 0 ≤ bt s i % 128 * 2 ^ (7 * i) := Int.mul_nonneg g0 (by omega)
  have m1 : bt s i % 128 * 2 ^ (7 * i) ≤ 127 * 2 ^ (7 * i) := Int.mul_le_mul_of_nonneg_right g1 (by omega)
  omega
/-- Of a string: its first seven bytes have a last group, or none has. -/
theorem first_low (s : ByteArray) : (∃ t, t < s.size ∧ t ≤ 6 ∧ (∀ i, i < t → 128 ≤ bt s i) ∧ bt s t < 128) ∨ (∀ i, i < 7 → i < s.size → 128 ≤ bt s i) := by
  have go : ∀ m k : Nat, k + m = 7 → (∀ i, i < k → i < s.size → 128 ≤ bt s i) →
      (∃ t, t < s.size ∧ t ≤ 6 ∧ (∀ i, i < t → 128 ≤ bt s i) ∧ bt s t < 128) ∨ (∀ i, i < 7 → i < s.size → 128 ≤ bt s i) := by
    intro m
    induction m with
    | zero => intro k hk hi; exact .inr (fun i h7 hs => hi i (by omega) hs)
    | succ m ih =>
      intro k hk hi
      by_cases hs : k < s.size
      · by_cases hb : bt s k < 128
        · exact .inl ⟨k, hs, by omega, fun i hik => hi i hik (by omega), hb⟩
        · refine ih (k + 1) (by omega) fun i hik his => ?_
          by_cases e : i = k
          · subst e; omega
          · exact hi i (by omega) his
      · exact .inr (fun i h7 his => hi i (by omega) his)
  exact go 7 0 rfl (fun i hi => by omega)
end Go.Proofs.YtkeoeempdkpafaaDoor
