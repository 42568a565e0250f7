/- Plain facts on SHA-256's numbers: nothing of the program is used here. -/
import Derived.PlainAid
import Derived.Laws.BitsAllLaws
import Derived.IntWalk
import Derived.Test.YtemhhjkmolndbaaDoorMath
namespace Go.Proofs.YtemhhjkmolndbaaDoor
open Go.PlainAid
open Go.RowKit (wrap64)

/-- A word turned to the right. -/
def rotr (x n : Nat) : Nat := (x / 2 ^ n ||| x * 2 ^ (32 - n)) % 4294967296
def sg0 (x : Nat) : Nat := (rotr x 7 ^^^ rotr x 18) ^^^ x / 8
def sg1 (x : Nat) : Nat := (rotr x 17 ^^^ rotr x 19) ^^^ x / 1024
def bg0 (x : Nat) : Nat := (rotr x 2 ^^^ rotr x 13) ^^^ rotr x 22
def bg1 (x : Nat) : Nat := (rotr x 6 ^^^ rotr x 11) ^^^ rotr x 25
def chN (e f g : Nat) : Nat := (e &&& f) ^^^ ((4294967295 - e) &&& g)
def mjN (a b c : Nat) : Nat := ((a &&& b) ^^^ (a &&& c)) ^^^ (b &&& c)
def keysL : List Nat := [1116352408, 1899447441, 3049323471, 3921009573, 961987163, 1508970993, 2453635748, 2870763221, 3624381080, 310598401, 607225278, 1426881987, 1925078388, 2162078206, 2614888103, 3248222580, 3835390401, 4022224774, 264347078, 604807628, 770255983, 1249150122, 1555081692, 1996064986, 2554220882, 2821834349, 2952996808, 3210313671, 3336571891, 3584528711, 113926993, 338241895, 666307205, 773529912, 1294757372, 1396182291, 1695183700, 1986661051, 2177026350, 2456956037, 2730485921, 2820302411, 3259730800, 3345764771, 3516065817, 3600352804, 4094571909, 275423344, 430227734, 506948616, 659060556, 883997877, 958139571, 1322822218, 1537002063, 1747873779, 1955562222, 2024104815, 2227730452, 2361852424, 2428436474, 2756734187, 3204031479, 3329325298]
def startL : List Nat := [1779033703, 3144134277, 1013904242, 2773480762, 1359893119, 2600822924, 528734635, 1541459225]
@[irreducible] def keyN (i : Nat) : Nat := keysL.getD i 0
/-- The number of the first m bytes from o on. -/
def bpart (β : Nat → Nat) (o : Nat) : Nat → Nat
  | 0 => 0
  | m + 1 => bpart β o m * 256 + β (o + m)
/-- The first k words of a block's schedule. -/
def wl (β : Nat → Nat) : Nat → List Nat
  | 0 => []
  | k + 1 => wl β k ++ [if k < 16 then bpart β (4 * k) 4 else
      ((wl β k).getD (k - 16) 0 + (wl β k).getD (k - 7) 0 + sg0 ((wl β k).getD (k - 15) 0) + sg1 ((wl β k).getD (k - 2) 0)) % 4294967296]
@[irreducible] def schW (β : Nat → Nat) (j : Nat) : Nat := (wl β 64).getD j 0
/-- Eight words. -/
structure Reg where
  a : Nat
  b : Nat
  c : Nat
  d : Nat
  e : Nat
  f : Nat
  g : Nat
  h : Nat
def Reg.at (s : Reg) : Nat → Nat
  | 0 => s.a
  | 1 => s.b
  | 2 => s.c
  | 3 => s.d
  | 4 => s.e
  | 5 => s.f
  | 6 => s.g
  | 7 => s.h
  | _ + 8 => 0
def Reg.fit (s : Reg) : Prop := s.a < 4294967296 ∧ s.b < 4294967296 ∧ s.c < 4294967296 ∧ s.d < 4294967296 ∧ s.e < 4294967296 ∧ s.f < 4294967296 ∧ s.g < 4294967296 ∧ s.h < 4294967296
/-- One round. -/
def rnd (k w : Nat) (s : Reg) : Reg :=
  let t := s.h + bg1 s.e + chN s.e s.f s.g + k + w
  ⟨(t + (bg0 s.a + mjN s.a s.b s.c)) % 4294967296, s.a, s.b, s.c, (s.d + t) % 4294967296, s.e, s.f, s.g⟩
theorem rnd_mk (k w A B C D E F G H : Nat) : rnd k w ⟨A, B, C, D, E, F, G, H⟩ = ⟨((H + bg1 E + chN E F G + k + w) + (bg0 A + mjN A B C)) % 4294967296, A, B, C, (D + (H + bg1 E + chN E F G + k + w)) % 4294967296, E, F, G⟩ := rfl
def rndsR (W : Nat → Nat) (s : Reg) : Nat → Reg
  | 0 => s
  | i + 1 => rnd (keyN i) (W i) (rndsR W s i)
@[irreducible] def rnds (W : Nat → Nat) (s : Reg) (i : Nat) : Reg := rndsR W s i
theorem rnds_zero (W : Nat → Nat) (s : Reg) : rnds W s 0 = s := by unfold rnds; rfl
theorem rnds_succ (W : Nat → Nat) (s : Reg) (i : Nat) : rnds W s (i + 1) = rnd (keyN i) (W i) (rnds W s i) := by unfold rnds; rfl
def Reg.plus (s r : Reg) : Reg := ⟨(s.a + r.a) % 4294967296, (s.b + r.b) % 4294967296, (s.c + r.c) % 4294967296, (s.d + r.d) % 4294967296, (s.e + r.e) % 4294967296, (s.f + r.f) % 4294967296, (s.g + r.g) % 4294967296, (s.h + r.h) % 4294967296⟩
@[irreducible] def blk (s : Reg) (β : Nat → Nat) : Reg := s.plus (rnds (schW β) s 64)
/-- The state behind k blocks of the bytes β. -/
def hshR (s : Reg) (β : Nat → Nat) : Nat → Reg
  | 0 => s
  | k + 1 => blk (hshR s β k) (fun j => β (64 * k + j))
@[irreducible] def hsh (s : Reg) (β : Nat → Nat) (k : Nat) : Reg := hshR s β k
theorem hsh_zero (s : Reg) (β : Nat → Nat) : hsh s β 0 = s := by unfold hsh; rfl
theorem hsh_succ (s : Reg) (β : Nat → Nat) (k : Nat) : hsh s β (k + 1) = blk (hsh s β k) (fun j => β (64 * k + j)) := by unfold hsh; rfl
def st0 : Reg := ⟨1779033703, 3144134277, 1013904242, 2773480762, 1359893119, 2600822924, 528734635, 1541459225⟩
def btn (s : ByteArray) (j : Nat) : Nat := (bt s j).toNat
def wordL (x : Nat) : List Int := [(x : Int) / 16777216 % 256, (x : Int) / 65536 % 256, (x : Int) / 256 % 256, (x : Int) % 256]
/-- The digest's bytes of the first k words. -/
def digL (s : Reg) : Nat → List Int
  | 0 => []
  | k + 1 => digL s k ++ wordL (s.at k)

/-- A block's end: r bytes, a set bit, zeros, and the last m bytes of the length in bits. -/
def padF (β : Nat → Nat) (r L n m : Nat) : Nat → Nat := fun j => if j < r then β j else if j = r then 128 else if L ≤ j + m then 8 * n / 256 ^ (L - 1 - j) % 256 else 0
/-- The padded message's length. -/
def msgL (n : Nat) : Nat := (n + 72) / 64 * 64
/-- The eight words of a string's digest, and its bytes. -/
@[irreducible] def shaS (s : ByteArray) : Reg := hsh st0 (padF (btn s) s.size (msgL s.size) s.size 8) (msgL s.size / 64)

/-! ### words stay words -/
theorem rotr_lt (x n : Nat) : rotr x n < 4294967296 := Nat.mod_lt _ (by decide)
theorem xor_lt32 {a b : Nat} (ha : a < 4294967296) (hb : b < 4294967296) : a ^^^ b < 4294967296 := Nat.xor_lt_two_pow (n := 32) ha hb
theorem and_lt32 {a : Nat} (b : Nat) (ha : a < 4294967296) : a &&& b < 4294967296 := Nat.lt_of_le_of_lt Nat.and_le_left ha
theorem sg0_lt (x : Nat) (h : x < 4294967296) : sg0 x < 4294967296 := xor_lt32 (xor_lt32 (rotr_lt _ _) (rotr_lt _ _)) (by omega)
theorem sg1_lt (x : Nat) (h : x < 4294967296) : sg1 x < 4294967296 := xor_lt32 (xor_lt32 (rotr_lt _ _) (rotr_lt _ _)) (by omega)
theorem bg0_lt (x : Nat) : bg0 x < 4294967296 := xor_lt32 (xor_lt32 (rotr_lt _ _) (rotr_lt _ _)) (rotr_lt _ _)
theorem bg1_lt (x : Nat) : bg1 x < 4294967296 := xor_lt32 (xor_lt32 (rotr_lt _ _) (rotr_lt _ _)) (rotr_lt _ _)
theorem chN_lt (e f g : Nat) (h : e < 4294967296) : chN e f g < 4294967296 := xor_lt32 (and_lt32 _ h) (and_lt32 _ (by omega))
theorem mjN_lt (a b c : Nat) (ha : a < 4294967296) (hb : b < 4294967296) : mjN a b c < 4294967296 := xor_lt32 (xor_lt32 (and_lt32 _ ha) (and_lt32 _ ha)) (and_lt32 _ hb)
theorem keyN_lt (i : Nat) : keyN i < 4294967296 := by
  unfold keyN
  by_cases h : i < 64
  · have : ∀ j : Fin 64, keysL.getD j.val 0 < 4294967296 := by decide
    exact this ⟨i, h⟩
  · rw [List.getD_eq_getElem?_getD, List.getElem?_eq_none (by simp [keysL]; omega)]
    decide
theorem rnd_fit (k w : Nat) (s : Reg) (h : s.fit) : (rnd k w s).fit := by
  obtain ⟨ha, hb, hc, hd, he, hf, hg, hh⟩ := h
  exact ⟨Nat.mod_lt _ (by decide), ha, hb, hc, Nat.mod_lt _ (by decide), he, hf, hg⟩
theorem rnds_fit (W : Nat → Nat) (s : Reg) (h : s.fit) (i : Nat) : (rnds W s i).fit := by
  induction i with
  | zero => rw [rnds_zero]; exact h
  | succ i ih => rw [rnds_succ]; exact rnd_fit _ _ _ ih
theorem plus_fit (s r : Reg) : (s.plus r).fit := ⟨Nat.mod_lt _ (by decide), Nat.mod_lt _ (by decide), Nat.mod_lt _ (by decide), Nat.mod_lt _ (by decide), Nat.mod_lt _ (by decide), Nat.mod_lt _ (by decide), Nat.mod_lt _ (by decide), Nat.mod_lt _ (by decide)⟩
theorem hsh_fit (s : Reg) (h : s.fit) (β : Nat → Nat) (k : Nat) : (hsh s β k).fit := by
  cases k with
  | zero => rw [hsh_zero]; exact h
  | succ k => rw [hsh_succ, blk]; exact plus_fit _ _
theorem st0_fit : st0.fit := by unfold Reg.fit st0; decide
theorem Reg.at_lt (s : Reg) (h : s.fit) (i : Nat) : s.at i < 4294967296 := by
  obtain ⟨ha, hb, hc, hd, he, hf, hg, hh⟩ := h
  match i with
  | 0 => exact ha
  | 1 => exact hb
  | 2 => exact hc
  | 3 => exact hd
  | 4 => exact he
  | 5 => exact hf
  | 6 => exact hg
  | 7 => exact hh
  | _ + 8 => exact (by decide : (0 : Nat) < 4294967296)
theorem plus_at (s r : Reg) (i : Nat) (h : i < 8) : (s.plus r).at i = (s.at i + r.at i) % 4294967296 := by
  match i, h with
  | 0, _ => rfl
  | 1, _ => rfl
  | 2, _ => rfl
  | 3, _ => rfl
  | 4, _ => rfl
  | 5, _ => rfl
  | 6, _ => rfl
  | 7, _ => rfl
theorem btn_lt (s : ByteArray) (j : Nat) : btn s j < 256 := by
  have := bt_le s j
  have := bt_nonneg s j
  unfold btn
  omega
theorem btn_cast (s : ByteArray) (j : Nat) : ((btn s j : Nat) : Int) = bt s j := by
  have := bt_nonneg s j
  unfold btn
  omega
theorem bpart_lt (β : Nat → Nat) (h : ∀ j, β j < 256) (o : Nat) : bpart β o 4 < 4294967296 ∧ bpart β o 3 < 16777216 ∧ bpart β o 2 < 65536 ∧ bpart β o 1 < 256 := by
  have h0 := h (o + 0); have h1 := h (o + 1); have h2 := h (o + 2); have h3 := h (o + 3)
  simp only [bpart]
  omega

/-! ### the schedule -/
theorem wl_length (β : Nat → Nat) (k : Nat) : (wl β k).length = k := by
  induction k with
  | zero => rfl
  | succ k ih => simp [wl, ih]
theorem wl_stays (β : Nat → Nat) (j k m : Nat) (h : j < k) : (wl β (k + m)).getD j 0 = (wl β k).getD j 0 := by
  induction m with
  | zero => rfl
  | succ m ih =>
    rw [← ih]
    show (wl β (k + m) ++ _).getD j 0 = _
    rw [List.getD_eq_getElem?_getD, List.getElem?_append_left (by rw [wl_length]; omega), ← List.getD_eq_getElem?_getD]
theorem wl_get (β : Nat → Nat) (j k : Nat) (h : j < k) (hk : k ≤ 64) : (wl β k).getD j 0 = schW β j := by
  unfold schW
  have := wl_stays β j k (64 - k) h
  rw [show k + (64 - k) = 64 by omega] at this
  exact this.symm
theorem wl_last (β : Nat → Nat) (k : Nat) (x : Nat) : (wl β k ++ [x]).getD k 0 = x := by
  rw [List.getD_eq_getElem?_getD, List.getElem?_append_right (by rw [wl_length]; omega), wl_length, Nat.sub_self]
  rfl
theorem schW_low (β : Nat → Nat) (k : Nat) (h : k < 16) : schW β k = bpart β (4 * k) 4 := by
  rw [← wl_get β k (k + 1) (by omega) (by omega), wl, wl_last, if_pos h]
theorem schW_high (β : Nat → Nat) (k : Nat) (h1 : 16 ≤ k) (h2 : k < 64) :
    schW β k = (schW β (k - 16) + schW β (k - 7) + sg0 (schW β (k - 15)) + sg1 (schW β (k - 2))) % 4294967296 := by
  rw [← wl_get β k (k + 1) (by omega) (by omega), wl, wl_last, if_neg (by omega)]
  rw [wl_get β (k - 16) k (by omega) (by omega), wl_get β (k - 7) k (by omega) (by omega), wl_get β (k - 15) k (by omega) (by omega), wl_get β (k - 2) k (by omega) (by omega)]
theorem schW_lt (β : Nat → Nat) (h : ∀ j, β j < 256) (k : Nat) : schW β k < 4294967296 := by
  by_cases h1 : k < 16
  · rw [schW_low β k h1]; exact (bpart_lt β h _).1
  · by_cases h2 : k < 64
    · rw [schW_high β k (by omega) h2]; exact Nat.mod_lt _ (by decide)
    · unfold schW
      rw [List.getD_eq_getElem?_getD, List.getElem?_eq_none (by rw [wl_length]; omega)]
      decide
theorem bpart_congr (β γ : Nat → Nat) (o : Nat) (m : Nat) (h : ∀ j, j < m → β (o + j) = γ (o + j)) : bpart β o m = bpart γ o m := by
  induction m with
  | zero => rfl
  | succ m ih => simp only [bpart]; rw [ih (fun j hj => h j (by omega)), h m (by omega)]
theorem wl_congr (β γ : Nat → Nat) (h : ∀ j, j < 64 → β j = γ j) (k : Nat) : wl β k = wl γ k := by
  induction k with
  | zero => rfl
  | succ k ih =>
    rw [wl, wl, ih]
    by_cases hk : k < 16
    · rw [if_pos hk, if_pos hk, bpart_congr β γ _ _ (fun j hj => h _ (by omega))]
    · rw [if_neg hk, if_neg hk]
theorem schW_congr (β γ : Nat → Nat) (h : ∀ j, j < 64 → β j = γ j) : schW β = schW γ := by
  funext j
  unfold schW
  rw [wl_congr β γ h]
theorem blk_congr (s : Reg) (β γ : Nat → Nat) (h : ∀ j, j < 64 → β j = γ j) : blk s β = blk s γ := by
  unfold blk
  rw [schW_congr β γ h]
theorem hsh_congr (s : Reg) (β γ : Nat → Nat) (k : Nat) (h : ∀ j, j < 64 * k → β j = γ j) : hsh s β k = hsh s γ k := by
  induction k with
  | zero => rw [hsh_zero, hsh_zero]
  | succ k ih =>
    rw [hsh_succ, hsh_succ, ih (fun j hj => h j (by omega))]
    exact blk_congr _ _ _ (fun j hj => h _ (by omega))
theorem hsh_add (s : Reg) (β : Nat → Nat) (k m : Nat) : hsh s β (k + m) = hsh (hsh s β k) (fun j => β (64 * k + j)) m := by
  induction m with
  | zero => rw [Nat.add_zero, hsh_zero]
  | succ m ih =>
    rw [← Nat.add_assoc, hsh_succ, hsh_succ, ih]
    apply blk_congr
    intro j _
    rw [show 64 * (k + m) + j = 64 * k + (64 * m + j) by omega]

theorem shaS_fit (s : ByteArray) : (shaS s).fit := by rw [shaS]; exact hsh_fit _ st0_fit _ _
theorem padF_lt (β : Nat → Nat) (h : ∀ j, β j < 256) (r L n m j : Nat) : padF β r L n m j < 256 := by
  unfold padF
  split
  · exact h j
  · split
    · decide
    · split
      · exact Nat.mod_lt _ (by decide)
      · decide
theorem wordL_length (x : Nat) : (wordL x).length = 4 := rfl
theorem digL_length (s : Reg) (k : Nat) : (digL s k).length = 4 * k := by
  induction k with
  | zero => rfl
  | succ k ih => rw [digL, List.length_append, ih, wordL_length]; omega

/-! ### the machine's operations -/
theorem i64_and_nat (a b : Nat) (ha : a < 9223372036854775808) (hb : b < 9223372036854775808) : bits .and .i64 (a : Int) (b : Int) = ((a &&& b : Nat) : Int) := by
  have hx : a &&& b < 2 ^ 63 := Nat.and_lt_two_pow _ (by omega)
  show IntKind.i64.wrap ((BitVec.ofInt 64 (a : Int) &&& BitVec.ofInt 64 (b : Int)).toNat : Int) = _
  rw [BitVec.toNat_and, ofInt_u64 a (by omega), ofInt_u64 b (by omega)]
  exact IntWalk.i64_in _ (by omega)
theorem i64_xor_nat (a b : Nat) (ha : a < 9223372036854775808) (hb : b < 9223372036854775808) : bits .xor .i64 (a : Int) (b : Int) = ((a ^^^ b : Nat) : Int) := by
  have hx : a ^^^ b < 2 ^ 63 := Nat.xor_lt_two_pow (by omega) (by omega)
  show IntKind.i64.wrap ((BitVec.ofInt 64 (a : Int) ^^^ BitVec.ofInt 64 (b : Int)).toNat : Int) = _
  rw [BitVec.toNat_xor, ofInt_u64 a (by omega), ofInt_u64 b (by omega)]
  exact IntWalk.i64_in _ (by omega)
theorem i64_low32 (a : Nat) (ha : a < 9223372036854775808) : bits .and .i64 (a : Int) 4294967295 = ((a % 4294967296 : Nat) : Int) := by
  have h := i64_and_nat a 4294967295 ha (by decide)
  rw [show a &&& 4294967295 = a % 4294967296 from Nat.and_two_pow_sub_one_eq_mod a 32] at h
  exact h
theorem i64_low8 (a : Nat) (ha : a < 9223372036854775808) : bits .and .i64 (a : Int) 255 = ((a % 256 : Nat) : Int) := by
  have h := i64_and_nat a 255 ha (by decide)
  rw [show a &&& 255 = a % 256 from Nat.and_two_pow_sub_one_eq_mod a 8] at h
  exact h
/-- The complement's low 32 bits. -/
theorem i64_not32 (a : Nat) (ha : a < 4294967296) : bits .and .i64 (-(a : Int) - 1) 4294967295 = ((4294967295 - a : Nat) : Int) := by
  show IntKind.i64.wrap ((BitVec.ofInt 64 (-(a : Int) - 1) &&& BitVec.ofInt 64 (4294967295 : Int)).toNat : Int) = _
  have e1 : (BitVec.ofInt 64 (-(a : Int) - 1)).toNat = 18446744073709551615 - a := by
    rw [BitVec.toNat_ofInt]
    omega
  have e2 : (BitVec.ofInt 64 (4294967295 : Int)).toNat = 2 ^ 32 - 1 := by decide
  rw [BitVec.toNat_and, e1, e2, Nat.and_two_pow_sub_one_eq_mod, show (18446744073709551615 - a) % 2 ^ 32 = 4294967295 - a by omega]
  exact IntWalk.i64_in _ (by omega)
theorem not32 (a : Nat) (ha : a < 4294967296) : 4294967295 ^^^ a = 4294967295 - a := by
  apply Nat.eq_of_testBit_eq
  intro i
  have h1 := Nat.testBit_two_pow_sub_succ (n := 32) (x := a) (by omega) i
  rw [show 2 ^ 32 - (a + 1) = 4294967295 - a by omega] at h1
  rw [h1, Nat.testBit_xor, show (4294967295 : Nat) = 2 ^ 32 - 1 by decide, Nat.testBit_two_pow_sub_one]
  by_cases hi : i < 32
  · simp [hi]
  · have : a.testBit i = false := Nat.testBit_lt_two_pow (Nat.lt_of_lt_of_le (show a < 2 ^ 32 by omega) (Nat.pow_le_pow_right (by decide) (by omega)))
    simp [hi, this]
theorem u32_not (a : Nat) (ha : a < 4294967296) : bits .xor .u32 IntKind.u32.max (a : Int) = ((4294967295 - a : Nat) : Int) := by
  have h := u32_xor_nat 4294967295 a (by decide) ha
  rw [not32 a ha] at h
  exact h
theorem pow_gap (n : Nat) (h1 : 2 ≤ n) : 2 ^ (32 - n) ≤ 1073741824 := by
  have := Nat.pow_le_pow_right (n := 2) (by decide) (show 32 - n ≤ 30 by omega)
  omega
theorem rot_wide (x n : Nat) (hx : x < 4294967296) (h1 : 2 ≤ n) : x * 2 ^ (32 - n) < 4611686018427387904 := by
  have h := pow_gap n h1
  have h2 : x * 2 ^ (32 - n) ≤ x * 1073741824 := Nat.mul_le_mul_left x h
  omega
theorem rot_i64 (x n : Nat) (hx : x < 4294967296) (h1 : 2 ≤ n) :
    bits .and .i64 (bits .or .i64 ((x : Int) / 2 ^ n) (wrap64 ((x : Int) * 2 ^ (32 - n)))) 4294967295 = ((rotr x n : Nat) : Int) := by
  have hw := rot_wide x n hx h1
  have e1 : ((x : Int) / 2 ^ n) = ((x / 2 ^ n : Nat) : Int) := by simp
  have e2 : ((x : Int) * 2 ^ (32 - n)) = ((x * 2 ^ (32 - n) : Nat) : Int) := by simp
  have e3 : wrap64 ((x * 2 ^ (32 - n) : Nat) : Int) = ((x * 2 ^ (32 - n) : Nat) : Int) := IntWalk.wrap64_in _ (by omega)
  have hd : x / 2 ^ n < 4294967296 := Nat.lt_of_le_of_lt (Nat.div_le_self _ _) hx
  have ho : x / 2 ^ n ||| x * 2 ^ (32 - n) < 2 ^ 63 := Nat.or_lt_two_pow (by omega) (by omega)
  rw [e1, e2, e3, i64_or_nat _ _ (by omega) (by omega), i64_low32 _ (by omega)]
  rfl
theorem rot_u32 (x n : Nat) (hx : x < 4294967296) : bits .or .u32 ((x : Int) * 2 ^ (32 - n) % 4294967296) ((x : Int) / 2 ^ n) = ((rotr x n : Nat) : Int) := by
  have e1 : ((x : Int) / 2 ^ n) = ((x / 2 ^ n : Nat) : Int) := by simp
  have e2 : ((x : Int) * 2 ^ (32 - n) % 4294967296) = ((x * 2 ^ (32 - n) % 4294967296 : Nat) : Int) := by simp
  have hd : x / 2 ^ n < 4294967296 := Nat.lt_of_le_of_lt (Nat.div_le_self _ _) hx
  rw [e1, e2, u32_or_nat _ _ (Nat.mod_lt _ (by decide)) hd]
  unfold rotr
  have h32 : (4294967296 : Nat) = 2 ^ 32 := by decide
  rw [h32, Nat.or_mod_two_pow, Nat.mod_eq_of_lt (a := x / 2 ^ n) (by omega), Nat.or_comm]
theorem neg31 (n : Nat) (h1 : 1 ≤ n) (h2 : n ≤ 31) : bits .and .u64 (IntKind.u64.wrap (-(n : Int))) 31 = ((32 - n : Nat) : Int) := by
  have e : IntKind.u64.wrap (-(n : Int)) = ((18446744073709551616 - n : Nat) : Int) := by
    simp [IntKind.wrap, IntKind.bits, IntKind.signed]
    omega
  have h := u64_and_nat (18446744073709551616 - n) 31 (by omega) (by decide)
  rw [show (18446744073709551616 - n) &&& 31 = (18446744073709551616 - n) % 32 from Nat.and_two_pow_sub_one_eq_mod _ 5] at h
  rw [e, show ((31 : Int)) = ((31 : Nat) : Int) from rfl, h]
  omega
end Go.Proofs.YtemhhjkmolndbaaDoor
