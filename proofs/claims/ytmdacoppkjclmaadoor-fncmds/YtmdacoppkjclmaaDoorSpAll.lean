/- The model's digest of a string of bytes: what it gives; seven texts in one. -/
import Derived.PlainAid
import Derived.Laws.BitsAllLaws
import Derived.IntWalk
import Derived.Test.YtmdacoppkjclmaaDoorMath
import Derived.Test.YtmdacoppkjclmaaDoorBytes
import Derived.StillTail
import Derived.BigQuiet
import Derived.Deep.WholeRow
import Derived.Test.YtmdacoppkjclmaaDoorRows
import Derived.WalkKit
import Derived.WalkSpells
import Derived.WalkLawsBesides
import Derived.Lib.Hide
import Derived.Test.YtmdacoppkjclmaaDoorIntG
import Derived.Deep.RegionLaw
import Derived.Deep.RegionHeld3
import Derived.Laws.OwnMore
/- Plain facts on SHA-256's numbers: nothing of the program is used here. -/
namespace Go.Proofs.YtmdacoppkjclmaaDoor
open Go.PlainAid
open Go.RowKit (wrap64)

/-- A word turned to the right. -/
def rotr (x n : Nat) : Nat := (x / 2 ^ n ||| x * 2 ^ (32 - n)) % 4294967296
def sg0 (x : Nat) : Nat := (rotr x 7 ^^^ rotr x 18) ^^^ x / 8
def sg1 (x : Nat) : Nat := (rotr x 17 ^^^ rotr x 19) ^^^ x / 1024
def bg0 (x : Nat) : Nat := (rotr x 2 ^^^ rotr x 13) ^^^ rotr x 22
def bg1 (x : Nat) : Nat := (rotr x 6 ^^^ rotr x 11) ^^^ rotr x 25
def chN (e f g : Nat) : Nat := (e &&& f) ^^^ ((4294967295 - e) &&& g)
def mjN (a b c : Nat) : Nat := ((a &&& b) ^^^ (a &&& c)) ^^^ (b &&& c)
def keysL : List Nat := [1116352408, 1899447441, 3049323471, 3921009573, 961987163, 1508970993, 2453635748, 2870763221, 3624381080, 310598401, 607225278, 1426881987, 1925078388, 2162078206, 2614888103, 3248222580, 3835390401, 4022224774, 264347078, 604807628, 770255983, 1249150122, 1555081692, 1996064986, 2554220882, 2821834349, 2952996808, 3210313671, 3336571891, 3584528711, 113926993, 338241895, 666307205, 773529912, 1294757372, 1396182291, 1695183700, 1986661051, 2177026350, 2456956037, 2730485921, 2820302411, 3259730800, 3345764771, 3516065817, 3600352804, 4094571909, 275423344, 430227734, 506948616, 659060556, 883997877, 958139571, 1322822218, 1537002063, 1747873779, 1955562222, 2024104815, 2227730452, 2361852424, 2428436474, 2756734187, 3204031479, 3329325298]
def startL : List Nat := [1779033703, 3144134277, 1013904242, 2773480762, 1359893119, 2600822924, 528734635, 1541459225]
@[irreducible] def keyN (i : Nat) : Nat := keysL.getD i 0
/-- The number of the first m bytes from o on. -/
def bpart (β : Nat → Nat) (o : Nat) : Nat → Nat
  | 0 => 0
  | m + 1 => bpart β o m * 256 + β (o + m)
/-- The first k words of a block's schedule. -/
def wl (β : Nat → Nat) : Nat → List Nat
  | 0 => []
  | k + 1 => wl β k ++ [if k < 16 then bpart β (4 * k) 4 else
      ((wl β k).getD (k - 16) 0 + (wl β k).getD (k - 7) 0 + sg0 ((wl β k).getD (k - 15) 0) + sg1 ((wl β k).getD (k - 2) 0)) % 4294967296]
@[irreducible] def schW (β : Nat → Nat) (j : Nat) : Nat := (wl β 64).getD j 0
/-- Eight words. -/
structure Reg where
  a : Nat
  b : Nat
  c : Nat
  d : Nat
  e : Nat
  f : Nat
  g : Nat
  h : Nat
def Reg.at (s : Reg) : Nat → Nat
  | 0 => s.a
  | 1 => s.b
  | 2 => s.c
  | 3 => s.d
  | 4 => s.e
  | 5 => s.f
  | 6 => s.g
  | 7 => s.h
  | _ + 8 => 0
def Reg.fit (s : Reg) : Prop := s.a < 4294967296 ∧ s.b < 4294967296 ∧ s.c < 4294967296 ∧ s.d < 4294967296 ∧ s.e < 4294967296 ∧ s.f < 4294967296 ∧ s.g < 4294967296 ∧ s.h < 4294967296
/-- One round. -/
def rnd (k w : Nat) (s : Reg) : Reg :=
  let t := s.h + bg1 s.e + chN s.e s.f s.g + k + w
  ⟨(t + (bg0 s.a + mjN s.a s.b s.c)) % 4294967296, s.a, s.b, s.c, (s.d + t) % 4294967296, s.e, s.f, s.g⟩
theorem rnd_mk (k w A B C D E F G H : Nat) : rnd k w ⟨A, B, C, D, E, F, G, H⟩ = ⟨((H + bg1 E + chN E F G + k + w) + (bg0 A + mjN A B C)) % 4294967296, A, B, C, (D + (H + bg1 E + chN E F G + k + w)) % 4294967296, E, F, G⟩ := rfl
def rndsR (W : Nat → Nat) (s : Reg) : Nat → Reg
  | 0 => s
  | i + 1 => rnd (keyN i) (W i) (rndsR W s i)
@[irreducible] def rnds (W : Nat → Nat) (s : Reg) (i : Nat) : Reg := rndsR W s i
theorem rnds_zero (W : Nat → Nat) (s : Reg) : rnds W s 0 = s := by unfold rnds; rfl
theorem rnds_succ (W : Nat → Nat) (s : Reg) (i : Nat) : rnds W s (i + 1) = rnd (keyN i) (W i) (rnds W s i) := by unfold rnds; rfl
def Reg.plus (s r : Reg) : Reg := ⟨(s.a + r.a) % 4294967296, (s.b + r.b) % 4294967296, (s.c + r.c) % 4294967296, (s.d + r.d) % 4294967296, (s.e + r.e) % 4294967296, (s.f + r.f) % 4294967296, (s.g + r.g) % 4294967296, (s.h + r.h) % 4294967296⟩
@[irreducible] def blk (s : Reg) (β : Nat → Nat) : Reg := s.plus (rnds (schW β) s 64)
/-- The state behind k blocks of the bytes β. -/
def hshR (s : Reg) (β : Nat → Nat) : Nat → Reg
  | 0 => s
  | k + 1 => blk (hshR s β k) (fun j => β (64 * k + j))
@[irreducible] def hsh (s : Reg) (β : Nat → Nat) (k : Nat) : Reg := hshR s β k
theorem hsh_zero (s : Reg) (β : Nat → Nat) : hsh s β 0 = s := by unfold hsh; rfl
theorem hsh_succ (s : Reg) (β : Nat → Nat) (k : Nat) : hsh s β (k + 1) = blk (hsh s β k) (fun j => β (64 * k + j)) := by unfold hsh; rfl
def st0 : Reg := ⟨1779033703, 3144134277, 1013904242, 2773480762, 1359893119, 2600822924, 528734635, 1541459225⟩
def btn (s : ByteArray) (j : Nat) : Nat := (bt s j).toNat
def wordL (x : Nat) : List Int := [(x : Int) / 16777216 % 256, (x : Int) / 65536 % 256, (x : Int) / 256 % 256, (x : Int) % 256]
/-- The digest's bytes of the first k words. -/
def digL (s : Reg) : Nat → List Int
  | 0 => []
  | k + 1 => digL s k ++ wordL (s.at k)

/-- A block's end: r bytes, a set bit, zeros, and the last m bytes of the length in bits. -/
def padF (β : Nat → Nat) (r L n m : Nat) : Nat → Nat := fun j => if j < r then β j else if j = r then 128 else if L ≤ j + m then 8 * n / 256 ^ (L - 1 - j) % 256 else 0
/-- The padded message's length. -/
def msgL (n : Nat) : Nat := (n + 72) / 64 * 64
/-- The eight words of a string's digest, and its bytes. -/
@[irreducible] def shaS (s : ByteArray) : Reg := hsh st0 (padF (btn s) s.size (msgL s.size) s.size 8) (msgL s.size / 64)

/-! ### words stay words -/
theorem rotr_lt (x n : Nat) : rotr x n < 4294967296 := Nat.mod_lt _ (by decide)
theorem xor_lt32 {a b : Nat} (ha : a < 4294967296) (hb : b < 4294967296) : a ^^^ b < 4294967296 := Nat.xor_lt_two_pow (n := 32) ha hb
theorem and_lt32 {a : Nat} (b : Nat) (ha : a < 4294967296) : a &&& b < 4294967296 := Nat.lt_of_le_of_lt Nat.and_le_left ha
theorem sg0_lt (x : Nat) (h : x < 4294967296) : sg0 x < 4294967296 := xor_lt32 (xor_lt32 (rotr_lt _ _) (rotr_lt _ _)) (by omega)
theorem sg1_lt (x : Nat) (h : x < 4294967296) : sg1 x < 4294967296 := xor_lt32 (xor_lt32 (rotr_lt _ _) (rotr_lt _ _)) (by omega)
theorem bg0_lt (x : Nat) : bg0 x < 4294967296 := xor_lt32 (xor_lt32 (rotr_lt _ _) (rotr_lt _ _)) (rotr_lt _ _)
theorem bg1_lt (x : Nat) : bg1 x < 4294967296 := xor_lt32 (xor_lt32 (rotr_lt _ _) (rotr_lt _ _)) (rotr_lt _ _)
theorem chN_lt (e f g : Nat) (h : e < 4294967296) : chN e f g < 4294967296 := xor_lt32 (and_lt32 _ h) (and_lt32 _ (by omega))
theorem mjN_lt (a b c : Nat) (ha : a < 4294967296) (hb : b < 4294967296) : mjN a b c < 4294967296 := xor_lt32 (xor_lt32 (and_lt32 _ ha) (and_lt32 _ ha)) (and_lt32 _ hb)
theorem keyN_lt (i : Nat) : keyN i < 4294967296 := by
  unfold keyN
  by_cases h : i < 64
  · have : ∀ j : Fin 64, keysL.getD j.val 0 < 4294967296 := by decide
    exact this ⟨i, h⟩
  · rw [List.getD_eq_getElem?_getD, List.getElem?_eq_none (by simp [keysL]; omega)]
    decide
theorem rnd_fit (k w : Nat) (s : Reg) (h : s.fit) : (rnd k w s).fit := by
  obtain ⟨ha, hb, hc, hd, he, hf, hg, hh⟩ := h
  exact ⟨Nat.mod_lt _ (by decide), ha, hb, hc, Nat.mod_lt _ (by decide), he, hf, hg⟩
theorem rnds_fit (W : Nat → Nat) (s : Reg) (h : s.fit) (i : Nat) : (rnds W s i).fit := by
  induction i with
  | zero => rw [rnds_zero]; exact h
  | succ i ih => rw [rnds_succ]; exact rnd_fit _ _ _ ih
theorem plus_fit (s r : Reg) : (s.plus r).fit := ⟨Nat.mod_lt _ (by decide), Nat.mod_lt _ (by decide), Nat.mod_lt _ (by decide), Nat.mod_lt _ (by decide), Nat.mod_lt _ (by decide), Nat.mod_lt _ (by decide), Nat.mod_lt _ (by decide), Nat.mod_lt _ (by decide)⟩
theorem hsh_fit (s : Reg) (h : s.fit) (β : Nat → Nat) (k : Nat) : (hsh s β k).fit := by
  cases k with
  | zero => rw [hsh_zero]; exact h
  | succ k => rw [hsh_succ, blk]; exact plus_fit _ _
theorem st0_fit : st0.fit := by unfold Reg.fit st0; decide
theorem Reg.at_lt (s : Reg) (h : s.fit) (i : Nat) : s.at i < 4294967296 := by
  obtain ⟨ha, hb, hc, hd, he, hf, hg, hh⟩ := h
  match i with
  | 0 => exact ha
  | 1 => exact hb
  | 2 => exact hc
  | 3 => exact hd
  | 4 => exact he
  | 5 => exact hf
  | 6 => exact hg
  | 7 => exact hh
  | _ + 8 => exact (by decide : (0 : Nat) < 4294967296)
theorem plus_at (s r : Reg) (i : Nat) (h : i < 8) : (s.plus r).at i = (s.at i + r.at i) % 4294967296 := by
  match i, h with
  | 0, _ => rfl
  | 1, _ => rfl
  | 2, _ => rfl
  | 3, _ => rfl
  | 4, _ => rfl
  | 5, _ => rfl
  | 6, _ => rfl
  | 7, _ => rfl
theorem btn_lt (s : ByteArray) (j : Nat) : btn s j < 256 := by
  have := bt_le s j
  have := bt_nonneg s j
  unfold btn
  omega
theorem btn_cast (s : ByteArray) (j : Nat) : ((btn s j : Nat) : Int) = bt s j := by
  have := bt_nonneg s j
  unfold btn
  omega
theorem bpart_lt (β : Nat → Nat) (h : ∀ j, β j < 256) (o : Nat) : bpart β o 4 < 4294967296 ∧ bpart β o 3 < 16777216 ∧ bpart β o 2 < 65536 ∧ bpart β o 1 < 256 := by
  have h0 := h (o + 0); have h1 := h (o + 1); have h2 := h (o + 2); have h3 := h (o + 3)
  simp only [bpart]
  omega

/-! ### the schedule -/
theorem wl_length (β : Nat → Nat) (k : Nat) : (wl β k).length = k := by
  induction k with
  | zero => rfl
  | succ k ih => simp [wl, ih]
theorem wl_stays (β : Nat → Nat) (j k m : Nat) (h : j < k) : (wl β (k + m)).getD j 0 = (wl β k).getD j 0 := by
  induction m with
  | zero => rfl
  | succ m ih =>
    rw [← ih]
    show (wl β (k + m) ++ _).getD j 0 = _
    rw [List.getD_eq_getElem?_getD, List.getElem?_append_left (by rw [wl_length]; omega), ← List.getD_eq_getElem?_getD]
theorem wl_get (β : Nat → Nat) (j k : Nat) (h : j < k) (hk : k ≤ 64) : (wl β k).getD j 0 = schW β j := by
  unfold schW
  have := wl_stays β j k (64 - k) h
  rw [show k + (64 - k) = 64 by omega] at this
  exact this.symm
theorem wl_last (β : Nat → Nat) (k : Nat) (x : Nat) : (wl β k ++ [x]).getD k 0 = x := by
  rw [List.getD_eq_getElem?_getD, List.getElem?_append_right (by rw [wl_length]; omega), wl_length, Nat.sub_self]
  rfl
theorem schW_low (β : Nat → Nat) (k : Nat) (h : k < 16) : schW β k = bpart β (4 * k) 4 := by
  rw [← wl_get β k (k + 1) (by omega) (by omega), wl, wl_last, if_pos h]
theorem schW_high (β : Nat → Nat) (k : Nat) (h1 : 16 ≤ k) (h2 : k < 64) :
    schW β k = (schW β (k - 16) + schW β (k - 7) + sg0 (schW β (k - 15)) + sg1 (schW β (k - 2))) % 4294967296 := by
  rw [← wl_get β k (k + 1) (by omega) (by omega), wl, wl_last, if_neg (by omega)]
  rw [wl_get β (k - 16) k (by omega) (by omega), wl_get β (k - 7) k (by omega) (by omega), wl_get β (k - 15) k (by omega) (by omega), wl_get β (k - 2) k (by omega) (by omega)]
theorem schW_lt (β : Nat → Nat) (h : ∀ j, β j < 256) (k : Nat) : schW β k < 4294967296 := by
  by_cases h1 : k < 16
  · rw [schW_low β k h1]; exact (bpart_lt β h _).1
  · by_cases h2 : k < 64
    · rw [schW_high β k (by omega) h2]; exact Nat.mod_lt _ (by decide)
    · unfold schW
      rw [List.getD_eq_getElem?_getD, List.getElem?_eq_none (by rw [wl_length]; omega)]
      decide
theorem bpart_congr (β γ : Nat → Nat) (o : Nat) (m : Nat) (h : ∀ j, j < m → β (o + j) = γ (o + j)) : bpart β o m = bpart γ o m := by
  induction m with
  | zero => rfl
  | succ m ih => simp only [bpart]; rw [ih (fun j hj => h j (by omega)), h m (by omega)]
theorem wl_congr (β γ : Nat → Nat) (h : ∀ j, j < 64 → β j = γ j) (k : Nat) : wl β k = wl γ k := by
  induction k with
  | zero => rfl
  | succ k ih =>
    rw [wl, wl, ih]
    by_cases hk : k < 16
    · rw [if_pos hk, if_pos hk, bpart_congr β γ _ _ (fun j hj => h _ (by omega))]
    · rw [if_neg hk, if_neg hk]
theorem schW_congr (β γ : Nat → Nat) (h : ∀ j, j < 64 → β j = γ j) : schW β = schW γ := by
  funext j
  unfold schW
  rw [wl_congr β γ h]
theorem blk_congr (s : Reg) (β γ : Nat → Nat) (h : ∀ j, j < 64 → β j = γ j) : blk s β = blk s γ := by
  unfold blk
  rw [schW_congr β γ h]
theorem hsh_congr (s : Reg) (β γ : Nat → Nat) (k : Nat) (h : ∀ j, j < 64 * k → β j = γ j) : hsh s β k = hsh s γ k := by
  induction k with
  | zero => rw [hsh_zero, hsh_zero]
  | succ k ih =>
    rw [hsh_succ, hsh_succ, ih (fun j hj => h j (by omega))]
    exact blk_congr _ _ _ (fun j hj => h _ (by omega))
theorem hsh_add (s : Reg) (β : Nat → Nat) (k m : Nat) : hsh s β (k + m) = hsh (hsh s β k) (fun j => β (64 * k + j)) m := by
  induction m with
  | zero => rw [Nat.add_zero, hsh_zero]
  | succ m ih =>
    rw [← Nat.add_assoc, hsh_succ, hsh_succ, ih]
    apply blk_congr
    intro j _
    rw [show 64 * (k + m) + j = 64 * k + (64 * m + j) by omega]

theorem shaS_fit (s : ByteArray) : (shaS s).fit := by rw [shaS]; exact hsh_fit _ st0_fit _ _
theorem padF_lt (β : Nat → Nat) (h : ∀ j, β j < 256) (r L n m j : Nat) : padF β r L n m j < 256 := by
  unfold padF
  split
  · exact h j
  · split
    · decide
    · split
      · exact Nat.mod_lt _ (by decide)
      · decide
theorem wordL_length (x : Nat) : (wordL x).length = 4 := rfl
theorem digL_length (s : Reg) (k : Nat) : (digL s k).length = 4 * k := by
  induction k with
  | zero => rfl
  | succ k ih => rw [digL, List.length_append, ih, wordL_length]; omega

/-! ### the machine's operations -/
theorem i64_and_nat (a b : Nat) (ha : a < 9223372036854775808) (hb : b < 9223372036854775808) : bits .and .i64 (a : Int) (b : Int) = ((a &&& b : Nat) : Int) := by
  have hx : a &&& b < 2 ^ 63 := Nat.and_lt_two_pow _ (by omega)
  show IntKind.i64.wrap ((BitVec.ofInt 64 (a : Int) &&& BitVec.ofInt 64 (b : Int)).toNat : Int) = _
  rw [BitVec.toNat_and, ofInt_u64 a (by omega), ofInt_u64 b (by omega)]
  exact IntWalk.i64_in _ (by omega)
theorem i64_xor_nat (a b : Nat) (ha : a < 9223372036854775808) (hb : b < 9223372036854775808) : bits .xor .i64 (a : Int) (b : Int) = ((a ^^^ b : Nat) : Int) := by
  have hx : a ^^^ b < 2 ^ 63 := Nat.xor_lt_two_pow (by omega) (by omega)
  show IntKind.i64.wrap ((BitVec.ofInt 64 (a : Int) ^^^ BitVec.ofInt 64 (b : Int)).toNat : Int) = _
  rw [BitVec.toNat_xor, ofInt_u64 a (by omega), ofInt_u64 b (by omega)]
  exact IntWalk.i64_in _ (by omega)
theorem i64_low32 (a : Nat) (ha : a < 9223372036854775808) : bits .and .i64 (a : Int) 4294967295 = ((a % 4294967296 : Nat) : Int) := by
  have h := i64_and_nat a 4294967295 ha (by decide)
  rw [show a &&& 4294967295 = a % 4294967296 from Nat.and_two_pow_sub_one_eq_mod a 32] at h
  exact h
theorem i64_low8 (a : Nat) (ha : a < 9223372036854775808) : bits .and .i64 (a : Int) 255 = ((a % 256 : Nat) : Int) := by
  have h := i64_and_nat a 255 ha (by decide)
  rw [show a &&& 255 = a % 256 from Nat.and_two_pow_sub_one_eq_mod a 8] at h
  exact h
/-- The complement's low 32 bits. -/
theorem i64_not32 (a : Nat) (ha : a < 4294967296) : bits .and .i64 (-(a : Int) - 1) 4294967295 = ((4294967295 - a : Nat) : Int) := by
  show IntKind.i64.wrap ((BitVec.ofInt 64 (-(a : Int) - 1) &&& BitVec.ofInt 64 (4294967295 : Int)).toNat : Int) = _
  have e1 : (BitVec.ofInt 64 (-(a : Int) - 1)).toNat = 18446744073709551615 - a := by
    rw [BitVec.toNat_ofInt]
    omega
  have e2 : (BitVec.ofInt 64 (4294967295 : Int)).toNat = 2 ^ 32 - 1 := by decide
  rw [BitVec.toNat_and, e1, e2, Nat.and_two_pow_sub_one_eq_mod, show (18446744073709551615 - a) % 2 ^ 32 = 4294967295 - a by omega]
  exact IntWalk.i64_in _ (by omega)
theorem not32 (a : Nat) (ha : a < 4294967296) : 4294967295 ^^^ a = 4294967295 - a := by
  apply Nat.eq_of_testBit_eq
  intro i
  have h1 := Nat.testBit_two_pow_sub_succ (n := 32) (x := a) (by omega) i
  rw [show 2 ^ 32 - (a + 1) = 4294967295 - a by omega] at h1
  rw [h1, Nat.testBit_xor, show (4294967295 : Nat) = 2 ^ 32 - 1 by decide, Nat.testBit_two_pow_sub_one]
  by_cases hi : i < 32
  · simp [hi]
  · have : a.testBit i = false := Nat.testBit_lt_two_pow (Nat.lt_of_lt_of_le (show a < 2 ^ 32 by omega) (Nat.pow_le_pow_right (by decide) (by omega)))
    simp [hi, this]
theorem u32_not (a : Nat) (ha : a < 4294967296) : bits .xor .u32 IntKind.u32.max (a : Int) = ((4294967295 - a : Nat) : Int) := by
  have h := u32_xor_nat 4294967295 a (by decide) ha
  rw [not32 a ha] at h
  exact h
theorem pow_gap (n : Nat) (h1 : 2 ≤ n) : 2 ^ (32 - n) ≤ 1073741824 := by
  have := Nat.pow_le_pow_right (n := 2) (by decide) (show 32 - n ≤ 30 by omega)
  omega
theorem rot_wide (x n : Nat) (hx : x < 4294967296) (h1 : 2 ≤ n) : x * 2 ^ (32 - n) < 4611686018427387904 := by
  have h := pow_gap n h1
  have h2 : x * 2 ^ (32 - n) ≤ x * 1073741824 := Nat.mul_le_mul_left x h
  omega
theorem rot_i64 (x n : Nat) (hx : x < 4294967296) (h1 : 2 ≤ n) :
    bits .and .i64 (bits .or .i64 ((x : Int) / 2 ^ n) (wrap64 ((x : Int) * 2 ^ (32 - n)))) 4294967295 = ((rotr x n : Nat) : Int) := by
  have hw := rot_wide x n hx h1
  have e1 : ((x : Int) / 2 ^ n) = ((x / 2 ^ n : Nat) : Int) := by simp
  have e2 : ((x : Int) * 2 ^ (32 - n)) = ((x * 2 ^ (32 - n) : Nat) : Int) := by simp
  have e3 : wrap64 ((x * 2 ^ (32 - n) : Nat) : Int) = ((x * 2 ^ (32 - n) : Nat) : Int) := IntWalk.wrap64_in _ (by omega)
  have hd : x / 2 ^ n < 4294967296 := Nat.lt_of_le_of_lt (Nat.div_le_self _ _) hx
  have ho : x / 2 ^ n ||| x * 2 ^ (32 - n) < 2 ^ 63 := Nat.or_lt_two_pow (by omega) (by omega)
  rw [e1, e2, e3, i64_or_nat _ _ (by omega) (by omega), i64_low32 _ (by omega)]
  rfl
theorem rot_u32 (x n : Nat) (hx : x < 4294967296) : bits .or .u32 ((x : Int) * 2 ^ (32 - n) % 4294967296) ((x : Int) / 2 ^ n) = ((rotr x n : Nat) : Int) := by
  have e1 : ((x : Int) / 2 ^ n) = ((x / 2 ^ n : Nat) : Int) := by simp
  have e2 : ((x : Int) * 2 ^ (32 - n) % 4294967296) = ((x * 2 ^ (32 - n) % 4294967296 : Nat) : Int) := by simp
  have hd : x / 2 ^ n < 4294967296 := Nat.lt_of_le_of_lt (Nat.div_le_self _ _) hx
  rw [e1, e2, u32_or_nat _ _ (Nat.mod_lt _ (by decide)) hd]
  unfold rotr
  have h32 : (4294967296 : Nat) = 2 ^ 32 := by decide
  rw [h32, Nat.or_mod_two_pow, Nat.mod_eq_of_lt (a := x / 2 ^ n) (by omega), Nat.or_comm]
theorem neg31 (n : Nat) (h1 : 1 ≤ n) (h2 : n ≤ 31) : bits .and .u64 (IntKind.u64.wrap (-(n : Int))) 31 = ((32 - n : Nat) : Int) := by
  have e : IntKind.u64.wrap (-(n : Int)) = ((18446744073709551616 - n : Nat) : Int) := by
    simp [IntKind.wrap, IntKind.bits, IntKind.signed]
    omega
  have h := u64_and_nat (18446744073709551616 - n) 31 (by omega) (by decide)
  rw [show (18446744073709551616 - n) &&& 31 = (18446744073709551616 - n) % 32 from Nat.and_two_pow_sub_one_eq_mod _ 5] at h
  rw [e, show ((31 : Int)) = ((31 : Nat) : Int) from rfl, h]
  omega
end Go.Proofs.YtmdacoppkjclmaaDoor
/- Rows of words in memory, and a region that reads till its end and then writes. -/
namespace Go.Proofs.YtmdacoppkjclmaaDoor
open Go.RowKit Go.PlainAid
set_option linter.unusedVariables false

/-! ### a region whose operations read, up to a forced tail -/
section
variable {P : Program} {ops : Array Oper} {w : World}
theorem still_of_quiet {o : Oper} {a : Act} {K : Act → Prop} (h : o.quiet P a (fun w' => w' = w) K) : o.still P a w K := by
  obtain ⟨v, h1, h2⟩ := h
  have h3 := h1 w rfl
  unfold Oper.quietAt at h3
  unfold Oper.still
  generalize (execOp a.eval o).run P w = r at *
  cases r with
  | ok n w' =>
    cases n <;> simp only [Oper.quietUpon] at h3 <;> simp only [Oper.stillUpon]
    case value u => exact ⟨h3.1, by rw [h3.2]; exact h2⟩
    case skip => exact ⟨h3.1, by rw [← h3.2]; exact h2⟩
    case enter f args => exact ⟨h3.1, v, h3.2, h2⟩
  | halt x w' => simp only [Oper.quietUpon] at h3
theorem wpStill_of_quiet {Q : Act → Prop} : ∀ (l : List Oper) (a : Act), wpQuiet P ops (fun w' => w' = w) Q l a → wpStill P ops w Q l a
  | [], a, h => h
  | o :: rest, a, h => by
    unfold wpQuiet at h
    unfold wpStill
    split
    · rename_i hw
      rw [if_pos hw] at h
      exact still_of_quiet (Oper.quiet_mono (fun a' h' => wpStill_of_quiet rest a' h') h)
    · rename_i hw
      rw [if_neg hw] at h
      exact wpStill_of_quiet rest _ h
theorem wp_region_quiet_tail {id : Nat} {Q : Exit → Act → World → Prop} {a : Act} {w : World} {l : List Oper} (n : Nat) (hm : P.follows .mixedOrders = true) (hB : Region.lexTailB .any l.toArray n = true)
    (h : wpQuiet P l.toArray (fun w' => w' = w.drew) (fun a' => wpList P l.toArray Q (l.drop n) a' w.drew) (l.take n) a) : (Code.region id l.toArray true).wp P Q a w :=
  wp_region_still_tail n hm hB (wpStill_of_quiet _ _ h)
end

/-! ### rows of integers -/
def rowC (k : IntKind) (n : Nat) (f : Nat → Nat) : Array Value := ((List.range n).map fun j => Value.int k (f j)).toArray
/-- Block g is a row of n integers: f. -/
def Row (w : World) (g : Nat) (k : IntKind) (t : TypeId) (n : Nat) (f : Nat → Nat) : Prop := w.heap[g]? = some (.cells (rowC k n f) t (0, 0))
def upd (f : Nat → Nat) (j v : Nat) : Nat → Nat := fun i => if i = j then v else f i
theorem upd_same (f : Nat → Nat) (j v : Nat) : upd f j v j = v := by simp [upd]
theorem upd_other (f : Nat → Nat) (j v i : Nat) (h : i ≠ j) : upd f j v i = f i := by simp [upd, h]
theorem rowC_size (k : IntKind) (n : Nat) (f : Nat → Nat) : (rowC k n f).size = n := by simp [rowC]
theorem rowC_get (k : IntKind) (n : Nat) (f : Nat → Nat) (j : Nat) (h : j < n) : (rowC k n f)[j]? = some (.int k (f j)) := by simp [rowC, h]
theorem rowC_one (k : IntKind) (n : Nat) (f : Nat → Nat) : (rowC k n f).all (·.oneCell') = true := by
  rw [Array.all_eq_true_iff_forall_mem]
  intro v hv
  simp only [rowC, List.mem_toArray, List.mem_map] at hv
  obtain ⟨j, _, rfl⟩ := hv
  rfl
theorem rowC_congr (k : IntKind) (n : Nat) (f g : Nat → Nat) (h : ∀ j, j < n → f j = g j) : rowC k n f = rowC k n g := by
  unfold rowC
  congr 1
  apply List.map_congr_left
  intro j hj
  rw [h j (List.mem_range.1 hj)]
theorem rowC_set (k : IntKind) (n : Nat) (f : Nat → Nat) (j v : Nat) : (rowC k n f).setIfInBounds j (.int k v) = rowC k n (upd f j v) := by
  apply Array.ext_getElem?
  intro i
  rw [Array.getElem?_setIfInBounds]
  by_cases hi : i < n
  · rw [rowC_get _ _ _ _ hi]
    by_cases e : j = i
    · subst e; rw [if_pos rfl, if_pos (by rw [rowC_size]; exact hi), rowC_get _ _ _ _ hi, upd_same]
    · rw [if_neg e, rowC_get _ _ _ _ hi, upd_other _ _ _ _ (fun h => e h.symm)]
  · rw [Array.getElem?_eq_none (by rw [rowC_size]; omega)]
    by_cases e : j = i
    · subst e; simp [rowC_size, hi]
    · rw [if_neg e, Array.getElem?_eq_none (by rw [rowC_size]; omega)]
theorem Row.congr {w : World} {g n : Nat} {k : IntKind} {t : TypeId} {f f' : Nat → Nat} (h : Row w g k t n f) (e : ∀ j, j < n → f j = f' j) : Row w g k t n f' := by
  unfold Row at *
  rw [h, rowC_congr k n f f' e]
theorem Row.lt {w : World} {g n : Nat} {k : IntKind} {t : TypeId} {f : Nat → Nat} (h : Row w g k t n f) : g < w.heap.size := (Array.getElem?_eq_some_iff.1 h).1
theorem Row.cell {w : World} {g n : Nat} {k : IntKind} {t : TypeId} {f : Nat → Nat} (h : Row w g k t n f) (j : Nat) (hj : j < n) : w.cell? ⟨g, j, none⟩ = some (.int k (f j)) := by
  rw [cell_of_row w g j _ t (0, 0) h, rowC_get _ _ _ _ hj]
theorem Row.frozen {w : World} {g n : Nat} {k : IntKind} {t : TypeId} {f : Nat → Nat} (h : Row w g k t n f) (j : Nat) : w.frozen? ⟨g, j, none⟩ = false := frozen_of_row w g j _ t h
theorem Row.set {w : World} {g n : Nat} {k : IntKind} {t : TypeId} {f : Nat → Nat} (h : Row w g k t n f) (j v : Nat) : Row (w.setCell ⟨g, j, none⟩ (.int k v)) g k t n (upd f j v) := by
  unfold Row
  rw [setCell_eq_setRow w g j _ t _ _ h, setRow_heap w g _ _ t _ h, rowC_set]
theorem Row.set_eq {w : World} {g n : Nat} {k : IntKind} {t : TypeId} {f : Nat → Nat} (h : Row w g k t n f) (j v : Nat) (z : Int) (hz : z = (v : Int)) : Row (w.setCell ⟨g, j, none⟩ (.int k z)) g k t n (upd f j v) := by
  rw [hz]
  exact h.set j v
theorem Row.set_other {w : World} {g n : Nat} {k : IntKind} {t : TypeId} {f : Nat → Nat} (h : Row w g k t n f) (a : Addr) (v : Value) (hg : g ≠ a.block) : Row (w.setCell a v) g k t n f := by
  unfold Row
  rw [heap_setCell_other w a g v hg]
  exact h
theorem Row.alloc {w : World} {g n : Nat} {k : IntKind} {t : TypeId} {f : Nat → Nat} (h : Row w g k t n f) (o : Obj) : Row (w.alloc o) g k t n f := by
  unfold Row
  rw [Go.heap_alloc_old w o h.lt]
  exact h
theorem Row.new (w : World) (k : IntKind) (t : TypeId) (n : Nat) (f : Nat → Nat) : Row (w.alloc (.cells (rowC k n f) t)) w.heap.size k t n f := heap_alloc_new w _
theorem Row.made (w : World) (k : IntKind) (t : TypeId) (n : Nat) (f : Nat → Nat) (c : Array Value) (h : c = rowC k n f) (g : Nat) (hg : w.heap.size = g) : Row (w.alloc (.cells c t)) g k t n f := by
  subst hg
  rw [h]
  exact Row.new w k t n f
theorem Row.drew {w : World} {g n : Nat} {k : IntKind} {t : TypeId} {f : Nat → Nat} (h : Row w g k t n f) : Row w.drew g k t n f := h
theorem Row.drewN {w : World} {g n : Nat} {k : IntKind} {t : TypeId} {f : Nat → Nat} (h : Row w g k t n f) (m : Nat) : Row (w.drewN m) g k t n f := h
theorem Row.later {w w' : World} {g n B : Nat} {k : IntKind} {t : TypeId} {f : Nat → Nat} (h : Row w g k t n f) (hb : Below B w w') (hg : g < B) : Row w' g k t n f := by
  unfold Row
  rw [hb.block g hg]
  exact h
theorem Row.setRow {w : World} {g n : Nat} {k : IntKind} {t : TypeId} {f : Nat → Nat} (h : Row w g k t n f) (f' : Nat → Nat) : Row (w.setRow g (rowC k n f')) g k t n f' := setRow_heap w g _ _ t _ h
theorem Row.setRow_other {w : World} {g n : Nat} {k : IntKind} {t : TypeId} {f : Nat → Nat} (h : Row w g k t n f) (g' : Nat) (c : Array Value) (hg : g ≠ g') : Row (w.setRow g' c) g k t n f := by
  unfold Row
  rw [Go.setRow_other w g' g c hg]
  exact h
/-! ### a whole row out of memory and into it -/
theorem Row.load {w : World} {g n : Nat} {k : IntKind} {t : TypeId} {f : Nat → Nat} (h : Row w g k t n f) (ty e : TypeId) (hu : Tryd.prog.underlying ty = some (.array n e)) (hi : (Tryd.prog.info? ty).map (·.size) = some n) :
    (loadVar ty ⟨g, 0, none⟩).run Tryd.prog w = .ok (.agg (rowC k n f)) w :=
  run_loadVar_row w g t ty _ (0, 0) _ h hu rfl (by rw [rowC_size]; exact hi)
theorem Row.store {w : World} {g n : Nat} {k : IntKind} {t : TypeId} {f : Nat → Nat} (h : Row w g k t n f) (ty : TypeId) (hi : (Tryd.prog.info? ty).map (·.size) = some n) (f' : Nat → Nat) :
    (storeVar ty ⟨g, 0, none⟩ (.agg (rowC k n f'))).run Tryd.prog w = .ok () (w.setRow g (rowC k n f')) :=
  run_storeVar_row w g t ty _ _ h (by rw [rowC_size]; exact hi) (by rw [rowC_size, rowC_size]) (rowC_one k n f')
theorem below_drewN {B : Nat} {a w : World} (h : Below B a w) (m : Nat) : Below B a (w.drewN m) := ⟨h.os, h.tape, h.output, h.size, h.block⟩
theorem wp_load_all {w : World} {ops : Array Oper} {rest : List Oper} {o : Oper} {a : Act} {Q : Exit → Act → World → Prop} {g n : Nat} {f : Nat → Nat} {t : TypeId} (ty e : TypeId) (hr : Row w g .u32 t n f) (hu : Tryd.prog.underlying ty = some (.array n e)) (hi : (Tryd.prog.info? ty).map (·.size) = some n)
    (hgd : o.guard = none) (x : Operand) (ho : o.op = .load ty x) (hx : a.eval x = .pointer (some ⟨g, 0, none⟩)) (h : wpList Tryd.prog ops Q rest (a.put o.dst (.agg (rowC .u32 n f))) w) : wpList Tryd.prog ops Q (o :: rest) a w :=
  wpList_load_row hgd ty x ho g hx t _ (0, 0) _ hr hu rfl (by rw [rowC_size]; exact hi) h
theorem wp_store_all {w : World} {ops : Array Oper} {rest : List Oper} {o : Oper} {a : Act} {Q : Exit → Act → World → Prop} {g n : Nat} {f f' : Nat → Nat} {t : TypeId} (ty : TypeId) (hr : Row w g .u32 t n f) (hi : (Tryd.prog.info? ty).map (·.size) = some n)
    (hgd : o.guard = none) (x y : Operand) (ho : o.op = .store ty x y) (hx : a.eval x = .pointer (some ⟨g, 0, none⟩)) (hy : a.eval y = .agg (rowC .u32 n f')) (h : wpList Tryd.prog ops Q rest (a.put o.dst undef) (w.setRow g (rowC .u32 n f'))) : wpList Tryd.prog ops Q (o :: rest) a w :=
  wpList_store_row hgd ty x y ho g _ hx hy t _ hr (by rw [rowC_size]; exact hi) (by rw [rowC_size, rowC_size]) (rowC_one .u32 n f') h
theorem results_all {fn : Func} {p : Tmp} {ty e : TypeId} (h : fn.results = #[.cell p ty]) (tmps : Array Value) (w : World) (g n : Nat) (f : Nat → Nat) (t : TypeId) (hr : Row w g .u32 t n f)
    (hp : tmps.getD p undef = .pointer (some ⟨g, 0, none⟩)) (hu : Tryd.prog.underlying ty = some (.array n e)) (hi : (Tryd.prog.info? ty).map (·.size) = some n) :
    (results fn tmps).run Tryd.prog w = .ok (.agg (rowC .u32 n f)) w :=
  results_cell_row h tmps w g t _ (0, 0) _ hp hr hu rfl (by rw [rowC_size]; exact hi)
end Go.Proofs.YtmdacoppkjclmaaDoor
/- The two sides' turns of a word. -/
namespace Go.Proofs.YtmdacoppkjclmaaDoor
open Go.RowKit Go.PlainAid
set_option linter.unusedVariables false

theorem word_c (x : Nat) (w : World) (hx : x < 9223372036854775808) :
    Calls Tryd.prog 88 #[.int .i64 x] w fun e w' => e = .returned (.int .i64 (x % 4294967296 : Nat)) ∧ w = w' := by
  have e1 := i64_low32 x hx
  go_enter Tryd.func88, Tryd.ntmps88
  go_wp2
  go_ret
  exact ⟨rfl, rfl⟩
theorem not_c (x : Nat) (w : World) (hx : x < 4294967296) :
    Calls Tryd.prog 88 #[.int .i64 (-(x : Int) - 1)] w fun e w' => e = .returned (.int .i64 (4294967295 - x : Nat)) ∧ w = w' := by
  have e1 := i64_not32 x hx
  go_enter Tryd.func88, Tryd.ntmps88
  go_wp2
  go_ret
  exact ⟨rfl, rfl⟩
theorem right_c (x n : Nat) (w : World) (hx : x < 4294967296) (h1 : 2 ≤ n) (h2 : n ≤ 31) :
    Calls Tryd.prog 87 #[.int .i64 x, .int .u64 n] w fun e w' => e = .returned (.int .i64 (rotr x n : Nat)) ∧ w = w' := by
  have e1 := rot_i64 x n hx h1
  go_enter Tryd.func87, Tryd.ntmps87
  go_wp2
  go_ret
  exact ⟨rfl, rfl⟩
/-- A word turned to the right, the count a machine's number. -/
def rotz (x : Nat) (z : Int) : Nat := rotr x z.toNat
theorem rotz_lt (x : Nat) (z : Int) : rotz x z < 4294967296 := rotr_lt _ _
theorem right_z (x : Nat) (z : Int) (w : World) (hx : x < 4294967296) (h1 : 2 ≤ z) (h2 : z ≤ 31) :
    Calls Tryd.prog 87 #[.int .i64 x, .int .u64 z] w fun e w' => e = .returned (.int .i64 (rotz x z : Nat)) ∧ w' = w := by
  obtain ⟨n, rfl⟩ := Int.eq_ofNat_of_zero_le (show 0 ≤ z by omega)
  exact (right_c x n w hx (by omega) (by omega)).mono fun e w' ⟨h, h'⟩ => ⟨h, h'.symm⟩
theorem word_z (z : Int) (w : World) (h0 : 0 ≤ z) (hz : z < 9223372036854775808) :
    Calls Tryd.prog 88 #[.int .i64 z] w fun e w' => e = .returned (.int .i64 (z % 4294967296)) ∧ w' = w := by
  obtain ⟨x, rfl⟩ := Int.eq_ofNat_of_zero_le h0
  exact (word_c x w (by omega)).mono fun e w' ⟨h, h'⟩ => ⟨h, h'.symm⟩
theorem word_q (x : Nat) (w : World) (hx : x < 9223372036854775808) :
    Calls Tryd.prog 88 #[.int .i64 x] w fun e w' => e = .returned (.int .i64 (x % 4294967296 : Nat)) ∧ w' = w :=
  (word_c x w hx).mono fun e w' ⟨h, h'⟩ => ⟨h, h'.symm⟩
theorem not_q (x : Nat) (w : World) (hx : x < 4294967296) :
    Calls Tryd.prog 88 #[.int .i64 (-(x : Int) - 1)] w fun e w' => e = .returned (.int .i64 (4294967295 - x : Nat)) ∧ w' = w :=
  (not_c x w hx).mono fun e w' ⟨h, h'⟩ => ⟨h, h'.symm⟩
theorem right_q (x n : Nat) (w : World) (hx : x < 4294967296) (h1 : 2 ≤ n) (h2 : n ≤ 31) :
    Calls Tryd.prog 87 #[.int .i64 x, .int .u64 n] w fun e w' => e = .returned (.int .i64 (rotr x n : Nat)) ∧ w' = w :=
  (right_c x n w hx h1 h2).mono fun e w' ⟨h, h'⟩ => ⟨h, h'.symm⟩
end Go.Proofs.YtmdacoppkjclmaaDoor
/- Slices of ints that a call makes itself, and the model's table of keys. -/
namespace Go.Proofs.YtmdacoppkjclmaaDoor
open Go.RowKit Go.PlainAid
set_option linter.unusedVariables false

theorem not64 (a : Nat) (ha : a < 18446744073709551616) : 18446744073709551615 ^^^ a = 18446744073709551615 - a := by
  apply Nat.eq_of_testBit_eq
  intro i
  have h1 := Nat.testBit_two_pow_sub_succ (n := 64) (x := a) (by omega) i
  rw [show 2 ^ 64 - (a + 1) = 18446744073709551615 - a by omega] at h1
  rw [h1, Nat.testBit_xor, show (18446744073709551615 : Nat) = 2 ^ 64 - 1 by decide, Nat.testBit_two_pow_sub_one]
  by_cases hi : i < 64
  · simp [hi]
  · have : a.testBit i = false := Nat.testBit_lt_two_pow (Nat.lt_of_lt_of_le (show a < 2 ^ 64 by omega) (Nat.pow_le_pow_right (by decide) (by omega)))
    simp [hi, this]
theorem i64_compl (a : Nat) (ha : a < 4294967296) : bits .xor .i64 (if IntKind.i64.signed = true then -1 else 9223372036854775807) (a : Int) = -(a : Int) - 1 := by
  show IntKind.i64.wrap ((BitVec.ofInt 64 (-1 : Int) ^^^ BitVec.ofInt 64 (a : Int)).toNat : Int) = _
  have e1 : (BitVec.ofInt 64 (-1 : Int)).toNat = 18446744073709551615 := by decide
  rw [BitVec.toNat_xor, e1, ofInt_u64 a (by omega), not64 a (by omega)]
  simp [IntKind.wrap, IntKind.bits, IntKind.signed]
  omega
theorem not_z (x : Nat) (w : World) (hx : x < 4294967296) :
    Calls Tryd.prog 88 #[.int .i64 (bits .xor .i64 (if IntKind.i64.signed = true then -1 else 9223372036854775807) (x : Int))] w fun e w' => e = .returned (.int .i64 (4294967295 - x : Nat)) ∧ w' = w := by
  rw [i64_compl x hx]
  exact not_q x w hx
/-- make([]int, n). -/
theorem make_ints (w : World) (n : Nat) (hn : n ≤ 1000) :
    ∃ w1, (Instr.makeSlice 56 (.int .i64 (n : Int)) (.int .i64 (n : Int))).run Tryd.prog w = .ok (.slice (some ⟨w.heap.size, 0, none⟩) n n) w1 ∧ Row w1 w.heap.size .i64 3 n (fun _ => 0) ∧ Below w.heap.size w w1 := by
  have h := run_make_row' (P := Tryd.prog) 56 3 (.int .i64 0) 8 Tryd.underlying56 Tryd.info3 rfl .i64 .i64 n (by omega) (by omega) w
  refine ⟨_, h, Row.made w .i64 3 n (fun _ => 0) _ ?_ _ rfl, (Below.refl _ _).alloc (Nat.le_refl _) _⟩
  apply Array.ext_getElem?
  intro i
  by_cases hi : i < n
  · rw [rowC_get _ _ _ _ hi]
    simp [madeCells, hi, Nat.mod_one]
  · rw [Array.getElem?_eq_none (by simp [madeCells]; omega), Array.getElem?_eq_none (by rw [rowC_size]; omega)]

/-- The first n cells of block g are the ints f. -/
def IntsAt (w : World) (g n : Nat) (f : Nat → Nat) : Prop := ∀ j, j < n → w.cell? ⟨g, j, none⟩ = some (.int .i64 (f j : Nat))
theorem IntsAt.later {w w' : World} {g n : Nat} {f : Nat → Nat} (h : IntsAt w g n f) (hb : Below w.heap.size w w') : IntsAt w' g n f := fun j hj => cell_later hb (h j hj)
theorem IntsAt.drew {w : World} {g n : Nat} {f : Nat → Nat} (h : IntsAt w g n f) : IntsAt w.drew g n f := h
theorem Row.ints {w : World} {g n : Nat} {t : TypeId} {f : Nat → Nat} (h : Row w g .i64 t n f) : IntsAt w g n f := fun j hj => h.cell j hj
theorem GrowsI.ints {w : World} {base : Nat} {v : Value} {l : List Int} (h : GrowsI w base v l) (h0 : 0 < l.length) (f : Nat → Nat) (hf : ∀ j, j < l.length → l[j]? = some (f j : Int)) :
    ∃ g cap, v = .slice (some ⟨g, 0, none⟩) l.length cap ∧ IntsAt w g l.length f := by
  rcases h.2 with ⟨rfl, h1⟩ | ⟨g, cap, cur, rfl, _⟩
  · omega
  · refine ⟨g, cap, rfl, fun j hj => ?_⟩
    rw [World.ownsRow.cellAt h j (by omega)]
    simp only [i64s, List.getElem?_map, hf j hj]
    rfl
theorem GrowsI.take {w : World} {base : Nat} {v : Value} {l : List Int} (h : GrowsI w base v l) (n : Nat) (hl : l.length = n) (h0 : 0 < n) (f : Nat → Nat) (hf : ∀ j, j < n → l[j]? = some (f j : Int)) :
    ∃ g cap, v = .slice (some ⟨g, 0, none⟩) n cap ∧ IntsAt w g n f := by
  subst hl
  exact h.ints h0 f hf
theorem ints8 (w : World) (z0 z1 z2 z3 z4 z5 z6 z7 : Int) (r : Reg) (h0 : z0 = (r.a : Nat)) (h1 : z1 = (r.b : Nat)) (h2 : z2 = (r.c : Nat)) (h3 : z3 = (r.d : Nat)) (h4 : z4 = (r.e : Nat)) (h5 : z5 = (r.f : Nat)) (h6 : z6 = (r.g : Nat)) (h7 : z7 = (r.h : Nat)) :
    IntsAt (w.alloc (.cells #[.int .i64 z0, .int .i64 z1, .int .i64 z2, .int .i64 z3, .int .i64 z4, .int .i64 z5, .int .i64 z6, .int .i64 z7] 3)) w.heap.size 8 r.at := by
  subst h0; subst h1; subst h2; subst h3; subst h4; subst h5; subst h6; subst h7
  exact (Row.made w .i64 3 8 r.at _ rfl _ rfl).ints
theorem IntsAt.cells8 {w : World} {g : Nat} {s : Reg} (h : IntsAt w g 8 s.at) :
    w.cell? ⟨g, 0, none⟩ = some (.int .i64 s.a) ∧ w.cell? ⟨g, 1, none⟩ = some (.int .i64 s.b) ∧ w.cell? ⟨g, 2, none⟩ = some (.int .i64 s.c) ∧ w.cell? ⟨g, 3, none⟩ = some (.int .i64 s.d)
    ∧ w.cell? ⟨g, 4, none⟩ = some (.int .i64 s.e) ∧ w.cell? ⟨g, 5, none⟩ = some (.int .i64 s.f) ∧ w.cell? ⟨g, 6, none⟩ = some (.int .i64 s.g) ∧ w.cell? ⟨g, 7, none⟩ = some (.int .i64 s.h) :=
  ⟨h 0 (by omega), h 1 (by omega), h 2 (by omega), h 3 (by omega), h 4 (by omega), h 5 (by omega), h 6 (by omega), h 7 (by omega)⟩
theorem IntsAt.src {w : World} {g : Nat} {f : Nat → Nat} (n : Nat) (h : IntsAt w g n f) : SrcI w g ((List.range n).map fun j => ((f j : Nat) : Int)) := by
  intro j v hj
  by_cases hjn : j < n
  · simp [i64s, hjn] at hj
    subst hj
    exact h j hjn
  · rw [List.getElem?_eq_none (by simp [i64s]; omega)] at hj
    cases hj
set_option maxRecDepth 100000 in
theorem keys_c (w : World) : Calls Tryd.prog 84 #[] w fun e w' => e = .returned (.slice (some ⟨w.heap.size, 0, none⟩) 64 64) ∧ IntsAt w' w.heap.size 64 keyN ∧ Below w.heap.size w w' := by
  go_enter Tryd.func84, Tryd.ntmps84
  go_wp2
  go_ret
  refine ⟨rfl, ?_, (Below.refl _ _).alloc (Nat.le_refl _) _⟩
  exact (Row.made w .i64 3 64 keyN _ (by kernel_rfl) _ rfl).ints
end Go.Proofs.YtmdacoppkjclmaaDoor
/- The walks of the model's l3Block. -/
namespace Go.Proofs.YtmdacoppkjclmaaDoor
open Go.RowKit Go.PlainAid
set_option linter.unusedVariables false

theorem join4 (b0 b1 b2 b3 : Int) (h0 : 0 ≤ b0) (h0' : b0 ≤ 255) (h1 : 0 ≤ b1) (h1' : b1 ≤ 255) (h2 : 0 ≤ b2) (h2' : b2 ≤ 255) (h3 : 0 ≤ b3) (h3' : b3 ≤ 255) :
    bits .or .i64 (b0 * 16777216) (b1 * 65536) = b0 * 16777216 + b1 * 65536 ∧ bits .or .i64 (b0 * 16777216 + b1 * 65536) (b2 * 256) = b0 * 16777216 + b1 * 65536 + b2 * 256
    ∧ bits .or .i64 (b0 * 16777216 + b1 * 65536 + b2 * 256) b3 = b0 * 16777216 + b1 * 65536 + b2 * 256 + b3 :=
  ⟨i64_or_join 24 _ _ (by omega) (by omega) (by omega) (by omega) (by omega) (by omega), i64_or_join 16 _ _ (by omega) (by omega) (by omega) (by omega) (by omega) (by omega), i64_or_join 8 _ _ (by omega) (by omega) (by omega) (by omega) (by omega) (by omega)⟩
theorem bpart4 (b : ByteArray) (o : Nat) : ((bpart (btn b) o 4 : Nat) : Int) = bt b o * 16777216 + bt b (o + 1) * 65536 + bt b (o + 2) * 256 + bt b (o + 3) := by
  have e0 := btn_cast b o; have e1 := btn_cast b (o + 1); have e2 := btn_cast b (o + 2); have e3 := btn_cast b (o + 3)
  simp only [bpart, Nat.add_zero]
  omega

set_option maxRecDepth 100000 in
set_option maxHeartbeats 4000000 in
theorem block_c (s : Reg) (hs : s.fit) (b : ByteArray) (hb : b.size = 64) (hg hc kg kc : Nat) (w : World) (hh : IntsAt w hg 8 s.at) (hk : IntsAt w kg 64 keyN) :
    Calls Tryd.prog 85 #[.slice (some ⟨hg, 0, none⟩) 8 hc, .string b, .slice (some ⟨kg, 0, none⟩) 64 kc] w fun e w' =>
      ∃ g cap, e = .returned (.slice (some ⟨g, 0, none⟩) 8 cap) ∧ IntsAt w' g 8 (blk s (btn b)).at ∧ Below w.heap.size w w' := by
  have HH := Lib.hid hh
  have HK := Lib.hid hk
  have HS := Lib.hid hs
  clear hh hk hs
  obtain ⟨w1, hmk, hr1, hb1⟩ := make_ints w 64 (by omega)
  have hmk' : (Instr.makeSlice 56 (.int .i64 64) (.int .i64 64)).run Tryd.prog w = .ok (.slice (some ⟨w.heap.size, 0, none⟩) 64 64) w1 := hmk
  have R1 := Lib.hid hr1
  have B1 := Lib.hid hb1
  clear hmk hr1 hb1
  go_enter Tryd.func85, Tryd.ntmps85
  go_wp2
  go_loopw [8] (fun i wr => ∃ (k : Nat) (f : Nat → Nat), k ≤ 16 ∧ i = .int .i64 k ∧ Row wr w.heap.size .i64 3 64 f ∧ (∀ j, j < k → f j = schW (btn b) j) ∧ Below w.heap.size w wr) (fun i _ => 16 - (intOf i).toNat)
  case atStart => exact ⟨0, _, by omega, rfl, R1.out, fun j hj => absurd hj (Nat.not_lt_zero j), B1.out⟩
  case round =>
    clear R1 B1 hmk'
    obtain ⟨k, f, hk, rfl, hr, hfs, hbl⟩ := hrel
    by_cases hlt : k < 16
    · have g0 := get_bt b (4 * k) (by omega)
      have g1 := get_bt b (4 * k + 1) (by omega)
      have g2 := get_bt b (4 * k + 2) (by omega)
      have g3 := get_bt b (4 * k + 3) (by omega)
      obtain ⟨o1, o2, o3⟩ := join4 (bt b (4 * k)) (bt b (4 * k + 1)) (bt b (4 * k + 2)) (bt b (4 * k + 3)) (bt_nonneg _ _) (bt_le _ _) (bt_nonneg _ _) (bt_le _ _) (bt_nonneg _ _) (bt_le _ _) (bt_nonneg _ _) (bt_le _ _)
      have p0 := bt_nonneg b (4 * k); have p0' := bt_le b (4 * k)
      have p1 := bt_nonneg b (4 * k + 1); have p1' := bt_le b (4 * k + 1)
      have p2 := bt_nonneg b (4 * k + 2); have p2' := bt_le b (4 * k + 2)
      have p3 := bt_nonneg b (4 * k + 3); have p3' := bt_le b (4 * k + 3)
      have hsum := bpart4 b (4 * k)
      rw [← schW_low (btn b) k hlt] at hsum
      rw [← hsum] at o3
      have hf := hr.frozen k
      have ck := hr.cell k (by omega)
      have z0 : (0 : Int) ≤ 4 * (k : Int) := by omega
      have z0' : 4 * (k : Int) < 64 := by omega
      have z1 : (0 : Int) ≤ 4 * (k : Int) + 1 := by omega
      have z1' : 4 * (k : Int) + 1 < 64 := by omega
      have z2 : (0 : Int) ≤ 4 * (k : Int) + 2 := by omega
      have z2' : 4 * (k : Int) + 2 < 64 := by omega
      have z3 : (0 : Int) ≤ 4 * (k : Int) + 3 := by omega
      have z3' : 4 * (k : Int) + 3 < 64 := by omega
      have HR := Lib.hid hr
      have HB := Lib.hid hbl
      have HF := Lib.hid hfs
      clear hr hbl hfs hsum
      go_wp2
      refine wp_region_quiet_tail 32 (by kernel_rfl) (by kernel_rfl) ?_
      simp only [List.take_succ_cons, List.take_zero, List.drop_succ_cons, List.drop_zero]
      repeat (first | go_big_quiet_step (fail))
      refine wpQuiet_nil ?_
      go_wp2
      go_roundw
      case rel =>
        refine ⟨k + 1, _, by omega, by go_num, HR.out.drew.set k (schW (btn b) k), ?_, HB.out.drew.setCell (by simp) _⟩
        intro j hj
        by_cases e : j = k
        · subst e; rw [upd_same]
        · rw [upd_other _ _ _ _ e, HF.out j (by omega)]
      case measure => simp [intOf]; omega
    · obtain rfl : k = 16 := by omega
      have HR := Lib.hid hr
      have HB := Lib.hid hbl
      have HF := Lib.hid hfs
      clear hr hbl hfs hk hlt
      go_wp2
      go_loopw [9] (fun i wx => ∃ (k : Nat) (f : Nat → Nat), 16 ≤ k ∧ k ≤ 64 ∧ i = .int .i64 k ∧ Row wx w.heap.size .i64 3 64 f ∧ (∀ j, j < k → f j = schW (btn b) j) ∧ Below w.heap.size w wx) (fun i _ => 64 - (intOf i).toNat)
      case atStart => exact ⟨16, _, by omega, by omega, rfl, HR.out, HF.out, HB.out⟩
      case round =>
        clear HR HF HB
        obtain ⟨k, f, hk16, hk, rfl, hr, hfs, hbl⟩ := hrel
        by_cases hlt : k < 64
        · have c15 := hr.cell (k - 15) (by omega)
          have c2 := hr.cell (k - 2) (by omega)
          have c16 := hr.cell (k - 16) (by omega)
          have c7 := hr.cell (k - 7) (by omega)
          rw [hfs _ (by omega)] at c15 c2 c16 c7
          have hf := hr.frozen k
          have ck := hr.cell k hlt
          have hn := schW_high (btn b) k hk16 hlt
          have E1 := schW_lt (btn b) (btn_lt b) (k - 15)
          have L1 := schW_lt (btn b) (btn_lt b) (k - 2)
          have P1 := schW_lt (btn b) (btn_lt b) (k - 16)
          have G1 := schW_lt (btn b) (btn_lt b) (k - 7)
          generalize schW (btn b) (k - 15) = E at c15 hn E1
          generalize schW (btn b) (k - 2) = L at c2 hn L1
          generalize schW (btn b) (k - 16) = P at c16 hn P1
          generalize schW (btn b) (k - 7) = G at c7 hn G1
          have x1 := i64_xor_nat (rotz E 7) (rotz E 18) (Nat.lt_trans (rotz_lt _ _) (by decide)) (Nat.lt_trans (rotz_lt _ _) (by decide))
          have x2 : bits .xor .i64 ((rotz E 7 ^^^ rotz E 18 : Nat) : Int) ((E : Int) / 8) = ((sg0 E : Nat) : Int) := i64_xor_nat (rotz E 7 ^^^ rotz E 18) (E / 8) (Nat.lt_trans (xor_lt32 (rotz_lt _ _) (rotz_lt _ _)) (by decide)) (by omega)
          have y1 := i64_xor_nat (rotz L 17) (rotz L 19) (Nat.lt_trans (rotz_lt _ _) (by decide)) (Nat.lt_trans (rotz_lt _ _) (by decide))
          have y2 : bits .xor .i64 ((rotz L 17 ^^^ rotz L 19 : Nat) : Int) ((L : Int) / 1024) = ((sg1 L : Nat) : Int) := i64_xor_nat (rotz L 17 ^^^ rotz L 19) (L / 1024) (Nat.lt_trans (xor_lt32 (rotz_lt _ _) (rotz_lt _ _)) (by decide)) (by omega)
          have s0 := sg0_lt E E1
          have s1 := sg1_lt L L1
          generalize sg0 E = S0 at x2 s0 hn
          generalize sg1 L = S1 at y2 s1 hn
          have HR := Lib.hid hr
          have HB := Lib.hid hbl
          have HF := Lib.hid hfs
          have HN := Lib.hid hn
          clear hr hbl hfs hn
          go_wp2
          refine wp_region_quiet_tail 20 (by kernel_rfl) (by kernel_rfl) ?_
          simp only [List.take_succ_cons, List.take_zero, List.drop_succ_cons, List.drop_zero]
          repeat (first | go_big_quiet_step (fail))
          go_big_quiet_want
          go_big_quiet_op
          refine ⟨_, right_z E _ _ E1 (by decide) (by decide), ?_⟩
          go_big_quiet_on
          repeat (first | go_big_quiet_step (fail))
          go_big_quiet_want
          go_big_quiet_op
          refine ⟨_, right_z E _ _ E1 (by decide) (by decide), ?_⟩
          go_big_quiet_on
          repeat (first | go_big_quiet_step (fail))
          refine wpQuiet_nil ?_
          go_wp2
          refine wp_region_quiet_tail 20 (by kernel_rfl) (by kernel_rfl) ?_
          simp only [List.take_succ_cons, List.take_zero, List.drop_succ_cons, List.drop_zero]
          repeat (first | go_big_quiet_step (fail))
          go_big_quiet_want
          go_big_quiet_op
          refine ⟨_, right_z L _ _ L1 (by decide) (by decide), ?_⟩
          go_big_quiet_on
          repeat (first | go_big_quiet_step (fail))
          go_big_quiet_want
          go_big_quiet_op
          refine ⟨_, right_z L _ _ L1 (by decide) (by decide), ?_⟩
          go_big_quiet_on
          repeat (first | go_big_quiet_step (fail))
          refine wpQuiet_nil ?_
          go_wp2
          refine wp_region_quiet_tail 19 (by kernel_rfl) (by kernel_rfl) ?_
          simp only [List.take_succ_cons, List.take_zero, List.drop_succ_cons, List.drop_zero]
          repeat (first | go_big_quiet_step (fail))
          go_big_quiet_want
          go_big_quiet_op
          refine ⟨_, word_z _ _ (by omega) (by omega), ?_⟩
          go_big_quiet_on
          repeat (first | go_big_quiet_step (fail))
          refine wpQuiet_nil ?_
          go_wp2
          go_roundw
          case rel =>
            refine ⟨k + 1, _, by omega, by omega, by go_num, Row.set_eq (w := wr.drew.drew.drew) HR.out k (schW (btn b) k) _ ?_, ?_, ?_⟩
            · rw [HN.out]; omega
            · intro j hj
              by_cases e : j = k
              · subst e; rw [upd_same]
              · rw [upd_other _ _ _ _ e, HF.out j (by omega)]
            · exact HB.out.drew.drew.drew.setCell (by simp) _
          case measure => simp [intOf]; omega
        · obtain rfl : k = 64 := by omega
          have hr' := hr.congr hfs
          have HR := Lib.hid hr'
          have HB := Lib.hid hbl
          clear hr hbl hfs hr' hk hlt hk16
          go_wp2_with (refine wp_append_ints rfl (.tmp 120) (.tmp 121) rfl wr.heap.size _ [] ((List.range 8).map fun j => ((s.at j : Nat) : Int)) (by simp [Act.eval]) (growsI_empty wr) hg 8 hc (by simp [Act.eval]) (by simp) ((HH.out.later (HB.out.alloc HB.out.size _)).src 8) (by simp) (by simp) ?_; intro v3 w3 hgr3 hb3; obtain ⟨g3, cap3, rfl, hi3⟩ := hgr3.take 8 (by simp) (by omega) s.at (fun j hj => by simp [hj]))
          have r3 := (HR.out.alloc _).later hb3 HR.out.lt
          have b3 : Below w.heap.size w w3 := (HB.out.alloc HB.out.size _).trans (hb3.mono HB.out.size)
          have R3 := Lib.hid r3
          have B3 := Lib.hid b3
          have I3 := Lib.hid hi3
          clear r3 b3 hi3 hb3 hgr3 HR HB
          go_loopw [12, 13] (fun vv vi wx => ∃ k A B C D E F G H g cap : Nat, k ≤ 64 ∧ rnds (schW (btn b)) s k = ⟨A, B, C, D, E, F, G, H⟩ ∧ vi = .int .i64 k ∧ vv = .slice (some ⟨g, 0, none⟩) 8 cap ∧ IntsAt wx g 8 (Reg.mk A B C D E F G H).at ∧ Row wx w.heap.size .i64 3 64 (schW (btn b)) ∧ Below w.heap.size w wx) (fun _ i _ => 64 - (intOf i).toNat)
          case atStart => exact ⟨0, s.a, s.b, s.c, s.d, s.e, s.f, s.g, s.h, g3, cap3, by omega, rnds_zero _ s, rfl, rfl, I3.out, R3.out, B3.out⟩
          case round =>
            clear R3 B3 I3
            obtain ⟨k, A, B, C, D, E, F, G, H, g, cap, hk, hS, rfl, rfl, hi, hr, hbl⟩ := hrel
            by_cases hlt : k < 64
            · have hfit := rnds_fit (schW (btn b)) s HS.out k
              rw [hS] at hfit
              obtain ⟨ha, hb', hc', hd, he, hf, hg', hh⟩ := hfit
              dsimp only at ha hb' hc' hd he hf hg' hh
              obtain ⟨c0, c1, c2, c3, c4, c5, c6, c7⟩ := hi.cells8
              dsimp only at c0 c1 c2 c3 c4 c5 c6 c7
              have ck := (HK.out.later hbl) k hlt
              have cw := hr.cell k hlt
              have kl := keyN_lt k
              have wl := schW_lt (btn b) (btn_lt b) k
              have R1 := Lib.hid hr
              have HB := Lib.hid hbl
              have HN := Lib.hid hS
              clear hr hbl hS hi
              generalize hKK : keyN k = KK at ck kl
              generalize hWW : schW (btn b) k = WW at cw wl
              have HK2 := Lib.hid hKK
              have HW2 := Lib.hid hWW
              clear hKK hWW
              have W63 : (4294967296 : Nat) ≤ 9223372036854775808 := by decide
              have hN : 4294967295 - E < 4294967296 := by omega
              have a1 := i64_and_nat E F (Nat.lt_of_lt_of_le he W63) (Nat.lt_of_lt_of_le hf W63)
              have a2 := i64_and_nat (4294967295 - E) G (Nat.lt_of_lt_of_le hN W63) (Nat.lt_of_lt_of_le hg' W63)
              have a3 : bits .xor .i64 ((E &&& F : Nat) : Int) (((4294967295 - E) &&& G : Nat) : Int) = ((chN E F G : Nat) : Int) := i64_xor_nat (E &&& F) ((4294967295 - E) &&& G) (Nat.lt_of_lt_of_le (and_lt32 _ he) W63) (Nat.lt_of_lt_of_le (and_lt32 _ hN) W63)
              have m1 := i64_and_nat A B (Nat.lt_of_lt_of_le ha W63) (Nat.lt_of_lt_of_le hb' W63)
              have m2 := i64_and_nat A C (Nat.lt_of_lt_of_le ha W63) (Nat.lt_of_lt_of_le hc' W63)
              have m3 := i64_xor_nat (A &&& B) (A &&& C) (Nat.lt_of_lt_of_le (and_lt32 _ ha) W63) (Nat.lt_of_lt_of_le (and_lt32 _ ha) W63)
              have m4 := i64_and_nat B C (Nat.lt_of_lt_of_le hb' W63) (Nat.lt_of_lt_of_le hc' W63)
              have m5 : bits .xor .i64 (((A &&& B) ^^^ (A &&& C) : Nat) : Int) ((B &&& C : Nat) : Int) = ((mjN A B C : Nat) : Int) := i64_xor_nat ((A &&& B) ^^^ (A &&& C)) (B &&& C) (Nat.lt_of_lt_of_le (xor_lt32 (and_lt32 _ ha) (and_lt32 _ ha)) W63) (Nat.lt_of_lt_of_le (and_lt32 _ hb') W63)
              have r1 := i64_xor_nat (rotz E 6) (rotz E 11) (Nat.lt_of_lt_of_le (rotz_lt _ _) W63) (Nat.lt_of_lt_of_le (rotz_lt _ _) W63)
              have r2 : bits .xor .i64 ((rotz E 6 ^^^ rotz E 11 : Nat) : Int) ((rotz E 25 : Nat) : Int) = ((bg1 E : Nat) : Int) := i64_xor_nat (rotz E 6 ^^^ rotz E 11) (rotz E 25) (Nat.lt_of_lt_of_le (xor_lt32 (rotz_lt _ _) (rotz_lt _ _)) W63) (Nat.lt_of_lt_of_le (rotz_lt _ _) W63)
              have q1 := i64_xor_nat (rotz A 2) (rotz A 13) (Nat.lt_of_lt_of_le (rotz_lt _ _) W63) (Nat.lt_of_lt_of_le (rotz_lt _ _) W63)
              have q2 : bits .xor .i64 ((rotz A 2 ^^^ rotz A 13 : Nat) : Int) ((rotz A 22 : Nat) : Int) = ((bg0 A : Nat) : Int) := i64_xor_nat (rotz A 2 ^^^ rotz A 13) (rotz A 22) (Nat.lt_of_lt_of_le (xor_lt32 (rotz_lt _ _) (rotz_lt _ _)) W63) (Nat.lt_of_lt_of_le (rotz_lt _ _) W63)
              have l1 := chN_lt E F G he
              have l2 := mjN_lt A B C ha hb'
              have l3 := bg1_lt E
              have l4 := bg0_lt A
              clear W63
              go_wp2
              refine wp_region_quiet_tail 36 (by kernel_rfl) (by kernel_rfl) ?_
              simp only [List.take_succ_cons, List.take_zero, List.drop_succ_cons, List.drop_zero]
              repeat (first | go_big_quiet_step (fail))
              go_big_quiet_want
              go_big_quiet_op
              refine ⟨_, right_z E _ _ he (by decide) (by decide), ?_⟩
              go_big_quiet_on
              repeat (first | go_big_quiet_step (fail))
              go_big_quiet_want
              go_big_quiet_op
              refine ⟨_, right_z E _ _ he (by decide) (by decide), ?_⟩
              go_big_quiet_on
              repeat (first | go_big_quiet_step (fail))
              go_big_quiet_want
              go_big_quiet_op
              refine ⟨_, right_z E _ _ he (by decide) (by decide), ?_⟩
              go_big_quiet_on
              repeat (first | go_big_quiet_step (fail))
              go_big_quiet_want
              go_big_quiet_op
              refine ⟨_, not_z E _ he, ?_⟩
              go_big_quiet_on
              repeat (first | go_big_quiet_step (fail))
              refine wpQuiet_nil ?_
              go_wp2
              refine wp_region_quiet_tail 28 (by kernel_rfl) (by kernel_rfl) ?_
              simp only [List.take_succ_cons, List.take_zero, List.drop_succ_cons, List.drop_zero]
              repeat (first | go_big_quiet_step (fail))
              go_big_quiet_want
              go_big_quiet_op
              refine ⟨_, right_z A _ _ ha (by decide) (by decide), ?_⟩
              go_big_quiet_on
              repeat (first | go_big_quiet_step (fail))
              go_big_quiet_want
              go_big_quiet_op
              refine ⟨_, right_z A _ _ ha (by decide) (by decide), ?_⟩
              go_big_quiet_on
              repeat (first | go_big_quiet_step (fail))
              go_big_quiet_want
              go_big_quiet_op
              refine ⟨_, right_z A _ _ ha (by decide) (by decide), ?_⟩
              go_big_quiet_on
              repeat (first | go_big_quiet_step (fail))
              refine wpQuiet_nil ?_
              go_wp2
              refine wp_region_quiet_tail 28 (by kernel_rfl) (by kernel_rfl) ?_
              simp only [List.take_succ_cons, List.take_zero, List.drop_succ_cons, List.drop_zero]
              repeat (first | go_big_quiet_step (fail))
              go_big_quiet_want
              go_big_quiet_op
              refine ⟨_, word_z _ _ (by omega) (by omega), ?_⟩
              go_big_quiet_on
              repeat (first | go_big_quiet_step (fail))
              go_big_quiet_want
              go_big_quiet_op
              refine ⟨_, word_z _ _ (by omega) (by omega), ?_⟩
              go_big_quiet_on
              repeat (first | go_big_quiet_step (fail))
              refine wpQuiet_nil ?_
              go_wp2
              go_roundw
              case rel =>
                refine ⟨k + 1, _, A, B, C, _, E, F, G, wr.heap.size, 8, by omega, by rw [rnds_succ, HN.out, HK2.out, HW2.out, rnd_mk], by go_num, rfl, ?_, R1.out.alloc _, HB.out.drew.drew.drew.alloc HB.out.size _⟩
                refine ints8 wr.drew.drew.drew _ _ _ _ _ _ _ _ _ ?_ rfl rfl rfl ?_ rfl rfl rfl
                · dsimp only; omega
                · dsimp only; omega
              case measure => simp [intOf]; omega
            · obtain rfl : k = 64 := by omega
              have hfit := rnds_fit (schW (btn b)) s HS.out 64
              rw [hS] at hfit
              have hblk : blk s (btn b) = s.plus ⟨A, B, C, D, E, F, G, H⟩ := by rw [blk, hS]
              have HI := Lib.hid hi
              have HB := Lib.hid hbl
              have HF := Lib.hid hfit
              have HBk := Lib.hid hblk
              clear hr hbl hi hS hk hlt hfit hblk
              go_wp2
              go_loopw [18, 19] (fun vo vi wx => ∃ m : Nat, m ≤ 8 ∧ vi = .int .i64 m ∧ GrowsI wx wr.heap.size vo ((List.range m).map fun j => (((s.plus ⟨A, B, C, D, E, F, G, H⟩).at j : Nat) : Int)) ∧ Below wr.heap.size wr wx) (fun _ i _ => 8 - (intOf i).toNat)
              case atStart => exact ⟨0, by omega, rfl, growsI_empty wr, (Below.refl _ _).alloc (Nat.le_refl _) _⟩
              case round =>
                obtain ⟨m, hm, rfl, hgr, hb4⟩ := hrel
                have HG := Lib.hid hgr
                have H4 := Lib.hid hb4
                by_cases hlt : m < 8
                · have ch := (HH.out.later (HB.out.trans (hb4.mono HB.out.size))) m hlt
                  have cv := (HI.out.later hb4) m hlt
                  have b1 := Reg.at_lt s HS.out m
                  have b2 := Reg.at_lt _ HF.out m
                  have hpl := plus_at s ⟨A, B, C, D, E, F, G, H⟩ m hlt
                  generalize s.at m = X at ch b1 hpl
                  generalize (Reg.mk A B C D E F G H).at m = Y at cv b2 hpl
                  have HP := Lib.hid hpl
                  clear hgr hb4 hpl
                  have y1 : (0 : Int) ≤ (m : Int) := by omega
                  have y2 : (m : Int) < 8 := by omega
                  have y3 : IntKind.i64.wrap ((X : Int) + (Y : Int)) = (X : Int) + (Y : Int) := IntWalk.i64_in _ (by omega)
                  go_wp2
                  go_region_law (first
                    | (refine step_append_ints rfl (.tmp 231) (.tmp 242) rfl _ u18 _ [((X : Int) + (Y : Int)) % 4294967296] (by simp [Act.eval]) (HG.out.alloc _).drew wr.heap.size 1 1 (by simp [Act.eval]) rfl (srcI_one wr _).drew (by simp; omega) (by have := H4.out.size; simp; omega) ?_; intro v' w' hgr' hb')
                    | (go_simp; go_at_call 88; refine (word_z _ _ (by omega) (by omega)).mono ?_; rintro e w' ⟨rfl, rfl⟩))
                  all_goals go_wp2
                  all_goals
                    go_roundw
                    case rel =>
                      refine ⟨_, _, _, _, _, _, _, _, _, _, _, _, _, _, _, _, _, _, _, ⟨m + 1, ?_, ?_, ?_, ((H4.out.alloc H4.out.size _).drew).trans hb'⟩, rfl⟩
                      · omega
                      · go_num
                      rw [List.range_succ, List.map_append, List.map_singleton, HP.out]
                      have e : ((X : Int) + (Y : Int)) % 4294967296 = (((X + Y) % 4294967296 : Nat) : Int) := by omega
                      rw [← e]
                      exact hgr'
                    case measure => simp [intOf]; omega
                · obtain rfl : m = 8 := by omega
                  obtain ⟨go, co, rfl, hio⟩ := hgr.take 8 (by simp) (by omega) (s.plus ⟨A, B, C, D, E, F, G, H⟩).at (fun j hj => by simp [hj])
                  have HIO := Lib.hid hio
                  clear hgr hb4 hio HG
                  go_wp2
                  go_ret
                  refine ⟨go, co, rfl, ?_, HB.out.trans (H4.out.mono HB.out.size)⟩
                  rw [HBk.out]
                  exact HIO.out
end Go.Proofs.YtmdacoppkjclmaaDoor
/- The walks of the model's Sha. -/
namespace Go.Proofs.YtmdacoppkjclmaaDoor
open Go.RowKit Go.PlainAid
set_option linter.unusedVariables false

theorem bt_numsL (l : List Int) (i : Nat) (x : Int) (h : l[i]? = some x) (h0 : 0 ≤ x) (h1 : x ≤ 255) : bt (strOfNums l) i = x := by
  have hi : i < l.length := by
    rcases Nat.lt_or_ge i l.length with h' | h'
    · exact h'
    · rw [List.getElem?_eq_none h'] at h; cases h
  have hs : i < (strOfNums l).size := by rw [strOfNums_size]; exact hi
  rw [← get_bt (strOfNums l) i hs]
  have e : (strOfNums l)[i]'hs = UInt8.ofNat (l[i]'hi).toNat := by
    show (strOfNums l).data[i] = _
    simp [strOfNums]
  rw [List.getElem?_eq_getElem hi] at h
  rw [e, Option.some.inj h]
  simp
  omega
theorem src_four (w : World) (a b c d : Int) : Src (w.alloc (.cells #[.int .u8 a, .int .u8 b, .int .u8 c, .int .u8 d] 5)) w.heap.size [a, b, c, d] := by
  intro j v hj
  match j, hj with
  | 0, hj => simp [u8s] at hj; subst hj; simp
  | 1, hj => simp [u8s] at hj; subst hj; simp
  | 2, hj => simp [u8s] at hj; subst hj; simp
  | 3, hj => simp [u8s] at hj; subst hj; simp
  | j + 4, hj => simp [u8s] at hj
theorem btn_extract (s : ByteArray) (a b j : Nat) (h : a + j < b) (hb : b ≤ s.size) : btn (s.extract a b) j = btn s (a + j) := by
  unfold btn
  rw [← get_bt s (a + j) (by omega), ← get_bt (s.extract a b) j (by rw [ByteArray.size_extract]; omega)]
  rw [ByteArray.getElem_extract]
theorem Grows.take {w : World} {base : Nat} {v : Value} {l : List Int} (h : Grows w base v l) (n : Nat) (hl : l.length = n) (h0 : 0 < n) : ∃ g cap, v = .slice (some ⟨g, 0, none⟩) n cap := by
  subst hl
  rcases h.2 with ⟨rfl, h1⟩ | ⟨g, cap, cur, rfl, _⟩
  · omega
  · exact ⟨g, cap, rfl⟩
theorem grows_one (w : World) (b : Int) : Grows (w.alloc (.cells #[.int .u8 b] 5)) w.heap.size (.slice (some ⟨w.heap.size, 0, none⟩) 1 1) [b] :=
  World.ownsRow_lit w #[.int .u8 b] 1 (Nat.le_refl _) (by decide) rfl

def lenB (n j : Nat) : Int := ((8 * n / 256 ^ (7 - j) % 256 : Nat) : Int)
theorem lenB_bounds (n j : Nat) : 0 ≤ lenB n j ∧ lenB n j < 256 := by unfold lenB; omega
theorem lenB_bits (n j : Nat) (hn : n ≤ 1048577) (hj : j < 8) : bits .and .i64 ((n : Int) * 8 / 2 ^ (56 - 8 * j)) 255 = lenB n j := by
  have e : (n : Int) * 8 / 2 ^ (56 - 8 * j) = ((n * 8 / 2 ^ (56 - 8 * j) : Nat) : Int) := by simp
  have hb : n * 8 / 2 ^ (56 - 8 * j) ≤ n * 8 := Nat.div_le_self _ _
  rw [e, i64_low8 _ (by omega)]
  unfold lenB
  rw [show 56 - 8 * j = 8 * (7 - j) by omega, Nat.pow_mul, Nat.mul_comm]

theorem u8_in (z : Int) (h0 : 0 ≤ z) (h1 : z < 256) : IntKind.u8.wrap z = z := by
  rw [IntKind.wrap_u8']
  omega
theorem word4 (X : Nat) (hX : X < 4294967296) : ∃ a b c d : Int, wordL X = [a, b, c, d] ∧ IntKind.u8.wrap ((X : Int) / 16777216) = a
    ∧ bits .and .i64 ((X : Int) / 65536) 255 = b ∧ IntKind.u8.wrap b = b ∧ bits .and .i64 ((X : Int) / 256) 255 = c ∧ IntKind.u8.wrap c = c ∧ bits .and .i64 (X : Int) 255 = d ∧ IntKind.u8.wrap d = d := by
  refine ⟨_, _, _, _, rfl, ?_, ?_, ?_, ?_, ?_, ?_, ?_⟩
  · rw [u8_in _ (by omega) (by omega)]; omega
  · exact i64_low8 (X / 65536) (by omega)
  · exact u8_in _ (by omega) (by omega)
  · exact i64_low8 (X / 256) (by omega)
  · exact u8_in _ (by omega) (by omega)
  · exact i64_low8 X (by omega)
  · exact u8_in _ (by omega) (by omega)
theorem btn_append (s t : ByteArray) (j : Nat) : btn (s ++ t) j = if j < s.size then btn s j else btn t (j - s.size) := by
  unfold btn bt
  by_cases h : j < s.size
  · have h' : j < (s ++ t).size := by rw [ByteArray.size_append]; omega
    rw [if_pos h, dif_pos h', dif_pos h, ByteArray.getElem_append_left h]
  · rw [if_neg h]
    by_cases h2 : j - s.size < t.size
    · have h' : j < (s ++ t).size := by rw [ByteArray.size_append]; omega
      rw [dif_pos h', dif_pos h2, ByteArray.getElem_append_right (by omega)]
    · rw [dif_neg (by rw [ByteArray.size_append]; omega), dif_neg h2]
theorem btn_nums (l : List Int) (i : Nat) (x : Int) (h : l[i]? = some x) (h0 : 0 ≤ x) (h1 : x ≤ 255) : btn (strOfNums l) i = x.toNat := by
  unfold btn
  rw [bt_numsL l i x h h0 h1]
theorem sha_msg (s : ByteArray) (q : Nat) (hq : s.size + q + 8 = msgL s.size) (h1 : 1 ≤ q) (PD : ByteArray) (hP : strOfNums (128 :: List.replicate (q - 1) 0 ++ (List.range 8).map (lenB s.size)) = PD) :
    (s ++ PD).size = msgL s.size ∧ hsh st0 (btn (s ++ PD)) (msgL s.size / 64) = shaS s := by
  have hsz : (s ++ PD).size = msgL s.size := by
    rw [ByteArray.size_append, ← hP, strOfNums_size]
    simp
    omega
  refine ⟨hsz, ?_⟩
  rw [shaS]
  apply hsh_congr
  intro j hj
  rw [btn_append]
  unfold padF
  by_cases c1 : j < s.size
  · rw [if_pos c1, if_pos c1]
  · rw [if_neg c1, if_neg c1, ← hP]
    by_cases c2 : j = s.size
    · rw [if_pos c2, btn_nums _ _ 128 (by rw [c2, Nat.sub_self]; rfl) (by decide) (by decide)]
      rfl
    · rw [if_neg c2]
      by_cases c3 : msgL s.size ≤ j + 8
      · have hi : j - s.size - q < 8 := by omega
        have hv : (128 :: List.replicate (q - 1) 0 ++ (List.range 8).map (lenB s.size) : List Int)[j - s.size]? = some (lenB s.size (j - s.size - q)) := by
          rw [List.getElem?_append_right (by simp; omega)]
          simp only [List.length_cons, List.length_replicate]
          rw [show j - s.size - (q - 1 + 1) = j - s.size - q by omega, List.getElem?_map, List.getElem?_range hi]
          rfl
        obtain ⟨z0, z1⟩ := lenB_bounds s.size (j - s.size - q)
        rw [if_pos c3, btn_nums _ _ _ hv z0 (by omega)]
        unfold lenB
        rw [Int.toNat_natCast, show 7 - (j - s.size - q) = msgL s.size - 1 - j by omega]
      · have hv : (128 :: List.replicate (q - 1) 0 ++ (List.range 8).map (lenB s.size) : List Int)[j - s.size]? = some 0 := by
          rw [List.getElem?_append_left (by simp; omega), show j - s.size = (j - s.size - 1) + 1 by omega, List.getElem?_cons_succ, List.getElem?_replicate, if_pos (by omega)]
        rw [if_neg c3, btn_nums _ _ _ hv (by decide) (by decide)]
        rfl

set_option maxRecDepth 100000 in
set_option maxHeartbeats 4000000 in
theorem spec_sha (s : ByteArray) (hs : s.size ≤ 1048577) (w : World) :
    Calls Tryd.prog 79 #[.string s] w fun e w' => e = .returned (.string (strOfNums (digL (shaS s) 8))) ∧ Below w.heap.size w w' := by
  obtain ⟨p, hp⟩ : ∃ p, p = msgL s.size - 8 - s.size := ⟨_, rfl⟩
  have hL : msgL s.size = (s.size + 72) / 64 * 64 := rfl
  have p1 : 1 ≤ p := by omega
  have p2 : p ≤ 64 := by omega
  have p3 : (s.size + p) % 64 = 56 := by omega
  have p4 : s.size + p + 8 = msgL s.size := by omega
  have HL := Lib.hid hL
  have HP := Lib.hid hp
  have H4 := Lib.hid p4
  clear hL hp p4
  go_enter Tryd.func79, Tryd.ntmps79
  go_wp2
  go_loopw [4] (fun v wr => ∃ q : Nat, 1 ≤ q ∧ q ≤ p ∧ Grows wr w.heap.size v (128 :: List.replicate (q - 1) 0) ∧ Below w.heap.size w wr) (fun v _ => match v with | .slice _ n _ => 100 - n | _ => 0)
  case atStart => exact ⟨1, by omega, p1, grows_one w 128, (Below.refl _ _).alloc (Nat.le_refl _) _⟩
  case round =>
    obtain ⟨q, hq1, hq, hgr, hbl⟩ := hrel
    obtain ⟨g, cap, rfl⟩ := hgr.take q (by simp; omega) (by omega)
    have HG := Lib.hid hgr
    have HB := Lib.hid hbl
    clear hgr hbl
    by_cases hlt : q < p
    · have hne : ¬ ((s.size : Int) + (q : Int)) % 64 = 56 := by omega
      go_wp2_with (refine wp_append_bytes rfl (.tmp 21) (.tmp 22) rfl w.heap.size _ (128 :: List.replicate (q - 1) 0) [0] (by simp [Act.eval]) (HG.out.alloc _) wr.heap.size 1 1 (by simp [Act.eval]) rfl (src_one wr 0) (by simp; omega) (by have := HB.out.size; simp; omega) ?_; intro v' w' hgr' hb')
      go_roundw
      case rel =>
        refine ⟨q + 1, by omega, by omega, ?_, (HB.out.alloc HB.out.size _).trans hb'⟩
        have e : (128 : Int) :: List.replicate (q + 1 - 1) 0 = (128 :: List.replicate (q - 1) 0) ++ [0] := by
          rw [show q + 1 - 1 = (q - 1) + 1 by omega, List.replicate_succ']; rfl
        rw [e]
        exact hgr'
      case measure =>
        obtain ⟨g', cap', rfl⟩ := hgr'.take (q + 1) (by simp; omega) (by omega)
        simp; omega
    · obtain rfl : q = p := by omega
      have heq : ((s.size : Int) + (q : Int)) % 64 = 56 := by omega
      go_wp2
      go_loopw [4, 5] (fun v vi wx => ∃ i : Nat, i ≤ 8 ∧ vi = .int .i64 i ∧ Grows wx w.heap.size v (128 :: List.replicate (q - 1) 0 ++ (List.range i).map (lenB s.size)) ∧ Below w.heap.size w wx) (fun _ i _ => 8 - (intOf i).toNat)
      case atStart => exact ⟨0, by omega, rfl, by simpa using HG.out, HB.out⟩
      case round =>
        clear HG HB heq
        obtain ⟨i, hi, rfl, hgr, hbl⟩ := hrel
        obtain ⟨g2, cap2, rfl⟩ := hgr.take (q + i) (by simp; omega) (by omega)
        have HG := Lib.hid hgr
        have HB := Lib.hid hbl
        clear hgr hbl
        by_cases hli : i < 8
        · have hbt := lenB_bits s.size i hs hli
          obtain ⟨z0, z1⟩ := lenB_bounds s.size i
          generalize hZ : lenB s.size i = Z at hbt z0 z1
          have HZ := Lib.hid hZ
          clear hZ
          go_wp2_with (refine wp_append_bytes rfl (.tmp 28) (.tmp 38) rfl w.heap.size _ (128 :: List.replicate (q - 1) 0 ++ (List.range i).map (lenB s.size)) [Z] (by simp [Act.eval]) (HG.out.alloc _) wr.heap.size 1 1 (by simp [Act.eval]) rfl (src_one wr Z) (by simp; omega) (by have := HB.out.size; simp; omega) ?_; intro v' w' hgr' hb')
          go_roundw
          case rel =>
            refine ⟨i + 1, by omega, by go_num, ?_, (HB.out.alloc HB.out.size _).trans hb'⟩
            rw [List.range_succ, List.map_append, List.map_singleton, HZ.out, ← List.append_assoc]
            exact hgr'
          case measure => simp [intOf]; omega
        · obtain rfl : i = 8 := by omega
          have hconv := conv_grows wr w.heap.size _ _ HG.out
          have hPs : (strOfNums (128 :: List.replicate (q - 1) 0 ++ (List.range 8).map (lenB s.size))).size = q + 8 := by rw [strOfNums_size]; simp; omega
          generalize hPD : strOfNums (128 :: List.replicate (q - 1) 0 ++ (List.range 8).map (lenB s.size)) = PD at hconv hPs
          have HPD := Lib.hid hPD
          clear hPD hi hli
          go_wp2_with (go_at_call 84; refine (keys_c _).mono ?_; rintro e w2 ⟨rfl, hik, hbk⟩)
          obtain ⟨hTs, hTh⟩ := sha_msg s q H4.out hq1 PD HPD.out
          have hL64 : msgL s.size % 64 = 0 := by rw [HL.out]; omega
          have hLb : msgL s.size ≤ 1048700 := by rw [HL.out]; omega
          rw [← hTs] at hTh hL64 hLb
          generalize s ++ PD = T at hTh hL64 hLb ⊢
          have i2 : IntsAt w2 wr.heap.size 8 st0.at := (ints8 wr _ _ _ _ _ _ _ _ st0 rfl rfl rfl rfl rfl rfl rfl rfl).later hbk
          have b2 : Below w.heap.size w w2 := (HB.out.alloc HB.out.size _).trans (hbk.mono (by have := HB.out.size; simp; omega))
          have ik : IntsAt w2 (wr.heap.size + 1) 64 keyN := by simpa using hik
          have I2 := Lib.hid i2
          have IK := Lib.hid ik
          have B2 := Lib.hid b2
          have HTh := Lib.hid hTh
          clear i2 ik b2 hik hbk hTs hTh hconv hPs HPD HG HB HP H4 HL
          go_loopw [7, 9] (fun vh va wx => ∃ a k g cap : Nat, a = 64 * k ∧ a ≤ T.size ∧ va = .int .i64 a ∧ vh = .slice (some ⟨g, 0, none⟩) 8 cap ∧ IntsAt wx g 8 (hsh st0 (btn T) k).at ∧ Below w2.heap.size w2 wx) (fun _ a _ => T.size - (intOf a).toNat)
          case atStart => exact ⟨0, 0, wr.heap.size, 8, rfl, by omega, rfl, rfl, by rw [hsh_zero]; exact I2.out, Below.refl _ _⟩
          case round =>
            clear I2
            obtain ⟨a, k, gh, ch, hak, ha, rfl, rfl, hi, hbl⟩ := hrel
            have HI := Lib.hid hi
            have HB := Lib.hid hbl
            have HA := Lib.hid hak
            clear hi hbl
            by_cases hlt : a < T.size
            · have ha64 : a + 64 ≤ T.size := by omega
              clear hak
              go_wp2_with (go_at_call 85; refine (block_c (hsh st0 (btn T) k) (hsh_fit _ st0_fit _ _) _ ?_ gh ch _ 64 _ HI.out (IK.out.later HB.out)).mono ?_; (· rw [ByteArray.size_extract]; omega); rintro e w3 ⟨g3, c3, rfl, hi3, hb3⟩)
              go_roundw
              case rel =>
                refine ⟨a + 64, k + 1, g3, c3, by rw [HA.out]; omega, ha64, by go_num, rfl, ?_, HB.out.trans (hb3.mono HB.out.size)⟩
                rw [hsh_succ, blk_congr _ (fun j => btn T (64 * k + j)) (btn (T.extract a (a + 64))) (fun j hj => by rw [btn_extract T a (a + 64) j (by omega) ha64, HA.out])]
                exact hi3
              case measure => simp [intOf]; omega
            · obtain rfl : a = T.size := by omega
              have hk : k = T.size / 64 := by omega
              have hi4 := HI.out
              rw [hk, HTh.out] at hi4
              have b4 : Below w.heap.size w wr := B2.out.trans (HB.out.mono B2.out.size)
              have I4 := Lib.hid hi4
              have B4 := Lib.hid b4
              clear HI HB HA IK B2 HTh hk hi4 b4 hak ha hlt hL64
              go_wp2
              go_loopw [10, 11] (fun vo vi wx => ∃ m : Nat, m ≤ 8 ∧ vi = .int .i64 m ∧ Grows wx wr.heap.size vo (digL (shaS s) m) ∧ Below wr.heap.size wr wx) (fun _ i _ => 8 - (intOf i).toNat)
              case atStart => exact ⟨0, by omega, rfl, grows_empty wr, (Below.refl _ _).alloc (Nat.le_refl _) _⟩
              case round =>
                obtain ⟨m, hm, rfl, hgr, hb5⟩ := hrel
                by_cases hlt : m < 8
                · have ci := (I4.out.later hb5) m hlt
                  have bX := Reg.at_lt (shaS s) (shaS_fit s) m
                  have hgl := block_lt_of_cell (I4.out 0 (by omega))
                  dsimp only at hgl
                  generalize hXX : (shaS s).at m = X at ci bX
                  obtain ⟨Z0, Z1, Z2, Z3, hw4, f0, f1, f1', f2, f2', f3, f3'⟩ := word4 X bX
                  have HX := Lib.hid hXX
                  have HG := Lib.hid hgr
                  have HB := Lib.hid hb5
                  have HW4 := Lib.hid hw4
                  clear hgr hb5 hXX hw4
                  have y1 : (0 : Int) ≤ (m : Int) := by omega
                  have y2 : (m : Int) < 8 := by omega
                  go_wp2
                  go_region_held3 (fun w' => w'.cell? ⟨gh, m, none⟩ = some (.int .i64 (X : Int))) (first | go_keep | (rw [hb'.cell (p := ⟨gh, m, none⟩) hgl]; go_keep))
                    (first | (refine step_append_bytes rfl (.tmp 65) (.tmp 92) rfl _ u10 (digL (shaS s) m) [Z0, Z1, Z2, Z3] (by simp [Act.eval]) (HG.out.alloc _).drew wr.heap.size 4 4 (by simp [Act.eval]) rfl (src_four wr Z0 Z1 Z2 Z3).drew (by rw [digL_length]; omega) (by have := HB.out.size; simp; omega) ?_; intro v' w' hgr' hb'))
                  go_wp2
                  go_roundw
                  case rel =>
                    refine ⟨m + 1, by omega, by go_num, ?_, ((HB.out.alloc HB.out.size _).drew).trans hb'⟩
                    rw [digL, HX.out, HW4.out]
                    exact hgr'
                  case measure => simp [intOf]; omega
                · obtain rfl : m = 8 := by omega
                  have hconv := conv_grows wr _ _ _ hgr
                  have HB := Lib.hid hb5
                  clear hgr hb5
                  go_wp2
                  go_ret
                  exact ⟨rfl, B4.out.trans (HB.out.mono B4.out.size)⟩
end Go.Proofs.YtmdacoppkjclmaaDoor
/- The model's Short. -/
namespace Go.Proofs.YtmdacoppkjclmaaDoor
open Go.RowKit Go.PlainAid
set_option linter.unusedVariables false

/-- A string's digest. -/
@[irreducible] def shaD (t : ByteArray) : ByteArray := strOfNums (digL (shaS t) 8)
theorem shaD_size (t : ByteArray) : (shaD t).size = 32 := by rw [shaD, strOfNums_size, digL_length]
theorem spec_shaD (s : ByteArray) (hs : s.size ≤ 1048577) (w : World) :
    Calls Tryd.prog 79 #[.string s] w fun e w' => e = .returned (.string (shaD s)) ∧ Below w.heap.size w w' := by
  rw [shaD]
  exact spec_sha s hs w
theorem spec_short (s : ByteArray) (hs : s.size ≤ 1048577) (w : World) :
    Calls Tryd.prog 71 #[.string s] w fun e w' => e = .returned (.string ((shaD s).extract 0 8)) ∧ Below w.heap.size w w' := by
  have hd := shaD_size s
  have HC := Lib.hid (spec_shaD s hs w)
  go_enter Tryd.func71, Tryd.ntmps71
  go_wp2_with (go_at_call 79; refine HC.out.mono ?_; rintro e w1 ⟨rfl, hb1⟩)
  go_ret
  exact ⟨rfl, hb1⟩


end Go.Proofs.YtmdacoppkjclmaaDoor
