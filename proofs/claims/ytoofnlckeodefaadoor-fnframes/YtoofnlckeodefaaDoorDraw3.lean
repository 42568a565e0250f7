/- The model's cursor: a text that is drawn. -/
import Derived.Test.YtoofnlckeodefaaDoorDraw2
namespace Go.Proofs.YtoofnlckeodefaaDoor
open Go.RowKit Go.PlainAid
set_option linter.unusedVariables false

theorem grown_below {w w1 w2 : World} {g : Nat} (h : w.grownBy w1 (some g)) (hb : Below w.heap.size w1 w2) : w.grownBy w2 (some g) :=
  ⟨hb.os.trans h.os, hb.tape.trans h.tape, hb.output.trans h.output, Nat.le_trans h.size hb.size, fun k hk hne => (hb.block k hk).trans (h.block k hk hne)⟩
theorem below_cur {w w1 : World} {g B : Nat} (h : w.grownBy w1 (some g)) (hB : B ≤ g) (hg : g < w.heap.size) : Below B w w1 :=
  (Below.refl _ _).grown h (by omega) (fun k hk => by have := Option.some.inj hk; omega)
theorem Grows.byte {w w' : World} {base g : Nat} {v : Value} {l : List Int} (h : Grows w base v l) (hg : w.grownBy w' (some g)) (hlt : g < base) : Grows w' base v l := by
  refine World.ownsRow.kept h hg ?_
  match hv : v.ownBlock with
  | none => exact .inl rfl
  | some k =>
    right
    have := (World.ownsRow.lt h k hv).1
    intro e
    have := Option.some.inj e
    omega
theorem At.append {xs : List Int} {w w' : World} {g B : Nat} {v : Value} {s : St} (h : At xs w g v s) (hb : Below B w w') (hg : g < B)
    (hc : ∀ b, b ≠ g → b < B → w'.heap[b]? = w.heap[b]?) (hB : ∀ (a : Option Addr) (n c : Nat), v = .slice a n c → 0 < n → ∀ b off, a = some ⟨b, off, none⟩ → b < B) : At xs w' g v s := by
  refine ⟨?_, ?_, h.le⟩
  · have := h.cur
    unfold Cur at *
    rw [hb.block g hg]
    exact this
  · obtain ⟨h1, h2, a, cap, rfl, h3⟩ := h.code
    refine ⟨h1, h2, a, cap, rfl, fun h0 => ?_⟩
    obtain ⟨b, off, hne, hlt, ha, hcell⟩ := h3 h0
    have hbB := hB a _ _ rfl h0 b off ha
    exact ⟨b, off, hne, Nat.lt_of_lt_of_le hlt hb.size, ha, fun i hi => (hb.cell (p := ⟨b, off + i, none⟩) hbB).trans (hcell i hi)⟩
/-- Where the code's cells lie: below B. -/
def Under (v : Value) (B : Nat) : Prop := ∀ (a : Option Addr) (n c : Nat), v = .slice a n c → 0 < n → ∀ b off, a = some ⟨b, off, none⟩ → b < B
theorem At.under {xs : List Int} {w : World} {g : Nat} {v : Value} {s : St} (h : At xs w g v s) : Under v w.heap.size := by
  intro a n c hv h0 b off ha
  obtain ⟨_, _, a', cap, hv', h3⟩ := h.code
  rw [hv] at hv'
  simp only [Value.slice.injEq] at hv'
  obtain ⟨rfl, hn, rfl⟩ := hv'
  obtain ⟨b', off', _, hlt, ha', _⟩ := h3 (by omega)
  rw [ha] at ha'
  simp only [Option.some.injEq, Addr.mk.injEq] at ha'
  omega
theorem At.keep {xs : List Int} {w w' : World} {g B : Nat} {v : Value} {s : St} (h : At xs w g v s) (hb : Below B w w') (hg : g < B) (hu : Under v B) : At xs w' g v s :=
  h.append hb hg (fun b _ hlt => hb.block b hlt) hu

set_option maxHeartbeats 1000000 in
theorem text_at (xs : List Int) (most : Int) (w : World) (g : Nat) (v : Value) (s : St) (h : At xs w g v s) (h0 : 0 ≤ most) (h1 : most ≤ 1000) :
    Calls Tryd.prog 19 #[.pointer (some ⟨g, 0, none⟩), .int .i64 most] w fun e w' => e = .returned (.string (strOfNums (teL xs most s))) ∧ At xs w' g v (teS xs most s) ∧ w.grownBy w' (some g) := by
  have hu := h.under
  have hg := h.cur.lt
  have hA0 : At xs (w.alloc (.cells #[] 5)) g v s := h.other (World.grownBy_alloc w _ none)
  have hE := grows_empty w
  have hW0 : w.grownBy (w.alloc (.cells #[] 5)) (some g) := World.grownBy_alloc w _ _
  unfold teL teS
  have r4 := beV_range xs 4 s (by omega)
  have rm := beV_range xs (most + 1) (beS xs 4 s) (by omega)
  go_enter Tryd.func19, Tryd.ntmps19
  go_wp2_with fail
  refine (below_at xs _ _ g v s hA0 (by omega)).mono ?_
  rintro e w1 ⟨rfl, hA1, hg1⟩
  go_wp2_with fail
  refine (below_at xs _ _ g v _ hA1 (by omega)).mono ?_
  rintro e w2 ⟨rfl, hA2, hg2⟩
  have hE2 := (hE.byte hg1 hg).byte hg2 hg
  have hW2 := (hW0.trans hg1).trans hg2
  clear hA0 hA1 hE hW0 hg1 hg2 h
  generalize hst : beV xs 4 s = style at *
  generalize hnn : beV xs (most + 1) (beS xs 4 s) = n at *
  generalize hs2 : beS xs (most + 1) (beS xs 4 s) = s2 at *
  have HST := Lib.hid hst
  have HNN := Lib.hid hnn
  have HS2 := Lib.hid hs2
  clear hst hnn hs2
  go_wp2
  go_loopw [5, 7] (fun o nv wr => ∃ k : Nat, (k : Int) ≤ n ∧ nv = .int .i64 (n - k) ∧ Grows wr w.heap.size o (tL xs style s2 k) ∧ At xs wr g v (itS xs s2 k) ∧ w.grownBy wr (some g)) (fun _ nv _ => (intOf nv).toNat)
  case atStart => exact ⟨0, by omega, by go_num, hE2, hA2, hW2⟩
  case round =>
    obtain ⟨k, hk, rfl, hgr, hA, hW⟩ := hrel
    have hl : (tL xs style s2 k).length ≤ 1000 := by rw [tL_length]; omega
    have rb := bV_range xs (itS xs s2 k)
    have ht : tL xs style s2 (k + 1) = tL xs style s2 k ++ [tB style (bV xs (itS xs s2 k))] := rfl
    have hi : itS xs s2 (k + 1) = sN xs (itS xs s2 k) := rfl
    by_cases hlt : (k : Int) < n
    · have HT := Lib.hid ht
      have HI := Lib.hid hi
      clear ht hi
      have hws : w.heap.size ≤ wr.heap.size := hW.size
      by_cases e1 : style = 1
      · have hb : tB style (bV xs (itS xs s2 k)) = bV xs (itS xs s2 k) % 2 := by unfold tB; rw [if_pos e1]
        have z1 : (style == 1) = true := by simpa using e1
        have z2 : (style == 2) = false := by rw [e1]; rfl
        have HB := Lib.hid hb
        clear hb e1
        go_wp2_with (first | (go_at_call 30; refine (byte_at xs _ g v _ hA).mono ?_; rintro e w3 ⟨rfl, hA3, hg3⟩; have hgr3 := hgr.byte hg3 hg; have hs3 := hg3.size) | (at_builtin; refine wp_append_bytes rfl (.tmp 31) (.tmp 34) rfl w.heap.size _ (tL xs style s2 k) [_] rfl (hgr3.alloc _) w3.heap.size 1 1 rfl rfl (src_one w3 _) (by omega) (by simp; omega) ?_; intro v' w' hgr' hb'))
        have hb3 : Below w.heap.size w3 w' := ((Below.refl _ _).alloc (by omega) _).trans hb'
        go_roundw
        case rel =>
          refine ⟨k + 1, by omega, by go_num, ?_, ?_, grown_below (hW.trans hg3) hb3⟩
          · rw [HT.out, HB.out]; exact hgr'
          · rw [HI.out]; exact hA3.keep hb3 hg hu
        case measure => simp only [intOf]; omega
      · have z1 : (style == 1) = false := by simpa using e1
        by_cases e2 : style = 2
        · have hb : tB style (bV xs (itS xs s2 k)) = 97 + bV xs (itS xs s2 k) % 4 := by unfold tB; rw [if_neg e1, if_pos e2]
          have z2 : (style == 2) = true := by simpa using e2
          have HB := Lib.hid hb
          clear hb e1 e2
          go_wp2_with (first | (go_at_call 30; refine (byte_at xs _ g v _ hA).mono ?_; rintro e w3 ⟨rfl, hA3, hg3⟩; have hgr3 := hgr.byte hg3 hg; have hs3 := hg3.size) | (at_builtin; refine wp_append_bytes rfl (.tmp 31) (.tmp 34) rfl w.heap.size _ (tL xs style s2 k) [_] rfl (hgr3.alloc _) w3.heap.size 1 1 rfl rfl (src_one w3 _) (by omega) (by simp; omega) ?_; intro v' w' hgr' hb'))
          have hb3 : Below w.heap.size w3 w' := ((Below.refl _ _).alloc (by omega) _).trans hb'
          go_roundw
          case rel =>
            refine ⟨k + 1, by omega, by go_num, ?_, ?_, grown_below (hW.trans hg3) hb3⟩
            · rw [HT.out, HB.out]; exact hgr'
            · rw [HI.out]; exact hA3.keep hb3 hg hu
          case measure => simp only [intOf]; omega
        · have hb : tB style (bV xs (itS xs s2 k)) = bV xs (itS xs s2 k) := by unfold tB; rw [if_neg e1, if_neg e2]
          have z2 : (style == 2) = false := by simpa using e2
          have HB := Lib.hid hb
          clear hb e1 e2
          go_wp2_with (first | (go_at_call 30; refine (byte_at xs _ g v _ hA).mono ?_; rintro e w3 ⟨rfl, hA3, hg3⟩; have hgr3 := hgr.byte hg3 hg; have hs3 := hg3.size) | (at_builtin; refine wp_append_bytes rfl (.tmp 31) (.tmp 34) rfl w.heap.size _ (tL xs style s2 k) [_] rfl (hgr3.alloc _) w3.heap.size 1 1 rfl rfl (src_one w3 _) (by omega) (by simp; omega) ?_; intro v' w' hgr' hb'))
          have hb3 : Below w.heap.size w3 w' := ((Below.refl _ _).alloc (by omega) _).trans hb'
          go_roundw
          case rel =>
            refine ⟨k + 1, by omega, by go_num, ?_, ?_, grown_below (hW.trans hg3) hb3⟩
            · rw [HT.out, HB.out]; exact hgr'
            · rw [HI.out]; exact hA3.keep hb3 hg hu
          case measure => simp only [intOf]; omega
    · have hk2 : n.toNat = k := by omega
      have HK := Lib.hid hk2
      clear hk2 ht hi
      have hconv := conv_grows wr w.heap.size _ _ hgr
      go_wp2
      go_ret
      exact ⟨by rw [HST.out, HS2.out, HNN.out, HK.out]; rfl, by rw [HS2.out, HNN.out, HK.out]; exact hA, hW⟩
end Go.Proofs.YtoofnlckeodefaaDoor
