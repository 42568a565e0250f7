/- A drawn log: what can be read, whatever it is. -/
import Derived.Test.YtemhhjkmolndbaaDoorLogW
import Derived.Test.YtemhhjkmolndbaaDoorLogNewC
import Derived.Test.YtemhhjkmolndbaaDoorSpX
import Derived.Test.YtemhhjkmolndbaaDoorDrw
import Derived.Test.YtemhhjkmolndbaaDoorSgP
namespace Go.Proofs.YtemhhjkmolndbaaDoor
open Go.RowKit Go.PlainAid
set_option linter.unusedVariables false

theorem inv_new : Inv newL 1 0 := by
  have e0 : sF newL 0 = 1 := sF_of (x := ⟨1, ⟨#[]⟩⟩) rfl
  have e1 : sT newL 0 = ⟨#[]⟩ := sT_of (x := ⟨1, ⟨#[]⟩⟩) rfl
  have a0 : atN newL 0 = 1 := e0
  refine ⟨(okB_iff _ _ _).2 ⟨by decide, by decide, by rw [e0]; decide, by decide, by decide, by decide, ?_, fun k hk => ?_⟩, by rw [e0]; decide⟩
  · show (1 : Int) = atN newL (0 + 1)
    rw [atN_succ, a0, e1, nF_empty]; rfl
  · have : k = 0 := by have : newL.length = 1 := rfl; omega
    subst this
    exact (gB_iff _ _ _).2 ⟨by rw [e0, a0], by rw [e1]; exact whl_empty, .inl (by rw [e1]; decide), .inl rfl⟩
set_option maxHeartbeats 400000 in
theorem once_any (B g : Nat) (n : Int) (w : World) (h : Dr B w g) (h0 : 0 < n) (h1 : n ≤ 1000) :
    Calls Tryd.prog 56 #[.pointer (some ⟨g, 0, none⟩), .int .i64 n] w fun e w' => (∃ x : Bool, e = .returned (.bool x)) ∧ Dr B w' g ∧ w.grownBy w' (some g) := by
  have H := Lib.hid (dr_below B g n w h h0 h1)
  clear h
  go_enter Tryd.func56, Tryd.ntmps56
  go_wp2_with fail
  refine H.out.mono ?_
  rintro e w1 ⟨⟨x, rfl, x0, x1⟩, hd, hg⟩
  have HD := Lib.hid hd
  have HG := Lib.hid hg
  clear hd hg
  go_wp2
  go_ret
  exact ⟨⟨_, rfl⟩, HD.out, HG.out⟩
theorem grown_hi {w0 w w' : World} {g : Nat} {row : Option Nat} (h : w0.grownBy w (some g)) (hg : w.grownBy w' row) (hr : ∀ k, row = some k → w0.heap.size ≤ k) : w0.grownBy w' (some g) :=
  ⟨hg.os.trans h.os, hg.tape.trans h.tape, hg.output.trans h.output, Nat.le_trans h.size hg.size, fun k hk hne => by
    rw [hg.block k (Nat.lt_of_lt_of_le hk h.size) (fun e => by have := hr k e.symm; omega)]
    exact h.block k hk hne⟩
/-- A log that is being drawn: the cursor in block g, the result's box r0, the log's box gx. -/
structure Lw (B g r0 gx : Nat) (w0 w : World) (l : List Sg) (n m : Int) (a : Option Addr) (k cap : Nat) : Prop where
  dr : Dr B w g
  b0 : Bx w r0 26 #[.slice none 0 0, .int .i64 0, .int .i64 0]
  bx : Bx w gx 26 #[.slice a k cap, .int .i64 n, .int .i64 m]
  sg : SegOwn w (r0 + 1) (.slice a k cap) l
  nb : Value.ownBlock (.slice a k cap) ≠ some gx
  iv : Inv l n m
  af : w0.grownBy w (some g)
  o1 : B ≤ r0
  o2 : r0 < gx
  o3 : w0.heap.size ≤ r0
theorem Lw.call {B g r0 gx : Nat} {w0 w w' : World} {l : List Sg} {n m : Int} {a : Option Addr} {k cap : Nat} (h : Lw B g r0 gx w0 w l n m a k cap) (hd : Dr B w' g) (hg : w.grownBy w' (some g)) : Lw B g r0 gx w0 w' l n m a k cap := by
  have h1 := h.dr.1
  have h2 := h.o1
  have h3 := h.o2
  exact ⟨hd, h.b0.keep hg (by simp; omega), h.bx.keep hg (by simp; omega), h.sg.kept hg (fun k hk => by cases hk; omega), h.nb, h.iv, h.af.trans hg, h.o1, h.o2, h.o3⟩
theorem Lw.later {B g r0 gx : Nat} {w0 w w' : World} {l : List Sg} {n m : Int} {a : Option Addr} {k cap : Nat} (h : Lw B g r0 gx w0 w l n m a k cap) (hb : Below w.heap.size w w') : Lw B g r0 gx w0 w' l n m a k cap := by
  have h1 := h.o1
  have h2 := h.b0.lt
  exact ⟨h.dr.keep (hb.mono (by omega)), h.b0.after hb, h.bx.after hb, h.sg.later hb, h.nb, h.iv, h.af.trans (grown_all hb _), h.o1, h.o2, h.o3⟩
theorem Lw.alloc {B g r0 gx : Nat} {w0 w : World} {l : List Sg} {n m : Int} {a : Option Addr} {k cap : Nat} (h : Lw B g r0 gx w0 w l n m a k cap) (o : Obj) : Lw B g r0 gx w0 (w.alloc o) l n m a k cap := h.later ((Below.refl _ _).alloc (Nat.le_refl _) _)
theorem Lw.drew {B g r0 gx : Nat} {w0 w : World} {l : List Sg} {n m : Int} {a : Option Addr} {k cap : Nat} (h : Lw B g r0 gx w0 w l n m a k cap) : Lw B g r0 gx w0 w.drew l n m a k cap := h.later (Below.refl _ _).drew
theorem Lw.segs {B g r0 gx : Nat} {w0 w : World} {l : List Sg} {n m : Int} {a : Option Addr} {k cap : Nat} (h : Lw B g r0 gx w0 w l n m a k cap) : Segs w (.slice a k cap) l := h.sg.segs (fun j hj => by have := h.iv.small j hj; omega)
theorem Lw.small {B g r0 gx : Nat} {w0 w : World} {l : List Sg} {n m : Int} {a : Option Addr} {k cap : Nat} (h : Lw B g r0 gx w0 w l n m a k cap) (j : Nat) (hj : j < l.length) : (sT l j).size ≤ 1048576 := by have := h.iv.small j hj; omega
/-- Another log is put into the box. -/
theorem Lw.put {B g r0 gx b : Nat} {w0 w : World} {l l' : List Sg} {n m n' m' : Int} {a a' : Option Addr} {k cap k' cap' : Nat} (h : Lw B g r0 gx w0 w l n m a k cap) (hs : SegOwn w b (.slice a' k' cap') l') (hb : gx < b) (hi : Inv l' n' m') :
    Lw B g r0 gx w0 (st3 w gx (.slice a' k' cap') (.int .i64 n') (.int .i64 m')) l' n' m' a' k' cap' := by
  have h1 := h.dr.1
  have h2 := h.o1
  have h3 := h.o2
  have h4 := h.o3
  have hB : Below B w (st3 w gx (.slice a' k' cap') (.int .i64 n') (.int .i64 m')) := (((Below.refl _ _).setCell (by simp only; omega) _).setCell (by simp only; omega) _).setCell (by simp only; omega) _
  have hl := (okB_len hi.ok).1
  refine ⟨h.dr.keep hB, h.b0.st3o (by omega) _ _ _, h.bx.st3 _ _ _, (hs.st3 hb _ _ _).mono (by omega), fun e => ?_, hi, ?_, h2, h3, h4⟩
  · have := (hs.block hl gx e).1
    omega
  · exact grown_hi h.af (grow_st3 _ _ _ _ _) (fun k hk => by cases hk; omega)
theorem Lw.st3o {B g r0 gx gz : Nat} {w0 w : World} {l : List Sg} {n m : Int} {a : Option Addr} {k cap : Nat} (h : Lw B g r0 gx w0 w l n m a k cap) (hz : gx < gz) (hn : Value.ownBlock (.slice a k cap) ≠ some gz) (y0 y1 y2 : Value) : Lw B g r0 gx w0 (Go.Proofs.YtemhhjkmolndbaaDoor.st3 w gz y0 y1 y2) l n m a k cap := by
  have h1 := h.dr.1
  have h2 := h.o1
  have h3 := h.o2
  have h4 := h.o3
  have hB : Below B w (Go.Proofs.YtemhhjkmolndbaaDoor.st3 w gz y0 y1 y2) := (((Below.refl _ _).setCell (by simp only; omega) _).setCell (by simp only; omega) _).setCell (by simp only; omega) _
  exact ⟨h.dr.keep hB, h.b0.st3o (by omega) _ _ _, h.bx.st3o (by omega) _ _ _, h.sg.keepB (grow_st3 _ _ _ _ _) (fun k hk => by cases hk; exact hn), h.nb, h.iv, grown_hi h.af (grow_st3 _ _ _ _ _) (fun k hk => by cases hk; omega), h2, h3, h4⟩
theorem Lw.own {B g r0 gx : Nat} {w0 w : World} {l : List Sg} {n m : Int} {a : Option Addr} {k cap : Nat} (h : Lw B g r0 gx w0 w l n m a k cap) (z : Nat) (hz : w.heap.size ≤ z) : Value.ownBlock (.slice a k cap) ≠ some z := fun e => by
  have := (h.sg.block (okB_len h.iv.ok).1 z e).2
  omega
theorem Lw.lts {B g r0 gx : Nat} {w0 w : World} {l : List Sg} {n m : Int} {a : Option Addr} {k cap : Nat} (h : Lw B g r0 gx w0 w l n m a k cap) : g < gx ∧ gx < w.heap.size := by
  have h1 := h.dr.1
  have h2 := h.o1
  have h3 := h.o2
  exact ⟨by omega, h.bx.lt⟩
/-- The box into which a new log is laid. -/
abbrev Zb (w : World) (z : Nat) : Prop := Bx w z 26 #[.slice none 0 0, .int .i64 0, .int .i64 0]
/-- A log of a call's own comes back. -/
def NewLog (e : Ending) (w w' : World) : Prop := ∃ a k c n m b, e = .returned (.tuple #[.agg #[.slice a k c, .int .i64 n, .int .i64 m], .bool b]) ∧ ∃ l, SegOwn w' w.heap.size (.slice a k c) l ∧ Inv l n m ∧ Below w.heap.size w w'
theorem mark_any {B g r0 gx : Nat} {w0 w : World} {l : List Sg} {n m : Int} {a : Option Addr} {k cap : Nat} (h : Lw B g r0 gx w0 w l n m a k cap) (x : Int) : Calls Tryd.prog 22 #[.agg #[.slice a k cap, .int .i64 n, .int .i64 m], .int .i64 x] w fun e w' => NewLog e w w' :=
  (spec_mark _ l n m x w h.segs h.small).mono fun e w' ⟨⟨a', k', c', he, hs, _⟩, hb⟩ => ⟨a', k', c', _, _, _, he, _, hs, mark_keep x h.iv, hb⟩
theorem cut_any {B g r0 gx : Nat} {w0 w : World} {l : List Sg} {n m : Int} {a : Option Addr} {k cap : Nat} (h : Lw B g r0 gx w0 w l n m a k cap) (x : Int) : Calls Tryd.prog 86 #[.agg #[.slice a k cap, .int .i64 n, .int .i64 m], .int .i64 x] w fun e w' => NewLog e w w' :=
  (spec_cut _ l n m x w h.segs h.small).mono fun e w' ⟨⟨a', k', c', he, hs, _⟩, hb⟩ => ⟨a', k', c', _, _, _, he, _, hs, (cut_inv h.iv).1, hb⟩
theorem add_any {B g r0 gx : Nat} {w0 w : World} {l : List Sg} {n m : Int} {a : Option Addr} {k cap : Nat} (h : Lw B g r0 gx w0 w l n m a k cap) (s : ByteArray) (hs : s.size ≤ 200) : Calls Tryd.prog 87 #[.agg #[.slice a k cap, .int .i64 n, .int .i64 m], .string s] w fun e w' => NewLog e w w' :=
  (spec_add _ l n m s w h.segs h.small (by omega)).mono fun e w' ⟨⟨a', k', c', he, hs', _⟩, hb⟩ => ⟨a', k', c', _, _, _, he, _, hs', add_keep s h.iv hs, hb⟩
/-- What the box's cells are set to. -/
theorem Lw.tweak {B g r0 gx : Nat} {w0 w : World} {l : List Sg} {n m : Int} {a : Option Addr} {k cap : Nat} (h : Lw B g r0 gx w0 w l n m a k cap) (j : Nat) (x : Value) :
    Dr B (w.setCell ⟨gx, j, none⟩ x) g ∧ Zb (w.setCell ⟨gx, j, none⟩ x) r0 ∧ SegOwn (w.setCell ⟨gx, j, none⟩ x) (r0 + 1) (.slice a k cap) l ∧ w0.grownBy (w.setCell ⟨gx, j, none⟩ x) (some g) := by
  have h1 := h.dr.1
  have h2 := h.o1
  have h3 := h.o2
  have h4 := h.o3
  exact ⟨h.dr.keep ((Below.refl _ _).setCell (by simp only; omega) _), h.b0.set_other _ _ (by simp only [ne_eq]; omega), h.sg.keepB (grownBy_set _ _ _ _) (fun k hk => by cases hk; exact h.nb), grown_hi h.af (grownBy_set _ _ _ _) (fun k hk => by cases hk; omega)⟩
/-- The log is changed behind its drawing: what holds of it yet. -/
structure Lv (B g r0 gx : Nat) (w0 w : World) (n m : Int) (a : Option Addr) (k cap : Nat) : Prop where
  dr : Dr B w g
  b0 : Zb w r0
  bx : Bx w gx 26 #[.slice a k cap, .int .i64 n, .int .i64 m]
  sg : ∃ l, SegOwn w (r0 + 1) (.slice a k cap) l ∧ ∀ j, j < l.length → (sT l j).size ≤ 1048576
  af : w0.grownBy w (some g)
theorem Lw.spoil {B g r0 gx gb o : Nat} {w0 w : World} {l : List Sg} {n m : Int} {k cap : Nat} (h : Lw B g r0 gx w0 w l n m (some ⟨gb, o, none⟩) k cap) (r : ByteArray) (hr : r.size ≤ 2003) :
    Lv B g r0 gx w0 (w.setCell ⟨gb, o + 1, none⟩ (.string r)) n m (some ⟨gb, o, none⟩) k cap := by
  have h1 := h.dr.1
  have h2 := h.o1
  have h3 := h.o2
  have h4 := h.o3
  have hl := (okB_len h.iv.ok).1
  have hb := (h.sg.block hl gb rfl).1
  have hs := h.sg.setT 0 r hl
  rw [Nat.zero_mul, Nat.add_zero] at hs
  refine ⟨h.dr.keep ((Below.refl _ _).setCell (by simp only; omega) _), h.b0.set_other _ _ (by simp only [ne_eq]; omega), h.bx.set_other _ _ (fun e => h.nb (by simp only at e; rw [e]; rfl)), ⟨_, hs, fun j hj => ?_⟩, grown_hi h.af (grownBy_set _ _ _ _) (fun k hk => by cases hk; omega)⟩
  rw [List.length_set] at hj
  rw [sT_set _ _ _ _ hl]
  split
  · show r.size ≤ _; omega
  · exact h.small j hj
theorem sT_push (l : List Sg) (z : Sg) (hz : z.txt.size ≤ 1048576) (ht : ∀ j, j < l.length → (sT l j).size ≤ 1048576) (j : Nat) (hj : j < (l ++ [z]).length) : (sT (l ++ [z]) j).size ≤ 1048576 := by
  by_cases h : j < l.length
  · rw [sT_left l _ j h]; exact ht j h
  · have : j = l.length := by simp at hj; omega
    subst this
    rw [sT_snoc]; exact hz
theorem Lw.push {B g r0 gx gb o : Nat} {w0 w W : World} {l l' : List Sg} {n m : Int} {k cap k' cap' : Nat} {a' : Option Addr} (h : Lw B g r0 gx w0 w l n m (some ⟨gb, o, none⟩) k cap) (hs : SegOwn W (r0 + 1) (.slice a' k' cap') l') (hg : w.grownBy W (some gb)) (hq : ∀ q, Value.ownBlock (.slice a' k' cap') = some q → q = gb ∨ w.heap.size ≤ q) (ht : ∀ j, j < l'.length → (sT l' j).size ≤ 1048576) :
    Lv B g r0 gx w0 (W.setCell ⟨gx, 0, none⟩ (.slice a' k' cap')) n m a' k' cap' := by
  have h1 := h.dr.1
  have h2 := h.o1
  have h3 := h.o2
  have h4 := h.o3
  have h5 := h.bx.lt
  have hl := (okB_len h.iv.ok).1
  have hb := (h.sg.block hl gb rfl).1
  have hne : gx ≠ gb := fun e => h.nb (by rw [e]; rfl)
  have hBW : Below B w W := (Below.refl _ _).grown hg (by omega) (fun k hk => by cases hk; omega)
  refine ⟨(h.dr.keep hBW).keep ((Below.refl _ _).setCell (by simp only; omega) _), (h.b0.keep hg (by simp; omega)).set_other _ _ (by simp only [ne_eq]; omega), (h.bx.keep hg (by simpa using hne)).set 0 _, ⟨l', hs.keepB (grownBy_set _ _ _ _) (fun k hk e => ?_), ht⟩, grown_hi (grown_hi h.af hg (fun k hk => by cases hk; omega)) (grownBy_set _ _ _ _) (fun k hk => by cases hk; omega)⟩
  cases hk
  rcases hq gx e with hq | hq
  · exact hne hq
  · omega
/-- What is drawn: a log that can be read. -/
def Drawn (B g : Nat) (w0 : World) (e : Ending) (w' : World) : Prop := (∃ a k cap n m, e = .returned (.agg #[.slice a k cap, .int .i64 n, .int .i64 m]) ∧ -1 ≤ m ∧ m ≤ 1000 ∧ ∃ l, SegOwn w' w0.heap.size (.slice a k cap) l ∧ ∀ j, j < l.length → (sT l j).size ≤ 1048576) ∧ Dr B w' g ∧ w0.grownBy w' (some g)
theorem fin_log {B g r0 k cap : Nat} {w0 w : World} {l : List Sg} {n m : Int} {a : Option Addr} (hd : Dr B w g) (hs : SegOwn w (r0 + 1) (.slice a k cap) l) (ht : ∀ j, j < l.length → (sT l j).size ≤ 1048576) (m0 : -1 ≤ m) (m1 : m ≤ 1000) (af : w0.grownBy w (some g)) (o1 : B ≤ r0) (o3 : w0.heap.size ≤ r0) :
    Drawn B g w0 (.returned (.agg #[.slice a k cap, .int .i64 n, .int .i64 m])) (st3 w r0 (.slice a k cap) (.int .i64 n) (.int .i64 m)) :=
  ⟨⟨a, k, cap, n, m, rfl, m0, m1, l, (hs.st3 (by omega) _ _ _).mono (by omega), ht⟩, hd.keep ((((Below.refl _ _).setCell (by simp only; omega) _).setCell (by simp only; omega) _).setCell (by simp only; omega) _), grown_hi af (grow_st3 _ _ _ _ _) (fun k hk => by cases hk; omega)⟩
set_option maxRecDepth 100000 in
set_option maxHeartbeats 2000000 in
theorem l6_some (B g : Nat) (w : World) (hd : Dr B w g) (hB : B ≤ w.heap.size) :
    Calls Tryd.prog 51 #[.pointer (some ⟨g, 0, none⟩)] w fun e w' => Drawn B g w e w' := by
  have hgB := hd.1
  have D0 := Lib.hid (hd.keep (((Below.refl w.heap.size w).alloc (Nat.le_refl _) (.cells #[.slice none 0 0, .int .i64 0, .int .i64 0] 26)).mono hB))
  have Z0 := Lib.hid (Bx.new w 26 #[.slice none 0 0, .int .i64 0, .int .i64 0] _ rfl)
  clear hd
  go_enter Tryd.func51, Tryd.ntmps51
  go_wp2_with fail
  refine (spec_logNew _).mono ?_
  rintro e w1 ⟨v1, rfl, s1, b1⟩
  obtain ⟨a1, k1, c1, rfl⟩ := s1.form
  have hsz := b1.size
  simp at hsz
  have L1 := Lib.hid (show Lw B g w.heap.size w1.heap.size w (w1.alloc (.cells #[.slice a1 k1 c1, .int .i64 1, .int .i64 0] 26)) newL 1 0 a1 k1 c1 from
    ⟨(D0.out.keep (b1.mono (by simp; omega))).keep (((Below.refl _ _).alloc (Nat.le_refl _) _).mono (by omega)), (Z0.out.after b1).alloc _, Bx.new w1 _ _ _ rfl, (by have h := s1.alloc (.cells #[.slice a1 k1 c1, .int .i64 1, .int .i64 0] 26); simpa using h), (fun e => by have := (s1.block (by decide) _ e).2; omega), inv_new,
      ((World.grownBy_alloc w _ _).trans (grown_all b1 _)).trans (World.grownBy_alloc w1 _ _), hB, by omega, Nat.le_refl _⟩)
  clear s1 b1 D0 Z0
  go_wp2_with fail
  refine (dr_below B g 24 _ L1.out.dr (by decide) (by decide)).mono ?_
  rintro e w2 ⟨⟨x, rfl, x0, x1⟩, hd, hg⟩
  have L2 := Lib.hid (L1.out.call hd hg)
  clear hd hg L1
  obtain ⟨x, rfl⟩ := Int.eq_ofNat_of_zero_le x0
  obtain ⟨r0, hr0⟩ : ∃ r0, w.heap.size = r0 := ⟨_, rfl⟩
  obtain ⟨gx, hgx⟩ : ∃ gx, w1.heap.size = gx := ⟨_, rfl⟩
  rw [hr0, hgx] at L2
  simp only [hr0, hgx]
  have HR := Lib.hid hr0
  have HGX := Lib.hid hgx
  clear x0 hsz hr0 hgx hB
  go_wp2
  go_loopw [4] (fun nv wr => ∃ (q : Nat) (l : List Sg) (n m : Int) (a : Option Addr) (k cap : Nat), q ≤ 23 ∧ nv = .int .i64 q ∧ Lw B g r0 gx w wr l n m a k cap) (fun nv _ => (intOf nv).toNat)
  case atStart => exact ⟨x, newL, 1, 0, a1, k1, c1, by omega, rfl, L2.out⟩
  case round =>
    clear L2 x1
    obtain ⟨q, l, n, m, a, k, cap, hq, rfl, hL⟩ := hrel
    have LL := Lib.hid hL
    clear hL
    by_cases h0 : q = 0
    · subst h0
      go_wp2_with fail
      refine (once_any B g 10 _ LL.out.dr (by decide) (by decide)).mono ?_
      rintro e w3 ⟨⟨y, rfl⟩, hd, hg⟩
      have L3 := Lib.hid (LL.out.call hd hg)
      clear hd hg LL
      have O1 := Lib.hid L3.out.o1
      have O3 := Lib.hid L3.out.o3
      obtain ⟨n0, n1, m0, m1⟩ := okB_n L3.out.iv.ok
      obtain ⟨z0, z1, z2⟩ := L3.out.b0.frozen3
      obtain ⟨c0, c2, c3⟩ := L3.out.b0.cells3
      obtain ⟨u0, u1, u2⟩ := L3.out.bx.cells3
      cases y
      · go_wp2
        exact bodyPost_ret (results_log Tryd.results51 _ _ r0 _ _ _ rfl (L3.out.b0.st3 _ _ _).cells3) rfl (fin_log (n := n) (m := m) L3.out.dr L3.out.sg L3.out.small (by omega) (by omega) L3.out.af O1.out O3.out)
      clear z0 z1 z2 c0 c2 c3
      go_wp2_with fail
      clear u0 u1 u2
      refine (dr_below B g 4 _ L3.out.dr (by decide) (by decide)).mono ?_
      rintro e w4 ⟨⟨z, rfl, z0, z1⟩, hd, hg⟩
      have L4 := Lib.hid (L3.out.call hd hg)
      clear hd hg L3
      have hz : z = 0 ∨ z = 1 ∨ z = 2 ∨ z = 3 := by omega
      clear z0 z1
      rcases hz with rfl | rfl | rfl | rfl
      · obtain ⟨u0, u1, u2⟩ := L4.out.bx.cells3
        obtain ⟨f0, f1, f2⟩ := L4.out.bx.frozen3
        have T := Lib.hid (L4.out.tweak 1 (.int .i64 (n + 1)))
        have SM := Lib.hid L4.out.small
        obtain ⟨y0, y1, y2⟩ := (L4.out.bx.set 1 (.int .i64 (n + 1))).cells3
        obtain ⟨z0, z1, z2⟩ := T.out.2.1.frozen3
        obtain ⟨c0, c2, c3⟩ := T.out.2.1.cells3
        go_wp2
        exact bodyPost_ret (results_log Tryd.results51 _ _ r0 _ _ _ rfl (T.out.2.1.st3 _ _ _).cells3) rfl (fin_log (n := n + 1) (m := m) T.out.1 T.out.2.2.1 SM.out (by omega) (by omega) T.out.2.2.2 O1.out O3.out)
      · go_wp2_with fail
        refine (dr_below B g 30 _ L4.out.dr (by decide) (by decide)).mono ?_
        rintro e w5 ⟨⟨z, rfl, z0, z1⟩, hd, hg⟩
        have L5 := Lib.hid (L4.out.call hd hg)
        clear hd hg L4
        obtain ⟨u0, u1, u2⟩ := L5.out.bx.cells3
        obtain ⟨f0, f1, f2⟩ := L5.out.bx.frozen3
        have T := Lib.hid (L5.out.tweak 2 (.int .i64 (z - 1)))
        have SM := Lib.hid L5.out.small
        obtain ⟨y0, y1, y2⟩ := (L5.out.bx.set 2 (.int .i64 (z - 1))).cells3
        obtain ⟨p0, p1, p2⟩ := T.out.2.1.frozen3
        obtain ⟨c0, c2, c3⟩ := T.out.2.1.cells3
        go_wp2
        exact bodyPost_ret (results_log Tryd.results51 _ _ r0 _ _ _ rfl (T.out.2.1.st3 _ _ _).cells3) rfl (fin_log (n := n) (m := z - 1) T.out.1 T.out.2.2.1 SM.out (by omega) (by omega) T.out.2.2.2 O1.out O3.out)
      · obtain ⟨gb, o, ha, hk, hbg, hgw, hc⟩ := L4.out.sg.cells (okB_len L4.out.iv.ok).1
        subst ha
        have hl1 := (okB_len L4.out.iv.ok).1
        obtain ⟨d0, d1, _, _⟩ := hc 0 hl1
        rw [Nat.zero_mul, Nat.add_zero] at d1
        have hts := L4.out.iv.small 0 hl1
        have HL1 := Lib.hid hl1
        obtain ⟨t, ht⟩ : ∃ t, sT l 0 = t := ⟨_, rfl⟩
        rw [ht] at d1 hts
        have HT0 := Lib.hid ht
        have hne : gx ≠ gb := fun e => L4.out.nb (by rw [e]; rfl)
        have hkp : (0 : Int) < (k : Int) := by omega
        have hkn : 0 < k := by omega
        clear hc d0 ht hbg
        obtain ⟨u0, u1, u2⟩ := L4.out.bx.cells3
        have HK := Lib.hid hk
        clear hk
        go_wp2_with fail
        go_region_law (first
          | (go_simp; go_at_call 89; refine (dr_spoil B g t _ L4.out.drew.dr (by omega)).mono ?_; rintro e w5 ⟨⟨r, rfl, hr⟩, hd, hg⟩; have L5 := Lib.hid (L4.out.drew.call hd hg); obtain ⟨p0, p1, p2⟩ := L5.out.bx.cells3; have XX := Lib.hid (by have h := (L5.out.sg.cells HL1.out); obtain ⟨_, _, ha, _, _, _, hc⟩ := h; cases ha; have h := hc 0 HL1.out; rw [Nat.zero_mul, Nat.add_zero] at h; exact h.2); obtain ⟨x1, _, x3⟩ := XX.out; clear hd hg))
        all_goals
          have V := Lib.hid (L5.out.spoil r hr)
          obtain ⟨y0, y1, y2⟩ := V.out.bx.cells3
          obtain ⟨z0, z1, z2⟩ := V.out.b0.frozen3
          obtain ⟨c0, c2, c3⟩ := V.out.b0.cells3
          clear p0 p1 p2 x1 x3 u0 u1 u2
          go_wp2
          obtain ⟨l', hl', hs'⟩ := V.out.sg
          exact bodyPost_ret (results_log Tryd.results51 _ _ r0 _ _ _ rfl (V.out.b0.st3 _ _ _).cells3) rfl (fin_log (n := n) (m := m) V.out.dr hl' hs' (by omega) (by omega) V.out.af O1.out O3.out)
      · obtain ⟨gb, o, ha, hk, hbg, hgw, hc⟩ := L4.out.sg.cells (okB_len L4.out.iv.ok).1
        subst ha
        have HLN := Lib.hid (okB_len L4.out.iv.ok)
        have HK := Lib.hid hk
        clear hc hk hbg
        have LA := Lib.hid (L4.out.alloc (.cells #[.int .i64 n, .string ⟨#[]⟩] 63))
        have HX := Lib.hid (show (w4.alloc (.cells #[.int .i64 n, .string ⟨#[]⟩] 63)).cell? ⟨w4.heap.size, 0, none⟩ = some (.int .i64 n) ∧ (w4.alloc (.cells #[.int .i64 n, .string ⟨#[]⟩] 63)).cell? ⟨w4.heap.size, 1, none⟩ = some (.string ⟨#[]⟩) from ⟨(Bx.new w4 _ _ _ rfl).cell 0 _ rfl, (Bx.new w4 _ _ _ rfl).cell 1 _ rfl⟩)
        obtain ⟨u0, u1, u2⟩ := L4.out.bx.cells3
        obtain ⟨f0, f1, f2⟩ := L4.out.bx.frozen3
        have LTS := Lib.hid LA.out.lts
        have RB := Lib.hid (show r0 + 1 ≤ (w4.alloc (.cells #[.int .i64 n, .string ⟨#[]⟩] 63)).heap.size by have := LA.out.b0.lt; omega)
        go_wp2_with (at_builtin; go_loud (refine wp_append_seg rfl (.tmp 58) (.tmp 62) rfl (r0 + 1) gb o k cap l HK.out rfl LA.out.sg HLN.out.1 (by have := HLN.out.2; omega) ⟨n, ⟨#[]⟩⟩ w4.heap.size 1 rfl HX.out RB.out ?_; intro a6 k6 c6 w6 s6 g6 q6; have V := Lib.hid (LA.out.push s6 g6 q6 (sT_push l _ (Nat.zero_le _) LA.out.small)); have B6 := Lib.hid (LA.out.bx.keep g6 (fun e => LA.out.nb (by cases e; rfl))); obtain ⟨y0, y1, y2⟩ := B6.out.cells3; obtain ⟨e0, e1, e2⟩ := B6.out.frozen3; obtain ⟨t0, t1, t2⟩ := V.out.bx.cells3; obtain ⟨z0, z1, z2⟩ := V.out.b0.frozen3; obtain ⟨c0, c2, c3⟩ := V.out.b0.cells3; clear s6 g6 q6 u0 u1 u2 f0 f1 f2))
        obtain ⟨l', hl', hs'⟩ := V.out.sg
        exact bodyPost_ret (results_log Tryd.results51 _ _ r0 _ _ _ rfl (V.out.b0.st3 _ _ _).cells3) rfl (fin_log (n := n) (m := m) V.out.dr hl' hs' (by omega) (by omega) V.out.af O1.out O3.out)
    · have hq1 : (0 : Int) < (q : Int) := by omega
      go_wp2_with fail
      refine (dr_below B g 7 _ LL.out.dr (by decide) (by decide)).mono ?_
      rintro e w3 ⟨⟨y, rfl, y0, y1⟩, hd, hg⟩
      have L3 := Lib.hid (LL.out.call hd hg)
      clear hd hg LL
      by_cases hy0 : y = 0
      · subst hy0
        --BEGIN mark
        obtain ⟨lt1, lt2⟩ := L3.out.lts
        have N3 := Lib.hid (L3.out.own w3.heap.size (Nat.le_refl _))
        obtain ⟨u0, u1, u2⟩ := L3.out.bx.cells3
        have CZ := Lib.hid (fun o => (L3.out.drew.alloc o).bx.cells3)
        go_wp2_with fail
        go_region_held3 (fun w' => w'.cell? ⟨gx, 0, none⟩ = some (.slice a k cap) ∧ w'.cell? ⟨gx, 1, none⟩ = some (.int .i64 n) ∧ w'.cell? ⟨gx, 2, none⟩ = some (.int .i64 m)) (first | (with_reducible exact ⟨u0, u1, u2⟩) | (with_reducible exact CY.out) | (with_reducible exact CZ.out _) | (with_reducible exact (L5.out.st3o HZ.out HN.out _ _ _).bx.cells3) | go_keep)
          (first
            | (go_at_call 52; (first
              | (refine (dr_below B g 4 _ L3.out.drew.dr (by decide) (by decide)).mono ?_; rintro e w4 ⟨⟨z, rfl, z0, z1⟩, hd, hg⟩; have L4 := Lib.hid (L3.out.drew.call hd hg))
              | (refine (dr_below B g 4 _ (L3.out.drew.alloc (.cells #[.slice none 0 0, .int .i64 0, .int .i64 0] 26)).dr (by decide) (by decide)).mono ?_; rintro e w4 ⟨⟨z, rfl, z0, z1⟩, hd, hg⟩; have L4 := Lib.hid ((L3.out.drew.alloc (.cells #[.slice none 0 0, .int .i64 0, .int .i64 0] 26)).call hd hg); have DX := Lib.hid (show Zb w4 w3.heap.size from (Bx.new w3.drew _ _ w3.heap.size rfl).keep hg (by simp; omega)); have HZ := Lib.hid lt2; have HN := Lib.hid N3.out; have HS := Lib.hid DX.out.lt)); have CY := Lib.hid L4.out.bx.cells3; have CZ := Lib.hid (fun o => (L4.out.alloc o).bx.cells3); clear hd hg)
            | (go_at_call 22; (first
              | (refine (mark_any L4.out _).mono ?_; rintro e w5 ⟨a5, k5, c5, n5, m5, b5, rfl, l5, s5, i5, hb⟩; have L5 := Lib.hid (L4.out.later hb); have S5 := Lib.hid s5; (try have DX := Lib.hid (DX.out.after hb)))
              | (refine (mark_any (L4.out.alloc (.cells #[.slice none 0 0, .int .i64 0, .int .i64 0] 26)) _).mono ?_; rintro e w5 ⟨a5, k5, c5, n5, m5, b5, rfl, l5, s5, i5, hb⟩; have L5 := Lib.hid ((L4.out.alloc (.cells #[.slice none 0 0, .int .i64 0, .int .i64 0] 26)).later hb); have S5 := Lib.hid s5; have DX := Lib.hid (show Zb w5 w4.heap.size from (Bx.new w4 _ _ w4.heap.size rfl).after hb); have HZ := Lib.hid L4.out.lts.2; have HN := Lib.hid (L4.out.own w4.heap.size (Nat.le_refl _)); have HS := Lib.hid (show w4.heap.size < (w4.alloc (.cells #[.slice none 0 0, .int .i64 0, .int .i64 0] 26)).heap.size by simp))); have I5 := Lib.hid i5; have CY := Lib.hid L5.out.bx.cells3; have CZ := Lib.hid (fun o => (L5.out.alloc o).bx.cells3); clear hb s5 i5; (try (obtain ⟨p0, p1, p2⟩ := DX.out.cells3; obtain ⟨v0, v1, v2⟩ := DX.out.frozen3))))
        · have L6 := Lib.hid (L5.out.alloc (.cells #[.slice a5 k5 c5, .int .i64 n5, .int .i64 m5] 26))
          have S6 := Lib.hid (S5.out.alloc (.cells #[.slice a5 k5 c5, .int .i64 n5, .int .i64 m5] 26))
          obtain ⟨e0, e1, e2⟩ := (Bx.new w5 26 #[.slice a5 k5 c5, .int .i64 n5, .int .i64 m5] _ rfl).cells3
          obtain ⟨f0, f1, f2⟩ := L6.out.bx.frozen3
          have HB := Lib.hid (L4.out.lts.2)
          try clear p0 p1 p2 v0 v1 v2
          clear u0 u1 u2
          go_wp2
          go_roundw
          case rel => exact ⟨q - 1, l5, n5, m5, a5, k5, c5, by omega, by go_num, L6.out.put S6.out HB.out I5.out⟩
          case measure => simp only [intOf]; omega
        · have L6 := Lib.hid (L5.out.st3o HZ.out HN.out (.slice a5 k5 c5) (.int .i64 n5) (.int .i64 m5))
          have S6 := Lib.hid (S5.out.st3 HS.out (.slice a5 k5 c5) (.int .i64 n5) (.int .i64 m5))
          obtain ⟨e0, e1, e2⟩ := (DX.out.st3 (.slice a5 k5 c5) (.int .i64 n5) (.int .i64 m5)).cells3
          obtain ⟨f0, f1, f2⟩ := L6.out.bx.frozen3
          have HB := Lib.hid (Nat.lt_trans HZ.out HS.out)
          try clear p0 p1 p2 v0 v1 v2
          clear u0 u1 u2
          go_wp2
          go_roundw
          case rel => exact ⟨q - 1, l5, n5, m5, a5, k5, c5, by omega, by go_num, L6.out.put S6.out HB.out I5.out⟩
          case measure => simp only [intOf]; omega
        · have L6 := Lib.hid (L5.out.st3o HZ.out HN.out (.slice a5 k5 c5) (.int .i64 n5) (.int .i64 m5))
          have S6 := Lib.hid (S5.out.st3 HS.out (.slice a5 k5 c5) (.int .i64 n5) (.int .i64 m5))
          obtain ⟨e0, e1, e2⟩ := (DX.out.st3 (.slice a5 k5 c5) (.int .i64 n5) (.int .i64 m5)).cells3
          obtain ⟨f0, f1, f2⟩ := L6.out.bx.frozen3
          have HB := Lib.hid (Nat.lt_trans HZ.out HS.out)
          try clear p0 p1 p2 v0 v1 v2
          clear u0 u1 u2
          go_wp2
          go_roundw
          case rel => exact ⟨q - 1, l5, n5, m5, a5, k5, c5, by omega, by go_num, L6.out.put S6.out HB.out I5.out⟩
          case measure => simp only [intOf]; omega
        --END mark
      · have z0 := beq_no hy0
        by_cases hy1 : y = 1
        · subst hy1
          clear z0
          go_wp2_with fail
          refine (once_any B g 3 _ L3.out.dr (by decide) (by decide)).mono ?_
          rintro e w3 ⟨⟨y', rfl⟩, hd, hg⟩
          have L3 := Lib.hid (L3.out.call hd hg)
          clear hd hg
          cases y'
          · go_wp2
            go_roundw
            case rel => exact ⟨q - 1, l, n, m, a, k, cap, by omega, by go_num, L3.out⟩
            case measure => simp only [intOf]; omega
          --BEGIN cut
          obtain ⟨lt1, lt2⟩ := L3.out.lts
          have N3 := Lib.hid (L3.out.own w3.heap.size (Nat.le_refl _))
          obtain ⟨u0, u1, u2⟩ := L3.out.bx.cells3
          have CZ := Lib.hid (fun o => (L3.out.drew.alloc o).bx.cells3)
          go_wp2_with fail
          go_region_held3 (fun w' => w'.cell? ⟨gx, 0, none⟩ = some (.slice a k cap) ∧ w'.cell? ⟨gx, 1, none⟩ = some (.int .i64 n) ∧ w'.cell? ⟨gx, 2, none⟩ = some (.int .i64 m)) (first | (with_reducible exact ⟨u0, u1, u2⟩) | (with_reducible exact CY.out) | (with_reducible exact CZ.out _) | (with_reducible exact (L5.out.st3o HZ.out HN.out _ _ _).bx.cells3) | go_keep)
            (first
              | (go_at_call 52; (first
                | (refine (dr_below B g 70 _ L3.out.drew.dr (by decide) (by decide)).mono ?_; rintro e w4 ⟨⟨z, rfl, z0, z1⟩, hd, hg⟩; have L4 := Lib.hid (L3.out.drew.call hd hg))
                | (refine (dr_below B g 70 _ (L3.out.drew.alloc (.cells #[.slice none 0 0, .int .i64 0, .int .i64 0] 26)).dr (by decide) (by decide)).mono ?_; rintro e w4 ⟨⟨z, rfl, z0, z1⟩, hd, hg⟩; have L4 := Lib.hid ((L3.out.drew.alloc (.cells #[.slice none 0 0, .int .i64 0, .int .i64 0] 26)).call hd hg); have DX := Lib.hid (show Zb w4 w3.heap.size from (Bx.new w3.drew _ _ w3.heap.size rfl).keep hg (by simp; omega)); have HZ := Lib.hid lt2; have HN := Lib.hid N3.out; have HS := Lib.hid DX.out.lt)); have CY := Lib.hid L4.out.bx.cells3; have CZ := Lib.hid (fun o => (L4.out.alloc o).bx.cells3); clear hd hg)
              | (go_at_call 86; (first
                | (refine (cut_any L4.out _).mono ?_; rintro e w5 ⟨a5, k5, c5, n5, m5, b5, rfl, l5, s5, i5, hb⟩; have L5 := Lib.hid (L4.out.later hb); have S5 := Lib.hid s5; (try have DX := Lib.hid (DX.out.after hb)))
                | (refine (cut_any (L4.out.alloc (.cells #[.slice none 0 0, .int .i64 0, .int .i64 0] 26)) _).mono ?_; rintro e w5 ⟨a5, k5, c5, n5, m5, b5, rfl, l5, s5, i5, hb⟩; have L5 := Lib.hid ((L4.out.alloc (.cells #[.slice none 0 0, .int .i64 0, .int .i64 0] 26)).later hb); have S5 := Lib.hid s5; have DX := Lib.hid (show Zb w5 w4.heap.size from (Bx.new w4 _ _ w4.heap.size rfl).after hb); have HZ := Lib.hid L4.out.lts.2; have HN := Lib.hid (L4.out.own w4.heap.size (Nat.le_refl _)); have HS := Lib.hid (show w4.heap.size < (w4.alloc (.cells #[.slice none 0 0, .int .i64 0, .int .i64 0] 26)).heap.size by simp))); have I5 := Lib.hid i5; have CY := Lib.hid L5.out.bx.cells3; have CZ := Lib.hid (fun o => (L5.out.alloc o).bx.cells3); clear hb s5 i5; (try (obtain ⟨p0, p1, p2⟩ := DX.out.cells3; obtain ⟨v0, v1, v2⟩ := DX.out.frozen3))))
          · have L6 := Lib.hid (L5.out.alloc (.cells #[.slice a5 k5 c5, .int .i64 n5, .int .i64 m5] 26))
            have S6 := Lib.hid (S5.out.alloc (.cells #[.slice a5 k5 c5, .int .i64 n5, .int .i64 m5] 26))
            obtain ⟨e0, e1, e2⟩ := (Bx.new w5 26 #[.slice a5 k5 c5, .int .i64 n5, .int .i64 m5] _ rfl).cells3
            obtain ⟨f0, f1, f2⟩ := L6.out.bx.frozen3
            have HB := Lib.hid (L4.out.lts.2)
            try clear p0 p1 p2 v0 v1 v2
            clear u0 u1 u2
            go_wp2
            go_roundw
            case rel => exact ⟨q - 1, l5, n5, m5, a5, k5, c5, by omega, by go_num, L6.out.put S6.out HB.out I5.out⟩
            case measure => simp only [intOf]; omega
          · have L6 := Lib.hid (L5.out.st3o HZ.out HN.out (.slice a5 k5 c5) (.int .i64 n5) (.int .i64 m5))
            have S6 := Lib.hid (S5.out.st3 HS.out (.slice a5 k5 c5) (.int .i64 n5) (.int .i64 m5))
            obtain ⟨e0, e1, e2⟩ := (DX.out.st3 (.slice a5 k5 c5) (.int .i64 n5) (.int .i64 m5)).cells3
            obtain ⟨f0, f1, f2⟩ := L6.out.bx.frozen3
            have HB := Lib.hid (Nat.lt_trans HZ.out HS.out)
            try clear p0 p1 p2 v0 v1 v2
            clear u0 u1 u2
            go_wp2
            go_roundw
            case rel => exact ⟨q - 1, l5, n5, m5, a5, k5, c5, by omega, by go_num, L6.out.put S6.out HB.out I5.out⟩
            case measure => simp only [intOf]; omega
          · have L6 := Lib.hid (L5.out.st3o HZ.out HN.out (.slice a5 k5 c5) (.int .i64 n5) (.int .i64 m5))
            have S6 := Lib.hid (S5.out.st3 HS.out (.slice a5 k5 c5) (.int .i64 n5) (.int .i64 m5))
            obtain ⟨e0, e1, e2⟩ := (DX.out.st3 (.slice a5 k5 c5) (.int .i64 n5) (.int .i64 m5)).cells3
            obtain ⟨f0, f1, f2⟩ := L6.out.bx.frozen3
            have HB := Lib.hid (Nat.lt_trans HZ.out HS.out)
            try clear p0 p1 p2 v0 v1 v2
            clear u0 u1 u2
            go_wp2
            go_roundw
            case rel => exact ⟨q - 1, l5, n5, m5, a5, k5, c5, by omega, by go_num, L6.out.put S6.out HB.out I5.out⟩
            case measure => simp only [intOf]; omega
          --END cut
        have z1 := beq_no hy1
        clear hy0 hy1
        --BEGIN add
        obtain ⟨lt1, lt2⟩ := L3.out.lts
        have N3 := Lib.hid (L3.out.own w3.heap.size (Nat.le_refl _))
        obtain ⟨u0, u1, u2⟩ := L3.out.bx.cells3
        have CZ := Lib.hid (fun o => (L3.out.drew.alloc o).bx.cells3)
        go_wp2_with fail
        go_region_held3 (fun w' => w'.cell? ⟨gx, 0, none⟩ = some (.slice a k cap) ∧ w'.cell? ⟨gx, 1, none⟩ = some (.int .i64 n) ∧ w'.cell? ⟨gx, 2, none⟩ = some (.int .i64 m)) (first | (with_reducible exact ⟨u0, u1, u2⟩) | (with_reducible exact CY.out) | (with_reducible exact CZ.out _) | (with_reducible exact (L5.out.st3o HZ.out HN.out _ _ _).bx.cells3) | go_keep)
          (first
            | (go_at_call 88; (first
              | (refine (dr_textN B g 20 _ L3.out.drew.dr (by decide) (by decide)).mono ?_; rintro e w4 ⟨⟨z, rfl, z0⟩, hd, hg⟩; have L4 := Lib.hid (L3.out.drew.call hd hg))
              | (refine (dr_textN B g 20 _ (L3.out.drew.alloc (.cells #[.slice none 0 0, .int .i64 0, .int .i64 0] 26)).dr (by decide) (by decide)).mono ?_; rintro e w4 ⟨⟨z, rfl, z0⟩, hd, hg⟩; have L4 := Lib.hid ((L3.out.drew.alloc (.cells #[.slice none 0 0, .int .i64 0, .int .i64 0] 26)).call hd hg); have DX := Lib.hid (show Zb w4 w3.heap.size from (Bx.new w3.drew _ _ w3.heap.size rfl).keep hg (by simp; omega)); have HZ := Lib.hid lt2; have HN := Lib.hid N3.out; have HS := Lib.hid DX.out.lt)); have CY := Lib.hid L4.out.bx.cells3; have CZ := Lib.hid (fun o => (L4.out.alloc o).bx.cells3); clear hd hg)
            | (go_at_call 87; (first
              | (refine (add_any L4.out _ (by omega)).mono ?_; rintro e w5 ⟨a5, k5, c5, n5, m5, b5, rfl, l5, s5, i5, hb⟩; have L5 := Lib.hid (L4.out.later hb); have S5 := Lib.hid s5; (try have DX := Lib.hid (DX.out.after hb)))
              | (refine (add_any (L4.out.alloc (.cells #[.slice none 0 0, .int .i64 0, .int .i64 0] 26)) _ (by omega)).mono ?_; rintro e w5 ⟨a5, k5, c5, n5, m5, b5, rfl, l5, s5, i5, hb⟩; have L5 := Lib.hid ((L4.out.alloc (.cells #[.slice none 0 0, .int .i64 0, .int .i64 0] 26)).later hb); have S5 := Lib.hid s5; have DX := Lib.hid (show Zb w5 w4.heap.size from (Bx.new w4 _ _ w4.heap.size rfl).after hb); have HZ := Lib.hid L4.out.lts.2; have HN := Lib.hid (L4.out.own w4.heap.size (Nat.le_refl _)); have HS := Lib.hid (show w4.heap.size < (w4.alloc (.cells #[.slice none 0 0, .int .i64 0, .int .i64 0] 26)).heap.size by simp))); have I5 := Lib.hid i5; have CY := Lib.hid L5.out.bx.cells3; have CZ := Lib.hid (fun o => (L5.out.alloc o).bx.cells3); clear hb s5 i5; (try (obtain ⟨p0, p1, p2⟩ := DX.out.cells3; obtain ⟨v0, v1, v2⟩ := DX.out.frozen3))))
        · have L6 := Lib.hid (L5.out.alloc (.cells #[.slice a5 k5 c5, .int .i64 n5, .int .i64 m5] 26))
          have S6 := Lib.hid (S5.out.alloc (.cells #[.slice a5 k5 c5, .int .i64 n5, .int .i64 m5] 26))
          obtain ⟨e0, e1, e2⟩ := (Bx.new w5 26 #[.slice a5 k5 c5, .int .i64 n5, .int .i64 m5] _ rfl).cells3
          obtain ⟨f0, f1, f2⟩ := L6.out.bx.frozen3
          have HB := Lib.hid (L4.out.lts.2)
          try clear p0 p1 p2 v0 v1 v2
          clear u0 u1 u2
          go_wp2
          go_roundw
          case rel => exact ⟨q - 1, l5, n5, m5, a5, k5, c5, by omega, by go_num, L6.out.put S6.out HB.out I5.out⟩
          case measure => simp only [intOf]; omega
        · have L6 := Lib.hid (L5.out.st3o HZ.out HN.out (.slice a5 k5 c5) (.int .i64 n5) (.int .i64 m5))
          have S6 := Lib.hid (S5.out.st3 HS.out (.slice a5 k5 c5) (.int .i64 n5) (.int .i64 m5))
          obtain ⟨e0, e1, e2⟩ := (DX.out.st3 (.slice a5 k5 c5) (.int .i64 n5) (.int .i64 m5)).cells3
          obtain ⟨f0, f1, f2⟩ := L6.out.bx.frozen3
          have HB := Lib.hid (Nat.lt_trans HZ.out HS.out)
          try clear p0 p1 p2 v0 v1 v2
          clear u0 u1 u2
          go_wp2
          go_roundw
          case rel => exact ⟨q - 1, l5, n5, m5, a5, k5, c5, by omega, by go_num, L6.out.put S6.out HB.out I5.out⟩
          case measure => simp only [intOf]; omega
        · have L6 := Lib.hid (L5.out.st3o HZ.out HN.out (.slice a5 k5 c5) (.int .i64 n5) (.int .i64 m5))
          have S6 := Lib.hid (S5.out.st3 HS.out (.slice a5 k5 c5) (.int .i64 n5) (.int .i64 m5))
          obtain ⟨e0, e1, e2⟩ := (DX.out.st3 (.slice a5 k5 c5) (.int .i64 n5) (.int .i64 m5)).cells3
          obtain ⟨f0, f1, f2⟩ := L6.out.bx.frozen3
          have HB := Lib.hid (Nat.lt_trans HZ.out HS.out)
          try clear p0 p1 p2 v0 v1 v2
          clear u0 u1 u2
          go_wp2
          go_roundw
          case rel => exact ⟨q - 1, l5, n5, m5, a5, k5, c5, by omega, by go_num, L6.out.put S6.out HB.out I5.out⟩
          case measure => simp only [intOf]; omega
        --END add
end Go.Proofs.YtemhhjkmolndbaaDoor
