/- What the law draws. -/
import Derived.Test.YtmdacoppkjclmaaDoorDrawK
import Derived.Test.YtmdacoppkjclmaaDoorRowArg
import Derived.Test.YtmdacoppkjclmaaDoorShowS
import Derived.Test.YtmdacoppkjclmaaDoorCmdsM
namespace Go.Proofs.YtmdacoppkjclmaaDoor
open Go.RowKit Go.PlainAid
set_option linter.unusedVariables false

theorem showS_size (c : CmdM) : (showS c).size ≤ 1000 := by
  unfold showS
  split
  · rename_i h
    obtain ⟨-, -, -, -, h1, h2, h3, h4, h5⟩ := okB_fit c h
    have h6 := catN_size c.ch c.ch.length 8 (fun j hj => by have := h5 j hj; omega)
    have a1 := varS_size c.kind
    have a2 := varS_size c.client
    have a3 := varS_size c.no
    have a4 := varS_size c.n
    have a5 := varS_size c.ch.length
    have b1 := showT_size c.set
    have b2 := showT_size c.name
    have b3 := showT_size c.tag
    unfold showB
    simp only [ByteArray.size_append]
    omega
  · exact Nat.zero_le _
theorem dr_new {xs : List Int} {w : World} {g : Nat} {v : Value} {s : St} (h : At xs w g v s) : Dr w.heap.size w g := ⟨h.cur.lt, xs, v, s, h, h.under⟩
/-- A drawn command's value. -/
def Drawn (e : Ending) (w' : World) (base : Nat) : Prop := ∃ (c : CmdM) (a : Option Addr) (n cap : Nat), e = .returned (.agg #[.int .i64 c.kind, .int .i64 c.client, .int .i64 c.no, .string c.set, .string c.name, .string c.tag, .int .i64 c.n, .slice a n cap]) ∧ GrowsS w' base (.slice a n cap) c.ch ∧ Small c ∧ c.ch.length ≤ 4

set_option maxRecDepth 100000 in
set_option maxHeartbeats 2000000 in
theorem draw_show (xs : List Int) (w : World) (v : Value) (hC : Code w v xs) :
    Calls Tryd.prog 9 #[v] w fun e w' => Drawn e w' w.heap.size ∧ Below w.heap.size w w' := by
  have b0 : Below w.heap.size w (w.alloc (.cells #[.int .i64 0, .int .i64 0, .int .i64 0, .string ⟨#[]⟩, .string ⟨#[]⟩, .string ⟨#[]⟩, .int .i64 0, .slice none 0 0] 26)) := (Below.refl w.heap.size w).alloc (Nat.le_refl _) _
  have HW := Lib.hid b0
  have HC := Lib.hid (hC.below b0)
  have HB := Lib.hid (Box.new w 26 #[.int .i64 0, .int .i64 0, .int .i64 0, .string ⟨#[]⟩, .string ⟨#[]⟩, .string ⟨#[]⟩, .int .i64 0, .slice none 0 0] w.heap.size rfl)
  clear hC b0
  go_enter Tryd.func9, Tryd.ntmps9
  go_wp2_with fail
  refine (new_at xs _ v HC.out).mono ?_
  rintro e w1 ⟨rfl, hat, hg⟩
  have l0 := HB.out.lt
  have hd := dr_new hat
  have HB1 := Lib.hid (HB.out.keep hg (by simp))
  have HW1 := Lib.hid (HW.out.grown hg (by omega) (fun k hk => by cases hk))
  clear hat hg HB HW HC
  have hsz : (w.alloc (.cells #[.int .i64 0, .int .i64 0, .int .i64 0, .string ⟨#[]⟩, .string ⟨#[]⟩, .string ⟨#[]⟩, .int .i64 0, .slice none 0 0] 26)).heap.size = w.heap.size + 1 := by simp
  obtain ⟨g, hgx⟩ : ∃ g, g = w.heap.size + 1 := ⟨_, rfl⟩
  rw [hsz, ← hgx] at hd l0
  clear hsz
  have HX := Lib.hid hgx
  clear hgx
  go_wp2_with fail
  rw [← HX.out]
  refine (cmd_d _ g _ hd (Nat.le_refl _)).mono ?_
  rintro e w2 ⟨⟨c, a, n, cap, rfl, hgr, hsm, hl⟩, -, hg⟩
  have l1 := HB1.out.lt
  have HB2 := Lib.hid (HB1.out.keep hg (by simp; omega))
  have HW2 := Lib.hid (HW1.out.grown hg (by omega) (fun k hk => by cases hk; omega))
  have HR := Lib.hid (hgr.set8 w.heap.size (by omega) (.int .i64 c.kind) (.int .i64 c.client) (.int .i64 c.no) (.string c.set) (.string c.name) (.string c.tag) (.int .i64 c.n) (.slice a n cap))
  clear hg hgr HB1 HW1 hd
  have g0 := HB2.out.frozen 0
  have g1 := HB2.out.frozen 1
  have g2 := HB2.out.frozen 2
  have g3 := HB2.out.frozen 3
  have g4 := HB2.out.frozen 4
  have g5 := HB2.out.frozen 5
  have g6 := HB2.out.frozen 6
  have g7 := HB2.out.frozen 7
  obtain ⟨z0, z1, z2, z3, z4, z5, z6, z7⟩ := HB2.out.cells8
  have l2 := HB2.out.lt
  go_wp2
  have hq : w.heap.size ≤ w.heap.size := Nat.le_refl _
  exact bodyPost_ret (results_cmd Tryd.results9 _ _ w.heap.size _ _ _ _ _ _ _ _ rfl (HB2.out.set8cells _ _ _ _ _ _ _ _)) rfl ⟨⟨_, _, _, _, rfl, HR.out.mono (by omega), hsm, hl⟩, (((((((HW2.out.setCell hq _).setCell hq _).setCell hq _).setCell hq _).setCell hq _).setCell hq _).setCell hq _).setCell hq _⟩

set_option maxRecDepth 100000 in
set_option maxHeartbeats 2000000 in
theorem draw_read (xs : List Int) (w : World) (v : Value) (hC : Code w v xs) :
    Calls Tryd.prog 12 #[v] w fun e w' => (∃ t : ByteArray, e = .returned (.string t) ∧ t.size ≤ 2003) ∧ Below w.heap.size w w' := by
  have HC := Lib.hid hC
  clear hC
  go_enter Tryd.func12, Tryd.ntmps12
  go_wp2_with fail
  refine (new_at xs _ v HC.out).mono ?_
  rintro e w1 ⟨rfl, hat, hg⟩
  have hd := dr_new hat
  have hs0 := hg.size
  have HW1 := Lib.hid ((Below.refl w.heap.size w).grown hg (Nat.le_refl _) (fun k hk => by cases hk))
  clear hat hg HC
  obtain ⟨g, hgx⟩ : ∃ g, g = w.heap.size := ⟨_, rfl⟩
  rw [← hgx] at hd
  have HX := Lib.hid hgx
  clear hgx
  go_wp2_with fail
  rw [← HX.out]
  refine (cmd_d _ g _ hd (Nat.le_refl _)).mono ?_
  rintro e w2 ⟨⟨c, a, n, cap, rfl, hgr, ⟨s1, s2, s3, s4, s5⟩, hl⟩, hd2, hg⟩
  have hs1 := hg.size
  have HW2 := Lib.hid (HW1.out.grown hg (by omega) (fun k hk => by cases hk; have := HX.out; omega))
  have HS := Lib.hid (hgr.strs (fun j hj => by have := s5 j hj; omega))
  have HD2 := Lib.hid hd2
  clear hg hgr HW1 hd hd2
  go_wp2_with fail
  refine (spec_show c _ _ HS.out (by omega) (by omega) (by omega)).mono ?_
  rintro e w3 ⟨rfl, hb⟩
  have hs2 := hb.size
  have HD3 := Lib.hid (HD2.out.keep (hb.mono (by omega)))
  have HW3 := Lib.hid (HW2.out.trans (hb.mono (by omega)))
  have hsz := showS_size c
  clear hb HD2 HW2 HS
  generalize showS c = t at *
  go_wp2_with fail
  refine (dr_once _ g 3 _ HD3.out (by decide)).mono ?_
  rintro e w4 ⟨⟨b4, rfl⟩, hd, hg⟩
  have hs3 := hg.size
  have HD4 := Lib.hid hd
  have HW4 := Lib.hid (HW3.out.grown hg (by omega) (fun k hk => by cases hk; have := HX.out; omega))
  clear hd hg HD3 HW3
  cases b4
  · go_wp2
    go_ret
    exact ⟨⟨t, rfl, by omega⟩, HW4.out⟩
  · go_wp2_with fail
    refine (dr_spoil _ g t _ HD4.out hsz).mono ?_
    rintro e w5 ⟨⟨r, rfl, hr⟩, -, hg⟩
    have HW5 := Lib.hid (HW4.out.grown hg (by omega) (fun k hk => by cases hk; have := HX.out; omega))
    clear hg HD4 HW4
    go_wp2
    go_ret
    exact ⟨⟨r, rfl, by omega⟩, HW5.out⟩

theorem Box.set8 {w : World} {g : Nat} {t : TypeId} {x0 x1 x2 x3 x4 x5 x6 x7 : Value} (h : Box w g t #[x0, x1, x2, x3, x4, x5, x6, x7]) (y0 y1 y2 y3 y4 y5 y6 y7 : Value) : Box ((((((((w.setCell ⟨g, 0, none⟩ y0).setCell ⟨g, 1, none⟩ y1).setCell ⟨g, 2, none⟩ y2).setCell ⟨g, 3, none⟩ y3).setCell ⟨g, 4, none⟩ y4).setCell ⟨g, 5, none⟩ y5).setCell ⟨g, 6, none⟩ y6).setCell ⟨g, 7, none⟩ y7) g t #[y0, y1, y2, y3, y4, y5, y6, y7] := by
  have h1 := Box.setTo h 0 y0 #[y0, x1, x2, x3, x4, x5, x6, x7] rfl
  have h2 := Box.setTo h1 1 y1 #[y0, y1, x2, x3, x4, x5, x6, x7] rfl
  have h3 := Box.setTo h2 2 y2 #[y0, y1, y2, x3, x4, x5, x6, x7] rfl
  have h4 := Box.setTo h3 3 y3 #[y0, y1, y2, y3, x4, x5, x6, x7] rfl
  have h5 := Box.setTo h4 4 y4 #[y0, y1, y2, y3, y4, x5, x6, x7] rfl
  have h6 := Box.setTo h5 5 y5 #[y0, y1, y2, y3, y4, y5, x6, x7] rfl
  have h7 := Box.setTo h6 6 y6 #[y0, y1, y2, y3, y4, y5, y6, x7] rfl
  have h8 := Box.setTo h7 7 y7 #[y0, y1, y2, y3, y4, y5, y6, y7] rfl
  exact h8
theorem Box.set8o {w : World} {g q : Nat} {t : TypeId} {cs : Array Value} (h : Box w g t cs) (hne : g ≠ q) (y0 y1 y2 y3 y4 y5 y6 y7 : Value) : Box ((((((((w.setCell ⟨q, 0, none⟩ y0).setCell ⟨q, 1, none⟩ y1).setCell ⟨q, 2, none⟩ y2).setCell ⟨q, 3, none⟩ y3).setCell ⟨q, 4, none⟩ y4).setCell ⟨q, 5, none⟩ y5).setCell ⟨q, 6, none⟩ y6).setCell ⟨q, 7, none⟩ y7) g t cs := ((((((((h.set_other ⟨q, 0, none⟩ y0 hne).set_other ⟨q, 1, none⟩ y1 hne).set_other ⟨q, 2, none⟩ y2 hne).set_other ⟨q, 3, none⟩ y3 hne).set_other ⟨q, 4, none⟩ y4 hne).set_other ⟨q, 5, none⟩ y5 hne).set_other ⟨q, 6, none⟩ y6 hne).set_other ⟨q, 7, none⟩ y7 hne)
theorem below_set8 {B : Nat} {a w : World} (h : Below B a w) {g : Nat} (hg : B ≤ g) (y0 y1 y2 y3 y4 y5 y6 y7 : Value) : Below B a ((((((((w.setCell ⟨g, 0, none⟩ y0).setCell ⟨g, 1, none⟩ y1).setCell ⟨g, 2, none⟩ y2).setCell ⟨g, 3, none⟩ y3).setCell ⟨g, 4, none⟩ y4).setCell ⟨g, 5, none⟩ y5).setCell ⟨g, 6, none⟩ y6).setCell ⟨g, 7, none⟩ y7) :=
  (((((((h.setCell hg _).setCell hg _).setCell hg _).setCell hg _).setCell hg _).setCell hg _).setCell hg _).setCell hg _
theorem results_two {fn : Func} {p q : Tmp} (h : fn.results = #[.cell p 26, .cell q 26]) (tmps : Array Value) (w : World) (g r : Nat) (x0 x1 x2 x3 x4 x5 x6 x7 y0 y1 y2 y3 y4 y5 y6 y7 : Value)
    (hp : tmps.getD p undef = .pointer (some ⟨g, 0, none⟩)) (hq : tmps.getD q undef = .pointer (some ⟨r, 0, none⟩)) (hc : Cells8 w g x0 x1 x2 x3 x4 x5 x6 x7) (hd : Cells8 w r y0 y1 y2 y3 y4 y5 y6 y7) : (results fn tmps).run Tryd.prog w = .ok (.tuple #[.agg #[x0, x1, x2, x3, x4, x5, x6, x7], .agg #[y0, y1, y2, y3, y4, y5, y6, y7]]) w := by
  have e : (results fn tmps).run Tryd.prog w = ((asAddr (tmps.getD p undef)).run Tryd.prog w).andThen fun a w₁ => ((loadVar 26 a).run Tryd.prog w₁).andThen fun x w₂ => ((asAddr (tmps.getD q undef)).run Tryd.prog w₂).andThen fun b w₃ => ((loadVar 26 b).run Tryd.prog w₃).andThen fun y w₄ => .ok (.tuple #[x, y]) w₄ := by
    simp only [results, h]
    simp [Sem.run_bind, Result.andThen]
  rw [e, hp, asAddr_ptr]
  simp only [Result.andThen]
  rw [load_cmd w g x0 x1 x2 x3 x4 x5 x6 x7 hc]
  simp only [hq, asAddr_ptr]
  rw [load_cmd w r y0 y1 y2 y3 y4 y5 y6 y7 hd]
/-- Two drawn commands. -/
def Drawn2 (e : Ending) (w' : World) (base : Nat) : Prop := ∃ (c d : CmdM) (a b : Option Addr) (n m cap cbp : Nat), e = .returned (.tuple #[.agg #[.int .i64 c.kind, .int .i64 c.client, .int .i64 c.no, .string c.set, .string c.name, .string c.tag, .int .i64 c.n, .slice a n cap], .agg #[.int .i64 d.kind, .int .i64 d.client, .int .i64 d.no, .string d.set, .string d.name, .string d.tag, .int .i64 d.n, .slice b m cbp]]) ∧ GrowsS w' base (.slice a n cap) c.ch ∧ Small c ∧ GrowsS w' base (.slice b m cbp) d.ch ∧ Small d

set_option maxRecDepth 100000 in
set_option maxHeartbeats 4000000 in
theorem draw_clash (xs : List Int) (w : World) (v : Value) (hC : Code w v xs) :
    Calls Tryd.prog 14 #[v] w fun e w' => Drawn2 e w' w.heap.size ∧ Below w.heap.size w w' := by
  have b0 : Below w.heap.size w ((w.alloc (.cells #[.int .i64 0, .int .i64 0, .int .i64 0, .string ⟨#[]⟩, .string ⟨#[]⟩, .string ⟨#[]⟩, .int .i64 0, .slice none 0 0] 26)).alloc (.cells #[.int .i64 0, .int .i64 0, .int .i64 0, .string ⟨#[]⟩, .string ⟨#[]⟩, .string ⟨#[]⟩, .int .i64 0, .slice none 0 0] 26)) := ((Below.refl w.heap.size w).alloc (Nat.le_refl _) _).alloc (by simp) _
  have HW := Lib.hid b0
  have HC := Lib.hid (hC.below b0)
  have HB := Lib.hid ((Box.new w 26 #[.int .i64 0, .int .i64 0, .int .i64 0, .string ⟨#[]⟩, .string ⟨#[]⟩, .string ⟨#[]⟩, .int .i64 0, .slice none 0 0] w.heap.size rfl).alloc (.cells #[.int .i64 0, .int .i64 0, .int .i64 0, .string ⟨#[]⟩, .string ⟨#[]⟩, .string ⟨#[]⟩, .int .i64 0, .slice none 0 0] 26))
  have HA := Lib.hid (Box.new (w.alloc (.cells #[.int .i64 0, .int .i64 0, .int .i64 0, .string ⟨#[]⟩, .string ⟨#[]⟩, .string ⟨#[]⟩, .int .i64 0, .slice none 0 0] 26)) 26 #[.int .i64 0, .int .i64 0, .int .i64 0, .string ⟨#[]⟩, .string ⟨#[]⟩, .string ⟨#[]⟩, .int .i64 0, .slice none 0 0] (w.heap.size + 1) (by simp))
  clear hC b0
  go_enter Tryd.func14, Tryd.ntmps14
  go_wp2_with fail
  refine (new_at xs _ v HC.out).mono ?_
  rintro e w1 ⟨rfl, hat, hg⟩
  have l0 := HA.out.lt
  have hd := dr_new hat
  have hsz : ((w.alloc (.cells #[.int .i64 0, .int .i64 0, .int .i64 0, .string ⟨#[]⟩, .string ⟨#[]⟩, .string ⟨#[]⟩, .int .i64 0, .slice none 0 0] 26)).alloc (.cells #[.int .i64 0, .int .i64 0, .int .i64 0, .string ⟨#[]⟩, .string ⟨#[]⟩, .string ⟨#[]⟩, .int .i64 0, .slice none 0 0] 26)).heap.size = w.heap.size + 1 + 1 := by simp
  have HB1 := Lib.hid (HB.out.keep hg (by simp))
  have HA1 := Lib.hid (HA.out.keep hg (by simp))
  have HW1 := Lib.hid (HW.out.grown hg (by omega) (fun k hk => by cases hk))
  clear hat hg HB HA HW HC
  obtain ⟨g, hgx⟩ : ∃ g, g = w.heap.size + 1 + 1 := ⟨_, rfl⟩
  rw [hsz, ← hgx] at hd l0
  clear hsz
  have HX := Lib.hid hgx
  clear hgx
  go_wp2_with fail
  rw [← HX.out]
  refine (cmd_d _ g _ hd (Nat.le_refl _)).mono ?_
  rintro e w2 ⟨⟨c, a, n, cap, rfl, hgr, hsm, hl⟩, hd2, hg⟩
  have l1 := HA1.out.lt
  have lg := hd.1
  have s1 := hg.size
  have HB2 := Lib.hid (HB1.out.keep hg (by simp; omega))
  have HA2 := Lib.hid (HA1.out.keep hg (by simp; omega))
  have HW2 := Lib.hid (HW1.out.grown hg (by omega) (fun k hk => by cases hk; omega))
  clear hg HB1 HA1 HW1 hd
  have bx : Box (w2.alloc (.cells #[.int .i64 c.kind, .int .i64 c.client, .int .i64 c.no, .string c.set, .string c.name, .string c.tag, .int .i64 c.n, .slice a n cap] 26)) w2.heap.size 26 #[.int .i64 c.kind, .int .i64 c.client, .int .i64 c.no, .string c.set, .string c.name, .string c.tag, .int .i64 c.n, .slice a n cap] := Box.new w2 26 _ w2.heap.size rfl
  have ba : Below w2.heap.size w2 (w2.alloc (.cells #[.int .i64 c.kind, .int .i64 c.client, .int .i64 c.no, .string c.set, .string c.name, .string c.tag, .int .i64 c.n, .slice a n cap] 26)) := (Below.refl _ _).alloc (Nat.le_refl _) _
  have HBX := Lib.hid bx
  have HGR := Lib.hid (hgr.alloc (.cells #[.int .i64 c.kind, .int .i64 c.client, .int .i64 c.no, .string c.set, .string c.name, .string c.tag, .int .i64 c.n, .slice a n cap] 26))
  have HB3 := Lib.hid (HB2.out.alloc (.cells #[.int .i64 c.kind, .int .i64 c.client, .int .i64 c.no, .string c.set, .string c.name, .string c.tag, .int .i64 c.n, .slice a n cap] 26))
  have HA3 := Lib.hid (HA2.out.alloc (.cells #[.int .i64 c.kind, .int .i64 c.client, .int .i64 c.no, .string c.set, .string c.name, .string c.tag, .int .i64 c.n, .slice a n cap] 26))
  have HD3 := Lib.hid (hd2.keep (ba.mono (by omega)))
  have HW3 := Lib.hid (HW2.out.trans (ba.mono (by omega)))
  have s2 := ba.size
  have l3 : w2.heap.size < (w2.alloc (.cells #[.int .i64 c.kind, .int .i64 c.client, .int .i64 c.no, .string c.set, .string c.name, .string c.tag, .int .i64 c.n, .slice a n cap] 26)).heap.size := bx.lt
  clear hgr hd2 HB2 HA2 HW2 bx ba
  go_upto_region 3 with fail
  refine wp_world (fun wx => Box wx w2.heap.size 26 #[.int .i64 c.kind, .int .i64 c.client, .int .i64 c.no, .string c.set, .string c.name, .string c.tag, .int .i64 c.n, .slice a n cap] ∧ GrowsS wx (w1.heap.size + 1) (.slice a n cap) c.ch ∧ Box wx w.heap.size 26 #[.int .i64 0, .int .i64 0, .int .i64 0, .string ⟨#[]⟩, .string ⟨#[]⟩, .string ⟨#[]⟩, .int .i64 0, .slice none 0 0] ∧ Box wx (w.heap.size + 1) 26 #[.int .i64 0, .int .i64 0, .int .i64 0, .string ⟨#[]⟩, .string ⟨#[]⟩, .string ⟨#[]⟩, .int .i64 0, .slice none 0 0] ∧ Dr w1.heap.size wx g ∧ Below w.heap.size w wx ∧ w1.heap.size ≤ wx.heap.size) ⟨HBX.out, HGR.out, HB3.out, HA3.out, HD3.out, HW3.out, by omega⟩ ?_
  rintro wx ⟨bx, hgr, hb, ha, hd, hw, hs⟩
  clear HBX HGR HB3 HA3 HD3 HW3 l3 s2
  have HBX := Lib.hid (show Box wx.drew w2.heap.size 26 #[.int .i64 c.kind, .int .i64 c.client, .int .i64 c.no, .string c.set, .string c.name, .string c.tag, .int .i64 c.n, .slice a n cap] from bx)
  have HGR := Lib.hid hgr
  have HB := Lib.hid (show Box wx.drew w.heap.size 26 #[.int .i64 0, .int .i64 0, .int .i64 0, .string ⟨#[]⟩, .string ⟨#[]⟩, .string ⟨#[]⟩, .int .i64 0, .slice none 0 0] from hb)
  have HA := Lib.hid (show Box wx.drew (w.heap.size + 1) 26 #[.int .i64 0, .int .i64 0, .int .i64 0, .string ⟨#[]⟩, .string ⟨#[]⟩, .string ⟨#[]⟩, .int .i64 0, .slice none 0 0] from ha)
  have HD := Lib.hid (hd.keep ((Below.refl w1.heap.size wx).drew))
  have HW := Lib.hid hw
  have HNE := Lib.hid (box_ne bx hgr)
  have hgx1 : w1.heap.size ≤ w2.heap.size := s1
  have hs' : w1.heap.size ≤ wx.drew.heap.size := hs
  obtain ⟨d0, d1, d2, d3, d4, d5, d6, d7⟩ := bx.cells8
  clear bx hgr hb ha hd hw
  go_wp2_with fail
  go_region_law (first
    | (go_simp; go_at_call 27; refine (cmd_d _ g _ HD.out hs').mono ?_; rintro e w3 ⟨⟨d, b, m, cbp, rfl, hgr, hsd, hld⟩, -, hg⟩; have s3 := hg.size; have HBX3 := Lib.hid (HBX.out.keep hg (by simp; omega)); have HGR3 := Lib.hid (HGR.out.drew.kept hg (by omega)); have HB3 := Lib.hid (HB.out.keep hg (by simp; omega)); have HA3 := Lib.hid (HA.out.keep hg (by simp; omega)); have HW3 := Lib.hid ((HW.out.drew).grown hg (by have := HB.out.lt; omega) (fun k hk => by cases hk; omega)); have HGD := Lib.hid hgr; clear hg hgr; obtain ⟨p0, p1, p2, p3, p4, p5, p6, p7⟩ := HBX3.out.cells8; obtain ⟨z0, z1, z2, z3, z4, z5, z6, z7⟩ := HB3.out.cells8; obtain ⟨y0, y1, y2, y3, y4, y5, y6, y7⟩ := HA3.out.cells8; have g0 := HB3.out.frozen 0; have g1 := HB3.out.frozen 1; have g2 := HB3.out.frozen 2; have g3 := HB3.out.frozen 3; have g4 := HB3.out.frozen 4; have g5 := HB3.out.frozen 5; have g6 := HB3.out.frozen 6; have g7 := HB3.out.frozen 7; have k0 := HA3.out.frozen 0; have k1 := HA3.out.frozen 1; have k2 := HA3.out.frozen 2; have k3 := HA3.out.frozen 3; have k4 := HA3.out.frozen 4; have k5 := HA3.out.frozen 5; have k6 := HA3.out.frozen 6; have k7 := HA3.out.frozen 7))
  all_goals
    go_wp2
    have hs'' : wx.drew.heap.size = wx.heap.size := rfl
    have hn1 : w.heap.size ≠ w.heap.size + 1 := by omega
    exact bodyPost_ret (results_two Tryd.results14 _ _ w.heap.size (w.heap.size + 1) _ _ _ _ _ _ _ _ _ _ _ _ _ _ _ _ rfl rfl ((HB3.out.set8 (.int .i64 c.kind) (.int .i64 c.client) (.int .i64 c.no) (.string c.set) (.string c.name) (.string c.tag) (.int .i64 c.n) (.slice a n cap)).set8o hn1 (.int .i64 d.kind) (.int .i64 d.client) (.int .i64 d.no) (.string d.set) (.string d.name) (.string d.tag) (.int .i64 d.n) (.slice b m cbp)).cells8 ((HA3.out.set8o hn1.symm (.int .i64 c.kind) (.int .i64 c.client) (.int .i64 c.no) (.string c.set) (.string c.name) (.string c.tag) (.int .i64 c.n) (.slice a n cap)).set8 (.int .i64 d.kind) (.int .i64 d.client) (.int .i64 d.no) (.string d.set) (.string d.name) (.string d.tag) (.int .i64 d.n) (.slice b m cbp)).cells8) rfl ⟨⟨_, _, _, _, _, _, _, _, rfl, ((HGR3.out.set8 w.heap.size (by omega) _ _ _ _ _ _ _ _).set8 (w.heap.size + 1) (by omega) _ _ _ _ _ _ _ _).mono (by omega), hsm, ((HGD.out.set8 w.heap.size (by omega) _ _ _ _ _ _ _ _).set8 (w.heap.size + 1) (by omega) _ _ _ _ _ _ _ _).mono (by omega), hsd⟩, below_set8 (below_set8 HW3.out (Nat.le_refl _) _ _ _ _ _ _ _ _) (by omega) _ _ _ _ _ _ _ _⟩
end Go.Proofs.YtmdacoppkjclmaaDoor
