/- The law FnCmds, walked. -/
import Derived.Test.YtmdacoppkjclmaaDoorDrawD
import Derived.Test.YtmdacoppkjclmaaDoorReadC
import Derived.Test.YtmdacoppkjclmaaDoorReadV
import Derived.Test.YtmdacoppkjclmaaDoorClash
import Derived.Test.YtmdacoppkjclmaaDoorOkC
import Derived.Test.YtmdacoppkjclmaaDoorOkS
import Derived.Test.YtmdacoppkjclmaaDoorCmdE
import Derived.Test.YtmdacoppkjclmaaDoorIs
import Derived.Test.YtmdacoppkjclmaaDoorShowI
import Derived.Test.YtmdacoppkjclmaaDoorShowS
import Derived.Test.YtmdacoppkjclmaaDoorCmdsM
namespace Go.Proofs.YtmdacoppkjclmaaDoor
open Go.RowKit Go.PlainAid
set_option linter.unusedVariables false

set_option maxHeartbeats 400000 in
theorem big_no (a : Option Addr) (n cap : Nat) (w : World) (h : n ≤ 1048576) : Calls Tryd.prog 8 #[.slice a n cap] w fun e w' => e = .returned (.bool false) ∧ w = w' := by
  have hd : decide ((1048576 : Int) < (n : Int)) = false := by simp; omega
  go_enter Tryd.func8, Tryd.ntmps8
  go_wp2
  go_ret
  exact ⟨rfl, rfl⟩
set_option maxHeartbeats 400000 in
theorem big_yes (a : Option Addr) (n cap : Nat) (w : World) (h : 1048576 < n) : Calls Tryd.prog 8 #[.slice a n cap] w fun e w' => e = .returned (.bool true) ∧ w = w' := by
  have hd : decide ((1048576 : Int) < (n : Int)) = true := by simp; omega
  go_enter Tryd.func8, Tryd.ntmps8
  go_wp2
  go_ret
  exact ⟨rfl, rfl⟩

theorem read_fit (s : ByteArray) : (readC s).ch.length ≤ 4 ∧ ∀ j, j < (readC s).ch.length → (el (readC s).ch j).size ≤ 9223372036854775807 := by
  cases h : goodB s
  · rw [read_no s h]
    exact ⟨by decide, fun j hj => by simp [zeroC] at hj⟩
  · have e : readC s = rawC s := by unfold readC; rw [h]; rfl
    have ho : okB (rawC s) = true := by
      unfold goodB at h
      rw [Bool.and_eq_true] at h
      exact h.2
    obtain ⟨_, _, _, _, _, _, _, h8, h9⟩ := okB_fit _ ho
    rw [e]
    exact ⟨h8, fun j hj => by rw [h9 j hj]; decide⟩
theorem read_sizes (s : ByteArray) : (readC s).set.size ≤ 9223372036854775807 ∧ (readC s).name.size ≤ 9223372036854775807 ∧ (readC s).tag.size ≤ 9223372036854775807 := by
  cases h : goodB s
  · rw [read_no s h]
    exact ⟨by decide, by decide, by decide⟩
  · have e : readC s = rawC s := by unfold readC; rw [h]; rfl
    have ok : okB (rawC s) = true := by
      unfold goodB at h
      rw [Bool.and_eq_true] at h
      exact h.2
    obtain ⟨-, -, -, -, h1, h2, h3, -, -⟩ := okB_fit _ ok
    rw [e]
    omega
/-- What stands while the law holds its two commands. -/
def Kl (w : World) (sa : Addr) (ga gb : Nat) (p q : CmdM) (v u : Value) (wx : World) : Prop := Aft w wx ∧ Sent wx sa ∧ Has wx ga 26 p v ∧ Has wx gb 26 q u
theorem Kl.after {w : World} {sa : Addr} {ga gb : Nat} {p q : CmdM} {v u : Value} {wx wy : World} (h : Kl w sa ga gb p q v u wx) (hb : Below wx.heap.size wx wy) : Kl w sa ga gb p q v u wy :=
  ⟨h.1.after hb, h.2.1.later hb, h.2.2.1.after hb, h.2.2.2.after hb⟩

set_option maxRecDepth 100000 in
set_option maxHeartbeats 4000000 in
theorem law_cmds (xs : List Int) (w : World) (v : Value) (sa : Addr) (hC : Code w v xs) (hS : Sent w sa) :
    Calls Tryd.prog 3 #[v] w fun e w' => e = .returned (.bool true) ∧ Below w.heap.size w w' := by
  obtain ⟨_, hlen, ad, cp, hv, _⟩ := id hC
  subst hv
  have HC := Lib.hid hC
  have HS := Lib.hid hS
  clear hC hS
  go_enter Tryd.func3, Tryd.ntmps3
  go_wp2_with fail
  refine (big_no ad _ cp _ hlen).mono ?_
  rintro e w' ⟨rfl, rfl⟩
  go_wp2_with fail
  refine (draw_show xs _ _ HC.out).mono ?_
  rintro e w1 ⟨⟨c, a, n, cap, rfl, hgr, ⟨s1, s2, s3, s4, s5⟩, hl⟩, hb⟩
  have Hc := Lib.hid (Has.new w1 26 c (.slice a n cap) _ rfl (hgr.strs (fun j hj => by have := s5 j hj; omega)))
  have HW := Lib.hid (((Aft.refl w).after hb).alloc (.cells #[.int .i64 c.kind, .int .i64 c.client, .int .i64 c.no, .string c.set, .string c.name, .string c.tag, .int .i64 c.n, .slice a n cap] 26))
  clear hb hgr s4 s5 hl
  have hsz := showS_size c
  have hI := fun w' (h : Sent w' sa) => impl_read (showS c) sa w' h (by omega)
  obtain ⟨k1, k2⟩ := read_fit (showS c)
  obtain ⟨r1, r2⟩ := read_back c
  generalize readC (showS c) = x at *
  generalize goodB (showS c) = is at *
  subst r1
  have HI := Lib.hid hI
  have HK2 := Lib.hid k2
  have HR2 := Lib.hid r2
  clear hI k2 r2
  go_wp2_with fail
  refine (impl_show c _ sa _ Hc.out.2 (HS.out.later HW.out) (by omega) (by omega) (by omega)).mono ?_
  rintro e w2 ⟨rfl, hb⟩
  replace Hc := Lib.hid (Hc.out.after hb)
  replace HW := Lib.hid (HW.out.after hb)
  clear hb
  go_wp2_with fail
  refine (HI.out _ (HS.out.later HW.out)).mono ?_
  rintro e w3 ⟨⟨xa, xn, xc, rfl, hgx⟩, hb⟩
  replace Hc := Lib.hid ((Hc.out.after hb).alloc (.cells #[.int .i64 x.kind, .int .i64 x.client, .int .i64 x.no, .string x.set, .string x.name, .string x.tag, .int .i64 x.n, .slice xa xn xc] 26))
  replace HW := Lib.hid ((HW.out.after hb).alloc (.cells #[.int .i64 x.kind, .int .i64 x.client, .int .i64 x.no, .string x.set, .string x.name, .string x.tag, .int .i64 x.n, .slice xa xn xc] 26))
  have Hx := Lib.hid (Has.new w3 26 x (.slice xa xn xc) _ rfl (hgx.strs HK2.out))
  clear hb hgx HI HK2
  go_wp2_with fail
  refine (draw_read xs _ _ (HC.out.below HW.out)).mono ?_
  rintro e w4 ⟨⟨t, rfl, ht⟩, hb⟩
  replace Hc := Lib.hid (Hc.out.after hb)
  replace Hx := Lib.hid (Hx.out.after hb)
  replace HW := Lib.hid (HW.out.after hb)
  clear hb
  have hI := fun w' (h : Sent w' sa) => impl_read t sa w' h (by omega)
  have hP := fun w' => spec_read t w' (by omega)
  obtain ⟨k1', k2⟩ := read_fit t
  obtain ⟨y1, y2, y3⟩ := read_sizes t
  have hback := show_read t
  generalize readC t = y at *
  generalize goodB t = fine at *
  have HI := Lib.hid hI
  have HP := Lib.hid hP
  have HK2 := Lib.hid k2
  have HBK := Lib.hid hback
  clear hI hP k2 hback
  go_wp2_with fail
  refine (HI.out _ (HS.out.later HW.out)).mono ?_
  rintro e w5 ⟨⟨ya, yn, yc, rfl, hgx⟩, hb⟩
  replace Hc := Lib.hid ((Hc.out.after hb).alloc (.cells #[.int .i64 y.kind, .int .i64 y.client, .int .i64 y.no, .string y.set, .string y.name, .string y.tag, .int .i64 y.n, .slice ya yn yc] 26))
  replace Hx := Lib.hid ((Hx.out.after hb).alloc (.cells #[.int .i64 y.kind, .int .i64 y.client, .int .i64 y.no, .string y.set, .string y.name, .string y.tag, .int .i64 y.n, .slice ya yn yc] 26))
  replace HW := Lib.hid ((HW.out.after hb).alloc (.cells #[.int .i64 y.kind, .int .i64 y.client, .int .i64 y.no, .string y.set, .string y.name, .string y.tag, .int .i64 y.n, .slice ya yn yc] 26))
  have Hy := Lib.hid (Has.new w5 26 y (.slice ya yn yc) _ rfl (hgx.strs HK2.out))
  clear hb hgx HI HK2
  go_wp2_with fail
  refine (HP.out _).mono ?_
  rintro e w6 ⟨⟨za, zn, zc, rfl, -⟩, hb⟩
  replace Hc := Lib.hid ((Hc.out.after hb).alloc (.cells #[.int .i64 y.kind, .int .i64 y.client, .int .i64 y.no, .string y.set, .string y.name, .string y.tag, .int .i64 y.n, .slice za zn zc] 26))
  replace Hx := Lib.hid ((Hx.out.after hb).alloc (.cells #[.int .i64 y.kind, .int .i64 y.client, .int .i64 y.no, .string y.set, .string y.name, .string y.tag, .int .i64 y.n, .slice za zn zc] 26))
  replace Hy := Lib.hid ((Hy.out.after hb).alloc (.cells #[.int .i64 y.kind, .int .i64 y.client, .int .i64 y.no, .string y.set, .string y.name, .string y.tag, .int .i64 y.n, .slice za zn zc] 26))
  replace HW := Lib.hid ((HW.out.after hb).alloc (.cells #[.int .i64 y.kind, .int .i64 y.client, .int .i64 y.no, .string y.set, .string y.name, .string y.tag, .int .i64 y.n, .slice za zn zc] 26))
  clear hb HP
  go_wp2_with fail
  refine (draw_clash xs _ _ (HC.out.below HW.out)).mono ?_
  rintro e w7 ⟨⟨p, q, pa, qa, pn, qn, pc, qc, rfl, hgp, hsp, hgq, hsq⟩, hb⟩
  obtain ⟨p1, p2, p3, p4, p5⟩ := hsp
  obtain ⟨q1, q2, q3, q4, q5⟩ := hsq
  replace Hc := Lib.hid (((Hc.out.after hb).alloc (.cells #[.int .i64 p.kind, .int .i64 p.client, .int .i64 p.no, .string p.set, .string p.name, .string p.tag, .int .i64 p.n, .slice pa pn pc] 26)).alloc (.cells #[.int .i64 q.kind, .int .i64 q.client, .int .i64 q.no, .string q.set, .string q.name, .string q.tag, .int .i64 q.n, .slice qa qn qc] 26))
  replace Hx := Lib.hid (((Hx.out.after hb).alloc (.cells #[.int .i64 p.kind, .int .i64 p.client, .int .i64 p.no, .string p.set, .string p.name, .string p.tag, .int .i64 p.n, .slice pa pn pc] 26)).alloc (.cells #[.int .i64 q.kind, .int .i64 q.client, .int .i64 q.no, .string q.set, .string q.name, .string q.tag, .int .i64 q.n, .slice qa qn qc] 26))
  replace Hy := Lib.hid (((Hy.out.after hb).alloc (.cells #[.int .i64 p.kind, .int .i64 p.client, .int .i64 p.no, .string p.set, .string p.name, .string p.tag, .int .i64 p.n, .slice pa pn pc] 26)).alloc (.cells #[.int .i64 q.kind, .int .i64 q.client, .int .i64 q.no, .string q.set, .string q.name, .string q.tag, .int .i64 q.n, .slice qa qn qc] 26))
  replace HW := Lib.hid (((HW.out.after hb).alloc (.cells #[.int .i64 p.kind, .int .i64 p.client, .int .i64 p.no, .string p.set, .string p.name, .string p.tag, .int .i64 p.n, .slice pa pn pc] 26)).alloc (.cells #[.int .i64 q.kind, .int .i64 q.client, .int .i64 q.no, .string q.set, .string q.name, .string q.tag, .int .i64 q.n, .slice qa qn qc] 26))
  have Hp := Lib.hid ((Has.new w7 26 p (.slice pa pn pc) _ rfl (hgp.strs (fun j hj => by have := p5 j hj; omega))).alloc (.cells #[.int .i64 q.kind, .int .i64 q.client, .int .i64 q.no, .string q.set, .string q.name, .string q.tag, .int .i64 q.n, .slice qa qn qc] 26))
  have Hq := Lib.hid (Has.new (w7.alloc (.cells #[.int .i64 p.kind, .int .i64 p.client, .int .i64 p.no, .string p.set, .string p.name, .string p.tag, .int .i64 p.n, .slice pa pn pc] 26)) 26 q (.slice qa qn qc) (w7.heap.size + 1) (by simp) ((hgq.strs (fun j hj => by have := q5 j hj; omega)).alloc (.cells #[.int .i64 p.kind, .int .i64 p.client, .int .i64 p.no, .string p.set, .string p.name, .string p.tag, .int .i64 p.n, .slice pa pn pc] 26)))
  clear hb hgp hgq p4 p5 q4 q5
  have HK := Lib.hid (show Kl w sa w7.heap.size (w7.heap.size + 1) p q (.slice pa pn pc) (.slice qa qn qc) _ from ⟨HW.out, HS.out.later HW.out, Hp.out, Hq.out⟩)
  clear HW HS Hp Hq HC
  go_upto_region 10 with fail
  go_cut [6, 9, 11, 74] from 14 (fun s6 s9 s11 s74 wx => s74 = .bool false ∧ Kl w sa w7.heap.size (w7.heap.size + 1) p q (.slice pa pn pc) (.slice qa qn qc) wx)
  case first =>
    obtain ⟨d0, d1, d2, d3, d4, d5, d6, d7⟩ := Hc.out.cells
    go_wp2_with fail
    clear d0 d1 d2 d3 d4 d5 d6 d7
    refine (spec_show c _ _ Hc.out.2 (by omega) (by omega) (by omega)).mono ?_
    rintro e w8 ⟨rfl, hb⟩
    replace Hc := Lib.hid (Hc.out.after hb)
    replace Hx := Lib.hid (Hx.out.after hb)
    replace Hy := Lib.hid (Hy.out.after hb)
    replace HK := Lib.hid (HK.out.after hb)
    clear hb
    obtain ⟨d0, d1, d2, d3, d4, d5, d6, d7⟩ := Hc.out.cells
    go_wp2_with fail
    clear d0 d1 d2 d3 d4 d5 d6 d7
    refine (spec_ok c _ _ Hc.out.2 (by omega) (by omega) (by omega)).mono ?_
    rintro e w9 ⟨rfl, hb⟩
    replace Hc := Lib.hid (Hc.out.after hb)
    replace Hx := Lib.hid (Hx.out.after hb)
    replace Hy := Lib.hid (Hy.out.after hb)
    replace HK := Lib.hid (HK.out.after hb)
    clear hb
    cases hok : okB c
    · cases fine
      · go_wp2_with fail
        go_meet
        case rel => exact ⟨rfl, HK.out⟩
      · obtain ⟨d0, d1, d2, d3, d4, d5, d6, d7⟩ := Hy.out.cells
        go_wp2_with fail
        clear d0 d1 d2 d3 d4 d5 d6 d7
        have hy := impl_show y _ sa _ Hy.out.2 HK.out.2.1 y1 y2 y3
        rw [HBK.out (by simp)] at hy
        refine hy.mono ?_
        rintro e w10 ⟨rfl, hb⟩
        replace HK := Lib.hid (HK.out.after hb)
        clear hb hy
        go_wp2_with fail
        go_meet
        case rel => exact ⟨rfl, HK.out⟩
    · have hxc := HR2.out hok
      subst hxc
      obtain ⟨d0, d1, d2, d3, d4, d5, d6, d7⟩ := Hx.out.cells
      obtain ⟨f0, f1, f2, f3, f4, f5, f6, f7⟩ := Hc.out.cells
      go_wp2_with fail
      clear d0 d1 d2 d3 d4 d5 d6 d7 f0 f1 f2 f3 f4 f5 f6 f7
      refine (impl_same _ _ _ _ _ Hx.out.2 Hc.out.2).mono ?_
      rintro e w10 ⟨rfl, hb⟩
      replace Hy := Lib.hid (Hy.out.after hb)
      replace HK := Lib.hid (HK.out.after hb)
      clear hb Hx Hc
      have hxx : decide (x = x) = true := by simp
      rw [hxx]
      clear hxx
      cases fine
      · go_wp2_with fail
        go_meet
        case rel => exact ⟨rfl, HK.out⟩
      · obtain ⟨d0, d1, d2, d3, d4, d5, d6, d7⟩ := Hy.out.cells
        go_wp2_with fail
        clear d0 d1 d2 d3 d4 d5 d6 d7
        have hy := impl_show y _ sa _ Hy.out.2 HK.out.2.1 y1 y2 y3
        rw [HBK.out (by simp)] at hy
        refine hy.mono ?_
        rintro e w11 ⟨rfl, hb⟩
        replace HK := Lib.hid (HK.out.after hb)
        clear hb hy
        go_wp2_with fail
        go_meet
        case rel => exact ⟨rfl, HK.out⟩
  clear Hc Hx Hy HK HBK HR2
  obtain ⟨rfl, hk⟩ := hcut
  have HK := Lib.hid hk
  clear hk
  have L1 := Lib.hid (fun w' (hw' : Kl w sa w7.heap.size (w7.heap.size + 1) p q (.slice pa pn pc) (.slice qa qn qc) w') => (impl_clash p q _ _ sa w' hw'.2.2.1.2 hw'.2.2.2.2 hw'.2.1 (by omega) (by omega) (by omega) (by omega) (by omega) (by omega)).mono fun e w'' (h : _ ∧ _) => (⟨h.1, hw'.after h.2⟩ : e = .returned (.bool (clashB p q)) ∧ Kl w sa w7.heap.size (w7.heap.size + 1) p q (.slice pa pn pc) (.slice qa qn qc) w''))
  have L2 := Lib.hid (fun w' (hw' : Kl w sa w7.heap.size (w7.heap.size + 1) p q (.slice pa pn pc) (.slice qa qn qc) w') => (spec_clash p q _ _ w' hw'.2.2.1.2 hw'.2.2.2.2 (by omega) (by omega) (by omega) (by omega) (by omega) (by omega)).mono fun e w'' (h : _ ∧ _) => (⟨h.1, hw'.after h.2⟩ : e = .returned (.bool (clashB p q)) ∧ Kl w sa w7.heap.size (w7.heap.size + 1) p q (.slice pa pn pc) (.slice qa qn qc) w''))
  have L3 := Lib.hid (fun w' (hw' : Kl w sa w7.heap.size (w7.heap.size + 1) p q (.slice pa pn pc) (.slice qa qn qc) w') => (impl_clash q p _ _ sa w' hw'.2.2.2.2 hw'.2.2.1.2 hw'.2.1 (by omega) (by omega) (by omega) (by omega) (by omega) (by omega)).mono fun e w'' (h : _ ∧ _) => (⟨h.1.trans (by rw [clash_symm]), hw'.after h.2⟩ : e = .returned (.bool (clashB p q)) ∧ Kl w sa w7.heap.size (w7.heap.size + 1) p q (.slice pa pn pc) (.slice qa qn qc) w''))
  have L4 := Lib.hid (fun w' (hw' : Kl w sa w7.heap.size (w7.heap.size + 1) p q (.slice pa pn pc) (.slice qa qn qc) w') => (impl_clash p zeroC _ (.slice none 0 0) sa w' hw'.2.2.1.2 (strs_nil _ _ _) hw'.2.1 (by omega) (by omega) (by omega) (by decide) (by decide) (by decide)).mono fun e w'' (h : _ ∧ _) => (⟨h.1.trans (by rw [clash_zero]), hw'.after h.2⟩ : e = .returned (.bool false) ∧ Kl w sa w7.heap.size (w7.heap.size + 1) p q (.slice pa pn pc) (.slice qa qn qc) w''))
  have L5 := Lib.hid (fun w' (hw' : Kl w sa w7.heap.size (w7.heap.size + 1) p q (.slice pa pn pc) (.slice qa qn qc) w') => (cmd_ok p _ sa w' hw'.2.2.1.2 hw'.2.1 (by omega) (by omega) (by omega)).mono fun e w'' (h : _ ∧ _) => (⟨h.1, hw'.after h.2⟩ : e = .returned (.bool (okB p)) ∧ Kl w sa w7.heap.size (w7.heap.size + 1) p q (.slice pa pn pc) (.slice qa qn qc) w''))
  have L6 := Lib.hid (fun w' (hw' : Kl w sa w7.heap.size (w7.heap.size + 1) p q (.slice pa pn pc) (.slice qa qn qc) w') => (impl_clash p p _ _ sa w' hw'.2.2.1.2 hw'.2.2.1.2 hw'.2.1 (by omega) (by omega) (by omega) (by omega) (by omega) (by omega)).mono fun e w'' (h : _ ∧ _) => (⟨h.1, hw'.after h.2⟩ : e = .returned (.bool (clashB p p)) ∧ Kl w sa w7.heap.size (w7.heap.size + 1) p q (.slice pa pn pc) (.slice qa qn qc) w''))
  have e3 := clash_self p
  clear p1 p2 p3 q1 q2 q3 s1 s2 s3 hsz k1 ht k1' y1 y2 y3
  generalize okB p = ok at *
  generalize clashB p p = cs at *
  generalize clashB p q = ab at *
  generalize hkz : (p.kind == 0) = kz at e3
  go_upto_region 12 with fail
  cases ok
  · clear e3 hkz
    refine wp_region_quiet (C := Kl w sa w7.heap.size (w7.heap.size + 1) p q (.slice pa pn pc) (.slice qa qn qc)) (by kernel_rfl) (by kernel_rfl) (show Kl w sa w7.heap.size (w7.heap.size + 1) p q (.slice pa pn pc) (.slice qa qn qc) wc.drew from ⟨HK.out.1.drew, HK.out.2.1.drew, HK.out.2.2.1.drew, HK.out.2.2.2.drew⟩) ?_
    dsimp only
    go_big_quiet_want
    go_big_quiet_op
    refine ⟨.agg #[.int .i64 p.kind, .int .i64 p.client, .int .i64 p.no, .string p.set, .string p.name, .string p.tag, .int .i64 p.n, .slice pa pn pc], fun w' hw' => (by obtain ⟨d0, d1, d2, d3, d4, d5, d6, d7⟩ := hw'.2.2.1.cells; simp [d0, d1, d2, d3, d4, d5, d6, d7, Result.andThen]), ?_⟩
    go_big_quiet_on
    go_big_quiet_want
    go_big_quiet_op
    refine ⟨.agg #[.int .i64 q.kind, .int .i64 q.client, .int .i64 q.no, .string q.set, .string q.name, .string q.tag, .int .i64 q.n, .slice qa qn qc], fun w' hw' => (by obtain ⟨d0, d1, d2, d3, d4, d5, d6, d7⟩ := hw'.2.2.2.cells; simp [d0, d1, d2, d3, d4, d5, d6, d7, Result.andThen]), ?_⟩
    go_big_quiet_on
    go_big_quiet_want
    go_big_quiet_op
    refine ⟨_, fun w' hw' => L1.out w' hw', ?_⟩
    go_big_quiet_on
    go_big_quiet_want
    go_big_quiet_op
    refine ⟨.agg #[.int .i64 p.kind, .int .i64 p.client, .int .i64 p.no, .string p.set, .string p.name, .string p.tag, .int .i64 p.n, .slice pa pn pc], fun w' hw' => (by obtain ⟨d0, d1, d2, d3, d4, d5, d6, d7⟩ := hw'.2.2.1.cells; simp [d0, d1, d2, d3, d4, d5, d6, d7, Result.andThen]), ?_⟩
    go_big_quiet_on
    go_big_quiet_want
    go_big_quiet_op
    refine ⟨.agg #[.int .i64 q.kind, .int .i64 q.client, .int .i64 q.no, .string q.set, .string q.name, .string q.tag, .int .i64 q.n, .slice qa qn qc], fun w' hw' => (by obtain ⟨d0, d1, d2, d3, d4, d5, d6, d7⟩ := hw'.2.2.2.cells; simp [d0, d1, d2, d3, d4, d5, d6, d7, Result.andThen]), ?_⟩
    go_big_quiet_on
    go_big_quiet_want
    go_big_quiet_op
    refine ⟨_, fun w' hw' => L2.out w' hw', ?_⟩
    go_big_quiet_on
    go_big_quiet_want
    go_big_quiet_op
    (first | go_big_quiet_on | (refine ⟨_, fun _ _ => rfl, ?_⟩; go_big_quiet_on))
    go_big_quiet_want
    go_big_quiet_op
    (first | go_big_quiet_on | (refine ⟨_, fun _ _ => rfl, ?_⟩; go_big_quiet_on))
    go_big_quiet_want
    go_big_quiet_op
    refine ⟨.agg #[.int .i64 p.kind, .int .i64 p.client, .int .i64 p.no, .string p.set, .string p.name, .string p.tag, .int .i64 p.n, .slice pa pn pc], fun w' hw' => (by obtain ⟨d0, d1, d2, d3, d4, d5, d6, d7⟩ := hw'.2.2.1.cells; simp [d0, d1, d2, d3, d4, d5, d6, d7, Result.andThen]), ?_⟩
    go_big_quiet_on
    go_big_quiet_want
    go_big_quiet_op
    refine ⟨.agg #[.int .i64 q.kind, .int .i64 q.client, .int .i64 q.no, .string q.set, .string q.name, .string q.tag, .int .i64 q.n, .slice qa qn qc], fun w' hw' => (by obtain ⟨d0, d1, d2, d3, d4, d5, d6, d7⟩ := hw'.2.2.2.cells; simp [d0, d1, d2, d3, d4, d5, d6, d7, Result.andThen]), ?_⟩
    go_big_quiet_on
    go_big_quiet_want
    go_big_quiet_op
    refine ⟨_, fun w' hw' => L1.out w' hw', ?_⟩
    go_big_quiet_on
    go_big_quiet_want
    go_big_quiet_op
    refine ⟨.agg #[.int .i64 q.kind, .int .i64 q.client, .int .i64 q.no, .string q.set, .string q.name, .string q.tag, .int .i64 q.n, .slice qa qn qc], fun w' hw' => (by obtain ⟨d0, d1, d2, d3, d4, d5, d6, d7⟩ := hw'.2.2.2.cells; simp [d0, d1, d2, d3, d4, d5, d6, d7, Result.andThen]), ?_⟩
    go_big_quiet_on
    go_big_quiet_want
    go_big_quiet_op
    refine ⟨.agg #[.int .i64 p.kind, .int .i64 p.client, .int .i64 p.no, .string p.set, .string p.name, .string p.tag, .int .i64 p.n, .slice pa pn pc], fun w' hw' => (by obtain ⟨d0, d1, d2, d3, d4, d5, d6, d7⟩ := hw'.2.2.1.cells; simp [d0, d1, d2, d3, d4, d5, d6, d7, Result.andThen]), ?_⟩
    go_big_quiet_on
    go_big_quiet_want
    go_big_quiet_op
    refine ⟨_, fun w' hw' => L3.out w' hw', ?_⟩
    go_big_quiet_on
    go_big_quiet_want
    go_big_quiet_op
    (first | go_big_quiet_on | (refine ⟨_, fun _ _ => rfl, ?_⟩; go_big_quiet_on))
    go_big_quiet_want
    go_big_quiet_op
    (first | go_big_quiet_on | (refine ⟨_, fun _ _ => rfl, ?_⟩; go_big_quiet_on))
    go_big_quiet_want
    go_big_quiet_op
    (first | go_big_quiet_on | (refine ⟨_, fun _ _ => rfl, ?_⟩; go_big_quiet_on))
    go_big_quiet_want
    go_big_quiet_op
    refine ⟨.agg #[.int .i64 p.kind, .int .i64 p.client, .int .i64 p.no, .string p.set, .string p.name, .string p.tag, .int .i64 p.n, .slice pa pn pc], fun w' hw' => (by obtain ⟨d0, d1, d2, d3, d4, d5, d6, d7⟩ := hw'.2.2.1.cells; simp [d0, d1, d2, d3, d4, d5, d6, d7, Result.andThen]), ?_⟩
    go_big_quiet_on
    go_big_quiet_want
    go_big_quiet_op
    (first | go_big_quiet_on | (refine ⟨_, fun _ _ => rfl, ?_⟩; go_big_quiet_on))
    go_big_quiet_want
    go_big_quiet_op
    refine ⟨_, fun w' hw' => L4.out w' hw', ?_⟩
    go_big_quiet_on
    go_big_quiet_want
    go_big_quiet_op
    (first | go_big_quiet_on | (refine ⟨_, fun _ _ => rfl, ?_⟩; go_big_quiet_on))
    go_big_quiet_want
    go_big_quiet_op
    (first | go_big_quiet_on | (refine ⟨_, fun _ _ => rfl, ?_⟩; go_big_quiet_on))
    go_big_quiet_want
    go_big_quiet_op
    (first | go_big_quiet_on | (refine ⟨_, fun _ _ => rfl, ?_⟩; go_big_quiet_on))
    go_big_quiet_want
    go_big_quiet_op
    refine ⟨.agg #[.int .i64 p.kind, .int .i64 p.client, .int .i64 p.no, .string p.set, .string p.name, .string p.tag, .int .i64 p.n, .slice pa pn pc], fun w' hw' => (by obtain ⟨d0, d1, d2, d3, d4, d5, d6, d7⟩ := hw'.2.2.1.cells; simp [d0, d1, d2, d3, d4, d5, d6, d7, Result.andThen]), ?_⟩
    go_big_quiet_on
    go_big_quiet_want
    go_big_quiet_op
    refine ⟨_, fun w' hw' => L5.out w' hw', ?_⟩
    go_big_quiet_on
    go_big_quiet_want
    go_big_quiet_op
    (first | go_big_quiet_on | (refine ⟨_, fun _ _ => rfl, ?_⟩; go_big_quiet_on))
    go_big_quiet_want
    go_big_quiet_op
    (first | go_big_quiet_on | (refine ⟨_, fun _ _ => rfl, ?_⟩; go_big_quiet_on))
    repeat (first | go_big_quiet_skip | (go_big_quiet_want; go_big_quiet_op; (first | go_big_quiet_on | (refine ⟨_, fun _ _ => rfl, ?_⟩; go_big_quiet_on))))
    refine wpQuiet_nil ?_
    intro w3 hk3
    have H3 := Lib.hid hk3
    clear hk3
    go_wp2
    go_ret
    exact ⟨rfl, H3.out.1⟩
  cases kz
  · cases cs
    · simp at e3
    · clear e3
      refine wp_region_quiet (C := Kl w sa w7.heap.size (w7.heap.size + 1) p q (.slice pa pn pc) (.slice qa qn qc)) (by kernel_rfl) (by kernel_rfl) (show Kl w sa w7.heap.size (w7.heap.size + 1) p q (.slice pa pn pc) (.slice qa qn qc) wc.drew from ⟨HK.out.1.drew, HK.out.2.1.drew, HK.out.2.2.1.drew, HK.out.2.2.2.drew⟩) ?_
      dsimp only
      go_big_quiet_want
      go_big_quiet_op
      refine ⟨.agg #[.int .i64 p.kind, .int .i64 p.client, .int .i64 p.no, .string p.set, .string p.name, .string p.tag, .int .i64 p.n, .slice pa pn pc], fun w' hw' => (by obtain ⟨d0, d1, d2, d3, d4, d5, d6, d7⟩ := hw'.2.2.1.cells; simp [d0, d1, d2, d3, d4, d5, d6, d7, Result.andThen]), ?_⟩
      go_big_quiet_on
      go_big_quiet_want
      go_big_quiet_op
      refine ⟨.agg #[.int .i64 q.kind, .int .i64 q.client, .int .i64 q.no, .string q.set, .string q.name, .string q.tag, .int .i64 q.n, .slice qa qn qc], fun w' hw' => (by obtain ⟨d0, d1, d2, d3, d4, d5, d6, d7⟩ := hw'.2.2.2.cells; simp [d0, d1, d2, d3, d4, d5, d6, d7, Result.andThen]), ?_⟩
      go_big_quiet_on
      go_big_quiet_want
      go_big_quiet_op
      refine ⟨_, fun w' hw' => L1.out w' hw', ?_⟩
      go_big_quiet_on
      go_big_quiet_want
      go_big_quiet_op
      refine ⟨.agg #[.int .i64 p.kind, .int .i64 p.client, .int .i64 p.no, .string p.set, .string p.name, .string p.tag, .int .i64 p.n, .slice pa pn pc], fun w' hw' => (by obtain ⟨d0, d1, d2, d3, d4, d5, d6, d7⟩ := hw'.2.2.1.cells; simp [d0, d1, d2, d3, d4, d5, d6, d7, Result.andThen]), ?_⟩
      go_big_quiet_on
      go_big_quiet_want
      go_big_quiet_op
      refine ⟨.agg #[.int .i64 q.kind, .int .i64 q.client, .int .i64 q.no, .string q.set, .string q.name, .string q.tag, .int .i64 q.n, .slice qa qn qc], fun w' hw' => (by obtain ⟨d0, d1, d2, d3, d4, d5, d6, d7⟩ := hw'.2.2.2.cells; simp [d0, d1, d2, d3, d4, d5, d6, d7, Result.andThen]), ?_⟩
      go_big_quiet_on
      go_big_quiet_want
      go_big_quiet_op
      refine ⟨_, fun w' hw' => L2.out w' hw', ?_⟩
      go_big_quiet_on
      go_big_quiet_want
      go_big_quiet_op
      (first | go_big_quiet_on | (refine ⟨_, fun _ _ => rfl, ?_⟩; go_big_quiet_on))
      go_big_quiet_want
      go_big_quiet_op
      (first | go_big_quiet_on | (refine ⟨_, fun _ _ => rfl, ?_⟩; go_big_quiet_on))
      go_big_quiet_want
      go_big_quiet_op
      refine ⟨.agg #[.int .i64 p.kind, .int .i64 p.client, .int .i64 p.no, .string p.set, .string p.name, .string p.tag, .int .i64 p.n, .slice pa pn pc], fun w' hw' => (by obtain ⟨d0, d1, d2, d3, d4, d5, d6, d7⟩ := hw'.2.2.1.cells; simp [d0, d1, d2, d3, d4, d5, d6, d7, Result.andThen]), ?_⟩
      go_big_quiet_on
      go_big_quiet_want
      go_big_quiet_op
      refine ⟨.agg #[.int .i64 q.kind, .int .i64 q.client, .int .i64 q.no, .string q.set, .string q.name, .string q.tag, .int .i64 q.n, .slice qa qn qc], fun w' hw' => (by obtain ⟨d0, d1, d2, d3, d4, d5, d6, d7⟩ := hw'.2.2.2.cells; simp [d0, d1, d2, d3, d4, d5, d6, d7, Result.andThen]), ?_⟩
      go_big_quiet_on
      go_big_quiet_want
      go_big_quiet_op
      refine ⟨_, fun w' hw' => L1.out w' hw', ?_⟩
      go_big_quiet_on
      go_big_quiet_want
      go_big_quiet_op
      refine ⟨.agg #[.int .i64 q.kind, .int .i64 q.client, .int .i64 q.no, .string q.set, .string q.name, .string q.tag, .int .i64 q.n, .slice qa qn qc], fun w' hw' => (by obtain ⟨d0, d1, d2, d3, d4, d5, d6, d7⟩ := hw'.2.2.2.cells; simp [d0, d1, d2, d3, d4, d5, d6, d7, Result.andThen]), ?_⟩
      go_big_quiet_on
      go_big_quiet_want
      go_big_quiet_op
      refine ⟨.agg #[.int .i64 p.kind, .int .i64 p.client, .int .i64 p.no, .string p.set, .string p.name, .string p.tag, .int .i64 p.n, .slice pa pn pc], fun w' hw' => (by obtain ⟨d0, d1, d2, d3, d4, d5, d6, d7⟩ := hw'.2.2.1.cells; simp [d0, d1, d2, d3, d4, d5, d6, d7, Result.andThen]), ?_⟩
      go_big_quiet_on
      go_big_quiet_want
      go_big_quiet_op
      refine ⟨_, fun w' hw' => L3.out w' hw', ?_⟩
      go_big_quiet_on
      go_big_quiet_want
      go_big_quiet_op
      (first | go_big_quiet_on | (refine ⟨_, fun _ _ => rfl, ?_⟩; go_big_quiet_on))
      go_big_quiet_want
      go_big_quiet_op
      (first | go_big_quiet_on | (refine ⟨_, fun _ _ => rfl, ?_⟩; go_big_quiet_on))
      go_big_quiet_want
      go_big_quiet_op
      (first | go_big_quiet_on | (refine ⟨_, fun _ _ => rfl, ?_⟩; go_big_quiet_on))
      go_big_quiet_want
      go_big_quiet_op
      refine ⟨.agg #[.int .i64 p.kind, .int .i64 p.client, .int .i64 p.no, .string p.set, .string p.name, .string p.tag, .int .i64 p.n, .slice pa pn pc], fun w' hw' => (by obtain ⟨d0, d1, d2, d3, d4, d5, d6, d7⟩ := hw'.2.2.1.cells; simp [d0, d1, d2, d3, d4, d5, d6, d7, Result.andThen]), ?_⟩
      go_big_quiet_on
      go_big_quiet_want
      go_big_quiet_op
      (first | go_big_quiet_on | (refine ⟨_, fun _ _ => rfl, ?_⟩; go_big_quiet_on))
      go_big_quiet_want
      go_big_quiet_op
      refine ⟨_, fun w' hw' => L4.out w' hw', ?_⟩
      go_big_quiet_on
      go_big_quiet_want
      go_big_quiet_op
      (first | go_big_quiet_on | (refine ⟨_, fun _ _ => rfl, ?_⟩; go_big_quiet_on))
      go_big_quiet_want
      go_big_quiet_op
      (first | go_big_quiet_on | (refine ⟨_, fun _ _ => rfl, ?_⟩; go_big_quiet_on))
      go_big_quiet_want
      go_big_quiet_op
      (first | go_big_quiet_on | (refine ⟨_, fun _ _ => rfl, ?_⟩; go_big_quiet_on))
      go_big_quiet_want
      go_big_quiet_op
      refine ⟨.agg #[.int .i64 p.kind, .int .i64 p.client, .int .i64 p.no, .string p.set, .string p.name, .string p.tag, .int .i64 p.n, .slice pa pn pc], fun w' hw' => (by obtain ⟨d0, d1, d2, d3, d4, d5, d6, d7⟩ := hw'.2.2.1.cells; simp [d0, d1, d2, d3, d4, d5, d6, d7, Result.andThen]), ?_⟩
      go_big_quiet_on
      go_big_quiet_want
      go_big_quiet_op
      refine ⟨_, fun w' hw' => L5.out w' hw', ?_⟩
      go_big_quiet_on
      go_big_quiet_want
      go_big_quiet_op
      (first | go_big_quiet_on | (refine ⟨_, fun _ _ => rfl, ?_⟩; go_big_quiet_on))
      go_big_quiet_want
      go_big_quiet_op
      (first | go_big_quiet_on | (refine ⟨_, fun _ _ => rfl, ?_⟩; go_big_quiet_on))
      go_big_quiet_want
      go_big_quiet_op
      (first | go_big_quiet_on | (refine ⟨_, fun _ _ => rfl, ?_⟩; go_big_quiet_on))
      go_big_quiet_want
      go_big_quiet_op
      refine ⟨.int .i64 p.kind, fun w' hw' => (by obtain ⟨d0, d1, d2, d3, d4, d5, d6, d7⟩ := hw'.2.2.1.cells; simp [d0, Result.andThen]), ?_⟩
      go_big_quiet_on
      go_big_quiet_want
      go_big_quiet_op
      (first | go_big_quiet_on | (refine ⟨_, fun _ _ => rfl, ?_⟩; go_big_quiet_on))
      go_big_quiet_want
      go_big_quiet_op
      (first | go_big_quiet_on | (refine ⟨_, fun _ _ => rfl, ?_⟩; go_big_quiet_on))
      go_big_quiet_want
      go_big_quiet_op
      (first | go_big_quiet_on | (refine ⟨_, fun _ _ => rfl, ?_⟩; go_big_quiet_on))
      go_big_quiet_want
      go_big_quiet_op
      refine ⟨.agg #[.int .i64 p.kind, .int .i64 p.client, .int .i64 p.no, .string p.set, .string p.name, .string p.tag, .int .i64 p.n, .slice pa pn pc], fun w' hw' => (by obtain ⟨d0, d1, d2, d3, d4, d5, d6, d7⟩ := hw'.2.2.1.cells; simp [d0, d1, d2, d3, d4, d5, d6, d7, Result.andThen]), ?_⟩
      go_big_quiet_on
      go_big_quiet_want
      go_big_quiet_op
      refine ⟨.agg #[.int .i64 p.kind, .int .i64 p.client, .int .i64 p.no, .string p.set, .string p.name, .string p.tag, .int .i64 p.n, .slice pa pn pc], fun w' hw' => (by obtain ⟨d0, d1, d2, d3, d4, d5, d6, d7⟩ := hw'.2.2.1.cells; simp [d0, d1, d2, d3, d4, d5, d6, d7, Result.andThen]), ?_⟩
      go_big_quiet_on
      go_big_quiet_want
      go_big_quiet_op
      refine ⟨_, fun w' hw' => L6.out w' hw', ?_⟩
      go_big_quiet_on
      repeat (first | go_big_quiet_skip | (go_big_quiet_want; go_big_quiet_op; (first | go_big_quiet_on | (refine ⟨_, fun _ _ => rfl, ?_⟩; go_big_quiet_on))))
      refine wpQuiet_nil ?_
      intro w3 hk3
      have H3 := Lib.hid hk3
      clear hk3
      go_wp2
      go_ret
      exact ⟨rfl, H3.out.1⟩
  · clear e3
    refine wp_region_quiet (C := Kl w sa w7.heap.size (w7.heap.size + 1) p q (.slice pa pn pc) (.slice qa qn qc)) (by kernel_rfl) (by kernel_rfl) (show Kl w sa w7.heap.size (w7.heap.size + 1) p q (.slice pa pn pc) (.slice qa qn qc) wc.drew from ⟨HK.out.1.drew, HK.out.2.1.drew, HK.out.2.2.1.drew, HK.out.2.2.2.drew⟩) ?_
    dsimp only
    go_big_quiet_want
    go_big_quiet_op
    refine ⟨.agg #[.int .i64 p.kind, .int .i64 p.client, .int .i64 p.no, .string p.set, .string p.name, .string p.tag, .int .i64 p.n, .slice pa pn pc], fun w' hw' => (by obtain ⟨d0, d1, d2, d3, d4, d5, d6, d7⟩ := hw'.2.2.1.cells; simp [d0, d1, d2, d3, d4, d5, d6, d7, Result.andThen]), ?_⟩
    go_big_quiet_on
    go_big_quiet_want
    go_big_quiet_op
    refine ⟨.agg #[.int .i64 q.kind, .int .i64 q.client, .int .i64 q.no, .string q.set, .string q.name, .string q.tag, .int .i64 q.n, .slice qa qn qc], fun w' hw' => (by obtain ⟨d0, d1, d2, d3, d4, d5, d6, d7⟩ := hw'.2.2.2.cells; simp [d0, d1, d2, d3, d4, d5, d6, d7, Result.andThen]), ?_⟩
    go_big_quiet_on
    go_big_quiet_want
    go_big_quiet_op
    refine ⟨_, fun w' hw' => L1.out w' hw', ?_⟩
    go_big_quiet_on
    go_big_quiet_want
    go_big_quiet_op
    refine ⟨.agg #[.int .i64 p.kind, .int .i64 p.client, .int .i64 p.no, .string p.set, .string p.name, .string p.tag, .int .i64 p.n, .slice pa pn pc], fun w' hw' => (by obtain ⟨d0, d1, d2, d3, d4, d5, d6, d7⟩ := hw'.2.2.1.cells; simp [d0, d1, d2, d3, d4, d5, d6, d7, Result.andThen]), ?_⟩
    go_big_quiet_on
    go_big_quiet_want
    go_big_quiet_op
    refine ⟨.agg #[.int .i64 q.kind, .int .i64 q.client, .int .i64 q.no, .string q.set, .string q.name, .string q.tag, .int .i64 q.n, .slice qa qn qc], fun w' hw' => (by obtain ⟨d0, d1, d2, d3, d4, d5, d6, d7⟩ := hw'.2.2.2.cells; simp [d0, d1, d2, d3, d4, d5, d6, d7, Result.andThen]), ?_⟩
    go_big_quiet_on
    go_big_quiet_want
    go_big_quiet_op
    refine ⟨_, fun w' hw' => L2.out w' hw', ?_⟩
    go_big_quiet_on
    go_big_quiet_want
    go_big_quiet_op
    (first | go_big_quiet_on | (refine ⟨_, fun _ _ => rfl, ?_⟩; go_big_quiet_on))
    go_big_quiet_want
    go_big_quiet_op
    (first | go_big_quiet_on | (refine ⟨_, fun _ _ => rfl, ?_⟩; go_big_quiet_on))
    go_big_quiet_want
    go_big_quiet_op
    refine ⟨.agg #[.int .i64 p.kind, .int .i64 p.client, .int .i64 p.no, .string p.set, .string p.name, .string p.tag, .int .i64 p.n, .slice pa pn pc], fun w' hw' => (by obtain ⟨d0, d1, d2, d3, d4, d5, d6, d7⟩ := hw'.2.2.1.cells; simp [d0, d1, d2, d3, d4, d5, d6, d7, Result.andThen]), ?_⟩
    go_big_quiet_on
    go_big_quiet_want
    go_big_quiet_op
    refine ⟨.agg #[.int .i64 q.kind, .int .i64 q.client, .int .i64 q.no, .string q.set, .string q.name, .string q.tag, .int .i64 q.n, .slice qa qn qc], fun w' hw' => (by obtain ⟨d0, d1, d2, d3, d4, d5, d6, d7⟩ := hw'.2.2.2.cells; simp [d0, d1, d2, d3, d4, d5, d6, d7, Result.andThen]), ?_⟩
    go_big_quiet_on
    go_big_quiet_want
    go_big_quiet_op
    refine ⟨_, fun w' hw' => L1.out w' hw', ?_⟩
    go_big_quiet_on
    go_big_quiet_want
    go_big_quiet_op
    refine ⟨.agg #[.int .i64 q.kind, .int .i64 q.client, .int .i64 q.no, .string q.set, .string q.name, .string q.tag, .int .i64 q.n, .slice qa qn qc], fun w' hw' => (by obtain ⟨d0, d1, d2, d3, d4, d5, d6, d7⟩ := hw'.2.2.2.cells; simp [d0, d1, d2, d3, d4, d5, d6, d7, Result.andThen]), ?_⟩
    go_big_quiet_on
    go_big_quiet_want
    go_big_quiet_op
    refine ⟨.agg #[.int .i64 p.kind, .int .i64 p.client, .int .i64 p.no, .string p.set, .string p.name, .string p.tag, .int .i64 p.n, .slice pa pn pc], fun w' hw' => (by obtain ⟨d0, d1, d2, d3, d4, d5, d6, d7⟩ := hw'.2.2.1.cells; simp [d0, d1, d2, d3, d4, d5, d6, d7, Result.andThen]), ?_⟩
    go_big_quiet_on
    go_big_quiet_want
    go_big_quiet_op
    refine ⟨_, fun w' hw' => L3.out w' hw', ?_⟩
    go_big_quiet_on
    go_big_quiet_want
    go_big_quiet_op
    (first | go_big_quiet_on | (refine ⟨_, fun _ _ => rfl, ?_⟩; go_big_quiet_on))
    go_big_quiet_want
    go_big_quiet_op
    (first | go_big_quiet_on | (refine ⟨_, fun _ _ => rfl, ?_⟩; go_big_quiet_on))
    go_big_quiet_want
    go_big_quiet_op
    (first | go_big_quiet_on | (refine ⟨_, fun _ _ => rfl, ?_⟩; go_big_quiet_on))
    go_big_quiet_want
    go_big_quiet_op
    refine ⟨.agg #[.int .i64 p.kind, .int .i64 p.client, .int .i64 p.no, .string p.set, .string p.name, .string p.tag, .int .i64 p.n, .slice pa pn pc], fun w' hw' => (by obtain ⟨d0, d1, d2, d3, d4, d5, d6, d7⟩ := hw'.2.2.1.cells; simp [d0, d1, d2, d3, d4, d5, d6, d7, Result.andThen]), ?_⟩
    go_big_quiet_on
    go_big_quiet_want
    go_big_quiet_op
    (first | go_big_quiet_on | (refine ⟨_, fun _ _ => rfl, ?_⟩; go_big_quiet_on))
    go_big_quiet_want
    go_big_quiet_op
    refine ⟨_, fun w' hw' => L4.out w' hw', ?_⟩
    go_big_quiet_on
    go_big_quiet_want
    go_big_quiet_op
    (first | go_big_quiet_on | (refine ⟨_, fun _ _ => rfl, ?_⟩; go_big_quiet_on))
    go_big_quiet_want
    go_big_quiet_op
    (first | go_big_quiet_on | (refine ⟨_, fun _ _ => rfl, ?_⟩; go_big_quiet_on))
    go_big_quiet_want
    go_big_quiet_op
    (first | go_big_quiet_on | (refine ⟨_, fun _ _ => rfl, ?_⟩; go_big_quiet_on))
    go_big_quiet_want
    go_big_quiet_op
    refine ⟨.agg #[.int .i64 p.kind, .int .i64 p.client, .int .i64 p.no, .string p.set, .string p.name, .string p.tag, .int .i64 p.n, .slice pa pn pc], fun w' hw' => (by obtain ⟨d0, d1, d2, d3, d4, d5, d6, d7⟩ := hw'.2.2.1.cells; simp [d0, d1, d2, d3, d4, d5, d6, d7, Result.andThen]), ?_⟩
    go_big_quiet_on
    go_big_quiet_want
    go_big_quiet_op
    refine ⟨_, fun w' hw' => L5.out w' hw', ?_⟩
    go_big_quiet_on
    go_big_quiet_want
    go_big_quiet_op
    (first | go_big_quiet_on | (refine ⟨_, fun _ _ => rfl, ?_⟩; go_big_quiet_on))
    go_big_quiet_want
    go_big_quiet_op
    (first | go_big_quiet_on | (refine ⟨_, fun _ _ => rfl, ?_⟩; go_big_quiet_on))
    go_big_quiet_want
    go_big_quiet_op
    (first | go_big_quiet_on | (refine ⟨_, fun _ _ => rfl, ?_⟩; go_big_quiet_on))
    go_big_quiet_want
    go_big_quiet_op
    refine ⟨.int .i64 p.kind, fun w' hw' => (by obtain ⟨d0, d1, d2, d3, d4, d5, d6, d7⟩ := hw'.2.2.1.cells; simp [d0, Result.andThen]), ?_⟩
    go_big_quiet_on
    go_big_quiet_want
    go_big_quiet_op
    (first | go_big_quiet_on | (refine ⟨_, fun _ _ => rfl, ?_⟩; go_big_quiet_on))
    go_big_quiet_want
    go_big_quiet_op
    (first | go_big_quiet_on | (refine ⟨_, fun _ _ => rfl, ?_⟩; go_big_quiet_on))
    go_big_quiet_want
    go_big_quiet_op
    (first | go_big_quiet_on | (refine ⟨_, fun _ _ => rfl, ?_⟩; go_big_quiet_on))
    repeat (first | go_big_quiet_skip | (go_big_quiet_want; go_big_quiet_op; (first | go_big_quiet_on | (refine ⟨_, fun _ _ => rfl, ?_⟩; go_big_quiet_on))))
    refine wpQuiet_nil ?_
    intro w3 hk3
    have H3 := Lib.hid hk3
    clear hk3
    go_wp2
    go_ret
    exact ⟨rfl, H3.out.1⟩
end Go.Proofs.YtmdacoppkjclmaaDoor
