/- The model's l4Right: it draws a command. -/
import Derived.Test.YtmdacoppkjclmaaDoorDrawC
import Derived.Deep.Cut
namespace Go.Proofs.YtmdacoppkjclmaaDoor
open Go.RowKit Go.PlainAid
set_option linter.unusedVariables false

theorem ext_le8 (t : ByteArray) : (t.extract 0 8).size ≤ 8 := by simp only [ByteArray.size_extract]; omega
theorem sizes_le (l : List ByteArray) (h : (l.all fun s => decide (s.size ≤ 9)) = true) (j : Nat) : (l.getD j ByteArray.empty).size ≤ 9 := by
  rw [List.getD]
  by_cases hj : j < l.length
  · rw [List.getElem?_eq_getElem hj]
    exact of_decide_eq_true (List.all_eq_true.1 h _ (List.getElem_mem hj))
  · rw [List.getElem?_eq_none (by omega)]
    exact Nat.zero_le 9
theorem Dw.done {B g r0 gx : Nat} {w0 w : World} {c : CmdM} {a : Option Addr} {n cap : Nat} (h : Dw B g r0 gx w0 w c a n cap) (x0 x1 x2 x3 x4 x5 x6 x7 : Value) :
    GrowsS ((((((((w.setCell ⟨r0, 0, none⟩ x0).setCell ⟨r0, 1, none⟩ x1).setCell ⟨r0, 2, none⟩ x2).setCell ⟨r0, 3, none⟩ x3).setCell ⟨r0, 4, none⟩ x4).setCell ⟨r0, 5, none⟩ x5).setCell ⟨r0, 6, none⟩ x6).setCell ⟨r0, 7, none⟩ x7) (r0 + 1) (.slice a n cap) c.ch
    ∧ Dr B ((((((((w.setCell ⟨r0, 0, none⟩ x0).setCell ⟨r0, 1, none⟩ x1).setCell ⟨r0, 2, none⟩ x2).setCell ⟨r0, 3, none⟩ x3).setCell ⟨r0, 4, none⟩ x4).setCell ⟨r0, 5, none⟩ x5).setCell ⟨r0, 6, none⟩ x6).setCell ⟨r0, 7, none⟩ x7) g
    ∧ w0.grownBy ((((((((w.setCell ⟨r0, 0, none⟩ x0).setCell ⟨r0, 1, none⟩ x1).setCell ⟨r0, 2, none⟩ x2).setCell ⟨r0, 3, none⟩ x3).setCell ⟨r0, 4, none⟩ x4).setCell ⟨r0, 5, none⟩ x5).setCell ⟨r0, 6, none⟩ x6).setCell ⟨r0, 7, none⟩ x7) (some g) := by
  have h1 := h.o1
  have h2 := h.o2
  have h3 := h.o3
  have hr : ∀ k, some r0 = some k → w0.heap.size ≤ k := fun k hk => by cases hk; exact h3
  refine ⟨(h.gr.mono (by omega)).set8 r0 (by omega) _ _ _ _ _ _ _ _, h.dr.keep ?_, ?_⟩
  · exact ((((((((Below.refl B w).setCell h1 x0).setCell h1 x1).setCell h1 x2).setCell h1 x3).setCell h1 x4).setCell h1 x5).setCell h1 x6).setCell h1 x7
  · exact grown_then (grown_then (grown_then (grown_then (grown_then (grown_then (grown_then (grown_then h.af (setG _ r0 0 x0) hr) (setG _ r0 1 x1) hr) (setG _ r0 2 x2) hr) (setG _ r0 3 x3) hr) (setG _ r0 4 x4) hr) (setG _ r0 5 x5) hr) (setG _ r0 6 x6) hr) (setG _ r0 7 x7) hr

set_option maxRecDepth 100000 in
set_option maxHeartbeats 4000000 in
theorem right_d (B g : Nat) (w : World) (h : Dr B w g) (hB : B ≤ w.heap.size) :
    Calls Tryd.prog 49 #[.pointer (some ⟨g, 0, none⟩)] w fun e w' => (∃ (c : CmdM) (a : Option Addr) (n cap : Nat), e = .returned (.agg #[.int .i64 c.kind, .int .i64 c.client, .int .i64 c.no, .string c.set, .string c.name, .string c.tag, .int .i64 c.n, .slice a n cap]) ∧ GrowsS w' (w.heap.size + 1) (.slice a n cap) c.ch ∧ Small c ∧ c.ch.length ≤ 3) ∧ Dr B w' g ∧ w.grownBy w' (some g) := by
  have HD := Lib.hid (h.keep (((Below.refl w.heap.size w).alloc (Nat.le_refl _) (.cells #[.int .i64 0, .int .i64 0, .int .i64 0, .string ⟨#[]⟩, .string ⟨#[]⟩, .string ⟨#[]⟩, .int .i64 0, .slice none 0 0] 26)).mono hB))
  have HB := Lib.hid (Box.new w 26 #[.int .i64 0, .int .i64 0, .int .i64 0, .string ⟨#[]⟩, .string ⟨#[]⟩, .string ⟨#[]⟩, .int .i64 0, .slice none 0 0] w.heap.size rfl)
  have HG := Lib.hid (World.grownBy_alloc w (.cells #[.int .i64 0, .int .i64 0, .int .i64 0, .string ⟨#[]⟩, .string ⟨#[]⟩, .string ⟨#[]⟩, .int .i64 0, .slice none 0 0] 26) (some g))
  have hgB := h.1
  clear h
  go_enter Tryd.func49, Tryd.ntmps49
  go_wp2_with fail
  refine (dr_below B g 7 _ HD.out (by decide) (by decide)).mono ?_
  rintro e w1 ⟨⟨x1, rfl, x10, x11⟩, hd, hg⟩
  have HD1 := Lib.hid hd
  have HB1 := Lib.hid (HB.out.keep hg (by simp; omega))
  have HG1 := Lib.hid (HG.out.trans hg)
  clear hd hg HD HB HG
  go_wp2_with fail
  refine (dr_below B g 3 _ HD1.out (by decide) (by decide)).mono ?_
  rintro e w2 ⟨⟨x2, rfl, x20, x21⟩, hd, hg⟩
  have HD2 := Lib.hid hd
  have HB2 := Lib.hid (HB1.out.keep hg (by simp; omega))
  have HG2 := Lib.hid (HG1.out.trans hg)
  clear hd hg HD1 HB1 HG1
  go_wp2_with fail
  refine (dr_below B g 6 _ HD2.out (by decide) (by decide)).mono ?_
  rintro e w3 ⟨⟨x3, rfl, x30, x31⟩, hd, hg⟩
  have HB3 := Lib.hid (HB2.out.keep hg (by simp; omega))
  have HG3 := Lib.hid (HG2.out.trans hg)
  obtain ⟨gx, hgx⟩ : ∃ gx, gx = w3.heap.size := ⟨_, rfl⟩
  have hlt : w.heap.size < gx := by rw [hgx]; exact HB3.out.lt
  have D0 : Dw B g w.heap.size gx w (w3.alloc (.cells #[.int .i64 (1 + x1), .int .i64 (1 + x2), .int .i64 (1 + x3), .string ⟨#[]⟩, .string ⟨#[]⟩, .string ⟨#[]⟩, .int .i64 0, .slice none 0 0] 26)) ⟨1 + x1, 1 + x2, 1 + x3, ⟨#[]⟩, ⟨#[]⟩, ⟨#[]⟩, 0, []⟩ none 0 0 :=
    ⟨hd.keep ((Below.refl _ _).alloc (by omega) _), HB3.out.alloc _, Box.new w3 26 _ gx hgx.symm, growsS_nil _ _, ⟨Nat.zero_le 9, Nat.zero_le 9, Nat.zero_le 9, Nat.zero_le 8, fun j hj => by simp at hj⟩, HG3.out.trans (World.grownBy_alloc _ _ _), hB, hlt, Nat.le_refl _⟩
  have HD := Lib.hid D0
  have HX := Lib.hid hgx
  clear hd hg HD2 HB2 HG2 HB3 HG3 D0 hgx
  have y1 : IntKind.i64.wrap (1 + x1) = 1 + x1 := IntWalk.i64_in _ (by omega)
  have y2 : IntKind.i64.wrap (1 + x2) = 1 + x2 := IntWalk.i64_in _ (by omega)
  have y3 : IntKind.i64.wrap (1 + x3) = 1 + x3 := IntWalk.i64_in _ (by omega)
  go_wp2_with fail
  clear y1 y2 y3
  refine (dr_once B g 4 _ HD.out.dr (by decide)).mono ?_
  rintro e w4 ⟨⟨b4, rfl⟩, hd, hg⟩
  have HD4 := Lib.hid (HD.out.call hd hg)
  clear hd hg HD
  rw [← HX.out]
  go_upto_if 16 with fail
  go_cut [] from 5 (fun wx => (∃ (c : CmdM) (a : Option Addr) (n cap : Nat), Dw B g w.heap.size gx w wx c a n cap ∧ c.ch = []))
  case first =>
    cases b4
    · go_wp2_with fail
      go_meet
      case rel => exact ⟨_, _, _, _, HD4.out, rfl⟩
    · have fz := HD4.out.bx.frozen 0
      have cz := HD4.out.bx.cell 0 _ rfl
      go_wp2_with fail
      go_meet
      case rel => exact ⟨_, _, _, _, HD4.out.put (c' := ⟨3, 1 + x2, 1 + x3, ⟨#[]⟩, ⟨#[]⟩, ⟨#[]⟩, 0, []⟩) 0 (.int .i64 3) rfl rfl HD4.out.sm, rfl⟩
  obtain ⟨c, a, n, cap, hD, hch⟩ := hcut
  have HD := Lib.hid hD
  have HCH := Lib.hid hch
  clear hD HD4 hch x10 x11 x20 x21 x30 x31
  have k0 := HD.out.bx.cell 0 _ rfl
  go_upto_if 20 with fail
  go_cut [] from 5 (fun wx => (∃ (c : CmdM) (a : Option Addr) (n cap : Nat), Dw B g w.heap.size gx w wx c a n cap ∧ c.ch = []))
  case first =>
    cases hk : (c.kind != 7)
    · go_wp2_with fail
      go_meet
      case rel => exact ⟨_, _, _, _, HD.out, HCH.out⟩
    · go_wp2_with fail
      have hqg : wc.heap.size ≠ g := by have := HD.out.b0.lt; have := HD.out.o1; omega
      refine (dr_pickS B g _ 3 [⟨#[97]⟩, ⟨#[98]⟩, ⟨#[97, 98]⟩] _ (HD.out.alloc _).dr rfl (by decide) (by decide) hqg (lit3 _ _ _ _ _ (fun j => .string (([⟨#[97]⟩, ⟨#[98]⟩, ⟨#[97, 98]⟩] : List ByteArray).getD j ByteArray.empty)) rfl rfl rfl) (fun j => sizes_le [⟨#[97]⟩, ⟨#[98]⟩, ⟨#[97, 98]⟩] (by decide) j)).mono ?_
      rintro e w5 ⟨⟨tw5, rfl, ht⟩, hd, hg⟩
      have HE := Lib.hid ((HD.out.alloc _).call hd hg)
      clear hd hg
      have fz := HE.out.bx.frozen 3
      have cz := HE.out.bx.cell 3 _ rfl
      obtain ⟨m1, m2, m3, m4, m5⟩ := HD.out.sm
      go_wp2_with fail
      go_meet
      case rel => exact ⟨_, _, _, _, HE.out.put (c' := { c with set := tw5 }) 3 (.string tw5) rfl rfl ⟨ht, m2, m3, m4, m5⟩, HCH.out⟩
  clear HD HCH k0
  obtain ⟨c, a, n, cap, hD, hch⟩ := hcut
  have HD := Lib.hid hD
  have HCH := Lib.hid hch
  clear hD hch
  have k0 := HD.out.bx.cell 0 _ rfl
  by_cases q5 : c.kind = 5
  · have e3 : (c.kind == 3) = false := by rw [q5]; decide
    have e4 : (c.kind == 4) = false := by rw [q5]; decide
    have e5 : (c.kind == 5) = true := by rw [q5]; decide
    clear q5
    go_wp2_with fail
    refine (dr_below B g 4 _ HD.out.dr (by decide) (by decide)).mono ?_
    rintro e w6 ⟨⟨x6, rfl, x60, x61⟩, hd, hg⟩
    have HE := Lib.hid (HD.out.call hd hg)
    clear hd hg HD k0
    have fz := HE.out.bx.frozen 6
    have cz := HE.out.bx.cell 6 _ rfl
    have k0 := HE.out.bx.cell 0 _ rfl
    have hsm := HE.out.sm
    go_upto_if 52 with fail
    refine wp_world (fun wx => Dw B g w.heap.size gx w wx { c with n := x6 } a n cap) (HE.out.put 6 (.int .i64 x6) rfl rfl hsm) ?_
    rintro wz hz
    have HD := Lib.hid hz
    clear hz HE fz cz k0
    have k0 := HD.out.bx.cell 0 _ rfl
    obtain ⟨d0, d1, d2, d3, d4, d5, d6, d7⟩ := HD.out.bx.cells8
    have g0 := HD.out.b0.frozen 0
    have g1 := HD.out.b0.frozen 1
    have g2 := HD.out.b0.frozen 2
    have g3 := HD.out.b0.frozen 3
    have g4 := HD.out.b0.frozen 4
    have g5 := HD.out.b0.frozen 5
    have g6 := HD.out.b0.frozen 6
    have g7 := HD.out.b0.frozen 7
    obtain ⟨z0, z1, z2, z3, z4, z5, z6, z7⟩ := HD.out.b0.cells8
    have l0 := HD.out.b0.lt
    go_wp2
    obtain ⟨r1, r2, r3⟩ := HD.out.done (.int .i64 c.kind) (.int .i64 c.client) (.int .i64 c.no) (.string c.set) (.string c.name) (.string c.tag) (.int .i64 x6) (.slice a n cap)
    exact bodyPost_ret (results_cmd Tryd.results49 _ _ w.heap.size _ _ _ _ _ _ _ _ rfl (HD.out.b0.set8cells _ _ _ _ _ _ _ _)) rfl ⟨⟨_, _, _, _, rfl, r1, HD.out.sm, by rw [HCH.out]; decide⟩, r2, r3⟩
  by_cases q4 : c.kind = 4
  · have e3 : (c.kind == 3) = false := by rw [q4]; decide
    have e4 : (c.kind == 4) = true := by rw [q4]; decide
    have e5 : (c.kind == 5) = false := by rw [q4]; decide
    clear q4
    go_wp2_with fail
    have hqg : wc.heap.size ≠ g := by have := HD.out.b0.lt; have := HD.out.o1; omega
    refine (dr_pickS B g _ 3 [⟨#[120]⟩, ⟨#[121]⟩, ⟨#[122]⟩] _ (HD.out.alloc _).dr rfl (by decide) (by decide) hqg (lit3 _ _ _ _ _ (fun j => .string (([⟨#[120]⟩, ⟨#[121]⟩, ⟨#[122]⟩] : List ByteArray).getD j ByteArray.empty)) rfl rfl rfl) (fun j => sizes_le [⟨#[120]⟩, ⟨#[121]⟩, ⟨#[122]⟩] (by decide) j)).mono ?_
    rintro e w6 ⟨⟨tw6, rfl, ht⟩, hd, hg⟩
    have HE := Lib.hid ((HD.out.alloc _).call hd hg)
    clear hd hg
    obtain ⟨m1, m2, m3, m4, m5⟩ := HD.out.sm
    clear HD k0 hqg
    have fz := HE.out.bx.frozen 4
    have cz := HE.out.bx.cell 4 _ rfl
    have k0 := HE.out.bx.cell 0 _ rfl
    go_upto_if 39 with fail
    refine wp_world (fun wx => Dw B g w.heap.size gx w wx { c with name := tw6 } a n cap) (HE.out.put 4 (.string tw6) rfl rfl ⟨m1, ht, m3, m4, m5⟩) ?_
    rintro wa hz
    have HD := Lib.hid hz
    clear hz HE fz cz k0
    have k0 := HD.out.bx.cell 0 _ rfl
    go_wp2_with fail
    have hqg : wa.heap.size ≠ g := by have := HD.out.b0.lt; have := HD.out.o1; omega
    refine (dr_pickS B g _ 2 [⟨#[107, 101, 101, 112]⟩, ⟨#[116]⟩] _ (HD.out.alloc _).dr rfl (by decide) (by decide) hqg (lit2 _ _ _ _ (fun j => .string (([⟨#[107, 101, 101, 112]⟩, ⟨#[116]⟩] : List ByteArray).getD j ByteArray.empty)) rfl rfl) (fun j => sizes_le [⟨#[107, 101, 101, 112]⟩, ⟨#[116]⟩] (by decide) j)).mono ?_
    rintro e w7 ⟨⟨tw7, rfl, ht⟩, hd, hg⟩
    have HE := Lib.hid ((HD.out.alloc _).call hd hg)
    clear hd hg
    obtain ⟨m1, m2, m3, m4, m5⟩ := HD.out.sm
    clear HD k0 hqg
    have fz := HE.out.bx.frozen 5
    have cz := HE.out.bx.cell 5 _ rfl
    have k0 := HE.out.bx.cell 0 _ rfl
    go_upto_if 46 with fail
    refine wp_world (fun wx => Dw B g w.heap.size gx w wx { c with name := tw6, tag := tw7 } a n cap) (HE.out.put 5 (.string tw7) rfl rfl ⟨m1, m2, ht, m4, m5⟩) ?_
    rintro wb hz
    have HD := Lib.hid hz
    clear hz HE fz cz k0
    have k0 := HD.out.bx.cell 0 _ rfl
    go_upto_if 52 with fail
    obtain ⟨d0, d1, d2, d3, d4, d5, d6, d7⟩ := HD.out.bx.cells8
    have g0 := HD.out.b0.frozen 0
    have g1 := HD.out.b0.frozen 1
    have g2 := HD.out.b0.frozen 2
    have g3 := HD.out.b0.frozen 3
    have g4 := HD.out.b0.frozen 4
    have g5 := HD.out.b0.frozen 5
    have g6 := HD.out.b0.frozen 6
    have g7 := HD.out.b0.frozen 7
    obtain ⟨z0, z1, z2, z3, z4, z5, z6, z7⟩ := HD.out.b0.cells8
    have l0 := HD.out.b0.lt
    go_wp2
    obtain ⟨r1, r2, r3⟩ := HD.out.done (.int .i64 c.kind) (.int .i64 c.client) (.int .i64 c.no) (.string c.set) (.string tw6) (.string tw7) (.int .i64 c.n) (.slice a n cap)
    exact bodyPost_ret (results_cmd Tryd.results49 _ _ w.heap.size _ _ _ _ _ _ _ _ rfl (HD.out.b0.set8cells _ _ _ _ _ _ _ _)) rfl ⟨⟨_, _, _, _, rfl, r1, HD.out.sm, by rw [HCH.out]; decide⟩, r2, r3⟩
  by_cases q3 : c.kind = 3
  case neg =>
    have e3 := beq_no q3
    have e4 := beq_no q4
    have e5 := beq_no q5
    clear q3 q4 q5
    go_upto_if 52 with fail
    obtain ⟨d0, d1, d2, d3, d4, d5, d6, d7⟩ := HD.out.bx.cells8
    have g0 := HD.out.b0.frozen 0
    have g1 := HD.out.b0.frozen 1
    have g2 := HD.out.b0.frozen 2
    have g3 := HD.out.b0.frozen 3
    have g4 := HD.out.b0.frozen 4
    have g5 := HD.out.b0.frozen 5
    have g6 := HD.out.b0.frozen 6
    have g7 := HD.out.b0.frozen 7
    obtain ⟨z0, z1, z2, z3, z4, z5, z6, z7⟩ := HD.out.b0.cells8
    have l0 := HD.out.b0.lt
    go_wp2
    obtain ⟨r1, r2, r3⟩ := HD.out.done (.int .i64 c.kind) (.int .i64 c.client) (.int .i64 c.no) (.string c.set) (.string c.name) (.string c.tag) (.int .i64 c.n) (.slice a n cap)
    exact bodyPost_ret (results_cmd Tryd.results49 _ _ w.heap.size _ _ _ _ _ _ _ _ rfl (HD.out.b0.set8cells _ _ _ _ _ _ _ _)) rfl ⟨⟨_, _, _, _, rfl, r1, HD.out.sm, by rw [HCH.out]; decide⟩, r2, r3⟩
  have e3 : (c.kind == 3) = true := by rw [q3]; decide
  have e4 : (c.kind == 4) = false := by rw [q3]; decide
  have e5 : (c.kind == 5) = false := by rw [q3]; decide
  clear q3
  go_wp2_with fail
  have hqg : wc.heap.size ≠ g := by have := HD.out.b0.lt; have := HD.out.o1; omega
  refine (dr_pickS B g _ 3 [⟨#[120]⟩, ⟨#[121]⟩, ⟨#[122]⟩] _ (HD.out.alloc _).dr rfl (by decide) (by decide) hqg (lit3 _ _ _ _ _ (fun j => .string (([⟨#[120]⟩, ⟨#[121]⟩, ⟨#[122]⟩] : List ByteArray).getD j ByteArray.empty)) rfl rfl rfl) (fun j => sizes_le [⟨#[120]⟩, ⟨#[121]⟩, ⟨#[122]⟩] (by decide) j)).mono ?_
  rintro e w6 ⟨⟨tw6, rfl, ht⟩, hd, hg⟩
  have HE := Lib.hid ((HD.out.alloc _).call hd hg)
  clear hd hg
  obtain ⟨m1, m2, m3, m4, m5⟩ := HD.out.sm
  clear HD k0 hqg
  have fz := HE.out.bx.frozen 4
  have cz := HE.out.bx.cell 4 _ rfl
  have k0 := HE.out.bx.cell 0 _ rfl
  go_upto_if 39 with fail
  refine wp_world (fun wx => Dw B g w.heap.size gx w wx { c with name := tw6 } a n cap) (HE.out.put 4 (.string tw6) rfl rfl ⟨m1, ht, m3, m4, m5⟩) ?_
  rintro wa hz
  have HD := Lib.hid hz
  clear hz HE fz cz k0
  have k0 := HD.out.bx.cell 0 _ rfl
  go_wp2_with fail
  refine (dr_below B g 3 _ HD.out.dr (by decide) (by decide)).mono ?_
  rintro e w7 ⟨⟨x7, rfl, x70, x71⟩, hd, hg⟩
  have HE := Lib.hid (HD.out.call hd hg)
  clear hd hg HD k0
  obtain ⟨y, hy⟩ : ∃ y : Nat, 1 + x7 = (y : Int) := Int.eq_ofNat_of_zero_le (by omega)
  have hy3 : y ≤ 3 := by omega
  have y1 : IntKind.i64.wrap (1 + x7) = (y : Int) := by rw [IntWalk.i64_in _ (by omega)]; exact hy
  clear hy
  have hconv := conv_one
  go_wp2
  clear y1
  go_loopw [4] (fun nv wr => ∃ (k : Nat) (d : CmdM) (a' : Option Addr) (n' cap' : Nat), k ≤ 3 ∧ nv = .int .i64 k ∧ Dw B g w.heap.size gx w wr d a' n' cap' ∧ d.ch.length + k ≤ 3) (fun nv _ => (intOf nv).toNat)
  case atStart => exact ⟨y, _, _, _, _, hy3, rfl, HE.out, by show c.ch.length + y ≤ 3; rw [HCH.out]; simpa using hy3⟩
  case round =>
    clear HE HCH
    obtain ⟨k, d, a', n', cap', hk, rfl, hD, hlen⟩ := hrel
    have HD := Lib.hid hD
    clear hD
    by_cases hlt : 0 < k
    · have c7 := HD.out.bx.cell 7 _ rfl
      have hl7 : d.ch.length ≤ 7 := by omega
      have hl1 : d.ch.length ≤ 1000 := by omega
      go_wp2_with fail
      go_region_law (first
        | (refine step_append_str rfl (.tmp 61) (.tmp 68) rfl (gx + 1) (.slice a' n' cap') d.ch ((shaD (strOfNums [IntKind.u8.wrap x5])).extract 0 8) (by simp [Act.eval]) (H6.out.alloc _).gr w6.heap.size 1 (by simp [Act.eval]) (by simp) hl1 (by have := H6.out.bx.lt; simp; omega) ?_; intro v' w8 hv' hg'; obtain ⟨va', vn', vc', rfl⟩ := hv'.form; have H8 := Lib.hid ((H6.out.alloc _).push _ hg' hv' HSZ.out hl7); have f78 := ((H6.out.alloc _).bx.later (below_of_grown (H6.out.alloc _).gr (by have := H6.out.bx.lt; simp; omega) hg') (by omega)).frozen 7; have c78 := ((H6.out.alloc _).bx.later (below_of_grown (H6.out.alloc _).gr (by have := H6.out.bx.lt; simp; omega) hg') (by omega)).cell 7 _ rfl)
        | (go_simp; go_at_call 50; refine (dr_below B g 4 _ HD.out.drew.dr (by decide) (by decide)).mono ?_; rintro e w5 ⟨⟨x5, rfl, x50, x51⟩, hd, hg⟩; have H5 := Lib.hid (HD.out.drew.call hd hg); have c75 := H5.out.bx.cell 7 _ rfl; have c75b := (H5.out.alloc (.cells #[.int .u8 (IntKind.u8.wrap x5)] 5)).bx.cell 7 _ rfl; clear hd hg)
        | (go_simp; go_at_call 71; refine (spec_short (strOfNums [IntKind.u8.wrap x5]) (by rw [strOfNums_size]; simp) _).mono ?_; rintro e w6 ⟨rfl, hb⟩; have H6 := Lib.hid ((H5.out.alloc _).later hb); have c76 := H6.out.bx.cell 7 _ rfl; have c76b := fun o => (H6.out.alloc o).bx.cell 7 _ rfl; have HSZ := Lib.hid (show ((shaD (strOfNums [IntKind.u8.wrap x5])).extract 0 8).size ≤ 9 from Nat.le_trans (ext_le8 _) (by decide)); clear hb))
      all_goals
        go_wp2
        go_roundw
        case rel => exact ⟨k - 1, _, _, _, _, by omega, by go_num, H8.out, by simp; omega⟩
        case measure => simp only [intOf]; omega
    · obtain rfl : k = 0 := by omega
      obtain ⟨d0, d1, d2, d3, d4, d5, d6, d7⟩ := HD.out.bx.cells8
      have g0 := HD.out.b0.frozen 0
      have g1 := HD.out.b0.frozen 1
      have g2 := HD.out.b0.frozen 2
      have g3 := HD.out.b0.frozen 3
      have g4 := HD.out.b0.frozen 4
      have g5 := HD.out.b0.frozen 5
      have g6 := HD.out.b0.frozen 6
      have g7 := HD.out.b0.frozen 7
      obtain ⟨z0, z1, z2, z3, z4, z5, z6, z7⟩ := HD.out.b0.cells8
      have l0 := HD.out.b0.lt
      go_wp2
      obtain ⟨r1, r2, r3⟩ := HD.out.done (.int .i64 d.kind) (.int .i64 d.client) (.int .i64 d.no) (.string d.set) (.string d.name) (.string d.tag) (.int .i64 d.n) (.slice a' n' cap')
      exact bodyPost_ret (results_cmd Tryd.results49 _ _ w.heap.size _ _ _ _ _ _ _ _ rfl (HD.out.b0.set8cells _ _ _ _ _ _ _ _)) rfl ⟨⟨_, _, _, _, rfl, r1, HD.out.sm, by omega⟩, r2, r3⟩
end Go.Proofs.YtmdacoppkjclmaaDoor
