/- The model's l4Cmd. -/
import Derived.Test.YtmdacoppkjclmaaDoorDrawX
namespace Go.Proofs.YtmdacoppkjclmaaDoor
open Go.RowKit Go.PlainAid
set_option linter.unusedVariables false

set_option maxRecDepth 100000 in
set_option maxHeartbeats 4000000 in
theorem cmd_d (B g : Nat) (w : World) (h : Dr B w g) (hB : B ≤ w.heap.size) :
    Calls Tryd.prog 27 #[.pointer (some ⟨g, 0, none⟩)] w fun e w' => (∃ (c : CmdM) (a : Option Addr) (n cap : Nat), e = .returned (.agg #[.int .i64 c.kind, .int .i64 c.client, .int .i64 c.no, .string c.set, .string c.name, .string c.tag, .int .i64 c.n, .slice a n cap]) ∧ GrowsS w' (w.heap.size + 1) (.slice a n cap) c.ch ∧ Small c ∧ c.ch.length ≤ 4) ∧ Dr B w' g ∧ w.grownBy w' (some g) := by
  have HD := Lib.hid (h.keep (((Below.refl w.heap.size w).alloc (Nat.le_refl _) (.cells #[.int .i64 0, .int .i64 0, .int .i64 0, .string ⟨#[]⟩, .string ⟨#[]⟩, .string ⟨#[]⟩, .int .i64 0, .slice none 0 0] 26)).mono hB))
  have HB := Lib.hid (Box.new w 26 #[.int .i64 0, .int .i64 0, .int .i64 0, .string ⟨#[]⟩, .string ⟨#[]⟩, .string ⟨#[]⟩, .int .i64 0, .slice none 0 0] w.heap.size rfl)
  have HG := Lib.hid (World.grownBy_alloc w (.cells #[.int .i64 0, .int .i64 0, .int .i64 0, .string ⟨#[]⟩, .string ⟨#[]⟩, .string ⟨#[]⟩, .int .i64 0, .slice none 0 0] 26) (some g))
  have hgB := h.1
  clear h
  go_enter Tryd.func27, Tryd.ntmps27
  go_wp2_with fail
  refine (dr_once B g 12 _ HD.out (by decide)).mono ?_
  rintro e w1 ⟨⟨b1, rfl⟩, hd, hg⟩
  have HD1 := Lib.hid hd
  have HB1 := Lib.hid (HB.out.keep hg (by simp; omega))
  have HG1 := Lib.hid (HG.out.trans hg)
  clear hd hg HD HB HG
  cases b1
  case true =>
    have g0 := HB1.out.frozen 0
    have g1 := HB1.out.frozen 1
    have g2 := HB1.out.frozen 2
    have g3 := HB1.out.frozen 3
    have g4 := HB1.out.frozen 4
    have g5 := HB1.out.frozen 5
    have g6 := HB1.out.frozen 6
    have g7 := HB1.out.frozen 7
    obtain ⟨z0, z1, z2, z3, z4, z5, z6, z7⟩ := HB1.out.cells8
    have l0 := HB1.out.lt
    go_wp2
    have hr : ∀ k, some w.heap.size = some k → w.heap.size ≤ k := fun k hk => by cases hk; exact Nat.le_refl _
    refine bodyPost_ret (results_cmd Tryd.results27 _ _ w.heap.size _ _ _ _ _ _ _ _ rfl (HB1.out.set8cells _ _ _ _ _ _ _ _)) rfl ⟨⟨⟨0, 0, 0, ⟨#[]⟩, ⟨#[]⟩, ⟨#[]⟩, 0, []⟩, none, 0, 0, rfl, growsS_nil _ _, ⟨Nat.zero_le 9, Nat.zero_le 9, Nat.zero_le 9, Nat.zero_le 8, fun j hj => by simp at hj⟩, Nat.zero_le 4⟩, HD1.out.keep ?_, ?_⟩
    · exact ((((((((Below.refl B w1).setCell hB _).setCell hB _).setCell hB _).setCell hB _).setCell hB _).setCell hB _).setCell hB _).setCell hB _
    · exact grown_then (grown_then (grown_then (grown_then (grown_then (grown_then (grown_then (grown_then HG1.out (setG _ _ 0 _) hr) (setG _ _ 1 _) hr) (setG _ _ 2 _) hr) (setG _ _ 3 _) hr) (setG _ _ 4 _) hr) (setG _ _ 5 _) hr) (setG _ _ 6 _) hr) (setG _ _ 7 _) hr
  case false =>
    go_wp2_with fail
    refine (right_d B g _ HD1.out (by have := HB1.out.lt; omega)).mono ?_
    rintro e w2 ⟨⟨c, a, n, cap, rfl, hgr, hsm, hl3⟩, hd, hg⟩
    have hl1 := HB1.out.lt
    have HB2 := Lib.hid (HB1.out.keep hg (by simp; omega))
    have HG2 := Lib.hid (HG1.out.trans hg)
    obtain ⟨gx, hgx⟩ : ∃ gx, gx = w2.heap.size := ⟨_, rfl⟩
    have hlt : w.heap.size < gx := by rw [hgx]; exact HB2.out.lt
    have D0 : Dx B g w.heap.size gx w (w2.alloc (.cells #[.int .i64 c.kind, .int .i64 c.client, .int .i64 c.no, .string c.set, .string c.name, .string c.tag, .int .i64 c.n, .slice a n cap] 26)) c a n cap :=
      ⟨hd.keep ((Below.refl _ _).alloc (by omega) _), HB2.out.alloc _, Box.new w2 26 _ gx hgx.symm, (hgr.mono (by omega)).alloc _, hsm, HG2.out.trans (World.grownBy_alloc _ _ _), hB, hlt, Nat.le_refl _⟩
    have HD := Lib.hid D0
    have HX := Lib.hid hgx
    clear hd hg HD1 HB1 HG1 HB2 HG2 D0 hgx hgr hsm hl1
    go_wp2_with fail
    refine (dr_once B g 8 _ HD.out.dr (by decide)).mono ?_
    rintro e w4 ⟨⟨b4, rfl⟩, hd, hg⟩
    have HD4 := Lib.hid (HD.out.call hd hg)
    clear hd hg HD
    rw [← HX.out]
    go_upto_if 10 with fail
    go_cut [] from 4 (fun wx => (∃ (c : CmdM) (a : Option Addr) (n cap : Nat), Dx B g w.heap.size gx w wx c a n cap ∧ c.ch.length ≤ 4))
    case first =>
      cases b4
      · go_wp2_with fail
        go_meet
        case rel => exact ⟨_, _, _, _, HD4.out, by omega⟩
      · go_wp2_with fail
        refine (dr_below B g 6 _ HD4.out.dr (by decide) (by decide)).mono ?_
        rintro e w7 ⟨⟨x6, rfl, x60, x61⟩, hd, hg⟩
        have HD := Lib.hid (HD4.out.call hd hg)
        clear hd hg HD4
        obtain ⟨m1, m2, m3, m4, m5⟩ := HD.out.sm
        have hqg : w7.heap.size ≠ g := by have := HD.out.b0.lt; have := HD.out.o1; omega
        have h6 : x6 = 0 ∨ x6 = 1 ∨ x6 = 2 ∨ x6 = 3 ∨ x6 = 4 ∨ x6 = 5 := by omega
        clear x60 x61
        rcases h6 with rfl | rfl | rfl | rfl | rfl | rfl
        · go_wp2_with fail
          refine (dr_pickI B g _ 4 [-1, 0, 8, 3] _ (HD.out.alloc _).dr rfl (by decide) (by decide) hqg (lit4 _ _ _ _ _ _ (fun j => .int .i64 (([-1, 0, 8, 3] : List Int).getD j 0)) rfl rfl rfl rfl)).mono ?_
          rintro e w8 ⟨⟨x, rfl⟩, hd, hg⟩
          have HE := Lib.hid ((HD.out.alloc _).call hd hg)
          clear hd hg
          have fz := HE.out.bx.frozen 0
          have cz := HE.out.bx.cell 0 _ rfl
          go_wp2_with fail
          go_meet
          case rel => exact ⟨_, _, _, _, HE.out.put (c' := { c with kind := x }) 0 (.int .i64 x) rfl rfl ⟨m1, m2, m3, m4, m5⟩, by show c.ch.length ≤ 4; omega⟩
        · go_wp2_with fail
          refine (dr_pickI B g _ 3 [0, 9, 10] _ (HD.out.alloc _).dr rfl (by decide) (by decide) hqg (lit3 _ _ _ _ _ (fun j => .int .i64 (([0, 9, 10] : List Int).getD j 0)) rfl rfl rfl)).mono ?_
          rintro e w8 ⟨⟨x, rfl⟩, hd, hg⟩
          have HE := Lib.hid ((HD.out.alloc _).call hd hg)
          clear hd hg
          have fz := HE.out.bx.frozen 1
          have cz := HE.out.bx.cell 1 _ rfl
          go_wp2_with fail
          go_meet
          case rel => exact ⟨_, _, _, _, HE.out.put (c' := { c with client := x }) 1 (.int .i64 x) rfl rfl ⟨m1, m2, m3, m4, m5⟩, by show c.ch.length ≤ 4; omega⟩
        · go_wp2_with fail
          refine (dr_pickI B g _ 3 [0, 1000, 1001] _ (HD.out.alloc _).dr rfl (by decide) (by decide) hqg (lit3 _ _ _ _ _ (fun j => .int .i64 (([0, 1000, 1001] : List Int).getD j 0)) rfl rfl rfl)).mono ?_
          rintro e w8 ⟨⟨x, rfl⟩, hd, hg⟩
          have HE := Lib.hid ((HD.out.alloc _).call hd hg)
          clear hd hg
          have fz := HE.out.bx.frozen 2
          have cz := HE.out.bx.cell 2 _ rfl
          go_wp2_with fail
          go_meet
          case rel => exact ⟨_, _, _, _, HE.out.put (c' := { c with no := x }) 2 (.int .i64 x) rfl rfl ⟨m1, m2, m3, m4, m5⟩, by show c.ch.length ≤ 4; omega⟩
        · go_wp2_with fail
          refine (dr_pickS B g _ 4 [⟨#[]⟩, ⟨#[65]⟩, ⟨#[97, 98, 99, 100, 101, 102, 103, 104]⟩, ⟨#[97, 98, 99, 100, 101, 102, 103, 104, 105]⟩] _ (HD.out.alloc _).dr rfl (by decide) (by decide) hqg (lit4 _ _ _ _ _ _ (fun j => .string (([⟨#[]⟩, ⟨#[65]⟩, ⟨#[97, 98, 99, 100, 101, 102, 103, 104]⟩, ⟨#[97, 98, 99, 100, 101, 102, 103, 104, 105]⟩] : List ByteArray).getD j ByteArray.empty)) rfl rfl rfl rfl) (fun j => sizes_le [⟨#[]⟩, ⟨#[65]⟩, ⟨#[97, 98, 99, 100, 101, 102, 103, 104]⟩, ⟨#[97, 98, 99, 100, 101, 102, 103, 104, 105]⟩] (by decide) j)).mono ?_
          rintro e w8 ⟨⟨x, rfl, ht⟩, hd, hg⟩
          have HE := Lib.hid ((HD.out.alloc _).call hd hg)
          clear hd hg
          have fz := HE.out.bx.frozen 3
          have cz := HE.out.bx.cell 3 _ rfl
          go_wp2_with fail
          go_meet
          case rel => exact ⟨_, _, _, _, HE.out.put (c' := { c with set := x }) 3 (.string x) rfl rfl ⟨ht, m2, m3, m4, m5⟩, by show c.ch.length ≤ 4; omega⟩
        · go_wp2_with fail
          refine (dr_pickI B g _ 3 [-1, 9, 10] _ (HD.out.alloc _).dr rfl (by decide) (by decide) hqg (lit3 _ _ _ _ _ (fun j => .int .i64 (([-1, 9, 10] : List Int).getD j 0)) rfl rfl rfl)).mono ?_
          rintro e w8 ⟨⟨x, rfl⟩, hd, hg⟩
          have HE := Lib.hid ((HD.out.alloc _).call hd hg)
          clear hd hg
          have fz := HE.out.bx.frozen 6
          have cz := HE.out.bx.cell 6 _ rfl
          go_wp2_with fail
          go_meet
          case rel => exact ⟨_, _, _, _, HE.out.put (c' := { c with n := x }) 6 (.int .i64 x) rfl rfl ⟨m1, m2, m3, m4, m5⟩, by show c.ch.length ≤ 4; omega⟩
        · have c7 := HD.out.bx.cell 7 _ rfl
          have hl7 : c.ch.length ≤ 7 := by omega
          have hl1 : c.ch.length ≤ 1000 := by omega
          go_wp2_with fail
          go_region_law (first
            | (refine step_append_str rfl (.tmp 14) (.tmp 17) rfl (w.heap.size + 1) (.slice a n cap) c.ch t9 (by simp [Act.eval]) (H6.out.alloc _).gr w8.heap.size 1 (by simp [Act.eval]) (by simp) hl1 (by have := H6.out.b0.lt; simp; omega) ?_; intro v' w9 hv' hg'; obtain ⟨va', vn', vc', rfl⟩ := hv'.form; have H8 := Lib.hid ((H6.out.alloc _).push _ hg' hv' ht hl7); have bx8 := (H6.out.alloc (.cells #[.string t9] 9)).bx.keep hg' (fun e => box_ne (H6.out.alloc (.cells #[.string t9] 9)).bx (H6.out.alloc (.cells #[.string t9] 9)).gr e.symm); have f78 := bx8.frozen 7; have c78 := bx8.cell 7 _ rfl)
            | (go_simp; go_at_call 53; refine (dr_text B g _ HD.out.drew.dr).mono ?_; rintro e w8 ⟨⟨t9, rfl, ht⟩, hd, hg⟩; have H6 := Lib.hid (HD.out.drew.call hd hg); have c76 := H6.out.bx.cell 7 _ rfl; have c76b := fun o => (H6.out.alloc o).bx.cell 7 _ rfl; clear hd hg))
          all_goals
            go_wp2
            go_meet
            case rel => exact ⟨_, _, _, _, H8.out, by simp; omega⟩
    clear HD4 hl3
    obtain ⟨c, a, n, cap, hD, hl4⟩ := hcut
    have HD := Lib.hid hD
    clear hD
    obtain ⟨d0, d1, d2, d3, d4, d5, d6, d7⟩ := HD.out.bx.cells8
    have g0 := HD.out.b0.frozen 0
    have g1 := HD.out.b0.frozen 1
    have g2 := HD.out.b0.frozen 2
    have g3 := HD.out.b0.frozen 3
    have g4 := HD.out.b0.frozen 4
    have g5 := HD.out.b0.frozen 5
    have g6 := HD.out.b0.frozen 6
    have g7 := HD.out.b0.frozen 7
    obtain ⟨z0, z1, z2, z3, z4, z5, z6, z7⟩ := HD.out.b0.cells8
    have l0 := HD.out.b0.lt
    go_wp2
    obtain ⟨r1, r2, r3⟩ := HD.out.done (.int .i64 c.kind) (.int .i64 c.client) (.int .i64 c.no) (.string c.set) (.string c.name) (.string c.tag) (.int .i64 c.n) (.slice a n cap)
    exact bodyPost_ret (results_cmd Tryd.results27 _ _ w.heap.size _ _ _ _ _ _ _ _ rfl (HD.out.b0.set8cells _ _ _ _ _ _ _ _)) rfl ⟨⟨_, _, _, _, rfl, r1, HD.out.sm, hl4⟩, r2, r3⟩
end Go.Proofs.YtmdacoppkjclmaaDoor
