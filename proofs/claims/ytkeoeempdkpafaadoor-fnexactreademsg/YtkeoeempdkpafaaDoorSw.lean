/- A bundle of texts: In, VarS, TextS, ShowS, SwS. -/
import Derived.WalkKit
import Derived.Test.YtkeoeempdkpafaaDoorRows
import Derived.Test.YtkeoeempdkpafaaDoorBytes
import Derived.Test.YtkeoeempdkpafaaDoorVarT
import Derived.Laws.Concat
import Derived.Test.YtkeoeempdkpafaaDoorShowM
import Derived.Test.YtkeoeempdkpafaaDoorOkS
import Derived.Test.YtkeoeempdkpafaaDoorSwM
import Derived.Test.YtkeoeempdkpafaaDoorEm
import Derived.Test.YtkeoeempdkpafaaDoorWw
import Derived.Deep.Cut
/- The contract of the model's l1In. -/
namespace Go.Proofs.YtkeoeempdkpafaaDoor
open Go.RowKit
set_option linter.unusedVariables false

theorem in_yes (a b c : Int) (w : World) (h1 : b ≤ a) (h2 : a ≤ c) : Calls Tryd.prog 60 #[.int .i64 a, .int .i64 b, .int .i64 c] w fun e w' => e = .returned (.bool true) ∧ w = w' := by
  go_enter Tryd.func60, Tryd.ntmps60
  go_wp2
  go_ret
  exact ⟨rfl, rfl⟩
theorem in_no (a b c : Int) (w : World) (h : a < b ∨ c < a) : Calls Tryd.prog 60 #[.int .i64 a, .int .i64 b, .int .i64 c] w fun e w' => e = .returned (.bool false) ∧ w = w' := by
  by_cases h1 : b ≤ a
  · have h2 : decide (a ≤ c) = false := by simp; omega
    clear h
    go_enter Tryd.func60, Tryd.ntmps60
    go_wp2
    go_ret
    exact ⟨rfl, rfl⟩
  · clear h
    go_enter Tryd.func60, Tryd.ntmps60
    go_wp2
    go_ret
    exact ⟨rfl, rfl⟩
end Go.Proofs.YtkeoeempdkpafaaDoor
/- The walks of the model's Var, for every number. -/
namespace Go.Proofs.YtkeoeempdkpafaaDoor
open Go.RowKit Go.PlainAid
set_option linter.unusedVariables false


set_option maxHeartbeats 400000 in
theorem spec_var (n : Int) (k : Nat) (w : World) (h0 : 0 ≤ n) (hm : n ≤ 562949953421311) (hk : k ≤ 6) (hv : VK n k) :
    Calls Tryd.prog 31 #[.int .i64 n] w fun e w' => e = .returned (.string (strOfNums (varL n k))) ∧ Below w.heap.size w w' := by
  go_enter Tryd.func31, Tryd.ntmps31
  go_wp2_with (go_at_call 60; refine (in_yes _ _ _ _ h0 hm).mono ?_; rintro e w' ⟨rfl, rfl⟩)
  go_loopw [0, 3] (fun a v wr => ∃ j : Nat, j ≤ k ∧ a = .int .i64 (vd n j) ∧ Grows wr w.heap.size v (vpre n j) ∧ Below w.heap.size w wr) (fun a _ _ => (intOf a).toNat)
  case atStart => exact ⟨0, by omega, rfl, grows_empty w, (Below.refl _ _).alloc (Nat.le_refl _) _⟩
  case round =>
    obtain ⟨j, hj, rfl, hgr, hbw⟩ := hrel
    have d0 := vd_nonneg n h0 j
    have d1 := vd_le n h0 j
    have hl : (vpre n j).length ≤ 6 := by rw [vpre_length]; omega
    by_cases hlt : j < k
    · have hge : 128 ≤ vd n j := hv.1 j hlt
      go_wp2_with (at_builtin; refine wp_append_bytes rfl (.tmp 10) (.tmp 15) rfl w.heap.size _ (vpre n j) [_] rfl (hgr.alloc _) wr.heap.size 1 1 rfl rfl (src_one wr _) (by omega) (by have := hbw.size; simp; omega) ?_; intro v' w' hgr' hb')
      go_roundw
      case rel => exact ⟨j + 1, by omega, rfl, hgr', (hbw.alloc hbw.size _).trans hb'⟩
      case measure => simp only [intOf]; omega
    · obtain rfl : j = k := by omega
      have hge : vd n j < 128 := hv.2
      go_wp2_with (at_builtin; refine wp_append_bytes rfl (.tmp 19) (.tmp 22) rfl w.heap.size _ (vpre n j) [_] rfl (hgr.alloc _) wr.heap.size 1 1 rfl rfl (src_one wr _) (by omega) (by have := hbw.size; simp; omega) ?_; intro v' w' hgr' hb'; have hconv := conv_grows w' w.heap.size v' _ hgr')
      go_ret
      exact ⟨rfl, (hbw.alloc hbw.size _).trans hb'⟩

set_option maxHeartbeats 400000 in
theorem spec_var_no (n : Int) (w : World) (h : n < 0 ∨ 562949953421311 < n) :
    Calls Tryd.prog 31 #[.int .i64 n] w fun e w' => e = .returned (.string ByteArray.empty) ∧ w = w' := by
  go_enter Tryd.func31, Tryd.ntmps31
  go_wp2_with (go_at_call 60; refine (in_no _ _ _ _ h).mono ?_; rintro e w' ⟨rfl, rfl⟩)
  go_ret
  exact ⟨rfl, rfl⟩
end Go.Proofs.YtkeoeempdkpafaaDoor
/- The model's Var and l4Piece, by one contract each. -/
namespace Go.Proofs.YtkeoeempdkpafaaDoor
open Go.RowKit Go.PlainAid
set_option linter.unusedVariables false

theorem spec_varS (n : Int) (w : World) (h0 : 0 ≤ n) (hm : n ≤ 562949953421311) : Calls Tryd.prog 31 #[.int .i64 n] w fun e w' => e = .returned (.string (varS n)) ∧ Below w.heap.size w w' := by
  unfold varS
  exact spec_var n _ w h0 hm (vkF_le 6 n) (varS_vk n hm)
set_option maxHeartbeats 400000 in
theorem show_piece (s : ByteArray) (w : World) (hs : s.size ≤ 1048576) : Calls Tryd.prog 32 #[.string s] w fun e w' => e = .returned (.string (showT s)) ∧ Below w.heap.size w w' := by
  have h7 := varS_size s.size
  have a1 := fun W => run_string_add_sum (P := Tryd.prog) (w := W) (varS s.size) s (by omega)
  have HT := Lib.hid (show varS s.size ++ s = showT s by unfold showT; rfl)
  go_enter Tryd.func32, Tryd.ntmps32
  go_wp2_with (go_at_call 31; refine (spec_varS _ _ (by omega) (by omega)).mono ?_; rintro e w' ⟨rfl, hb⟩)
  go_ret
  exact ⟨by rw [← HT.out]; rfl, hb⟩
end Go.Proofs.YtkeoeempdkpafaaDoor
/- The encoding of a command: the model's walks. -/
namespace Go.Proofs.YtkeoeempdkpafaaDoor
open Go.RowKit Go.PlainAid
set_option linter.unusedVariables false

set_option maxRecDepth 100000 in
set_option maxHeartbeats 4000000 in
theorem spec_show (c : CmdM) (v : Value) (w : World) (hv : Strs w v c.ch) (hs : c.set.size ≤ 9223372036854775807) (hn : c.name.size ≤ 9223372036854775807) (ht : c.tag.size ≤ 9223372036854775807) :
    Calls Tryd.prog 33 #[.agg #[.int .i64 c.kind, .int .i64 c.client, .int .i64 c.no, .string c.set, .string c.name, .string c.tag, .int .i64 c.n, v]] w fun e w' => e = .returned (.string (showS c)) ∧ Below w.heap.size w w' := by
  have HV := Lib.hid hv
  skip
  clear hv
  go_enter Tryd.func33, Tryd.ntmps33
  go_wp2_with fail
  refine (spec_ok c v _ (HV.out.alloc _) hs hn ht).mono ?_
  rintro e w0 ⟨rfl, hb⟩
  have HA := Lib.hid ((Has.new w 33 c v _ rfl HV.out).after hb)
  have HW := Lib.hid (((Aft.refl w).alloc _).after hb)
  clear hb HV
  cases o1 : okB c
  · have HF := Lib.hid (show showS c = ⟨#[]⟩ by unfold showS; simp [o1])
    go_wp2
    go_ret
    exact ⟨by rw [HF.out]; rfl, HW.out⟩
  have HF := Lib.hid (show showS c = showB c by unfold showS; simp [o1])
  obtain ⟨⟨k0, k1⟩, ⟨c0, c1⟩, ⟨n0, n1⟩, ⟨m0, m1⟩, h5, h6, h7, h8, h9'⟩ := okB_fit c o1
  have h9 : ∀ j, j < c.ch.length → (el c.ch j).size ≤ 8 := fun j hj => Nat.le_of_eq (h9' j hj)
  clear hs hn ht
  obtain ⟨va, vn, vcap, rfl⟩ := HA.out.2.form
  have hvn : vn = c.ch.length := by
    obtain ⟨_, _, _, _, e, _⟩ := HA.out.2
    simp only [Value.slice.injEq] at e
    exact e.2.1
  subst hvn
  go_wp2_with fail
  have KA := Lib.hid HA.out.drew
  have KW := Lib.hid HW.out.drew
  clear HA HW
  have hcat : (catN c.ch c.ch.length).size ≤ 32 := by have := catN_size c.ch c.ch.length 8 h9; omega
  have z0 : (varS c.kind).size ≤ 7 := varS_size _
  have y1 : (varS c.client).size ≤ 7 := varS_size _
  have a1 := fun W => run_string_add_sum (P := Tryd.prog) (w := W) (varS c.kind) (varS c.client) (by omega)
  have z1 : (varS c.kind ++ varS c.client).size ≤ 14 := by rw [ByteArray.size_append]; omega
  have y2 : (varS c.no).size ≤ 7 := varS_size _
  have a2 := fun W => run_string_add_sum (P := Tryd.prog) (w := W) (varS c.kind ++ varS c.client) (varS c.no) (by omega)
  have z2 : (varS c.kind ++ varS c.client ++ varS c.no).size ≤ 21 := by rw [ByteArray.size_append]; omega
  have y3 : (varS c.n).size ≤ 7 := varS_size _
  have a3 := fun W => run_string_add_sum (P := Tryd.prog) (w := W) (varS c.kind ++ varS c.client ++ varS c.no) (varS c.n) (by omega)
  have z3 : (varS c.kind ++ varS c.client ++ varS c.no ++ varS c.n).size ≤ 28 := by rw [ByteArray.size_append]; omega
  have y4 : (showT c.set).size ≤ 15 := (by have := showT_size c.set; omega)
  have a4 := fun W => run_string_add_sum (P := Tryd.prog) (w := W) (varS c.kind ++ varS c.client ++ varS c.no ++ varS c.n) (showT c.set) (by omega)
  have z4 : (varS c.kind ++ varS c.client ++ varS c.no ++ varS c.n ++ showT c.set).size ≤ 43 := by rw [ByteArray.size_append]; omega
  have y5 : (showT c.name).size ≤ 15 := (by have := showT_size c.name; omega)
  have a5 := fun W => run_string_add_sum (P := Tryd.prog) (w := W) (varS c.kind ++ varS c.client ++ varS c.no ++ varS c.n ++ showT c.set) (showT c.name) (by omega)
  have z5 : (varS c.kind ++ varS c.client ++ varS c.no ++ varS c.n ++ showT c.set ++ showT c.name).size ≤ 58 := by rw [ByteArray.size_append]; omega
  have y6 : (showT c.tag).size ≤ 15 := (by have := showT_size c.tag; omega)
  have a6 := fun W => run_string_add_sum (P := Tryd.prog) (w := W) (varS c.kind ++ varS c.client ++ varS c.no ++ varS c.n ++ showT c.set ++ showT c.name) (showT c.tag) (by omega)
  have z6 : (varS c.kind ++ varS c.client ++ varS c.no ++ varS c.n ++ showT c.set ++ showT c.name ++ showT c.tag).size ≤ 73 := by rw [ByteArray.size_append]; omega
  have y7 : (varS c.ch.length).size ≤ 7 := varS_size _
  have a7 := fun W => run_string_add_sum (P := Tryd.prog) (w := W) (varS c.kind ++ varS c.client ++ varS c.no ++ varS c.n ++ showT c.set ++ showT c.name ++ showT c.tag) (varS c.ch.length) (by omega)
  have z7 : (varS c.kind ++ varS c.client ++ varS c.no ++ varS c.n ++ showT c.set ++ showT c.name ++ showT c.tag ++ varS c.ch.length).size ≤ 80 := by rw [ByteArray.size_append]; omega
  have HP := Lib.hid z7
  have H9 := Lib.hid h9
  clear h9 h9' hcat z0 z1 z2 z3 z4 z5 z6 z7 y1 y2 y3 y4 y5 y6 y7
  go_region_held3 (fun w' => w'.cell? ⟨w.heap.size, 0, none⟩ = some (.int .i64 c.kind) ∧ w'.cell? ⟨w.heap.size, 1, none⟩ = some (.int .i64 c.client) ∧ w'.cell? ⟨w.heap.size, 2, none⟩ = some (.int .i64 c.no) ∧ w'.cell? ⟨w.heap.size, 3, none⟩ = some (.string c.set) ∧ w'.cell? ⟨w.heap.size, 4, none⟩ = some (.string c.name) ∧ w'.cell? ⟨w.heap.size, 5, none⟩ = some (.string c.tag) ∧ w'.cell? ⟨w.heap.size, 6, none⟩ = some (.int .i64 c.n) ∧ w'.cell? ⟨w.heap.size, 7, none⟩ = some ((.slice va c.ch.length vcap)))
    (exact Has.cells KA.out)
    (first
      | (go_at_call 31; refine (spec_varS _ _ (by omega) (by omega)).mono ?_; rintro e w1 ⟨rfl, hb⟩; have NA := Lib.hid (KA.out.after hb); have NW := Lib.hid (KW.out.after hb); clear hb KA KW; rename Hid (Has w1 _ _ c _) => KA; rename Hid (Aft w w1) => KW)
      | (go_at_call 32; refine (show_piece _ _ (by omega)).mono ?_; rintro e w1 ⟨rfl, hb⟩; have NA := Lib.hid (KA.out.after hb); have NW := Lib.hid (KW.out.after hb); clear hb KA KW; rename Hid (Has w1 _ _ c _) => KA; rename Hid (Aft w w1) => KW))
  have HB := Lib.hid (show varS c.kind ++ varS c.client ++ varS c.no ++ varS c.n ++ showT c.set ++ showT c.name ++ showT c.tag ++ varS c.ch.length ++ catN c.ch c.ch.length = showB c by unfold showB; rfl)
  clear a1 a2 a3 a4 a5 a6 a7
  generalize varS c.kind ++ varS c.client ++ varS c.no ++ varS c.n ++ showT c.set ++ showT c.name ++ showT c.tag ++ varS c.ch.length = P at HB HP ⊢
  have HAT := Lib.hid KA.out.2.at_
  obtain ⟨b0, b1, b2, b3, b4, b5, b6, b7⟩ := KA.out.cells
  clear b0 b1 b2 b3 b4 b5 b6
  go_wp2
  go_loop [3, 4] (fun s i => ∃ k : Nat, k ≤ c.ch.length ∧ i = .int .i64 k ∧ s = .string (P ++ catN c.ch k)) (fun _ i => c.ch.length - (intOf i).toNat)
  case atStart => exact ⟨0, by omega, rfl, by rw [catN_zero, append_nil]⟩
  case round =>
    obtain ⟨k, hk, rfl, rfl⟩ := hrel
    by_cases hlt : k < c.ch.length
    · obtain ⟨xa, xcap, xe, _, xat⟩ := HAT.out
      simp only [Value.slice.injEq] at xe
      obtain ⟨rfl, _, rfl⟩ := xe
      obtain ⟨x, o, rfl, hx, hcx⟩ := xat (by omega)
      have cx := hcx k hlt
      clear hcx
      have q1 := HP.out
      have q2 : (P ++ catN c.ch k).size ≤ 1000 := by
        have := catN_size c.ch k 8 (fun j hj => H9.out j (by omega))
        rw [ByteArray.size_append]; omega
      have q3 := H9.out k hlt
      have a1 := fun W => run_string_add_sum (P := Tryd.prog) (w := W) (P ++ catN c.ch k) (el c.ch k) (by omega)
      clear q1 q2 q3
      go_wp2
      go_round
      case rel => exact ⟨k + 1, by omega, by go_num, by rw [catN_succ, append_assoc]⟩
      case measure => simp only [intOf]; omega
    · obtain rfl : k = c.ch.length := by omega
      go_wp2
      go_ret
      exact ⟨by rw [HF.out, ← HB.out]; rfl, KW.out⟩
end Go.Proofs.YtkeoeempdkpafaaDoor
/- The encoding of a message: the model. -/
namespace Go.Proofs.YtkeoeempdkpafaaDoor
open Go.RowKit Go.PlainAid
set_option linter.unusedVariables false

attribute [local go_sem] blkO_eq aggO_eq
attribute [local go_sem ↓] load_emsg_pre
theorem app_nilS (S : ByteArray) : S ++ (⟨#[]⟩ : ByteArray) = S := ByteArray.ext (by simp)
set_option maxRecDepth 100000 in
set_option maxHeartbeats 16000000 in
theorem spec_showE (x : Em) (u d : Value) (w : World) (h : Pts w x.i u d) (hdl : x.i.deps.length ≤ 1048576) :
    Calls Tryd.prog 8 #[.agg #[.int .i64 x.kind, .int .i64 x.frm, .int .i64 x.dst, .int .i64 x.i.rep, .int .i64 x.i.slot, .int .i64 x.i.bal, .int .i64 x.i.cmd.kind, .int .i64 x.i.cmd.client, .int .i64 x.i.cmd.no, .string x.i.cmd.set, .string x.i.cmd.name, .string x.i.cmd.tag, .int .i64 x.i.cmd.n, u, .int .i64 x.i.seq, d, .int .i64 x.i.st, .int .i64 x.i.vbal, .bool x.i.same]] w fun e w' => e = .returned (.string (showE x)) ∧ Below w.heap.size w w' := by
  obtain ⟨⟨a1, n1, c1, rfl⟩, _⟩ := h.form
  obtain ⟨h1, ad, cd, rfl, hca, ha⟩ := h.2.1
  have P0 := Lib.hid h
  obtain ⟨n2, hln⟩ : ∃ n2, x.i.deps.length = n2 := ⟨_, rfl⟩
  rw [hln] at ha hdl hca P0 ⊢
  have HA := Lib.hid ha
  have HN := Lib.hid hln
  have X0 := Lib.hid (Bx.new w 36 #[.int .i64 x.kind, .int .i64 x.frm, .int .i64 x.dst, .int .i64 x.i.rep, .int .i64 x.i.slot, .int .i64 x.i.bal, .int .i64 x.i.cmd.kind, .int .i64 x.i.cmd.client, .int .i64 x.i.cmd.no, .string x.i.cmd.set, .string x.i.cmd.name, .string x.i.cmd.tag, .int .i64 x.i.cmd.n, .slice a1 n1 c1, .int .i64 x.i.seq, .slice ad n2 cd, .int .i64 x.i.st, .int .i64 x.i.vbal, .bool x.i.same] _ rfl)
  have A0 := Lib.hid ((Af.refl w).alloc (.cells #[.int .i64 x.kind, .int .i64 x.frm, .int .i64 x.dst, .int .i64 x.i.rep, .int .i64 x.i.slot, .int .i64 x.i.bal, .int .i64 x.i.cmd.kind, .int .i64 x.i.cmd.client, .int .i64 x.i.cmd.no, .string x.i.cmd.set, .string x.i.cmd.name, .string x.i.cmd.tag, .int .i64 x.i.cmd.n, .slice a1 n1 c1, .int .i64 x.i.seq, .slice ad n2 cd, .int .i64 x.i.st, .int .i64 x.i.vbal, .bool x.i.same] 36))
  clear h ha h1 hca hln
  go_enter Tryd.func8, Tryd.ntmps8
  obtain ⟨rX1, rX2⟩ := X0.out.row rfl
  go_wp2_with fail
  clear rX1 rX2
  refine (spec_emsg x _ _ _ (P0.out.later A0.out)).mono ?_
  rintro e w1 ⟨rfl, bb⟩
  have X := Lib.hid (X0.out.after bb)
  have A := Lib.hid (A0.out.after bb)
  clear bb X0 A0
  cases hb : emB x
  · have HF := Lib.hid (showE_no hb)
    clear X
    go_wp2
    go_ret
    exact ⟨by rw [HF.out]; rfl, A.out⟩
  have HF := Lib.hid (showE_yes hb)
  have HE := Lib.hid (emB_fit hb)
  clear hb
  obtain ⟨x0, x1, x2, x3, x4, x5, x6, x7, x8, x9, x10, x11, x12, x13, x14, x15, x16, x17, x18⟩ := X.out.c19
  clear x0 x1 x2 x3 x4 x5 x6 x7 x8 x9 x10 x11 x12 x13 x14 x15 x16 x17
  go_upto_if 10 with fail
  clear x18
  go_cut [0, 3, 6, 10] from 11 (fun _ sv _ _ wx => sv = .string (flagS x.i.same) ∧ wx = w1)
  case first =>
    cases hsm : x.i.same
    · go_wp2
      go_meet
      case rel => exact ⟨by rw [hsm, flagS_f], rfl⟩
    · go_wp2
      go_meet
      case rel => exact ⟨by rw [hsm, flagS_t], rfl⟩
  case rest =>
    obtain ⟨rfl, rfl⟩ := hcut
    obtain ⟨fb, hfb⟩ : ∃ fb, flagS x.i.same = fb := ⟨_, rfl⟩
    have hf1 : fb.size = 1 := by rw [← hfb]; exact flagS_size _
    have HFB := Lib.hid hfb
    rw [hfb]
    have hwv : IntKind.i64.wrap (x.i.vbal + 1) = x.i.vbal + 1 := IntWalk.i64_in _ (by have := HE.out; omega)
    have X := Lib.hid X.out.drew
    have A := Lib.hid A.out.drew
    clear hfb
    have q1 := fun W => run_string_add_sum (P := Tryd.prog) (w := W) (varS x.kind) (varS x.frm) (by (try simp only [ByteArray.size_append]); have := varS_size x.kind; have := varS_size x.frm; omega)
    have q2 := fun W => run_string_add_sum (P := Tryd.prog) (w := W) (varS x.kind ++ varS x.frm) (varS x.dst) (by (try simp only [ByteArray.size_append]); have := varS_size x.kind; have := varS_size x.frm; have := varS_size x.dst; omega)
    have q3 := fun W => run_string_add_sum (P := Tryd.prog) (w := W) (varS x.kind ++ varS x.frm ++ varS x.dst) (varS x.i.rep) (by (try simp only [ByteArray.size_append]); have := varS_size x.kind; have := varS_size x.frm; have := varS_size x.dst; have := varS_size x.i.rep; omega)
    have q4 := fun W => run_string_add_sum (P := Tryd.prog) (w := W) (varS x.kind ++ varS x.frm ++ varS x.dst ++ varS x.i.rep) (varS x.i.slot) (by (try simp only [ByteArray.size_append]); have := varS_size x.kind; have := varS_size x.frm; have := varS_size x.dst; have := varS_size x.i.rep; have := varS_size x.i.slot; omega)
    have q5 := fun W => run_string_add_sum (P := Tryd.prog) (w := W) (varS x.kind ++ varS x.frm ++ varS x.dst ++ varS x.i.rep ++ varS x.i.slot) (varS x.i.bal) (by (try simp only [ByteArray.size_append]); have := varS_size x.kind; have := varS_size x.frm; have := varS_size x.dst; have := varS_size x.i.rep; have := varS_size x.i.slot; have := varS_size x.i.bal; omega)
    have q6 := fun W => run_string_add_sum (P := Tryd.prog) (w := W) (varS x.kind ++ varS x.frm ++ varS x.dst ++ varS x.i.rep ++ varS x.i.slot ++ varS x.i.bal) (varS x.i.st) (by (try simp only [ByteArray.size_append]); have := varS_size x.kind; have := varS_size x.frm; have := varS_size x.dst; have := varS_size x.i.rep; have := varS_size x.i.slot; have := varS_size x.i.bal; have := varS_size x.i.st; omega)
    have q7 := fun W => run_string_add_sum (P := Tryd.prog) (w := W) (varS x.kind ++ varS x.frm ++ varS x.dst ++ varS x.i.rep ++ varS x.i.slot ++ varS x.i.bal ++ varS x.i.st) (varS (x.i.vbal + 1)) (by (try simp only [ByteArray.size_append]); have := varS_size x.kind; have := varS_size x.frm; have := varS_size x.dst; have := varS_size x.i.rep; have := varS_size x.i.slot; have := varS_size x.i.bal; have := varS_size x.i.st; have := varS_size (x.i.vbal + 1); omega)
    have q8 := fun W => run_string_add_sum (P := Tryd.prog) (w := W) (varS x.kind ++ varS x.frm ++ varS x.dst ++ varS x.i.rep ++ varS x.i.slot ++ varS x.i.bal ++ varS x.i.st ++ varS (x.i.vbal + 1)) (varS x.i.seq) (by (try simp only [ByteArray.size_append]); have := varS_size x.kind; have := varS_size x.frm; have := varS_size x.dst; have := varS_size x.i.rep; have := varS_size x.i.slot; have := varS_size x.i.bal; have := varS_size x.i.st; have := varS_size (x.i.vbal + 1); have := varS_size x.i.seq; omega)
    have q9 := fun W => run_string_add_sum (P := Tryd.prog) (w := W) (varS x.kind ++ varS x.frm ++ varS x.dst ++ varS x.i.rep ++ varS x.i.slot ++ varS x.i.bal ++ varS x.i.st ++ varS (x.i.vbal + 1) ++ varS x.i.seq) (fb) (by (try simp only [ByteArray.size_append]); have := varS_size x.kind; have := varS_size x.frm; have := varS_size x.dst; have := varS_size x.i.rep; have := varS_size x.i.slot; have := varS_size x.i.bal; have := varS_size x.i.st; have := varS_size (x.i.vbal + 1); have := varS_size x.i.seq; skip; omega)
    have q10 := fun W => run_string_add_sum (P := Tryd.prog) (w := W) (varS x.kind ++ varS x.frm ++ varS x.dst ++ varS x.i.rep ++ varS x.i.slot ++ varS x.i.bal ++ varS x.i.st ++ varS (x.i.vbal + 1) ++ varS x.i.seq ++ fb) (showT (showS x.i.cmd)) (by (try simp only [ByteArray.size_append]); have := varS_size x.kind; have := varS_size x.frm; have := varS_size x.dst; have := varS_size x.i.rep; have := varS_size x.i.slot; have := varS_size x.i.bal; have := varS_size x.i.st; have := varS_size (x.i.vbal + 1); have := varS_size x.i.seq; skip; have := showT_size (showS x.i.cmd); have := showS_size x.i.cmd; omega)
    have q11 := fun W => run_string_add_sum (P := Tryd.prog) (w := W) (varS x.kind ++ varS x.frm ++ varS x.dst ++ varS x.i.rep ++ varS x.i.slot ++ varS x.i.bal ++ varS x.i.st ++ varS (x.i.vbal + 1) ++ varS x.i.seq ++ fb ++ showT (showS x.i.cmd)) (varS n2) (by (try simp only [ByteArray.size_append]); have := varS_size x.kind; have := varS_size x.frm; have := varS_size x.dst; have := varS_size x.i.rep; have := varS_size x.i.slot; have := varS_size x.i.bal; have := varS_size x.i.st; have := varS_size (x.i.vbal + 1); have := varS_size x.i.seq; skip; have := showT_size (showS x.i.cmd); have := showS_size x.i.cmd; have := varS_size n2; omega)
    go_wp2_with fail
    refine wp_region_noPanic ?_
    refine wp_region_mix (S := fun w' => w'.cell? ⟨w.heap.size, 0, none⟩ = some (.int .i64 x.kind) ∧ w'.cell? ⟨w.heap.size, 1, none⟩ = some (.int .i64 x.frm) ∧ w'.cell? ⟨w.heap.size, 2, none⟩ = some (.int .i64 x.dst) ∧ w'.cell? ⟨w.heap.size, 3, none⟩ = some (.int .i64 x.i.rep) ∧ w'.cell? ⟨w.heap.size, 4, none⟩ = some (.int .i64 x.i.slot) ∧ w'.cell? ⟨w.heap.size, 5, none⟩ = some (.int .i64 x.i.bal) ∧ w'.cell? ⟨w.heap.size, 6, none⟩ = some (.int .i64 x.i.cmd.kind) ∧ w'.cell? ⟨w.heap.size, 7, none⟩ = some (.int .i64 x.i.cmd.client) ∧ w'.cell? ⟨w.heap.size, 8, none⟩ = some (.int .i64 x.i.cmd.no) ∧ w'.cell? ⟨w.heap.size, 9, none⟩ = some (.string x.i.cmd.set) ∧ w'.cell? ⟨w.heap.size, 10, none⟩ = some (.string x.i.cmd.name) ∧ w'.cell? ⟨w.heap.size, 11, none⟩ = some (.string x.i.cmd.tag) ∧ w'.cell? ⟨w.heap.size, 12, none⟩ = some (.int .i64 x.i.cmd.n) ∧ w'.cell? ⟨w.heap.size, 13, none⟩ = some (.slice a1 n1 c1) ∧ w'.cell? ⟨w.heap.size, 14, none⟩ = some (.int .i64 x.i.seq) ∧ w'.cell? ⟨w.heap.size, 15, none⟩ = some (.slice ad n2 cd) ∧ w'.cell? ⟨w.heap.size, 16, none⟩ = some (.int .i64 x.i.st) ∧ w'.cell? ⟨w.heap.size, 17, none⟩ = some (.int .i64 x.i.vbal) ∧ w'.cell? ⟨w.heap.size, 18, none⟩ = some (.bool x.i.same)) [(true, 0), (true, 1), (true, 3), (true, 4), (true, 7), (true, 8), (true, 11), (true, 12), (true, 13), (true, 16), (true, 17), (true, 18), (true, 21), (true, 22), (true, 25), (true, 26), (true, 29), (true, 30), (true, 31), (true, 34), (true, 35), (true, 38), (true, 40), (true, 41), (true, 45), (true, 46), (true, 47), (false, 2), (false, 5), (true, 6), (false, 9), (true, 10), (false, 14), (true, 15), (false, 19), (true, 20), (false, 23), (true, 24), (false, 27), (true, 28), (false, 32), (true, 33), (false, 36), (true, 37), (true, 39), (false, 42), (false, 43), (true, 44), (false, 48), (true, 49), (false, 50)] (by kernel_rfl) (by kernel_rfl) (by kernel_rfl) (by kernel_rfl) (fun _ _ _ _ _ h => h) X.out.c19 ?_
    iterate 27 (refine wpMix_take (v := ?_) rfl rfl ?_ ?_; rotate_left; (intro w' hS'; (try dsimp only at hS'); go_simp; (try with_reducible rfl)); simp only [List.getElem_toArray, List.getElem_cons_succ, List.getElem_cons_zero, Act.put, List.setIfInBounds_toArray, List.set_cons_zero, List.set_cons_succ])
    refine wpMix_step rfl ?_
    go_wp2_with fail
    refine (spec_varS _ _ (by have := HE.out; omega) (by have := HE.out; omega)).mono ?_
    rintro e w2 ⟨rfl, bb⟩
    have nX := Lib.hid (X.out.after bb); have nA := Lib.hid (A.out.after bb); clear bb X A; have X := nX; have A := nA; clear nX nA
    go_wp2
    refine ⟨X.out.c19, ?_⟩
    refine wpMix_step rfl ?_
    go_wp2_with fail
    refine (spec_varS _ _ (by have := HE.out; omega) (by have := HE.out; omega)).mono ?_
    rintro e w3 ⟨rfl, bb⟩
    have nX := Lib.hid (X.out.after bb); have nA := Lib.hid (A.out.after bb); clear bb X A; have X := nX; have A := nA; clear nX nA
    go_wp2
    refine ⟨X.out.c19, ?_⟩
    (refine wpMix_take (v := ?_) rfl rfl ?_ ?_; rotate_left; (intro w' hS'; (try dsimp only at hS'); go_simp; (try with_reducible rfl)); simp only [List.getElem_toArray, List.getElem_cons_succ, List.getElem_cons_zero, Act.put, List.setIfInBounds_toArray, List.set_cons_zero, List.set_cons_succ])
    refine wpMix_step rfl ?_
    go_wp2_with fail
    refine (spec_varS _ _ (by have := HE.out; omega) (by have := HE.out; omega)).mono ?_
    rintro e w4 ⟨rfl, bb⟩
    have nX := Lib.hid (X.out.after bb); have nA := Lib.hid (A.out.after bb); clear bb X A; have X := nX; have A := nA; clear nX nA
    go_wp2
    refine ⟨X.out.c19, ?_⟩
    (refine wpMix_take (v := ?_) rfl rfl ?_ ?_; rotate_left; (intro w' hS'; (try dsimp only at hS'); go_simp; (try with_reducible rfl)); simp only [List.getElem_toArray, List.getElem_cons_succ, List.getElem_cons_zero, Act.put, List.setIfInBounds_toArray, List.set_cons_zero, List.set_cons_succ])
    refine wpMix_step rfl ?_
    go_wp2_with fail
    refine (spec_varS _ _ (by have := HE.out; omega) (by have := HE.out; omega)).mono ?_
    rintro e w5 ⟨rfl, bb⟩
    have nX := Lib.hid (X.out.after bb); have nA := Lib.hid (A.out.after bb); clear bb X A; have X := nX; have A := nA; clear nX nA
    go_wp2
    refine ⟨X.out.c19, ?_⟩
    (refine wpMix_take (v := ?_) rfl rfl ?_ ?_; rotate_left; (intro w' hS'; (try dsimp only at hS'); go_simp; (try with_reducible rfl)); simp only [List.getElem_toArray, List.getElem_cons_succ, List.getElem_cons_zero, Act.put, List.setIfInBounds_toArray, List.set_cons_zero, List.set_cons_succ])
    refine wpMix_step rfl ?_
    go_wp2_with fail
    refine (spec_varS _ _ (by have := HE.out; omega) (by have := HE.out; omega)).mono ?_
    rintro e w6 ⟨rfl, bb⟩
    have nX := Lib.hid (X.out.after bb); have nA := Lib.hid (A.out.after bb); clear bb X A; have X := nX; have A := nA; clear nX nA
    go_wp2
    refine ⟨X.out.c19, ?_⟩
    (refine wpMix_take (v := ?_) rfl rfl ?_ ?_; rotate_left; (intro w' hS'; (try dsimp only at hS'); go_simp; (try with_reducible rfl)); simp only [List.getElem_toArray, List.getElem_cons_succ, List.getElem_cons_zero, Act.put, List.setIfInBounds_toArray, List.set_cons_zero, List.set_cons_succ])
    refine wpMix_step rfl ?_
    go_wp2_with fail
    refine (spec_varS _ _ (by have := HE.out; omega) (by have := HE.out; omega)).mono ?_
    rintro e w7 ⟨rfl, bb⟩
    have nX := Lib.hid (X.out.after bb); have nA := Lib.hid (A.out.after bb); clear bb X A; have X := nX; have A := nA; clear nX nA
    go_wp2
    refine ⟨X.out.c19, ?_⟩
    (refine wpMix_take (v := ?_) rfl rfl ?_ ?_; rotate_left; (intro w' hS'; (try dsimp only at hS'); go_simp; (try with_reducible rfl)); simp only [List.getElem_toArray, List.getElem_cons_succ, List.getElem_cons_zero, Act.put, List.setIfInBounds_toArray, List.set_cons_zero, List.set_cons_succ])
    refine wpMix_step rfl ?_
    go_wp2_with fail
    refine (spec_varS _ _ (by have := HE.out; omega) (by have := HE.out; omega)).mono ?_
    rintro e w8 ⟨rfl, bb⟩
    have nX := Lib.hid (X.out.after bb); have nA := Lib.hid (A.out.after bb); clear bb X A; have X := nX; have A := nA; clear nX nA
    go_wp2
    refine ⟨X.out.c19, ?_⟩
    (refine wpMix_take (v := ?_) rfl rfl ?_ ?_; rotate_left; (intro w' hS'; (try dsimp only at hS'); go_simp; (try with_reducible rfl)); simp only [List.getElem_toArray, List.getElem_cons_succ, List.getElem_cons_zero, Act.put, List.setIfInBounds_toArray, List.set_cons_zero, List.set_cons_succ])
    refine wpMix_step rfl ?_
    go_wp2_with fail
    refine (spec_varS _ _ (by have := HE.out; omega) (by have := HE.out; omega)).mono ?_
    rintro e w9 ⟨rfl, bb⟩
    have nX := Lib.hid (X.out.after bb); have nA := Lib.hid (A.out.after bb); clear bb X A; have X := nX; have A := nA; clear nX nA
    go_wp2
    refine ⟨X.out.c19, ?_⟩
    (refine wpMix_take (v := ?_) rfl rfl ?_ ?_; rotate_left; (intro w' hS'; (try dsimp only at hS'); go_simp; (try with_reducible rfl)); simp only [List.getElem_toArray, List.getElem_cons_succ, List.getElem_cons_zero, Act.put, List.setIfInBounds_toArray, List.set_cons_zero, List.set_cons_succ])
    refine wpMix_step rfl ?_
    go_wp2_with fail
    refine (spec_varS _ _ (by have := HE.out; omega) (by have := HE.out; omega)).mono ?_
    rintro e w10 ⟨rfl, bb⟩
    have nX := Lib.hid (X.out.after bb); have nA := Lib.hid (A.out.after bb); clear bb X A; have X := nX; have A := nA; clear nX nA
    go_wp2
    refine ⟨X.out.c19, ?_⟩
    (refine wpMix_take (v := ?_) rfl rfl ?_ ?_; rotate_left; (intro w' hS'; (try dsimp only at hS'); go_simp; (try with_reducible rfl)); simp only [List.getElem_toArray, List.getElem_cons_succ, List.getElem_cons_zero, Act.put, List.setIfInBounds_toArray, List.set_cons_zero, List.set_cons_succ])
    (refine wpMix_take (v := ?_) rfl rfl ?_ ?_; rotate_left; (intro w' hS'; (try dsimp only at hS'); go_simp; (try with_reducible rfl)); simp only [List.getElem_toArray, List.getElem_cons_succ, List.getElem_cons_zero, Act.put, List.setIfInBounds_toArray, List.set_cons_zero, List.set_cons_succ])
    refine wpMix_step rfl ?_
    go_wp2_with fail
    refine (spec_show x.i.cmd _ _ (P0.out.later A.out).1 P0.out.2.2.1 P0.out.2.2.2.1 P0.out.2.2.2.2).mono ?_
    rintro e w11 ⟨rfl, bb⟩
    have nX := Lib.hid (X.out.after bb); have nA := Lib.hid (A.out.after bb); clear bb X A; have X := nX; have A := nA; clear nX nA
    go_wp2
    refine ⟨X.out.c19, ?_⟩
    refine wpMix_step rfl ?_
    go_wp2_with fail
    refine (show_piece _ _ (by have := showS_size x.i.cmd; omega)).mono ?_
    rintro e w12 ⟨rfl, bb⟩
    have nX := Lib.hid (X.out.after bb); have nA := Lib.hid (A.out.after bb); clear bb X A; have X := nX; have A := nA; clear nX nA
    go_wp2
    refine ⟨X.out.c19, ?_⟩
    (refine wpMix_take (v := ?_) rfl rfl ?_ ?_; rotate_left; (intro w' hS'; (try dsimp only at hS'); go_simp; (try with_reducible rfl)); simp only [List.getElem_toArray, List.getElem_cons_succ, List.getElem_cons_zero, Act.put, List.setIfInBounds_toArray, List.set_cons_zero, List.set_cons_succ])
    refine wpMix_step rfl ?_
    go_wp2_with fail
    refine (spec_varS _ _ (by have := HE.out; omega) (by have := HE.out; omega)).mono ?_
    rintro e w13 ⟨rfl, bb⟩
    have nX := Lib.hid (X.out.after bb); have nA := Lib.hid (A.out.after bb); clear bb X A; have X := nX; have A := nA; clear nX nA
    go_wp2
    refine ⟨X.out.c19, ?_⟩
    (refine wpMix_take (v := ?_) rfl rfl ?_ ?_; rotate_left; (intro w' hS'; (try dsimp only at hS'); go_simp; (try with_reducible rfl)); simp only [List.getElem_toArray, List.getElem_cons_succ, List.getElem_cons_zero, Act.put, List.setIfInBounds_toArray, List.set_cons_zero, List.set_cons_succ])
    refine wpMix_step rfl ?_
    go_wp2
    refine ⟨X.out.c19, ?_⟩
    unfold wpMix
    refine NoPanic.normal ?_
    clear q1 q2 q3 q4 q5 q6 q7 q8 q9 q10 q11 hwv hf1
    obtain ⟨S1, hS1⟩ : ∃ S1, varS x.kind ++ varS x.frm ++ varS x.dst ++ varS x.i.rep ++ varS x.i.slot ++ varS x.i.bal ++ varS x.i.st ++ varS (x.i.vbal + 1) ++ varS x.i.seq ++ fb ++ showT (showS x.i.cmd) ++ varS n2 = S1 := ⟨_, rfl⟩
    rw [hS1]
    have hhd : S1 = headW x := by rw [← hS1, headW_eq, HN.out, HFB.out]
    have hz1 : S1.size ≤ 190 := by rw [← hS1]; simp only [ByteArray.size_append]; have hf1 : fb.size = 1 := (by rw [← HFB.out]; exact flagS_size _); have := varS_size x.kind; have := varS_size x.frm; have := varS_size x.dst; have := varS_size x.i.rep; have := varS_size x.i.slot; have := varS_size x.i.bal; have := varS_size x.i.st; have := varS_size (x.i.vbal + 1); have := varS_size x.i.seq; have := showT_size (showS x.i.cmd); have := showS_size x.i.cmd; have := varS_size n2; omega
    have HH := Lib.hid hhd
    have HZ := Lib.hid hz1
    clear hS1 hhd hz1
    go_wp2
    go_loopw [4, 5] (fun sv i wr => ∃ k : Nat, k ≤ n2 ∧ i = .int .i64 k ∧ sv = .string (S1 ++ idsS x.i.deps k) ∧ Bx wr w.heap.size 36 #[.int .i64 x.kind, .int .i64 x.frm, .int .i64 x.dst, .int .i64 x.i.rep, .int .i64 x.i.slot, .int .i64 x.i.bal, .int .i64 x.i.cmd.kind, .int .i64 x.i.cmd.client, .int .i64 x.i.cmd.no, .string x.i.cmd.set, .string x.i.cmd.name, .string x.i.cmd.tag, .int .i64 x.i.cmd.n, .slice a1 n1 c1, .int .i64 x.i.seq, .slice ad n2 cd, .int .i64 x.i.st, .int .i64 x.i.vbal, .bool x.i.same] ∧ Af w wr) (fun _ i _ => n2 - (intOf i).toNat)
    case atStart => exact ⟨0, by omega, rfl, by rw [idsS_zero, app_nilS], X.out, A.out⟩
    case round =>
      clear X A
      obtain ⟨k, hk, rfl, rfl, hx, hafw⟩ := hrel
      have X := Lib.hid hx
      have A := Lib.hid hafw
      clear hx hafw
      by_cases hlt : k < n2
      · obtain ⟨y, p, rfl, hy, hcy⟩ := HA.out (by omega)
        have CK := Lib.hid (fun W (h : Af w W) => (hcy k hlt).below h hy)
        have hb := HE.out.2.2.2.2.2.2.2.2.2 k (by rw [HN.out]; exact hlt)
        have HB := Lib.hid hb
        have y1 : (k : Int) < (n2 : Int) := by omega
        have y0 : (0 : Int) ≤ (k : Int) := by omega
        have hs1 := idsS_size x.i.deps k
        have q1 := fun W => run_string_add_sum (P := Tryd.prog) (w := W) (S1 ++ idsS x.i.deps k) (varS (iR x.i.deps k)) (by simp only [ByteArray.size_append]; have := HZ.out; have := varS_size (iR x.i.deps k); omega)
        have q2 := fun W => run_string_add_sum (P := Tryd.prog) (w := W) (S1 ++ idsS x.i.deps k ++ varS (iR x.i.deps k)) (varS (iS x.i.deps k)) (by simp only [ByteArray.size_append]; have := HZ.out; have := varS_size (iR x.i.deps k); have := varS_size (iS x.i.deps k); omega)
        obtain ⟨x0, x1, x2, x3, x4, x5, x6, x7, x8, x9, x10, x11, x12, x13, x14, x15, x16, x17, x18⟩ := X.out.c19
        clear hcy hb hs1 x0 x1 x2 x3 x4 x5 x6 x7 x8 x9 x10 x11 x12 x13 x14 x16 x17 x18
        go_wp2_with fail
        clear x15
        have X := Lib.hid X.out.drew
        have A := Lib.hid A.out.drew
        refine wp_region_noPanic ?_
        refine wp_region_mix (S := fun w' => w'.cell? ⟨w.heap.size, 15, none⟩ = some (.slice (some ⟨y, p, none⟩) n2 cd) ∧ w'.cell? ⟨y, p + k * 2, none⟩ = some (.int .i64 (iR x.i.deps k)) ∧ w'.cell? ⟨y, p + k * 2 + 1, none⟩ = some (.int .i64 (iS x.i.deps k))) [(true, 0), (true, 1), (true, 2), (true, 3), (true, 4), (true, 5), (true, 6), (true, 9), (true, 10), (true, 11), (true, 12), (true, 13), (true, 14), (false, 7), (true, 8), (false, 15), (true, 16), (false, 17)] (by kernel_rfl) (by kernel_rfl) (by kernel_rfl) (by kernel_rfl) (fun _ _ _ _ _ h => h) ⟨X.out.cell 15 _ rfl, CK.out _ A.out⟩ ?_
        iterate 13 (refine wpMix_take (v := ?_) rfl rfl ?_ ?_; rotate_left; (intro w' hS'; (try dsimp only at hS'); go_simp; (try with_reducible rfl)); simp only [List.getElem_toArray, List.getElem_cons_succ, List.getElem_cons_zero, Act.put, List.setIfInBounds_toArray, List.set_cons_zero, List.set_cons_succ])
        refine wpMix_step rfl ?_
        go_wp2_with fail
        refine (spec_varS _ _ (by have := HB.out; omega) (by have := HB.out; omega)).mono ?_
        rintro e w3 ⟨rfl, bb⟩
        have nX := Lib.hid (X.out.after bb); have nA := Lib.hid (A.out.after bb); clear bb X A; have X := nX; have A := nA; clear nX nA
        go_wp2
        refine ⟨⟨X.out.cell 15 _ rfl, CK.out _ A.out⟩, ?_⟩
        (refine wpMix_take (v := ?_) rfl rfl ?_ ?_; rotate_left; (intro w' hS'; (try dsimp only at hS'); go_simp; (try with_reducible rfl)); simp only [List.getElem_toArray, List.getElem_cons_succ, List.getElem_cons_zero, Act.put, List.setIfInBounds_toArray, List.set_cons_zero, List.set_cons_succ])
        refine wpMix_step rfl ?_
        go_wp2_with fail
        refine (spec_varS _ _ (by have := HB.out; omega) (by have := HB.out; omega)).mono ?_
        rintro e w4 ⟨rfl, bb⟩
        have nX := Lib.hid (X.out.after bb); have nA := Lib.hid (A.out.after bb); clear bb X A; have X := nX; have A := nA; clear nX nA
        go_wp2
        refine ⟨⟨X.out.cell 15 _ rfl, CK.out _ A.out⟩, ?_⟩
        (refine wpMix_take (v := ?_) rfl rfl ?_ ?_; rotate_left; (intro w' hS'; (try dsimp only at hS'); go_simp; (try with_reducible rfl)); simp only [List.getElem_toArray, List.getElem_cons_succ, List.getElem_cons_zero, Act.put, List.setIfInBounds_toArray, List.set_cons_zero, List.set_cons_succ])
        refine wpMix_step rfl ?_
        go_wp2
        refine ⟨⟨X.out.cell 15 _ rfl, CK.out _ A.out⟩, ?_⟩
        unfold wpMix
        refine NoPanic.normal ?_
        clear q1 q2 CK
        go_wp2
        go_roundw
        case rel => exact ⟨k + 1, by omega, by go_num, by rw [idsS_succ, ← ByteArray.append_assoc, ← ByteArray.append_assoc], X.out, A.out⟩
        case measure => simp only [intOf]; omega
      · obtain rfl : k = n2 := by omega
        obtain ⟨x0, x1, x2, x3, x4, x5, x6, x7, x8, x9, x10, x11, x12, x13, x14, x15, x16, x17, x18⟩ := X.out.c19
        clear x0 x1 x2 x3 x4 x5 x6 x7 x8 x9 x10 x11 x12 x13 x14 x16 x17 x18
        go_wp2
        go_ret
        exact ⟨by rw [HF.out, ← HH.out, HN.out]; rfl, A.out⟩
end Go.Proofs.YtkeoeempdkpafaaDoor
