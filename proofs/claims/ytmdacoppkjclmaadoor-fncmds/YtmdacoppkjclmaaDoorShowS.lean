/- The encoding of a command: the model's walks. -/
import Derived.Test.YtmdacoppkjclmaaDoorShowM
import Derived.Test.YtmdacoppkjclmaaDoorOkS
import Derived.Test.YtmdacoppkjclmaaDoorVarS
import Derived.Laws.Concat
namespace Go.Proofs.YtmdacoppkjclmaaDoor
open Go.RowKit Go.PlainAid
set_option linter.unusedVariables false

theorem spec_varS (n : Int) (w : World) (h0 : 0 ≤ n) (hm : n ≤ 562949953421311) : Calls Tryd.prog 37 #[.int .i64 n] w fun e w' => e = .returned (.string (varS n)) ∧ Below w.heap.size w w' := by
  unfold varS
  exact spec_var n _ w h0 hm (vkF_le 6 n) (varS_vk n hm)
set_option maxHeartbeats 400000 in
theorem show_piece (s : ByteArray) (w : World) (hs : s.size ≤ 1048576) : Calls Tryd.prog 38 #[.string s] w fun e w' => e = .returned (.string (showT s)) ∧ Below w.heap.size w w' := by
  have h7 := varS_size s.size
  have a1 := fun W => run_string_add_sum (P := Tryd.prog) (w := W) (varS s.size) s (by omega)
  have HT := Lib.hid (show varS s.size ++ s = showT s by unfold showT; rfl)
  go_enter Tryd.func38, Tryd.ntmps38
  go_wp2_with (go_at_call 37; refine (spec_varS _ _ (by omega) (by omega)).mono ?_; rintro e w' ⟨rfl, hb⟩)
  go_ret
  exact ⟨by rw [← HT.out]; rfl, hb⟩
set_option maxRecDepth 100000 in
set_option maxHeartbeats 4000000 in
theorem spec_show (c : CmdM) (v : Value) (w : World) (hv : Strs w v c.ch) (hs : c.set.size ≤ 9223372036854775807) (hn : c.name.size ≤ 9223372036854775807) (ht : c.tag.size ≤ 9223372036854775807) :
    Calls Tryd.prog 15 #[.agg #[.int .i64 c.kind, .int .i64 c.client, .int .i64 c.no, .string c.set, .string c.name, .string c.tag, .int .i64 c.n, v]] w fun e w' => e = .returned (.string (showS c)) ∧ Below w.heap.size w w' := by
  have HV := Lib.hid hv
  skip
  clear hv
  go_enter Tryd.func15, Tryd.ntmps15
  go_wp2_with fail
  refine (spec_ok c v _ (HV.out.alloc _) hs hn ht).mono ?_
  rintro e w0 ⟨rfl, hb⟩
  have HA := Lib.hid ((Has.new w 26 c v _ rfl HV.out).after hb)
  have HW := Lib.hid (((Aft.refl w).alloc _).after hb)
  clear hb HV
  cases o1 : okB c
  · have HF := Lib.hid (show showS c = ⟨#[]⟩ by unfold showS; simp [o1])
    go_wp2
    go_ret
    exact ⟨by rw [HF.out]; rfl, HW.out⟩
  have HF := Lib.hid (show showS c = showB c by unfold showS; simp [o1])
  obtain ⟨⟨k0, k1⟩, ⟨c0, c1⟩, ⟨n0, n1⟩, ⟨m0, m1⟩, h5, h6, h7, h8, h9'⟩ := okB_fit c o1
  have h9 : ∀ j, j < c.ch.length → (el c.ch j).size ≤ 8 := fun j hj => Nat.le_of_eq (h9' j hj)
  clear hs hn ht
  obtain ⟨va, vn, vcap, rfl⟩ := HA.out.2.form
  have hvn : vn = c.ch.length := by
    obtain ⟨_, _, _, _, e, _⟩ := HA.out.2
    simp only [Value.slice.injEq] at e
    exact e.2.1
  subst hvn
  go_wp2_with fail
  have KA := Lib.hid HA.out.drew
  have KW := Lib.hid HW.out.drew
  clear HA HW
  have hcat : (catN c.ch c.ch.length).size ≤ 32 := by have := catN_size c.ch c.ch.length 8 h9; omega
  have z0 : (varS c.kind).size ≤ 7 := varS_size _
  have y1 : (varS c.client).size ≤ 7 := varS_size _
  have a1 := fun W => run_string_add_sum (P := Tryd.prog) (w := W) (varS c.kind) (varS c.client) (by omega)
  have z1 : (varS c.kind ++ varS c.client).size ≤ 14 := by rw [ByteArray.size_append]; omega
  have y2 : (varS c.no).size ≤ 7 := varS_size _
  have a2 := fun W => run_string_add_sum (P := Tryd.prog) (w := W) (varS c.kind ++ varS c.client) (varS c.no) (by omega)
  have z2 : (varS c.kind ++ varS c.client ++ varS c.no).size ≤ 21 := by rw [ByteArray.size_append]; omega
  have y3 : (varS c.n).size ≤ 7 := varS_size _
  have a3 := fun W => run_string_add_sum (P := Tryd.prog) (w := W) (varS c.kind ++ varS c.client ++ varS c.no) (varS c.n) (by omega)
  have z3 : (varS c.kind ++ varS c.client ++ varS c.no ++ varS c.n).size ≤ 28 := by rw [ByteArray.size_append]; omega
  have y4 : (showT c.set).size ≤ 15 := (by have := showT_size c.set; omega)
  have a4 := fun W => run_string_add_sum (P := Tryd.prog) (w := W) (varS c.kind ++ varS c.client ++ varS c.no ++ varS c.n) (showT c.set) (by omega)
  have z4 : (varS c.kind ++ varS c.client ++ varS c.no ++ varS c.n ++ showT c.set).size ≤ 43 := by rw [ByteArray.size_append]; omega
  have y5 : (showT c.name).size ≤ 15 := (by have := showT_size c.name; omega)
  have a5 := fun W => run_string_add_sum (P := Tryd.prog) (w := W) (varS c.kind ++ varS c.client ++ varS c.no ++ varS c.n ++ showT c.set) (showT c.name) (by omega)
  have z5 : (varS c.kind ++ varS c.client ++ varS c.no ++ varS c.n ++ showT c.set ++ showT c.name).size ≤ 58 := by rw [ByteArray.size_append]; omega
  have y6 : (showT c.tag).size ≤ 15 := (by have := showT_size c.tag; omega)
  have a6 := fun W => run_string_add_sum (P := Tryd.prog) (w := W) (varS c.kind ++ varS c.client ++ varS c.no ++ varS c.n ++ showT c.set ++ showT c.name) (showT c.tag) (by omega)
  have z6 : (varS c.kind ++ varS c.client ++ varS c.no ++ varS c.n ++ showT c.set ++ showT c.name ++ showT c.tag).size ≤ 73 := by rw [ByteArray.size_append]; omega
  have y7 : (varS c.ch.length).size ≤ 7 := varS_size _
  have a7 := fun W => run_string_add_sum (P := Tryd.prog) (w := W) (varS c.kind ++ varS c.client ++ varS c.no ++ varS c.n ++ showT c.set ++ showT c.name ++ showT c.tag) (varS c.ch.length) (by omega)
  have z7 : (varS c.kind ++ varS c.client ++ varS c.no ++ varS c.n ++ showT c.set ++ showT c.name ++ showT c.tag ++ varS c.ch.length).size ≤ 80 := by rw [ByteArray.size_append]; omega
  have HP := Lib.hid z7
  have H9 := Lib.hid h9
  clear h9 h9' hcat z0 z1 z2 z3 z4 z5 z6 z7 y1 y2 y3 y4 y5 y6 y7
  go_region_held3 (fun w' => w'.cell? ⟨w.heap.size, 0, none⟩ = some (.int .i64 c.kind) ∧ w'.cell? ⟨w.heap.size, 1, none⟩ = some (.int .i64 c.client) ∧ w'.cell? ⟨w.heap.size, 2, none⟩ = some (.int .i64 c.no) ∧ w'.cell? ⟨w.heap.size, 3, none⟩ = some (.string c.set) ∧ w'.cell? ⟨w.heap.size, 4, none⟩ = some (.string c.name) ∧ w'.cell? ⟨w.heap.size, 5, none⟩ = some (.string c.tag) ∧ w'.cell? ⟨w.heap.size, 6, none⟩ = some (.int .i64 c.n) ∧ w'.cell? ⟨w.heap.size, 7, none⟩ = some ((.slice va c.ch.length vcap)))
    (exact Has.cells KA.out)
    (first
      | (go_at_call 37; refine (spec_varS _ _ (by omega) (by omega)).mono ?_; rintro e w1 ⟨rfl, hb⟩; have NA := Lib.hid (KA.out.after hb); have NW := Lib.hid (KW.out.after hb); clear hb KA KW; rename Hid (Has w1 _ _ c _) => KA; rename Hid (Aft w w1) => KW)
      | (go_at_call 38; refine (show_piece _ _ (by omega)).mono ?_; rintro e w1 ⟨rfl, hb⟩; have NA := Lib.hid (KA.out.after hb); have NW := Lib.hid (KW.out.after hb); clear hb KA KW; rename Hid (Has w1 _ _ c _) => KA; rename Hid (Aft w w1) => KW))
  have HB := Lib.hid (show varS c.kind ++ varS c.client ++ varS c.no ++ varS c.n ++ showT c.set ++ showT c.name ++ showT c.tag ++ varS c.ch.length ++ catN c.ch c.ch.length = showB c by unfold showB; rfl)
  clear a1 a2 a3 a4 a5 a6 a7
  generalize varS c.kind ++ varS c.client ++ varS c.no ++ varS c.n ++ showT c.set ++ showT c.name ++ showT c.tag ++ varS c.ch.length = P at HB HP ⊢
  have HAT := Lib.hid KA.out.2.at_
  obtain ⟨b0, b1, b2, b3, b4, b5, b6, b7⟩ := KA.out.cells
  clear b0 b1 b2 b3 b4 b5 b6
  go_wp2
  go_loop [3, 4] (fun s i => ∃ k : Nat, k ≤ c.ch.length ∧ i = .int .i64 k ∧ s = .string (P ++ catN c.ch k)) (fun _ i => c.ch.length - (intOf i).toNat)
  case atStart => exact ⟨0, by omega, rfl, by rw [catN_zero, append_nil]⟩
  case round =>
    obtain ⟨k, hk, rfl, rfl⟩ := hrel
    by_cases hlt : k < c.ch.length
    · obtain ⟨xa, xcap, xe, _, xat⟩ := HAT.out
      simp only [Value.slice.injEq] at xe
      obtain ⟨rfl, _, rfl⟩ := xe
      obtain ⟨x, o, rfl, hx, hcx⟩ := xat (by omega)
      have cx := hcx k hlt
      clear hcx
      have q1 := HP.out
      have q2 : (P ++ catN c.ch k).size ≤ 1000 := by
        have := catN_size c.ch k 8 (fun j hj => H9.out j (by omega))
        rw [ByteArray.size_append]; omega
      have q3 := H9.out k hlt
      have a1 := fun W => run_string_add_sum (P := Tryd.prog) (w := W) (P ++ catN c.ch k) (el c.ch k) (by omega)
      clear q1 q2 q3
      go_wp2
      go_round
      case rel => exact ⟨k + 1, by omega, by go_num, by rw [catN_succ, append_assoc]⟩
      case measure => simp only [intOf]; omega
    · obtain rfl : k = c.ch.length := by omega
      go_wp2
      go_ret
      exact ⟨by rw [HF.out, ← HB.out]; rfl, KW.out⟩
end Go.Proofs.YtmdacoppkjclmaaDoor
