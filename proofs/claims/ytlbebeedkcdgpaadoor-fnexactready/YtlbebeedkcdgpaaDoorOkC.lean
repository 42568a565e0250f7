/- When a command is valid: the program's checkCmd and CmdOk. -/
import Derived.Test.YtlbebeedkcdgpaaDoorOkI
import Derived.Test.YtlbebeedkcdgpaaDoorCmdB
import Derived.Test.YtlbebeedkcdgpaaDoorIs
namespace Go.Proofs.YtlbebeedkcdgpaaDoor
open Go.RowKit Go.PlainAid
set_option linter.unusedVariables false

/-- What checkCmd answers. -/
def errV (a : Addr) : Bool → Value
  | true => .nilIface
  | false => .iface 107 (.pointer (some a))
set_option maxRecDepth 100000 in
set_option maxHeartbeats 2000000 in
theorem check_cmd (c : CmdM) (v : Value) (a : Addr) (w : World) (hv : Strs w v c.ch) (hS : Sent w a) (hs : c.set.size ≤ 9223372036854775807) (hn : c.name.size ≤ 9223372036854775807) (ht : c.tag.size ≤ 9223372036854775807) :
    Calls Tryd.prog 69 #[.agg #[.int .i64 c.kind, .int .i64 c.client, .int .i64 c.no, .string c.set, .string c.name, .string c.tag, .int .i64 c.n, v]] w fun e w' => e = .returned (errV a (okB c)) ∧ Below w.heap.size w w' := by
  have HV := Lib.hid hv
  have HS := Lib.hid hS
  clear hv hS
  go_enter Tryd.func69, Tryd.ntmps69
  go_wp2_with fail
  refine (impl_same c zeroC v (.slice none 0 0) _ (HV.out.alloc _) (strs_nil _ _ _)).mono ?_
  rintro e w1 ⟨rfl, hb⟩
  have H1 := Lib.hid ((Has.new w 46 c v _ rfl HV.out).after hb)
  have S1 := Lib.hid ((HS.out.alloc _).later hb)
  have W1 := Lib.hid (((Aft.refl w).alloc _).after hb)
  clear hb HV HS
  by_cases z : c = zeroC
  · have hd := decide_eq_true z
    have HF := Lib.hid (show okB c = true by unfold okB; simp [z])
    clear z
    go_wp2
    go_ret
    exact ⟨by rw [HF.out]; rfl, W1.out⟩
  have hd := decide_eq_false z
  have HZ := Lib.hid hd
  clear z
  obtain ⟨b0, b1, b2, b3, b4, b5, b6, b7⟩ := H1.out.cells
  go_wp2_with fail
  clear b0 b1 b2 b3 b4 b5 b6 b7
  refine (numbers_ok c v _).mono ?_
  rintro e w2 ⟨rfl, hb⟩
  have H2 := Lib.hid (H1.out.after hb)
  have S2 := Lib.hid (S1.out.later hb)
  have W2 := Lib.hid (W1.out.after hb)
  clear hb H1 S1 W1
  cases h1 : numsB c
  · have HF := Lib.hid (show okB c = false by unfold okB; simp [HZ.out, h1])
    have hs0 := S2.out
    unfold Sent at hs0
    go_wp2
    go_ret
    exact ⟨by rw [HF.out]; rfl, W2.out⟩
  obtain ⟨b0, b1, b2, b3, b4, b5, b6, b7⟩ := H2.out.cells
  go_wp2_with fail
  clear b0 b1 b2 b3 b4 b5 b6 b7
  refine (texts_ok c v _ hs hn ht).mono ?_
  rintro e w3 ⟨rfl, hb⟩
  have H3 := Lib.hid (H2.out.after hb)
  have S3 := Lib.hid (S2.out.later hb)
  have W3 := Lib.hid (W2.out.after hb)
  clear hb H2 S2 W2
  cases h2 : textsB c
  · have HF := Lib.hid (show okB c = false by unfold okB; simp [HZ.out, h2])
    have hs0 := S3.out
    unfold Sent at hs0
    go_wp2
    go_ret
    exact ⟨by rw [HF.out]; rfl, W3.out⟩
  obtain ⟨b0, b1, b2, b3, b4, b5, b6, b7⟩ := H3.out.cells
  go_wp2_with fail
  clear b0 b1 b2 b3 b4 b5 b6 b7
  refine (chunks_ok c v _ H3.out.2).mono ?_
  rintro e w4 ⟨rfl, hb⟩
  have H4 := Lib.hid (H3.out.after hb)
  have S4 := Lib.hid (S3.out.later hb)
  have W4 := Lib.hid (W3.out.after hb)
  clear hb H3 S3 W3
  cases h3 : chunksB c
  · have HF := Lib.hid (show okB c = false by unfold okB; simp [HZ.out, h3])
    have hs0 := S4.out
    unfold Sent at hs0
    go_wp2
    go_ret
    exact ⟨by rw [HF.out]; rfl, W4.out⟩
  · have HF := Lib.hid (show okB c = true by unfold okB; simp [HZ.out, h1, h2, h3])
    go_wp2
    go_ret
    exact ⟨by rw [HF.out]; rfl, W4.out⟩

theorem is_err (b : Bool) (a : Addr) (w : World) : Calls Tryd.prog 68 #[errV a b, .iface 107 (.pointer (some a))] w fun e w' => e = .returned (.bool (!b)) ∧ w' = w := by
  cases b
  · exact is_same a w
  · exact is_nil a w
theorem held1 {w : World} {g : Nat} {c : CmdM} {v : Value} {t : TypeId} {a : Addr} (h : Has w g t c v) (hs : Sent w a) : (w.cell? ⟨g, 0, none⟩ = some (.int .i64 c.kind) ∧ w.cell? ⟨g, 1, none⟩ = some (.int .i64 c.client) ∧ w.cell? ⟨g, 2, none⟩ = some (.int .i64 c.no) ∧ w.cell? ⟨g, 3, none⟩ = some (.string c.set) ∧ w.cell? ⟨g, 4, none⟩ = some (.string c.name) ∧ w.cell? ⟨g, 5, none⟩ = some (.string c.tag) ∧ w.cell? ⟨g, 6, none⟩ = some (.int .i64 c.n) ∧ w.cell? ⟨g, 7, none⟩ = some (v)) ∧ w.cell? ⟨0, 0, none⟩ = some (.iface 107 (.pointer (some a))) := ⟨h.cells, hs⟩
set_option maxRecDepth 100000 in
set_option maxHeartbeats 2000000 in
theorem cmd_ok (c : CmdM) (v : Value) (a : Addr) (w : World) (hv : Strs w v c.ch) (hS : Sent w a) (hs : c.set.size ≤ 9223372036854775807) (hn : c.name.size ≤ 9223372036854775807) (ht : c.tag.size ≤ 9223372036854775807) :
    Calls Tryd.prog 62 #[.agg #[.int .i64 c.kind, .int .i64 c.client, .int .i64 c.no, .string c.set, .string c.name, .string c.tag, .int .i64 c.n, v]] w fun e w' => e = .returned (.bool (okB c)) ∧ Below w.heap.size w w' := by
  have KA := Lib.hid (Has.new w 46 c v _ rfl hv).drew
  have KS := Lib.hid (hS.alloc (.cells #[.int .i64 c.kind, .int .i64 c.client, .int .i64 c.no, .string c.set, .string c.name, .string c.tag, .int .i64 c.n, v] 46)).drew
  have KW := Lib.hid ((Aft.refl w).alloc (.cells #[.int .i64 c.kind, .int .i64 c.client, .int .i64 c.no, .string c.set, .string c.name, .string c.tag, .int .i64 c.n, v] 46)).drew
  clear hv hS
  obtain ⟨b, hok⟩ : ∃ b, okB c = b := ⟨_, rfl⟩
  rw [hok]
  have HO := Lib.hid hok
  clear hok
  go_enter Tryd.func62, Tryd.ntmps62
  go_wp2_with fail
  go_region_held3 (fun w' => (w'.cell? ⟨w.heap.size, 0, none⟩ = some (.int .i64 c.kind) ∧ w'.cell? ⟨w.heap.size, 1, none⟩ = some (.int .i64 c.client) ∧ w'.cell? ⟨w.heap.size, 2, none⟩ = some (.int .i64 c.no) ∧ w'.cell? ⟨w.heap.size, 3, none⟩ = some (.string c.set) ∧ w'.cell? ⟨w.heap.size, 4, none⟩ = some (.string c.name) ∧ w'.cell? ⟨w.heap.size, 5, none⟩ = some (.string c.tag) ∧ w'.cell? ⟨w.heap.size, 6, none⟩ = some (.int .i64 c.n) ∧ w'.cell? ⟨w.heap.size, 7, none⟩ = some (v)) ∧ w'.cell? ⟨0, 0, none⟩ = some (.iface 107 (.pointer (some a))))
    (exact held1 KA.out KS.out)
    (first
      | (go_at_call 69; refine (check_cmd c v a _ KA.out.2 KS.out hs hn ht).mono ?_; rintro e w1 ⟨he, hb⟩; rw [HO.out] at he; subst he; have NA := Lib.hid (KA.out.after hb); have NS := Lib.hid (KS.out.later hb); have NW := Lib.hid (KW.out.after hb); clear hb KA KS KW; rename Hid (Has w1 _ _ c v) => KA; rename Hid (Sent w1 a) => KS; rename Hid (Aft w w1) => KW)
      | (go_at_call 68; refine (is_err b a _).mono ?_; rintro e w2 ⟨rfl, rfl⟩))
  go_wp2
  go_ret
  exact ⟨by simp, KW.out⟩
end Go.Proofs.YtlbebeedkcdgpaaDoor
