/- The encoding of a command: the program's walks. -/
import Derived.Test.YtkeoeempdkpafaaDoorShowM
import Derived.Test.YtkeoeempdkpafaaDoorOkC
import Derived.Test.YtkeoeempdkpafaaDoorTextI
import Derived.Test.YtkeoeempdkpafaaDoorShelf
import Derived.Laws.Concat
namespace Go.Proofs.YtkeoeempdkpafaaDoor
open Go.RowKit Go.PlainAid
set_option linter.unusedVariables false

theorem join_c (v : Value) (l : List ByteArray) (w : World) (hv : Strs w v l) (h4 : l.length ≤ 4) (h8 : ∀ j, j < l.length → (el l j).size ≤ 8) :
    Calls Tryd.prog 108 #[v, .string ⟨#[]⟩] w fun e w' => e = .returned (.string (catN l l.length)) ∧ Below w.heap.size w w' := by
  obtain ⟨k1, k2, a, ca, rfl, hca, ha⟩ := hv
  by_cases h0 : 0 < l.length
  · obtain ⟨b, o, rfl, hb, hc⟩ := ha h0
    have hsz := catN_size l l.length 8 h8
    have e := join_cat l
    have hlen : (Lib.join (l.map (·.data.toList)) (ByteArray.mk #[]).data.toList).length ≤ 140737488355328 := by
      have h1 : (ByteArray.mk (Lib.join (l.map (·.data.toList)) []).toArray).size ≤ 32 := by rw [e]; omega
      have h2 : (ByteArray.mk (Lib.join (l.map (·.data.toList)) []).toArray).size = (Lib.join (l.map (·.data.toList)) []).length := by simp [ByteArray.size]
      show (Lib.join (l.map (·.data.toList)) []).length ≤ _
      omega
    refine (Tryd.strings_Join b o ca l ⟨#[]⟩ w (fun j x hx => ?_) hb (by omega) hca hlen).mono fun e' w' ⟨he, hbw⟩ => ⟨?_, hbw⟩
    · have hj : j < l.length := (List.getElem?_eq_some_iff.1 hx).1
      rw [hc j hj]
      have := el_get l j hj
      rw [hx] at this
      rw [Option.some.inj this]
    · rw [he, ← e]
  · have hl : l = [] := List.eq_nil_of_length_eq_zero (by omega)
    subst hl
    refine (Tryd.strings_Join_none a ca ⟨#[]⟩ w).mono fun e' w' ⟨he, hw⟩ => ⟨?_, ?_⟩
    · rw [he]
      have := catN_zero ([] : List ByteArray)
      show Ending.returned (.string ⟨#[]⟩) = .returned (.string (catN [] 0))
      rw [this]
    · rw [hw]; exact Below.refl _ _
set_option maxRecDepth 100000 in
set_option maxHeartbeats 4000000 in
theorem impl_show (c : CmdM) (v : Value) (a : Addr) (w : World) (hv : Strs w v c.ch) (hS : Sent w a) (hs : c.set.size ≤ 9223372036854775807) (hn : c.name.size ≤ 9223372036854775807) (ht : c.tag.size ≤ 9223372036854775807) :
    Calls Tryd.prog 87 #[.agg #[.int .i64 c.kind, .int .i64 c.client, .int .i64 c.no, .string c.set, .string c.name, .string c.tag, .int .i64 c.n, v]] w fun e w' => e = .returned (.string (showS c)) ∧ Below w.heap.size w w' := by
  have HV := Lib.hid hv
  have HS := Lib.hid hS
  clear hv hS
  go_enter Tryd.func87, Tryd.ntmps87
  go_wp2_with fail
  refine (cmd_ok c v a _ (HV.out.alloc _) (HS.out.alloc _) hs hn ht).mono ?_
  rintro e w0 ⟨rfl, hb⟩
  have HA := Lib.hid ((Has.new w 33 c v _ rfl HV.out).after hb)
  have HW := Lib.hid (((Aft.refl w).alloc _).after hb)
  clear hb HV HS
  cases o1 : okB c
  · have HF := Lib.hid (show showS c = ⟨#[]⟩ by unfold showS; simp [o1])
    go_wp2
    go_ret
    exact ⟨by rw [HF.out]; rfl, HW.out⟩
  have HF := Lib.hid (show showS c = showB c by unfold showS; simp [o1])
  obtain ⟨⟨k0, k1⟩, ⟨c0, c1⟩, ⟨n0, n1⟩, ⟨m0, m1⟩, h5, h6, h7, h8, h9'⟩ := okB_fit c o1
  have h9 : ∀ j, j < c.ch.length → (el c.ch j).size ≤ 8 := fun j hj => Nat.le_of_eq (h9' j hj)
  clear hs hn ht
  obtain ⟨va, vn, vcap, rfl⟩ := HA.out.2.form
  have hvn : vn = c.ch.length := by
    obtain ⟨_, _, _, _, e, _⟩ := HA.out.2
    simp only [Value.slice.injEq] at e
    exact e.2.1
  subst hvn
  go_wp2_with fail
  have KA := Lib.hid HA.out.drew
  have KW := Lib.hid HW.out.drew
  clear HA HW
  have hcat : (catN c.ch c.ch.length).size ≤ 32 := by have := catN_size c.ch c.ch.length 8 h9; omega
  have z0 : (varS c.kind).size ≤ 7 := varS_size _
  have y1 : (varS c.client).size ≤ 7 := varS_size _
  have a1 := fun W => run_string_add_sum (P := Tryd.prog) (w := W) (varS c.kind) (varS c.client) (by omega)
  have z1 : (varS c.kind ++ varS c.client).size ≤ 14 := by rw [ByteArray.size_append]; omega
  have y2 : (varS c.no).size ≤ 7 := varS_size _
  have a2 := fun W => run_string_add_sum (P := Tryd.prog) (w := W) (varS c.kind ++ varS c.client) (varS c.no) (by omega)
  have z2 : (varS c.kind ++ varS c.client ++ varS c.no).size ≤ 21 := by rw [ByteArray.size_append]; omega
  have y3 : (varS c.n).size ≤ 7 := varS_size _
  have a3 := fun W => run_string_add_sum (P := Tryd.prog) (w := W) (varS c.kind ++ varS c.client ++ varS c.no) (varS c.n) (by omega)
  have z3 : (varS c.kind ++ varS c.client ++ varS c.no ++ varS c.n).size ≤ 28 := by rw [ByteArray.size_append]; omega
  have y4 : (showT c.set).size ≤ 15 := (by have := showT_size c.set; omega)
  have a4 := fun W => run_string_add_sum (P := Tryd.prog) (w := W) (varS c.kind ++ varS c.client ++ varS c.no ++ varS c.n) (showT c.set) (by omega)
  have z4 : (varS c.kind ++ varS c.client ++ varS c.no ++ varS c.n ++ showT c.set).size ≤ 43 := by rw [ByteArray.size_append]; omega
  have y5 : (showT c.name).size ≤ 15 := (by have := showT_size c.name; omega)
  have a5 := fun W => run_string_add_sum (P := Tryd.prog) (w := W) (varS c.kind ++ varS c.client ++ varS c.no ++ varS c.n ++ showT c.set) (showT c.name) (by omega)
  have z5 : (varS c.kind ++ varS c.client ++ varS c.no ++ varS c.n ++ showT c.set ++ showT c.name).size ≤ 58 := by rw [ByteArray.size_append]; omega
  have y6 : (showT c.tag).size ≤ 15 := (by have := showT_size c.tag; omega)
  have a6 := fun W => run_string_add_sum (P := Tryd.prog) (w := W) (varS c.kind ++ varS c.client ++ varS c.no ++ varS c.n ++ showT c.set ++ showT c.name) (showT c.tag) (by omega)
  have z6 : (varS c.kind ++ varS c.client ++ varS c.no ++ varS c.n ++ showT c.set ++ showT c.name ++ showT c.tag).size ≤ 73 := by rw [ByteArray.size_append]; omega
  have y7 : (varS c.ch.length).size ≤ 7 := varS_size _
  have a7 := fun W => run_string_add_sum (P := Tryd.prog) (w := W) (varS c.kind ++ varS c.client ++ varS c.no ++ varS c.n ++ showT c.set ++ showT c.name ++ showT c.tag) (varS c.ch.length) (by omega)
  have z7 : (varS c.kind ++ varS c.client ++ varS c.no ++ varS c.n ++ showT c.set ++ showT c.name ++ showT c.tag ++ varS c.ch.length).size ≤ 80 := by rw [ByteArray.size_append]; omega
  have y8 : (catN c.ch c.ch.length).size ≤ 32 := hcat
  have a8 := fun W => run_string_add_sum (P := Tryd.prog) (w := W) (varS c.kind ++ varS c.client ++ varS c.no ++ varS c.n ++ showT c.set ++ showT c.name ++ showT c.tag ++ varS c.ch.length) (catN c.ch c.ch.length) (by omega)
  have z8 : (varS c.kind ++ varS c.client ++ varS c.no ++ varS c.n ++ showT c.set ++ showT c.name ++ showT c.tag ++ varS c.ch.length ++ catN c.ch c.ch.length).size ≤ 112 := by rw [ByteArray.size_append]; omega
  have H9 := Lib.hid h9
  clear h9 h9' hcat z0 z1 z2 z3 z4 z5 z6 z7 z8 y1 y2 y3 y4 y5 y6 y7 y8
  go_region_held3 (fun w' => w'.cell? ⟨w.heap.size, 0, none⟩ = some (.int .i64 c.kind) ∧ w'.cell? ⟨w.heap.size, 1, none⟩ = some (.int .i64 c.client) ∧ w'.cell? ⟨w.heap.size, 2, none⟩ = some (.int .i64 c.no) ∧ w'.cell? ⟨w.heap.size, 3, none⟩ = some (.string c.set) ∧ w'.cell? ⟨w.heap.size, 4, none⟩ = some (.string c.name) ∧ w'.cell? ⟨w.heap.size, 5, none⟩ = some (.string c.tag) ∧ w'.cell? ⟨w.heap.size, 6, none⟩ = some (.int .i64 c.n) ∧ w'.cell? ⟨w.heap.size, 7, none⟩ = some ((.slice va c.ch.length vcap)))
    (exact Has.cells KA.out)
    (first
      | (go_at_call 85; refine (impl_varS _ _ (by omega) (by omega)).mono ?_; rintro e w1 ⟨rfl, hb⟩; have NA := Lib.hid (KA.out.after hb); have NW := Lib.hid (KW.out.after hb); clear hb KA KW; rename Hid (Has w1 _ _ c _) => KA; rename Hid (Aft w w1) => KW)
      | (go_at_call 107; refine (show_text _ _ (by omega)).mono ?_; rintro e w1 ⟨rfl, hb⟩; have NA := Lib.hid (KA.out.after hb); have NW := Lib.hid (KW.out.after hb); clear hb KA KW; rename Hid (Has w1 _ _ c _) => KA; rename Hid (Aft w w1) => KW)
      | (go_at_call 108; refine (join_c _ c.ch _ KA.out.2 h8 H9.out).mono ?_; rintro e w1 ⟨rfl, hb⟩; have NA := Lib.hid (KA.out.after hb); have NW := Lib.hid (KW.out.after hb); clear hb KA KW; rename Hid (Has w1 _ _ c _) => KA; rename Hid (Aft w w1) => KW))
  go_wp2
  go_ret
  exact ⟨by rw [HF.out]; unfold showB; rfl, KW.out⟩
end Go.Proofs.YtkeoeempdkpafaaDoor
