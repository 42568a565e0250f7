/- The program's BlobDrop and BlobBend. -/
import Derived.Test.YtemhhjkmolndbaaDoorBdM
namespace Go.Proofs.YtemhhjkmolndbaaDoor
open Go.RowKit Go.PlainAid Go.Maps
set_option linter.unusedVariables false

theorem wp_delete_bm {w : World} {ops : Array Oper} {rest : List Oper} {o : Oper} {a : Act} {Q : Exit → Act → World → Prop} (hg : o.guard = none) (m x : Operand)
    (hop : o.op = Op.call { callee := .builtin .delete, args := #[m, x], argTypes := #[85, 9] }) (b n : Nat) (l l' : List Bb) (i : ByteArray) (hm : a.eval m = .map (some b)) (hx : a.eval x = .string i) (hM : BMap w b n l) (hi : i.size ≤ 1048577) (hl : ∀ k, getB l' k = if k = i then none else getB l k)
    (hK : ∀ w', BMap w' b n l' → w.grownBy w' (some b) → wpList Tryd.prog ops Q rest (a.put o.dst (.tuple #[])) w') : wpList Tryd.prog ops Q (o :: rest) a w := by
  obtain ⟨D, h1, h2⟩ := hM
  refine wpList_delete_own w hg m x 85 9 hop 89 Tryd.keyed9 Tryd.underlying85 bbE b n D hm h1 _ _ hx (keyOf_s i hi) (fun w' ho ht => hK w' ⟨_, ho, fun k => ?_⟩ ht.grown)
  rw [hl k]
  by_cases e : k = i
  · subst e
    rw [if_pos rfl]
    exact ⟨by rw [has_del_same]; rfl, fun y hy => by cases hy⟩
  · rw [if_neg e]
    obtain ⟨r1, r2⟩ := h2 k
    exact ⟨by rw [has_del_other (kl_ne e)]; exact r1, fun y hy => by rw [atKey_del_other (kl_ne e)]; exact r2 y hy⟩
set_option maxRecDepth 100000 in
set_option maxHeartbeats 2000000 in
theorem impl_blobDrop (v : Value) (l : List Bb) (q : Int) (i : ByteArray) (w : World) (hv : Blbs w v l) (hs : Sml l) (hi : i.size ≤ 1048576) (hT : Tabs w) :
    Calls Tryd.prog 30 #[.agg #[.int .i64 q, v], .string i] w fun e w' => RetB w.heap.size (okQ q l) (dropL q l i) (dropO q l i) e w' ∧ Below w.heap.size w w' := by
  obtain ⟨a, ca, hve⟩ := hv.slice
  subst hve
  have V := Lib.hid ((hv.alloc (.cells #[.int .i64 q, .slice a l.length ca] 41)).alloc (.cells #[.int .i64 0, .slice none 0 0] 41))
  have X0 := Lib.hid ((Bx.new w 41 #[.int .i64 q, .slice a l.length ca] _ rfl).alloc (.cells #[.int .i64 0, .slice none 0 0] 41))
  have Z0 := Lib.hid (Bx.new (w.alloc (.cells #[.int .i64 q, .slice a l.length ca] 41)) 41 #[.int .i64 0, .slice none 0 0] (w.heap.size + 1) (by simp))
  have A0 := Lib.hid (((Af.refl w).alloc (.cells #[.int .i64 q, .slice a l.length ca] 41)).alloc (.cells #[.int .i64 0, .slice none 0 0] 41))
  have HSM := Lib.hid hs
  have HT := Lib.hid hT
  clear hv hs hT
  go_enter Tryd.func30, Tryd.ntmps30
  go_wp2_with fail
  refine (impl_blobsOk _ l q _ V.out HSM.out (HT.out.later A0.out)).mono ?_
  rintro e w2 ⟨rfl, hb⟩
  have V2 := Lib.hid (V.out.later hb)
  have A2 := Lib.hid (A0.out.after hb)
  have X2 := Lib.hid (X0.out.after hb)
  have Z2 := Lib.hid (Z0.out.after hb)
  have xs2 := Z2.out.lt
  clear hb V X0 A0 Z0
  cases hok : okS q l with
  | false =>
    have HQ := Lib.hid (okQ_no hok)
    have HL := Lib.hid (dropL_no i hok)
    have HO := Lib.hid (dropO_no i hok)
    clear hok
    obtain ⟨z0, z1⟩ := Z2.out.cells2
    have fz0 := Z2.out.frozen 0
    have fz1 := Z2.out.frozen 1
    go_wp2
    exact bodyPost_ret (results_blobs2 Tryd.results30 _ _ (w.heap.size + 1) _ _ rfl (Z2.out.st2 _ _).cells2) rfl ⟨⟨none, 0, 0, by rw [HQ.out, HO.out]; rfl, by rw [HL.out]; exact blOwn_nil _ _ _ _, fun g hg => by cases hg⟩, A2.out.st2 (by omega) _ _⟩
  | true =>
    have h12 := ((okS_iff q l).1 hok).2.1
    have HA := Lib.hid (asc_of_ok hok)
    have HOK := Lib.hid hok
    obtain ⟨x0, x1⟩ := X2.out.cells2
    clear hok
    go_wp2_with fail
    clear x0 x1
    refine (impl_mapBlobs _ l _ V2.out HSM.out HA.out (by omega)).mono ?_
    rintro e w3 ⟨b, rfl, hm, hbb, hb⟩
    have A3 := Lib.hid (A2.out.after hb)
    have X3 := Lib.hid (X2.out.after hb)
    have Z3 := Lib.hid (Z2.out.after hb)
    have M3 := Lib.hid hm
    have hs3 := hb.size
    have hlk := hm.look i (by omega)
    clear hb hm V2 A2 X2 Z2
    have HQ := Lib.hid (okQ_yes HOK.out)
    have HL := Lib.hid (dropL_yes i HOK.out)
    have HO := Lib.hid (dropO_yes i HOK.out)
    have hfl := List.length_filter_le (dropP i) l
    cases hgb : getB l i with
    | none =>
      have hl := hlk.2 hgb
      have HG := Lib.hid hgb
      clear hlk hgb
      go_wp2_with (at_delete; refine wp_delete_bm rfl _ _ rfl b l.length l (l.filter (dropP i)) i rfl rfl (M3.out.alloc _) (by omega) (getB_drop HA.out i) ?_; intro w5 hm5 hg5; have M5 := Lib.hid hm5; have A5 := Lib.hid ((A3.out.alloc (.cells #[.string ByteArray.empty, .string ByteArray.empty, .bool false] 89)).grow hg5 (fun k hk => by cases hk; omega)); have X5 := Lib.hid ((X3.out.alloc (.cells #[.string ByteArray.empty, .string ByteArray.empty, .bool false] 89)).keep hg5 (by simp; omega)); have Z5 := Lib.hid ((Z3.out.alloc (.cells #[.string ByteArray.empty, .string ByteArray.empty, .bool false] 89)).keep hg5 (by simp; omega)); obtain ⟨x0, x1⟩ := X5.out.cells2; clear hm5 hg5)
      clear x0 x1
      refine (impl_listBlobs q b l.length (l.filter (dropP i)) _ M5.out (asc_filter HA.out _) (sml_filter HSM.out _) (by omega) (by omega)).mono ?_
      rintro e w6 ⟨u, rfl, hr, hb6⟩
      obtain ⟨a6, k6, c6, rfl⟩ := hr.own.form
      have R6 := Lib.hid hr
      have Z6 := Lib.hid (Z5.out.after hb6)
      have A6 := Lib.hid (A5.out.after hb6)
      have hlo := A5.out.size
      have hxz := Z5.out.lt
      clear hr hb6
      obtain ⟨z0, z1⟩ := Z6.out.cells2
      have fz0 := Z6.out.frozen 0
      have fz1 := Z6.out.frozen 1
      go_wp2
      exact bodyPost_ret (results_blobs2 Tryd.results30 _ _ (w.heap.size + 1) _ _ rfl (Z6.out.st2 _ _).cells2) rfl ⟨⟨a6, k6, c6, by rw [HQ.out, HO.out, HG.out]; rfl, by rw [HL.out]; exact ((R6.out.st2 hxz _ _).mono hlo).own, fun g hg => by have h := R6.out.lt g hg; exact ⟨Nat.le_trans hlo h.1, by simpa using h.2⟩⟩, A6.out.st2 (by omega) _ _⟩
    | some x =>
      have hl := (hlk.1 x hgb).1
      have HG := Lib.hid hgb
      obtain ⟨xi, xd, xb⟩ := x
      clear hlk hgb
      go_wp2_with (at_delete; refine wp_delete_bm rfl _ _ rfl b l.length l (l.filter (dropP i)) i rfl rfl (M3.out.alloc _) (by omega) (getB_drop HA.out i) ?_; intro w5 hm5 hg5; have M5 := Lib.hid hm5; have A5 := Lib.hid ((A3.out.alloc (.cells #[.string xi, .string xd, .bool xb] 89)).grow hg5 (fun k hk => by cases hk; omega)); have X5 := Lib.hid ((X3.out.alloc (.cells #[.string xi, .string xd, .bool xb] 89)).keep hg5 (by simp; omega)); have Z5 := Lib.hid ((Z3.out.alloc (.cells #[.string xi, .string xd, .bool xb] 89)).keep hg5 (by simp; omega)); obtain ⟨x0, x1⟩ := X5.out.cells2; clear hm5 hg5)
      clear x0 x1
      refine (impl_listBlobs q b l.length (l.filter (dropP i)) _ M5.out (asc_filter HA.out _) (sml_filter HSM.out _) (by omega) (by omega)).mono ?_
      rintro e w6 ⟨u, rfl, hr, hb6⟩
      obtain ⟨a6, k6, c6, rfl⟩ := hr.own.form
      have R6 := Lib.hid hr
      have Z6 := Lib.hid (Z5.out.after hb6)
      have A6 := Lib.hid (A5.out.after hb6)
      have hlo := A5.out.size
      have hxz := Z5.out.lt
      clear hr hb6
      obtain ⟨z0, z1⟩ := Z6.out.cells2
      have fz0 := Z6.out.frozen 0
      have fz1 := Z6.out.frozen 1
      go_wp2
      exact bodyPost_ret (results_blobs2 Tryd.results30 _ _ (w.heap.size + 1) _ _ rfl (Z6.out.st2 _ _).cells2) rfl ⟨⟨a6, k6, c6, by rw [HQ.out, HO.out, HG.out]; rfl, by rw [HL.out]; exact ((R6.out.st2 hxz _ _).mono hlo).own, fun g hg => by have h := R6.out.lt g hg; exact ⟨Nat.le_trans hlo h.1, by simpa using h.2⟩⟩, A6.out.st2 (by omega) _ _⟩
set_option maxRecDepth 100000 in
set_option maxHeartbeats 2000000 in
theorem impl_blobBend (v : Value) (l : List Bb) (q : Int) (i : ByteArray) (w : World) (hv : Blbs w v l) (hs : Sml l) (hi : i.size ≤ 1048576) (hT : Tabs w) :
    Calls Tryd.prog 29 #[.agg #[.int .i64 q, v], .string i] w fun e w' => RetB w.heap.size (okQ q l) (bendL q l i) (bendO q l i) e w' ∧ Below w.heap.size w w' := by
  obtain ⟨a, ca, hve⟩ := hv.slice
  subst hve
  have V := Lib.hid ((hv.alloc (.cells #[.int .i64 q, .slice a l.length ca] 41)).alloc (.cells #[.int .i64 0, .slice none 0 0] 41))
  have X0 := Lib.hid ((Bx.new w 41 #[.int .i64 q, .slice a l.length ca] _ rfl).alloc (.cells #[.int .i64 0, .slice none 0 0] 41))
  have Z0 := Lib.hid (Bx.new (w.alloc (.cells #[.int .i64 q, .slice a l.length ca] 41)) 41 #[.int .i64 0, .slice none 0 0] (w.heap.size + 1) (by simp))
  have A0 := Lib.hid (((Af.refl w).alloc (.cells #[.int .i64 q, .slice a l.length ca] 41)).alloc (.cells #[.int .i64 0, .slice none 0 0] 41))
  have HSM := Lib.hid hs
  have HT := Lib.hid hT
  clear hv hs hT
  go_enter Tryd.func29, Tryd.ntmps29
  go_wp2_with fail
  refine (impl_blobsOk _ l q _ V.out HSM.out (HT.out.later A0.out)).mono ?_
  rintro e w2 ⟨rfl, hb⟩
  have V2 := Lib.hid (V.out.later hb)
  have A2 := Lib.hid (A0.out.after hb)
  have X2 := Lib.hid (X0.out.after hb)
  have Z2 := Lib.hid (Z0.out.after hb)
  have xs2 := Z2.out.lt
  clear hb V X0 A0 Z0
  cases hok : okS q l with
  | false =>
    have HQ := Lib.hid (okQ_no hok)
    have HL := Lib.hid (bendL_no i hok)
    have HO := Lib.hid (bendO_no i hok)
    clear hok
    obtain ⟨z0, z1⟩ := Z2.out.cells2
    have fz0 := Z2.out.frozen 0
    have fz1 := Z2.out.frozen 1
    go_wp2
    exact bodyPost_ret (results_blobs2 Tryd.results29 _ _ (w.heap.size + 1) _ _ rfl (Z2.out.st2 _ _).cells2) rfl ⟨⟨none, 0, 0, by rw [HQ.out, HO.out]; rfl, by rw [HL.out]; exact blOwn_nil _ _ _ _, fun g hg => by cases hg⟩, A2.out.st2 (by omega) _ _⟩
  | true =>
    have h12 := ((okS_iff q l).1 hok).2.1
    have HA := Lib.hid (asc_of_ok hok)
    have HOK := Lib.hid hok
    obtain ⟨x0, x1⟩ := X2.out.cells2
    clear hok
    go_wp2_with fail
    clear x0 x1
    refine (impl_mapBlobs _ l _ V2.out HSM.out HA.out (by omega)).mono ?_
    rintro e w3 ⟨b, rfl, hm, hbb, hb⟩
    have A3 := Lib.hid (A2.out.after hb)
    have X3 := Lib.hid (X2.out.after hb)
    have Z3 := Lib.hid (Z2.out.after hb)
    have M3 := Lib.hid hm
    have hs3 := hb.size
    have hlk := hm.look i (by omega)
    clear hb hm V2 A2 X2 Z2
    have HQ := Lib.hid (okQ_yes HOK.out)
    have HL := Lib.hid (bendL_yes i HOK.out)
    cases hgb : getB l i with
    | none =>
      have hl := hlk.2 hgb
      have HO := Lib.hid (bendO_none (q := q) hgb)
      have HS := Lib.hid (bend_same (fun x hx e => absurd e (getB_none.1 hgb x hx)))
      have M5 := Lib.hid (M3.out.alloc (.cells #[.string ByteArray.empty, .string ByteArray.empty, .bool false] 89))
      have A5 := Lib.hid (A3.out.alloc (.cells #[.string ByteArray.empty, .string ByteArray.empty, .bool false] 89))
      have X5 := Lib.hid (X3.out.alloc (.cells #[.string ByteArray.empty, .string ByteArray.empty, .bool false] 89))
      have Z5 := Lib.hid (Z3.out.alloc (.cells #[.string ByteArray.empty, .string ByteArray.empty, .bool false] 89))
      clear hlk hgb
      obtain ⟨x0, x1⟩ := X5.out.cells2
      go_wp2_with fail
      clear x0 x1
      refine (impl_listBlobs q b l.length l _ M5.out HA.out HSM.out (by omega) (by omega)).mono ?_
      rintro e w6 ⟨u, rfl, hr, hb6⟩
      obtain ⟨a6, k6, c6, rfl⟩ := hr.own.form
      have R6 := Lib.hid hr
      have Z6 := Lib.hid (Z5.out.after hb6)
      have A6 := Lib.hid (A5.out.after hb6)
      have hlo := A5.out.size
      have hxz := Z5.out.lt
      clear hr hb6
      obtain ⟨z0, z1⟩ := Z6.out.cells2
      have fz0 := Z6.out.frozen 0
      have fz1 := Z6.out.frozen 1
      go_wp2
      exact bodyPost_ret (results_blobs2 Tryd.results29 _ _ (w.heap.size + 1) _ _ rfl (Z6.out.st2 _ _).cells2) rfl ⟨⟨a6, k6, c6, by rw [HQ.out, HO.out]; rfl, by rw [HL.out, HS.out]; exact ((R6.out.st2 hxz _ _).mono hlo).own, fun g hg => by have h := R6.out.lt g hg; exact ⟨Nat.le_trans hlo h.1, by simpa using h.2⟩⟩, A6.out.st2 (by omega) _ _⟩
    | some x =>
      have hl := (hlk.1 x hgb).1
      have HG := Lib.hid hgb
      have hxi := (getB_some hgb).2
      have HO := Lib.hid (bendO_some HOK.out hgb)
      have HX := Lib.hid (getB_some hgb)
      obtain ⟨xi, xd, xb⟩ := x
      simp only at hxi HO
      subst hxi
      clear hlk hgb
      have M4 := Lib.hid (M3.out.alloc (.cells #[.string xi, .string xd, .bool xb] 89))
      cases xb with
      | true =>
        have HS := Lib.hid (bend_same (l := l) (i := xi) (fun y hy e => by rw [asc_mem HA.out hy HX.out.1 e]))
        have M5 := M4
        have A5 := Lib.hid (A3.out.alloc (.cells #[.string xi, .string xd, .bool true] 89))
        have X5 := Lib.hid (X3.out.alloc (.cells #[.string xi, .string xd, .bool true] 89))
        have Z5 := Lib.hid (Z3.out.alloc (.cells #[.string xi, .string xd, .bool true] 89))
        clear M4
        obtain ⟨x0, x1⟩ := X5.out.cells2
        go_wp2_with fail
        clear x0 x1
        refine (impl_listBlobs q b l.length l _ M5.out HA.out HSM.out (by omega) (by omega)).mono ?_
        rintro e w6 ⟨u, rfl, hr, hb6⟩
        obtain ⟨a6, k6, c6, rfl⟩ := hr.own.form
        have R6 := Lib.hid hr
        have Z6 := Lib.hid (Z5.out.after hb6)
        have A6 := Lib.hid (A5.out.after hb6)
        have hlo := A5.out.size
        have hxz := Z5.out.lt
        clear hr hb6
        obtain ⟨z0, z1⟩ := Z6.out.cells2
        have fz0 := Z6.out.frozen 0
        have fz1 := Z6.out.frozen 1
        go_wp2
        exact bodyPost_ret (results_blobs2 Tryd.results29 _ _ (w.heap.size + 1) _ _ rfl (Z6.out.st2 _ _).cells2) rfl ⟨⟨a6, k6, c6, by rw [HQ.out, HO.out]; rfl, by rw [HL.out, HS.out]; exact ((R6.out.st2 hxz _ _).mono hlo).own, fun g hg => by have h := R6.out.lt g hg; exact ⟨Nat.le_trans hlo h.1, by simpa using h.2⟩⟩, A6.out.st2 (by omega) _ _⟩
      | false =>
        have M4 := Lib.hid (M3.out.alloc (.cells #[.string xi, .string xd, .bool true] 89))
        obtain ⟨w5, hup, hm5, hg5⟩ := M4.out.put (m := l.map (bendF xi)) ⟨xi, xd, true⟩ (show xi.size ≤ 1048577 by omega) (by omega) (getB_bend HA.out HG.out)
        have M5 := Lib.hid hm5
        have A5 := Lib.hid ((A3.out.alloc (.cells #[.string xi, .string xd, .bool true] 89)).grow hg5 (fun k hk => by cases hk; omega))
        have X5 := Lib.hid ((X3.out.alloc (.cells #[.string xi, .string xd, .bool true] 89)).keep hg5 (by simp; omega))
        have Z5 := Lib.hid ((Z3.out.alloc (.cells #[.string xi, .string xd, .bool true] 89)).keep hg5 (by simp; omega))
        clear hm5 hg5 M4
        obtain ⟨x0, x1⟩ := X5.out.cells2
        go_wp2_with fail
        clear x0 x1
        refine (impl_listBlobs q b (l.length + 1) (l.map (bendF xi)) _ M5.out (asc_map HA.out (bendF_id xi)) (sml_map HSM.out xi) (by omega) (by rw [List.length_map]; omega)).mono ?_
        rintro e w6 ⟨u, rfl, hr, hb6⟩
        obtain ⟨a6, k6, c6, rfl⟩ := hr.own.form
        have R6 := Lib.hid hr
        have Z6 := Lib.hid (Z5.out.after hb6)
        have A6 := Lib.hid (A5.out.after hb6)
        have hlo := A5.out.size
        have hxz := Z5.out.lt
        clear hr hb6
        obtain ⟨z0, z1⟩ := Z6.out.cells2
        have fz0 := Z6.out.frozen 0
        have fz1 := Z6.out.frozen 1
        go_wp2
        exact bodyPost_ret (results_blobs2 Tryd.results29 _ _ (w.heap.size + 1) _ _ rfl (Z6.out.st2 _ _).cells2) rfl ⟨⟨a6, k6, c6, by rw [HQ.out, HO.out]; rfl, by rw [HL.out]; exact ((R6.out.st2 hxz _ _).mono hlo).own, fun g hg => by have h := R6.out.lt g hg; exact ⟨Nat.le_trans hlo h.1, by simpa using h.2⟩⟩, A6.out.st2 (by omega) _ _⟩
end Go.Proofs.YtemhhjkmolndbaaDoor
