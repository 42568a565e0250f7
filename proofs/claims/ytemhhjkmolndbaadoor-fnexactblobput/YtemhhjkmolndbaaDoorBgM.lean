/- BlobGet and its model, and the model's l7At. -/
import Derived.Test.YtemhhjkmolndbaaDoorBmL
import Derived.Test.YtemhhjkmolndbaaDoorBkS
namespace Go.Proofs.YtemhhjkmolndbaaDoor
open Go.RowKit Go.PlainAid
set_option linter.unusedVariables false

theorem getB_first {l : List Bb} {k : ByteArray} {j : Nat} (hj : j < l.length) (h1 : ∀ i, i < j → bI l i ≠ k) (h2 : bI l j = k) : getB l k = some ⟨bI l j, bD l j, bX l j⟩ := by
  unfold getB
  refine List.find?_eq_some_iff_getElem.2 ⟨by simpa using h2, j, hj, bb_at l j hj, fun i hi => ?_⟩
  rw [bb_at l i (by omega)]
  simpa using h1 i hi
theorem getB_no {l : List Bb} {k : ByteArray} (h1 : ∀ i, i < l.length → bI l i ≠ k) : getB l k = none := by
  refine getB_none.2 fun x hx => ?_
  obtain ⟨i, hi, e⟩ := List.getElem_of_mem hx
  rw [← e, bb_at l i hi]
  exact h1 i hi
/-- Where l7At finds it. -/
def AtB (l : List Bb) (i : ByteArray) (k : Int) : Prop := (k = -1 ∧ getB l i = none) ∨ ∃ j : Nat, j < l.length ∧ k = j ∧ bI l j = i ∧ getB l i = some ⟨bI l j, bD l j, bX l j⟩
set_option maxRecDepth 100000 in
set_option maxHeartbeats 1000000 in
theorem spec_at (v : Value) (l : List Bb) (q : Int) (i : ByteArray) (w : World) (hv : Blbs w v l) :
    Calls Tryd.prog 62 #[.agg #[.int .i64 q, v], .string i] w fun e w' => (∃ k, e = .returned (.int .i64 k) ∧ AtB l i k) ∧ Below w.heap.size w w' := by
  obtain ⟨k1, k2, a, ca, rfl, hca, ha⟩ := hv
  obtain ⟨n, hn⟩ : ∃ n, l.length = n := ⟨_, rfl⟩
  rw [hn] at k1 k2 hca ha ⊢
  have HN := Lib.hid hn
  have HA := Lib.hid ha
  have X0 := Lib.hid (Bx.new w 41 #[.int .i64 q, .slice a n ca] _ rfl)
  clear hn ha k2 hca
  go_enter Tryd.func62, Tryd.ntmps62
  go_wp2
  go_loopw [5] (fun iv wr => ∃ k : Nat, k ≤ n ∧ iv = .int .i64 k ∧ (∀ j, j < k → bI l j ≠ i) ∧ Bx wr w.heap.size 41 #[.int .i64 q, .slice a n ca] ∧ Below w.heap.size w wr) (fun iv _ => n - (intOf iv).toNat)
  case atStart => exact ⟨0, by omega, rfl, fun j hj => by omega, X0.out, (Below.refl _ _).alloc (Nat.le_refl _) _⟩
  case round =>
    obtain ⟨k, hk, rfl, he, hx, hb⟩ := hrel
    have HB := Lib.hid hb
    have X := Lib.hid hx
    have HE := Lib.hid he
    obtain ⟨x0, x1⟩ := hx.cells2
    clear hb hx X0 he
    by_cases hlt : k < n
    · obtain ⟨y, o, rfl, hy, hcy⟩ := HA.out (by omega)
      obtain ⟨c1, c2, c3⟩ := (hcy k hlt).below HB.out hy
      clear hcy
      by_cases hid : bI l k = i
      · have HG := Lib.hid (getB_first (by rw [HN.out]; exact hlt) HE.out hid)
        have HI := Lib.hid hid
        rw [hid] at c1
        clear hid
        go_wp2
        go_ret
        exact ⟨⟨_, rfl, .inr ⟨k, by rw [HN.out]; exact hlt, rfl, HI.out, HG.out⟩⟩, HB.out⟩
      · have hne := ne_list hid
        have HI := Lib.hid hid
        clear hid
        go_wp2
        go_roundw
        case rel =>
          refine ⟨k + 1, by omega, by go_num, fun j hj => ?_, X.out, HB.out⟩
          by_cases e : j = k
          · subst e; exact HI.out
          · exact HE.out j (by omega)
        case measure => simp only [intOf]; omega
    · obtain rfl : k = n := by omega
      have HG := Lib.hid (getB_no (fun j hj => HE.out j (by rw [HN.out] at hj; exact hj)))
      go_wp2
      go_ret
      exact ⟨⟨_, rfl, .inl ⟨rfl, HG.out⟩⟩, HB.out⟩

/-- What BlobGet answers. -/
@[irreducible] def getR (q : Int) (l : List Bb) (i : ByteArray) : ByteArray × Nat := if okS q l = true then (match getB l i with | none => (⟨#[]⟩, 1) | some x => if x.bad = true then (⟨#[]⟩, 2) else (x.dat, 0)) else (⟨#[]⟩, 1)
theorem getR_no {q : Int} {l : List Bb} {i : ByteArray} (h : okS q l = false ∨ getB l i = none) : getR q l i = (⟨#[]⟩, 1) := by
  unfold getR
  rcases h with h | h
  · rw [h]; rfl
  · split
    · rw [h]
    · rfl
theorem getR_bad {q : Int} {l : List Bb} {i : ByteArray} {x : Bb} (h : okS q l = true) (hx : getB l i = some x) (hb : x.bad = true) : getR q l i = (⟨#[]⟩, 2) := by
  unfold getR
  rw [if_pos h, hx]
  simp [hb]
theorem getR_yes {q : Int} {l : List Bb} {i : ByteArray} {x : Bb} (h : okS q l = true) (hx : getB l i = some x) (hb : x.bad = false) : getR q l i = (x.dat, 0) := by
  unfold getR
  rw [if_pos h, hx]
  simp [hb]
set_option maxRecDepth 100000 in
set_option maxHeartbeats 1000000 in
theorem spec_blobGet (v : Value) (l : List Bb) (q : Int) (i : ByteArray) (w : World) (hv : Blbs w v l) (hs : Sml l) :
    Calls Tryd.prog 38 #[.agg #[.int .i64 q, v], .string i] w fun e w' => e = .returned (.tuple #[.string (getR q l i).1, .int .i64 (getR q l i).2]) ∧ Below w.heap.size w w' := by
  obtain ⟨a, ca, hve⟩ := hv.slice
  subst hve
  have V := Lib.hid (hv.alloc (.cells #[.int .i64 q, .slice a l.length ca] 41))
  have X0 := Lib.hid (Bx.new w 41 #[.int .i64 q, .slice a l.length ca] _ rfl)
  have A0 := Lib.hid ((Af.refl w).alloc (.cells #[.int .i64 q, .slice a l.length ca] 41))
  have HSM := Lib.hid hs
  obtain ⟨n, hn⟩ : ∃ n, l.length = n := ⟨_, rfl⟩
  have hlen := hv.len
  rw [hn] at V X0 A0 hlen ⊢
  have HN := Lib.hid hn
  clear hv hs hn
  go_enter Tryd.func38, Tryd.ntmps38
  go_wp2_with fail
  refine (spec_at _ l q i _ V.out).mono ?_
  rintro e w2 ⟨⟨k, rfl, hk⟩, hb⟩
  have V2 := Lib.hid (V.out.later hb)
  have A2 := Lib.hid (A0.out.after hb)
  have X2 := Lib.hid (X0.out.after hb)
  have K := Lib.hid hk
  clear hb V X0 A0 hk
  obtain ⟨x0, x1⟩ := X2.out.cells2
  go_wp2_with fail
  clear x0 x1
  refine (spec_blobsOk _ l q _ V2.out HSM.out).mono ?_
  rintro e w3 ⟨rfl, hb⟩
  have V3 := Lib.hid (V2.out.later hb)
  have A3 := Lib.hid (A2.out.after hb)
  have X3 := Lib.hid (X2.out.after hb)
  clear hb V2 X2 A2
  cases hok : okS q l with
  | false =>
    have HR := Lib.hid (getR_no (i := i) (.inl hok))
    clear hok
    go_wp2
    go_ret2
    exact ⟨by rw [HR.out]; rfl, A3.out⟩
  | true =>
    rcases K.out with ⟨rfl, hg⟩ | ⟨j, hj, rfl, hi, hg⟩
    · have HR := Lib.hid (getR_no (q := q) (.inr hg))
      clear hok hg
      go_wp2
      go_ret2
      exact ⟨by rw [HR.out]; rfl, A3.out⟩
    · obtain ⟨y, o, ca', hse, _, hy, hcy⟩ := V3.out.at0 (by omega)
      simp only [Value.slice.injEq] at hse
      obtain ⟨rfl, hnl, rfl⟩ := hse
      obtain ⟨c1, c2, c3⟩ := hcy j hj
      obtain ⟨x0, x1⟩ := X3.out.cells2
      rw [HN.out] at hj
      have hj0 : decide ((j : Int) < 0) = false := by simp
      clear hcy hnl
      cases hb : bX l j with
      | true =>
        have HR := Lib.hid (getR_bad hok hg hb)
        rw [hb] at c3
        clear hok hg hb hi
        go_wp2
        go_ret2
        exact ⟨by rw [HR.out]; rfl, A3.out⟩
      | false =>
        have HR := Lib.hid (getR_yes hok hg hb)
        rw [hb] at c3
        clear hok hg hb hi
        go_wp2
        go_ret2
        exact ⟨by rw [HR.out]; rfl, A3.out⟩
set_option maxRecDepth 100000 in
set_option maxHeartbeats 1000000 in
theorem impl_blobGet (v : Value) (l : List Bb) (q : Int) (i : ByteArray) (w : World) (hv : Blbs w v l) (hs : Sml l) (hi : i.size ≤ 1048576) (hT : Tabs w) :
    Calls Tryd.prog 28 #[.agg #[.int .i64 q, v], .string i] w fun e w' => e = .returned (.tuple #[.string (getR q l i).1, .int .i64 (getR q l i).2]) ∧ Below w.heap.size w w' := by
  obtain ⟨a, ca, hve⟩ := hv.slice
  subst hve
  have V := Lib.hid (hv.alloc (.cells #[.int .i64 q, .slice a l.length ca] 41))
  have X0 := Lib.hid (Bx.new w 41 #[.int .i64 q, .slice a l.length ca] _ rfl)
  have A0 := Lib.hid ((Af.refl w).alloc (.cells #[.int .i64 q, .slice a l.length ca] 41))
  have HSM := Lib.hid hs
  have HT := Lib.hid hT
  clear hv hs hT
  go_enter Tryd.func28, Tryd.ntmps28
  go_wp2_with fail
  refine (impl_blobsOk _ l q _ V.out HSM.out (HT.out.later A0.out)).mono ?_
  rintro e w2 ⟨rfl, hb⟩
  have V2 := Lib.hid (V.out.later hb)
  have A2 := Lib.hid (A0.out.after hb)
  have X2 := Lib.hid (X0.out.after hb)
  clear hb V X0 A0
  cases hok : okS q l with
  | false =>
    have HR := Lib.hid (getR_no (i := i) (.inl hok))
    clear hok
    go_wp2
    go_ret2
    exact ⟨by rw [HR.out]; rfl, A2.out⟩
  | true =>
    have h12 := ((okS_iff q l).1 hok).2.1
    have HA := Lib.hid (asc_of_ok hok)
    obtain ⟨x0, x1⟩ := X2.out.cells2
    have HOK := Lib.hid hok
    clear hok
    go_wp2_with fail
    clear x0 x1
    refine (impl_mapBlobs _ l _ V2.out HSM.out HA.out (by omega)).mono ?_
    rintro e w3 ⟨b, rfl, hm, hbb, hb⟩
    have A3 := Lib.hid (A2.out.after hb)
    have hlk := hm.look i (by omega)
    clear hb hm
    cases hg : getB l i with
    | none =>
      have HR := Lib.hid (getR_no (q := q) (.inr hg))
      have hl := hlk.2 hg
      clear hlk hg
      go_wp2
      go_ret2
      exact ⟨by rw [HR.out]; rfl, A3.out.alloc _⟩
    | some x =>
      have hl := (hlk.1 x hg).1
      have hxs : x.dat.size ≤ 1048576 := by
        obtain ⟨hx, _⟩ := getB_some hg
        obtain ⟨j, hj, e⟩ := List.getElem_of_mem hx
        rw [← e, bb_at l j hj]
        exact (HSM.out j hj).2
      cases hb : x.bad with
      | true =>
        have HR := Lib.hid (getR_bad HOK.out hg hb)
        obtain ⟨xi, xd, xb⟩ := x
        simp only at hb
        subst hb
        clear hlk hg
        go_wp2
        go_ret2
        exact ⟨by rw [HR.out]; rfl, A3.out.alloc _⟩
      | false =>
        have HR := Lib.hid (getR_yes HOK.out hg hb)
        obtain ⟨xi, xd, xb⟩ := x
        simp only at hb hxs
        subst hb
        clear hlk hg
        have HC := Lib.hid (fun W => clone_c xd W hxs)
        go_wp2_with fail
        refine (HC.out _).mono ?_
        rintro e w4 ⟨rfl, hb4⟩
        have A4 := Lib.hid ((A3.out.alloc _).after hb4)
        clear hb4
        go_wp2
        go_ret2
        exact ⟨by rw [HR.out]; rfl, A4.out⟩
end Go.Proofs.YtemhhjkmolndbaaDoor
