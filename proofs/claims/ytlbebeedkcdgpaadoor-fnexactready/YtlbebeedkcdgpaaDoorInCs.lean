/- The law's copy of a slice of instances. -/
import Derived.Test.YtlbebeedkcdgpaaDoorInCp
namespace Go.Proofs.YtlbebeedkcdgpaaDoor
open Go.RowKit Go.PlainAid
set_option linter.unusedVariables false

theorem Tryd.infoInst : (Tryd.prog.info? 48).map (fun i => (i.zero, i.size, i.bytes)) = some (some (.agg #[.int .i64 0, .int .i64 0, .int .i64 0, .int .i64 0, .int .i64 0, .int .i64 0, .int .i64 0, .int .i64 0, .string ⟨#[]⟩, .string ⟨#[]⟩, .string ⟨#[]⟩, .int .i64 0, .slice none 0 0, .int .i64 0, .slice none 0 0, .bool false]), 16, 184) := by kernel_rfl
/-- make([]Inst, n). -/
theorem make_insts (w : World) (n : Nat) (hb : n ≤ 1048576) :
    ∃ w1 cur, (Instr.makeSlice 28 (.int .i64 (n : Int)) (.int .i64 (n : Int))).run Tryd.prog w = .ok (.slice (some ⟨w.heap.size, 0, none⟩) n n) w1 ∧ w1.heap[w.heap.size]? = some (.cells cur 48 (0, 0)) ∧ cur.size = n * 16 ∧ Below w.heap.size w w1 ∧ w.heap.size < w1.heap.size := by
  obtain ⟨i, hi, hz, hs, hby⟩ := info_parts Tryd.infoInst
  have h := run_make (P := Tryd.prog) w 28 48 i _ Tryd.underlying28 hi hz .i64 .i64 n n (by omega) (Int.le_refl _) (by rw [hby]; omega) (by omega)
  simp only [Int.toNat_natCast, hs] at h
  exact ⟨_, _, h, heap_alloc_new w _, by simp [madeCells], (Below.refl _ _).alloc (Nat.le_refl _) _, by simp⟩
/-- Another instance's cells are left alone. -/
theorem InB.upd {cur : Array Value} {o q : Nat} {x : In} {u d : Value} (h : InB cur o x u d) (vs : List Value) (hv : vs.length = 16) (hq : q + 16 ≤ cur.size) (hne : o + 16 ≤ q ∨ q + 16 ≤ o) : InB (updL cur q vs) o x u d := by
  intro i hi
  rw [updL_get vs cur q (o + i) (by omega), if_neg (by omega)]
  exact h i hi
theorem InB.new (cur : Array Value) (q : Nat) (x : In) (u d : Value) (hq : q + 16 ≤ cur.size) : InB (updL cur q (inA x u d)) q x u d := by
  intro i hi
  rw [updL_get (inA x u d) cur q (q + i) (show q + 16 ≤ cur.size from hq), if_pos ⟨by omega, by show q + i < q + 16; omega⟩, show q + i - q = i by omega]
set_option maxRecDepth 100000 in
set_option maxHeartbeats 2000000 in
theorem to_insts (v : Value) (l : List In) (w : World) (hv : Insts w v l) (hl : Sm l) :
    Calls Tryd.prog 7 #[v] w fun e w' => ∃ u, e = .returned u ∧ InOwn w' w.heap.size w'.heap.size u l ∧ Below w.heap.size w w' ∧ w.heap.size < w'.heap.size := by
  obtain ⟨k1, a, ca, rfl, hca, ha⟩ := hv
  obtain ⟨n, hn⟩ : ∃ n, l.length = n := ⟨_, rfl⟩
  obtain ⟨w1, cur0, hmk, hrow, hcs, hb1, hlt1⟩ := make_insts w n (by rw [← hn]; exact hl.1)
  have HSM := Lib.hid hl
  have hln := hl.1
  rw [hn] at k1 hca ha hln ⊢
  have HN := Lib.hid hn
  have HA := Lib.hid ha
  have HR := Lib.hid (And.intro hrow hcs)
  have HB := Lib.hid hb1
  obtain ⟨g, hg⟩ : ∃ g, g = w.heap.size := ⟨_, rfl⟩
  rw [← hg] at hmk HR HB hlt1 ⊢
  have HG := Lib.hid hg
  have HLT := Lib.hid hlt1
  clear hn ha hca hrow hcs hb1 hg hlt1 hl
  go_enter Tryd.func7, Tryd.ntmps7
  go_wp2
  clear hmk
  go_loopw [4] (fun i wr => ∃ (k : Nat) (cur : Array Value), k ≤ n ∧ i = .int .i64 k ∧ wr.heap[g]? = some (.cells cur 48 (0, 0)) ∧ cur.size = n * 16 ∧ (∀ j, j < k → ∃ u d, InB cur (j * 16) (nth l j) u d ∧ PtO wr g wr.heap.size (nth l j) u d ∧ u.ownBlock ≠ some g ∧ d.ownBlock ≠ some g) ∧ Below g w wr) (fun i _ => n - (intOf i).toNat)
  case atStart => exact ⟨0, cur0, by omega, rfl, HR.out.1, HR.out.2, fun j hj => by omega, HB.out⟩
  case round =>
    clear HR HB HLT
    obtain ⟨k, cur, hk, rfl, hrow, hcs, hel, hb⟩ := hrel
    have HROW := Lib.hid hrow
    have HEL := Lib.hid hel
    have HB := Lib.hid hb
    have hgr : g < wr.heap.size := (Array.getElem?_eq_some_iff.1 hrow).1
    clear hrow hel hb
    by_cases hlt : k < n
    · obtain ⟨y, o, rfl, hy, hcy⟩ := HA.out (by omega)
      obtain ⟨u, d, cc, pp⟩ := hcy k hlt
      have hyg : y < g := by rw [HG.out]; exact hy
      obtain ⟨c0, c1, c2, c3, c4, c5, c6, c7, c8, c9, c10, c11, c12, c13, c14, c15⟩ := cc.below HB.out hyg
      have HPP := Lib.hid (pp.later (show Below w.heap.size w wr by rw [← HG.out]; exact HB.out))
      have HSZ := Lib.hid (HSM.out.2 k (by rw [HN.out]; exact hlt))
      clear hcy cc pp
      go_wp2_with fail
      clear c0 c1 c2 c3 c4 c5 c6 c7 c8 c9 c10 c11 c12 c13 c14 c15
      refine (to_inst (nth l k) u d _ HPP.out HSZ.out.1 HSZ.out.2).mono ?_
      rintro e w2 ⟨⟨a1, n1, c1, a2, n2, c2, rfl, p2⟩, b2⟩
      have hz2 := b2.size
      have HROW2 := Lib.hid ((b2.block g hgr).trans HROW.out)
      have P2 := Lib.hid p2
      have HB2 := Lib.hid (HB.out.trans (b2.mono (by omega)))
      have HEL2 := Lib.hid (fun j hj => (by
        obtain ⟨u, d, q1, q2, q3, q4⟩ := HEL.out j hj
        exact ⟨u, d, q1, (q2.later b2).mono (Nat.le_refl _) hz2, q3, q4⟩ : ∃ u d, InB cur (j * 16) (nth l j) u d ∧ PtO w2 g w2.heap.size (nth l j) u d ∧ u.ownBlock ≠ some g ∧ d.ownBlock ≠ some g))
      obtain ⟨z0, z1, z2, z3, z4, z5, z6, z7, z8, z9, z10, z11, z12, z13, z14, z15, ⟨d0, d1, d2, d3, d4, d5, d6, d7, d8, d9, d10, d11, d12, d13, d14, d15⟩, f0, f1, f2, f3, f4, f5, f6, f7, f8, f9, f10, f11, f12, f13, f14, f15⟩ := row16 (off := k * 16) HROW2.out (by omega)
      clear p2 b2 HROW HEL HB HPP
      generalize hxk : nth l k = x at P2 ⊢
      have HXK := Lib.hid hxk
      clear hxk
      go_wp2
      go_roundw
      case rel =>
        refine ⟨k + 1, updL cur (k * 16) (inA x (.slice a1 n1 c1) (.slice a2 n2 c2)), by omega, by go_num, setL_heap (inA x (.slice a1 n1 c1) (.slice a2 n2 c2)) w2 cur (k * 16) HROW2.out, by rw [updL_size]; exact hcs, ?_, ?_⟩
        · intro j hj
          have hG := setL_grown g (inA x (.slice a1 n1 c1) (.slice a2 n2 c2)) w2 (k * 16)
          have hZ := setL_size g (inA x (.slice a1 n1 c1) (.slice a2 n2 c2)) w2 (k * 16)
          have main : ∃ u d, InB (updL cur (k * 16) (inA x (.slice a1 n1 c1) (.slice a2 n2 c2))) (j * 16) (nth l j) u d ∧ PtO (setL w2 g (k * 16) (inA x (.slice a1 n1 c1) (.slice a2 n2 c2))) g (setL w2 g (k * 16) (inA x (.slice a1 n1 c1) (.slice a2 n2 c2))).heap.size (nth l j) u d ∧ u.ownBlock ≠ some g ∧ d.ownBlock ≠ some g := by
            by_cases e : j = k
            · subst e
              refine ⟨.slice a1 n1 c1, .slice a2 n2 c2, by rw [HXK.out]; exact InB.new cur _ x _ _ (by omega), ?_, fun e => by have := (P2.out.bu g e).1; omega, fun e => by have := (P2.out.bd g e).1; omega⟩
              rw [hZ, HXK.out]
              exact (P2.out.mono (Nat.le_of_lt hgr) (Nat.le_refl _)).kept hG (fun k hk => by cases hk; exact ⟨fun e => by have := (P2.out.bu g e).1; omega, fun e => by have := (P2.out.bd g e).1; omega⟩)
            · obtain ⟨u, d, q1, q2, q3, q4⟩ := HEL2.out j (by omega)
              refine ⟨u, d, q1.upd _ rfl (by omega) (by omega), ?_, q3, q4⟩
              rw [hZ]
              exact q2.kept hG (fun k hk => by cases hk; exact ⟨q3, q4⟩)
          exact main
        · exact Below.grown HB2.out (setL_grown g (inA x (.slice a1 n1 c1) (.slice a2 n2 c2)) w2 (k * 16)) (by omega) (fun k hk => by cases hk; exact Nat.le_refl _)
      case measure => simp only [intOf]; omega
    · obtain rfl : k = n := by omega
      go_wp2
      go_ret
      exact ⟨_, rfl, ⟨_, k, by rw [HN.out]; rfl, by rw [HN.out]; exact Nat.le_refl _, by rw [HN.out]; omega, fun h0 => ⟨g, 0, cur, rfl, ⟨Nat.le_refl _, hgr, by omega⟩, HROW.out, fun j hj => by rw [HN.out] at hj; rw [Nat.zero_add]; exact HEL.out j hj⟩⟩, HB.out, hgr⟩
end Go.Proofs.YtlbebeedkcdgpaaDoor
