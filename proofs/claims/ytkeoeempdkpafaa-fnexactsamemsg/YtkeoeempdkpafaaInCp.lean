/- The law's copy of instances: the copy owns its memory. -/
import Derived.Test.YtkeoeempdkpafaaInTo
namespace Go.Proofs.Ytkeoeempdkpafaa
open Go.RowKit Go.PlainAid
set_option linter.unusedVariables false

theorem updL_eq (vs : List Value) (cur : Array Value) (off : Nat) (h : off + vs.length ≤ cur.size) : updL cur off vs = (cur.toList.take off ++ (vs ++ cur.toList.drop (off + vs.length))).toArray := by
  apply Array.ext_getElem?
  intro i
  have et : ∀ L : List Value, (L.toArray)[i]? = L[i]? := fun L => by simp
  refine Eq.trans ?_ (et _).symm
  rw [updL_get vs cur off i h]
  have hl : (cur.toList.take off).length = off := by rw [List.length_take, Array.length_toList]; omega
  by_cases h1 : i < off
  · rw [if_neg (by omega), List.getElem?_append_left (by omega), List.getElem?_take, if_pos h1, Array.getElem?_toList]
  · rw [List.getElem?_append_right (by omega), hl]
    by_cases h2 : i < off + vs.length
    · rw [if_pos ⟨by omega, h2⟩, List.getElem?_append_left (by omega)]
    · rw [if_neg (by omega), List.getElem?_append_right (by omega), List.getElem?_drop, Array.getElem?_toList, show off + vs.length + (i - off - vs.length) = i by omega]
/-- The cells of an instance. -/
abbrev inA (x : In) (u d : Value) : List Value := [.int .i64 x.rep, .int .i64 x.slot, .int .i64 x.bal, .int .i64 x.vbal, .int .i64 x.st, .int .i64 x.cmd.kind, .int .i64 x.cmd.client, .int .i64 x.cmd.no, .string x.cmd.set, .string x.cmd.name, .string x.cmd.tag, .int .i64 x.cmd.n, u, .int .i64 x.seq, d, .bool x.same]
/-- The cells of an instance lie at o in a row. -/
def InB (cur : Array Value) (o : Nat) (x : In) (u d : Value) : Prop := ∀ i, i < 16 → cur[o + i]? = (inA x u d)[i]?
theorem InB.inC {w : World} {g o : Nat} {t : TypeId} {cur : Array Value} {x : In} {u d : Value} (h : InB cur o x u d) (hg : w.heap[g]? = some (.cells cur t (0, 0))) : InC w g o x u d := by
  have hc : ∀ i, i < 16 → w.cell? ⟨g, o + i, none⟩ = (inA x u d)[i]? := fun i hi => by rw [cell_of_row w g _ cur _ (0, 0) hg]; exact h i hi
  exact ⟨hc 0 (by omega), hc 1 (by omega), hc 2 (by omega), hc 3 (by omega), hc 4 (by omega), hc 5 (by omega), hc 6 (by omega), hc 7 (by omega), hc 8 (by omega), hc 9 (by omega), hc 10 (by omega), hc 11 (by omega), hc 12 (by omega), hc 13 (by omega), hc 14 (by omega), hc 15 (by omega)⟩
/-- The parts of an instance, owned: their blocks lie in [lo, hi). -/
structure PtO (w : World) (lo hi : Nat) (x : In) (u d : Value) : Prop where
  st : StO w lo u x.cmd.ch
  ids : IdOwn w lo d x.deps
  bu : ∀ k, u.ownBlock = some k → lo ≤ k ∧ k < hi
  bd : ∀ k, d.ownBlock = some k → lo ≤ k ∧ k < hi
  fit : Fit x
theorem PtO.pts {w : World} {lo hi : Nat} {x : In} {u d : Value} (h : PtO w lo hi x u d) : Pts w x u d := ⟨h.st.strs, h.ids.ids, h.fit⟩
theorem PtO.later {w w' : World} {lo hi : Nat} {x : In} {u d : Value} (h : PtO w lo hi x u d) (hb : Below w.heap.size w w') : PtO w' lo hi x u d := ⟨h.st.later hb, h.ids.later hb, h.bu, h.bd, h.fit⟩
theorem PtO.mono {w : World} {lo hi lo' hi' : Nat} {x : In} {u d : Value} (h : PtO w lo hi x u d) (h1 : lo' ≤ lo) (h2 : hi ≤ hi') : PtO w lo' hi' x u d :=
  ⟨h.st.mono h1, h.ids.mono h1, fun k hk => by have := h.bu k hk; omega, fun k hk => by have := h.bd k hk; omega, h.fit⟩
theorem PtO.kept {w w' : World} {lo hi : Nat} {x : In} {u d : Value} {row : Option Nat} (h : PtO w lo hi x u d) (hg : w.grownBy w' row) (h1 : ∀ k, row = some k → u.ownBlock ≠ some k ∧ d.ownBlock ≠ some k) : PtO w' lo hi x u d :=
  ⟨⟨h.st.1.keepB hg (fun k hk => (h1 k hk).1), h.st.2⟩, h.ids.keepB hg (fun _ k hk => (h1 k hk).2), h.bu, h.bd, h.fit⟩
theorem wp_worldC {P : Program} {f : FuncId} {args : Array Value} {w W : World} {Q : Ending → World → Prop} (h : W = w) (hc : Calls P f args W Q) : Calls P f args w Q := h ▸ hc
theorem cells16 {w : World} {g : Nat} {t : TypeId} {x0 x1 x2 x3 x4 x5 x6 x7 x8 x9 x10 x11 x12 x13 x14 x15 : Value} (h : Bx w g t #[x0, x1, x2, x3, x4, x5, x6, x7, x8, x9, x10, x11, x12, x13, x14, x15]) : w.cell? ⟨g, 0, none⟩ = some x0 ∧ w.cell? ⟨g, 1, none⟩ = some x1 ∧ w.cell? ⟨g, 2, none⟩ = some x2 ∧ w.cell? ⟨g, 3, none⟩ = some x3 ∧ w.cell? ⟨g, 4, none⟩ = some x4 ∧ w.cell? ⟨g, 5, none⟩ = some x5 ∧ w.cell? ⟨g, 6, none⟩ = some x6 ∧ w.cell? ⟨g, 7, none⟩ = some x7 ∧ w.cell? ⟨g, 8, none⟩ = some x8 ∧ w.cell? ⟨g, 9, none⟩ = some x9 ∧ w.cell? ⟨g, 10, none⟩ = some x10 ∧ w.cell? ⟨g, 11, none⟩ = some x11 ∧ w.cell? ⟨g, 12, none⟩ = some x12 ∧ w.cell? ⟨g, 13, none⟩ = some x13 ∧ w.cell? ⟨g, 14, none⟩ = some x14 ∧ w.cell? ⟨g, 15, none⟩ = some x15 :=
  ⟨h.cell 0 _ rfl, h.cell 1 _ rfl, h.cell 2 _ rfl, h.cell 3 _ rfl, h.cell 4 _ rfl, h.cell 5 _ rfl, h.cell 6 _ rfl, h.cell 7 _ rfl, h.cell 8 _ rfl, h.cell 9 _ rfl, h.cell 10 _ rfl, h.cell 11 _ rfl, h.cell 12 _ rfl, h.cell 13 _ rfl, h.cell 14 _ rfl, h.cell 15 _ rfl⟩
theorem froz16 {w : World} {g : Nat} {t : TypeId} {cs : Array Value} (h : Bx w g t cs) : w.frozen? ⟨g, 0, none⟩ = false ∧ w.frozen? ⟨g, 1, none⟩ = false ∧ w.frozen? ⟨g, 2, none⟩ = false ∧ w.frozen? ⟨g, 3, none⟩ = false ∧ w.frozen? ⟨g, 4, none⟩ = false ∧ w.frozen? ⟨g, 5, none⟩ = false ∧ w.frozen? ⟨g, 6, none⟩ = false ∧ w.frozen? ⟨g, 7, none⟩ = false ∧ w.frozen? ⟨g, 8, none⟩ = false ∧ w.frozen? ⟨g, 9, none⟩ = false ∧ w.frozen? ⟨g, 10, none⟩ = false ∧ w.frozen? ⟨g, 11, none⟩ = false ∧ w.frozen? ⟨g, 12, none⟩ = false ∧ w.frozen? ⟨g, 13, none⟩ = false ∧ w.frozen? ⟨g, 14, none⟩ = false ∧ w.frozen? ⟨g, 15, none⟩ = false :=
  ⟨h.frozen 0, h.frozen 1, h.frozen 2, h.frozen 3, h.frozen 4, h.frozen 5, h.frozen 6, h.frozen 7, h.frozen 8, h.frozen 9, h.frozen 10, h.frozen 11, h.frozen 12, h.frozen 13, h.frozen 14, h.frozen 15⟩
end Go.Proofs.Ytkeoeempdkpafaa
