/- Commands in memory: boxes that hold one, and what stays of them. -/
import Derived.Test.YtlbebeedkcdgpaaDoorCmdV
import Derived.Deep.RegionHeld3
namespace Go.Proofs.YtlbebeedkcdgpaaDoor
open Go.RowKit Go.PlainAid
set_option linter.unusedVariables false

/-- Block g is a box with the command c, its Chunks the slice v. -/
def Has (w : World) (g : Nat) (t : TypeId) (c : CmdM) (v : Value) : Prop := Box w g t #[.int .i64 c.kind, .int .i64 c.client, .int .i64 c.no, .string c.set, .string c.name, .string c.tag, .int .i64 c.n, v] ∧ Strs w v c.ch
theorem Has.after {w w' : World} {g : Nat} {t : TypeId} {c : CmdM} {v : Value} (h : Has w g t c v) (hb : Below w.heap.size w w') : Has w' g t c v := ⟨h.1.after hb, h.2.later hb⟩
theorem Has.alloc {w : World} {g : Nat} {t : TypeId} {c : CmdM} {v : Value} (h : Has w g t c v) (o : Obj) : Has (w.alloc o) g t c v := ⟨h.1.alloc o, h.2.alloc o⟩
theorem Has.drew {w : World} {g : Nat} {t : TypeId} {c : CmdM} {v : Value} (h : Has w g t c v) : Has w.drew g t c v := ⟨h.1.drew, h.2.drew⟩
theorem Has.lt {w : World} {g : Nat} {t : TypeId} {c : CmdM} {v : Value} (h : Has w g t c v) : g < w.heap.size := h.1.lt
theorem Has.new (w : World) (t : TypeId) (c : CmdM) (v : Value) (g : Nat) (hg : w.heap.size = g) (hv : Strs w v c.ch) :
    Has (w.alloc (.cells #[.int .i64 c.kind, .int .i64 c.client, .int .i64 c.no, .string c.set, .string c.name, .string c.tag, .int .i64 c.n, v] t)) g t c v := ⟨Box.new w t _ g hg, hv.alloc _⟩
theorem Has.cells {w : World} {g : Nat} {t : TypeId} {c : CmdM} {v : Value} (h : Has w g t c v) : w.cell? ⟨g, 0, none⟩ = some (.int .i64 c.kind) ∧ w.cell? ⟨g, 1, none⟩ = some (.int .i64 c.client) ∧ w.cell? ⟨g, 2, none⟩ = some (.int .i64 c.no) ∧ w.cell? ⟨g, 3, none⟩ = some (.string c.set) ∧ w.cell? ⟨g, 4, none⟩ = some (.string c.name) ∧ w.cell? ⟨g, 5, none⟩ = some (.string c.tag) ∧ w.cell? ⟨g, 6, none⟩ = some (.int .i64 c.n) ∧ w.cell? ⟨g, 7, none⟩ = some (v) := h.1.cells8
theorem Has.cells2 {w : World} {g g' : Nat} {t t' : TypeId} {c c' : CmdM} {v v' : Value} (h : Has w g t c v) (h' : Has w g' t' c' v') : (w.cell? ⟨g, 0, none⟩ = some (.int .i64 c.kind) ∧ w.cell? ⟨g, 1, none⟩ = some (.int .i64 c.client) ∧ w.cell? ⟨g, 2, none⟩ = some (.int .i64 c.no) ∧ w.cell? ⟨g, 3, none⟩ = some (.string c.set) ∧ w.cell? ⟨g, 4, none⟩ = some (.string c.name) ∧ w.cell? ⟨g, 5, none⟩ = some (.string c.tag) ∧ w.cell? ⟨g, 6, none⟩ = some (.int .i64 c.n) ∧ w.cell? ⟨g, 7, none⟩ = some (v)) ∧ w.cell? ⟨g', 0, none⟩ = some (.int .i64 c'.kind) ∧ w.cell? ⟨g', 1, none⟩ = some (.int .i64 c'.client) ∧ w.cell? ⟨g', 2, none⟩ = some (.int .i64 c'.no) ∧ w.cell? ⟨g', 3, none⟩ = some (.string c'.set) ∧ w.cell? ⟨g', 4, none⟩ = some (.string c'.name) ∧ w.cell? ⟨g', 5, none⟩ = some (.string c'.tag) ∧ w.cell? ⟨g', 6, none⟩ = some (.int .i64 c'.n) ∧ w.cell? ⟨g', 7, none⟩ = some (v') := ⟨h.1.cells8, h'.1.cells8⟩
/-- Later than w0: all that stood there stands. -/
def Aft (w0 w : World) : Prop := Below w0.heap.size w0 w
theorem Aft.refl (w : World) : Aft w w := Below.refl _ _
theorem Aft.after {w0 w w' : World} (h : Aft w0 w) (hb : Below w.heap.size w w') : Aft w0 w' := Below.trans h (hb.mono (Below.size h))
theorem Aft.alloc {w0 w : World} (h : Aft w0 w) (o : Obj) : Aft w0 (w.alloc o) := h.after ((Below.refl _ _).alloc (Nat.le_refl _) _)
theorem Aft.drew {w0 w : World} (h : Aft w0 w) : Aft w0 w.drew := Below.drew h
end Go.Proofs.YtlbebeedkcdgpaaDoor
