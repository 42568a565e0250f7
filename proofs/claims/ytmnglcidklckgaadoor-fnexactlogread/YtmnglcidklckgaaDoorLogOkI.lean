/- LogOk, by one contract. -/
import Derived.Test.YtmnglcidklckgaaDoorResI
import Derived.Deep.RegionLaw
namespace Go.Proofs.YtmnglcidklckgaaDoor
open Go.RowKit Go.PlainAid
set_option linter.unusedVariables false

theorem check_ok (v : Value) (l : List Sg) (n m : Int) (w : World) (hv : Segs w v l) (ht : ∀ j, j < l.length → (sT l j).size ≤ 1048576) (hT : TabC w) (h : okB l n m = true) :
    Calls Tryd.prog 47 #[.agg #[v, .int .i64 n, .int .i64 m]] w fun e w' => e = .returned .nilIface ∧ Below w.heap.size w w' :=
  (impl_check v l n m w hv ht hT).mono fun e w' ⟨h1, h2⟩ => by
    rcases h1 with ⟨_, h1⟩ | ⟨h3, _⟩
    · exact ⟨h1, h2⟩
    · rw [h] at h3; cases h3
theorem check_no (v : Value) (l : List Sg) (n m : Int) (w : World) (hv : Segs w v l) (ht : ∀ j, j < l.length → (sT l j).size ≤ 1048576) (hT : TabC w) (h : okB l n m = false) :
    Calls Tryd.prog 47 #[.agg #[v, .int .i64 n, .int .i64 m]] w fun e w' => (∃ r, e = .returned (.iface 79 (.agg #[.string r, .slice none 0 0, .int .i64 0, .int .i64 0]))) ∧ Below w.heap.size w w' :=
  (impl_check v l n m w hv ht hT).mono fun e w' ⟨h1, h2⟩ => by
    rcases h1 with ⟨h3, _⟩ | ⟨_, h1⟩
    · rw [h] at h3; cases h3
    · exact ⟨h1, h2⟩

/-- A world behind w in which the log's box stands. -/
structure KC (w : World) (cs : Array Value) (W : World) : Prop where
  af : Af w W
  bx : Bx W w.heap.size 26 cs
/-- .. and a new box of zeros at g. -/
structure KD (w : World) (g : Nat) (W : World) : Prop where
  lt : w.heap.size < g
  bx : Bx W g 26 #[.slice none 0 0, .int .i64 0, .int .i64 0]
theorem KC.after {w W W' : World} {cs : Array Value} (h : KC w cs W) (hb : Below W.heap.size W W') : KC w cs W' := ⟨h.af.after hb, h.bx.after hb⟩
theorem KC.alloc {w W : World} {cs : Array Value} (h : KC w cs W) (o : Obj) : KC w cs (W.alloc o) := ⟨h.af.alloc o, h.bx.alloc o⟩
theorem KC.cells {w W : World} {x0 x1 x2 : Value} (h : KC w #[x0, x1, x2] W) : W.cell? ⟨w.heap.size, 0, none⟩ = some x0 ∧ W.cell? ⟨w.heap.size, 1, none⟩ = some x1 ∧ W.cell? ⟨w.heap.size, 2, none⟩ = some x2 := h.bx.cells3
theorem KC.st3 {w W : World} {g : Nat} {cs : Array Value} (h : KC w cs W) (hd : KD w g W) (y0 y1 y2 : Value) : KC w cs (Go.Proofs.YtmnglcidklckgaaDoor.st3 W g y0 y1 y2) := ⟨h.af.st3 (Nat.le_of_lt hd.lt) y0 y1 y2, h.bx.st3o (Nat.ne_of_lt hd.lt) y0 y1 y2⟩
theorem KD.new {w W : World} {g : Nat} {cs : Array Value} (h : KC w cs W) (hg : W.heap.size = g) : KD w g (W.alloc (.cells #[.slice none 0 0, .int .i64 0, .int .i64 0] 26)) := ⟨by rw [← hg]; exact h.bx.lt, Bx.new W _ _ _ hg⟩
theorem KD.after {w W W' : World} {g : Nat} (h : KD w g W) (hb : Below W.heap.size W W') : KD w g W' := ⟨h.lt, h.bx.after hb⟩
theorem KD.cells {w W : World} {g : Nat} (h : KD w g W) : W.cell? ⟨g, 0, none⟩ = some (.slice none 0 0) ∧ W.cell? ⟨g, 1, none⟩ = some (.int .i64 0) ∧ W.cell? ⟨g, 2, none⟩ = some (.int .i64 0) := h.bx.cells3
theorem KD.frozen {w W : World} {g : Nat} (h : KD w g W) : W.frozen? ⟨g, 0, none⟩ = false ∧ W.frozen? ⟨g, 1, none⟩ = false ∧ W.frozen? ⟨g, 2, none⟩ = false := h.bx.frozen3

set_option maxHeartbeats 1000000 in
theorem impl_logOk (v : Value) (l : List Sg) (n m : Int) (w : World) (hv : Segs w v l) (ht : ∀ j, j < l.length → (sT l j).size ≤ 1048576) (hT : TabC w) (hg : ErrT w) :
    Calls Tryd.prog 23 #[.agg #[v, .int .i64 n, .int .i64 m]] w fun e w' => e = .returned (.bool (okB l n m)) ∧ Below w.heap.size w w' := by
  obtain ⟨a, k0, cap, hve⟩ := hv.form
  subst hve
  have CX := Lib.hid (show KC w #[.slice a k0 cap, .int .i64 n, .int .i64 m] (w.alloc (.cells #[.slice a k0 cap, .int .i64 n, .int .i64 m] 26)).drew from ⟨((Af.refl w).alloc _).drew, Bx.new w _ _ _ rfl⟩)
  obtain ⟨x0, x1, x2⟩ := (Bx.new w 26 #[.slice a k0 cap, .int .i64 n, .int .i64 m] _ rfl).cells3
  cases hok : okB l n m with
  | true =>
    have HC := Lib.hid (fun W (hW : KC w #[.slice a k0 cap, .int .i64 n, .int .i64 m] W) => check_ok _ l n m W (hv.later hW.af) ht (hT.later hW.af (Nat.le_refl _)) hok)
    have HR := Lib.hid (fun W (hW : KC w #[.slice a k0 cap, .int .i64 n, .int .i64 m] W) => res_nil a k0 cap n m W)
    clear hv ht hT hg hok
    go_enter Tryd.func23, Tryd.ntmps23
    go_wp2_with fail
    go_region_held3 (fun w' => w'.cell? ⟨w.heap.size, 0, none⟩ = some (.slice a k0 cap) ∧ w'.cell? ⟨w.heap.size, 1, none⟩ = some (.int .i64 n) ∧ w'.cell? ⟨w.heap.size, 2, none⟩ = some (.int .i64 m)) (first | (with_reducible exact ⟨x0, x1, x2⟩) | (with_reducible exact CX.out.cells) | (with_reducible exact (CX.out.alloc _).cells) | (with_reducible exact (CX.out.st3 DX.out _ _ _).cells) | go_keep)
      (first
        | (go_at_call 47; (first
          | (refine (HC.out _ CX.out).mono ?_; rintro e w2 ⟨rfl, hb⟩; have CX := Lib.hid (CX.out.after hb); (try have DX := Lib.hid (DX.out.after hb)); clear hb; (try (obtain ⟨u0, u1, u2⟩ := DX.out.cells; obtain ⟨v0, v1, v2⟩ := DX.out.frozen)))
          | (refine (HC.out _ (CX.out.alloc _)).mono ?_; rintro e w2 ⟨rfl, hb⟩; have DX := Lib.hid ((KD.new (g := w.heap.size + 1) CX.out (by simp)).after hb); have CX := Lib.hid ((CX.out.alloc _).after hb); clear hb; obtain ⟨u0, u1, u2⟩ := DX.out.cells; obtain ⟨v0, v1, v2⟩ := DX.out.frozen)))
        | (go_at_call 33; (first
          | (refine (HR.out _ CX.out).mono ?_; rintro e w2 ⟨rfl, hb⟩; have CX := Lib.hid (CX.out.after hb); (try have DX := Lib.hid (DX.out.after hb)); clear hb; (try (obtain ⟨u0, u1, u2⟩ := DX.out.cells; obtain ⟨v0, v1, v2⟩ := DX.out.frozen)))
          | (refine (HR.out _ (CX.out.alloc _)).mono ?_; rintro e w2 ⟨rfl, hb⟩; have DX := Lib.hid ((KD.new CX.out rfl).after hb); have CX := Lib.hid ((CX.out.alloc _).after hb); clear hb; obtain ⟨u0, u1, u2⟩ := DX.out.cells; obtain ⟨v0, v1, v2⟩ := DX.out.frozen))))
    all_goals
      go_wp2
      go_ret
      first | exact ⟨rfl, (CX.out.alloc _).af⟩ | exact ⟨rfl, (CX.out.st3 DX.out _ _ _).af⟩
  | false =>
    have HC := Lib.hid (fun W (hW : KC w #[.slice a k0 cap, .int .i64 n, .int .i64 m] W) => check_no _ l n m W (hv.later hW.af) ht (hT.later hW.af (Nat.le_refl _)) hok)
    have HR := Lib.hid (fun r W (hW : KC w #[.slice a k0 cap, .int .i64 n, .int .i64 m] W) => res_rej a k0 cap n m r none 0 0 0 0 W (hg.later hW.af))
    clear hv ht hT hg hok
    go_enter Tryd.func23, Tryd.ntmps23
    go_wp2_with fail
    go_region_held3 (fun w' => w'.cell? ⟨w.heap.size, 0, none⟩ = some (.slice a k0 cap) ∧ w'.cell? ⟨w.heap.size, 1, none⟩ = some (.int .i64 n) ∧ w'.cell? ⟨w.heap.size, 2, none⟩ = some (.int .i64 m)) (first | (with_reducible exact ⟨x0, x1, x2⟩) | (with_reducible exact CX.out.cells) | (with_reducible exact (CX.out.alloc _).cells) | (with_reducible exact (CX.out.st3 DX.out _ _ _).cells) | go_keep)
      (first
        | (go_at_call 47; (first
          | (refine (HC.out _ CX.out).mono ?_; rintro e w2 ⟨⟨r, rfl⟩, hb⟩; have CX := Lib.hid (CX.out.after hb); (try have DX := Lib.hid (DX.out.after hb)); clear hb; (try (obtain ⟨u0, u1, u2⟩ := DX.out.cells; obtain ⟨v0, v1, v2⟩ := DX.out.frozen)))
          | (refine (HC.out _ (CX.out.alloc _)).mono ?_; rintro e w2 ⟨⟨r, rfl⟩, hb⟩; have DX := Lib.hid ((KD.new (g := w.heap.size + 1) CX.out (by simp)).after hb); have CX := Lib.hid ((CX.out.alloc _).after hb); clear hb; obtain ⟨u0, u1, u2⟩ := DX.out.cells; obtain ⟨v0, v1, v2⟩ := DX.out.frozen)))
        | (go_at_call 33; (first
          | (refine (HR.out _ _ CX.out).mono ?_; rintro e w2 ⟨rfl, hb⟩; have CX := Lib.hid (CX.out.after hb); (try have DX := Lib.hid (DX.out.after hb)); clear hb; (try (obtain ⟨u0, u1, u2⟩ := DX.out.cells; obtain ⟨v0, v1, v2⟩ := DX.out.frozen)))
          | (refine (HR.out _ _ (CX.out.alloc _)).mono ?_; rintro e w2 ⟨rfl, hb⟩; have DX := Lib.hid ((KD.new CX.out rfl).after hb); have CX := Lib.hid ((CX.out.alloc _).after hb); clear hb; obtain ⟨u0, u1, u2⟩ := DX.out.cells; obtain ⟨v0, v1, v2⟩ := DX.out.frozen))))
    all_goals
      go_wp2
      go_ret
      first | exact ⟨rfl, (CX.out.alloc _).af⟩ | exact ⟨rfl, (CX.out.st3 DX.out _ _ _).af⟩
end Go.Proofs.YtmnglcidklckgaaDoor
