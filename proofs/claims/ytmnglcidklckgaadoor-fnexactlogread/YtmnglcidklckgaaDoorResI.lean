/- logResult, by contracts. -/
import Derived.Test.YtmnglcidklckgaaDoorCheckI
namespace Go.Proofs.YtmnglcidklckgaaDoor
open Go.RowKit Go.PlainAid
set_option linter.unusedVariables false

theorem Bx.st4o {w : World} {g q : Nat} {t : TypeId} {cs : Array Value} (h : Bx w g t cs) (hne : g ≠ q) (y0 y1 y2 y3 : Value) : Bx (st4 w q y0 y1 y2 y3) g t cs := (((h.set_other ⟨q, 0, none⟩ y0 hne).set_other ⟨q, 1, none⟩ y1 hne).set_other ⟨q, 2, none⟩ y2 hne).set_other ⟨q, 3, none⟩ y3 hne
theorem Bx.st4 {w : World} {g : Nat} {t : TypeId} {x0 x1 x2 x3 : Value} (h : Bx w g t #[x0, x1, x2, x3]) (y0 y1 y2 y3 : Value) : Bx (Go.Proofs.YtmnglcidklckgaaDoor.st4 w g y0 y1 y2 y3) g t #[y0, y1, y2, y3] := (((h.set 0 y0).set 1 y1).set 2 y2).set 3 y3
theorem Af.st4 {w0 w : World} {q : Nat} (h : Af w0 w) (hq : w0.heap.size ≤ q) (y0 y1 y2 y3 : Value) : Af w0 (Go.Proofs.YtmnglcidklckgaaDoor.st4 w q y0 y1 y2 y3) := (((h.set (p := ⟨q, 0, none⟩) hq y0).set (p := ⟨q, 1, none⟩) hq y1).set (p := ⟨q, 2, none⟩) hq y2).set (p := ⟨q, 3, none⟩) hq y3

theorem grow_st4 (w : World) (g : Nat) (y0 y1 y2 y3 : Value) : w.grownBy (st4 w g y0 y1 y2 y3) (some g) := (((grownBy_set w g 0 y0).trans (grownBy_set _ g 1 y1)).trans (grownBy_set _ g 2 y2)).trans (grownBy_set _ g 3 y3)
theorem as_nil2 (t : Value) (w : World) :
    Calls Tryd.prog 54 #[.nilIface, t] w fun e w' => e = .returned (.bool false) ∧ Below w.heap.size w w' := (as_nil t w).mono fun e w' h => ⟨h.1, by rw [h.2]; exact Below.refl _ _⟩
theorem as_hit2 (r : ByteArray) (v : Value) (n m : Int) (t : Nat) (o0 o1 o2 o3 : Value) (w : World) (hv : v.oneCell' = true) (hg : ErrT w) (ht : Bx w t 79 #[o0, o1, o2, o3]) :
    Calls Tryd.prog 54 #[.iface 79 (.agg #[.string r, v, .int .i64 n, .int .i64 m]), .iface 81 (.pointer (some ⟨t, 0, none⟩))] w fun ev w' => ev = .returned (.bool true) ∧ Bx w' t 79 #[.string r, v, .int .i64 n, .int .i64 m] ∧ w.grownBy w' (some t) :=
  (as_hit r v n m t o0 o1 o2 o3 w hv hg ht).mono fun e w' ⟨h1, w1, h2, h3⟩ => ⟨h1, by rw [h2]; exact (ht.after h3).st4 _ _ _ _, by rw [h2]; exact (grown_all h3 (some t)).trans (grow_st4 w1 t _ _ _ _)⟩

set_option maxHeartbeats 400000 in
theorem res_nil (a : Option Addr) (k c : Nat) (n m : Int) (w : World) :
    Calls Tryd.prog 33 #[.agg #[.slice a k c, .int .i64 n, .int .i64 m], .nilIface] w fun e w' => e = .returned (.tuple #[.agg #[.slice a k c, .int .i64 n, .int .i64 m], .bool true]) ∧ Below w.heap.size w w' := by
  have X0 := Lib.hid (((Bx.new w 26 #[.slice a k c, .int .i64 n, .int .i64 m] _ rfl).alloc (.cells #[.slice none 0 0, .int .i64 0, .int .i64 0] 26)).alloc (.cells #[.string ⟨#[]⟩, .slice none 0 0, .int .i64 0, .int .i64 0] 79))
  have X1 := Lib.hid ((Bx.new (w.alloc (.cells #[.slice a k c, .int .i64 n, .int .i64 m] 26)) 26 #[.slice none 0 0, .int .i64 0, .int .i64 0] (w.heap.size + 1) (by simp)).alloc (.cells #[.string ⟨#[]⟩, .slice none 0 0, .int .i64 0, .int .i64 0] 79))
  have HA := Lib.hid ((((Af.refl w).alloc (.cells #[.slice a k c, .int .i64 n, .int .i64 m] 26)).alloc (.cells #[.slice none 0 0, .int .i64 0, .int .i64 0] 26)).alloc (.cells #[.string ⟨#[]⟩, .slice none 0 0, .int .i64 0, .int .i64 0] 79))
  go_enter Tryd.func33, Tryd.ntmps33
  go_wp2_with fail
  refine (as_nil2 _ _).mono ?_
  rintro e w2 ⟨rfl, hb⟩
  obtain ⟨x0, x1, x2⟩ := (X0.out.after hb).cells3
  have Y1 := Lib.hid (X1.out.after hb)
  obtain ⟨y0, y1, y2⟩ := Y1.out.cells3
  obtain ⟨f0, f1, f2⟩ := Y1.out.frozen3
  have A2 := Lib.hid (HA.out.after hb)
  clear hb
  go_wp2
  exact bodyPost_ret (results_log2 Tryd.results33 _ _ (w.heap.size + 1) _ _ _ rfl (Y1.out.st3 _ _ _).cells3) rfl ⟨rfl, A2.out.st3 (by omega) _ _ _⟩

set_option maxHeartbeats 400000 in
theorem res_rej (a : Option Addr) (k c : Nat) (n m : Int) (r : ByteArray) (a' : Option Addr) (k' c' : Nat) (n' m' : Int) (w : World) (hg : ErrT w) :
    Calls Tryd.prog 33 #[.agg #[.slice a k c, .int .i64 n, .int .i64 m], .iface 79 (.agg #[.string r, .slice a' k' c', .int .i64 n', .int .i64 m'])] w fun e w' => e = .returned (.tuple #[.agg #[.slice a' k' c', .int .i64 n', .int .i64 m'], .bool false]) ∧ Below w.heap.size w w' := by
  have X1 := Lib.hid ((Bx.new (w.alloc (.cells #[.slice a k c, .int .i64 n, .int .i64 m] 26)) 26 #[.slice none 0 0, .int .i64 0, .int .i64 0] (w.heap.size + 1) (by simp)).alloc (.cells #[.string ⟨#[]⟩, .slice none 0 0, .int .i64 0, .int .i64 0] 79))
  have X2 := Lib.hid (Bx.new ((w.alloc (.cells #[.slice a k c, .int .i64 n, .int .i64 m] 26)).alloc (.cells #[.slice none 0 0, .int .i64 0, .int .i64 0] 26)) 79 #[.string ⟨#[]⟩, .slice none 0 0, .int .i64 0, .int .i64 0] (w.heap.size + 1 + 1) (by simp))
  have HA := Lib.hid ((((Af.refl w).alloc (.cells #[.slice a k c, .int .i64 n, .int .i64 m] 26)).alloc (.cells #[.slice none 0 0, .int .i64 0, .int .i64 0] 26)).alloc (.cells #[.string ⟨#[]⟩, .slice none 0 0, .int .i64 0, .int .i64 0] 79))
  have HG := Lib.hid (((hg.alloc (.cells #[.slice a k c, .int .i64 n, .int .i64 m] 26)).alloc (.cells #[.slice none 0 0, .int .i64 0, .int .i64 0] 26)).alloc (.cells #[.string ⟨#[]⟩, .slice none 0 0, .int .i64 0, .int .i64 0] 79))
  clear hg
  go_enter Tryd.func33, Tryd.ntmps33
  go_wp2_with fail
  refine (as_hit2 r (.slice a' k' c') n' m' (w.heap.size + 1 + 1) _ _ _ _ _ rfl HG.out X2.out).mono ?_
  rintro e w2 ⟨rfl, Z2, hb⟩
  have Y1 := Lib.hid (X1.out.keep hb (by simp))
  have A2 := Lib.hid (HA.out.grow hb (fun k hk => by cases hk; omega))
  obtain ⟨y0, y1, y2⟩ := Y1.out.cells3
  obtain ⟨f0, f1, f2⟩ := Y1.out.frozen3
  obtain ⟨u0, u1, u2, u3⟩ := Z2.cells4
  clear hb Z2
  go_wp2
  exact bodyPost_ret (results_log2 Tryd.results33 _ _ (w.heap.size + 1) _ _ _ rfl (Y1.out.st3 _ _ _).cells3) rfl ⟨rfl, A2.out.st3 (by omega) _ _ _⟩
end Go.Proofs.YtmnglcidklckgaaDoor
