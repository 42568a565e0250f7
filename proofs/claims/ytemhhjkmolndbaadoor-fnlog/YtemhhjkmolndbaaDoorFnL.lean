/- The law FnLog: what stands behind each of its rounds. -/
import Derived.Test.YtemhhjkmolndbaaDoorLogD2
import Derived.Test.YtemhhjkmolndbaaDoorLawA
import Derived.Test.YtemhhjkmolndbaaDoorStrsSame
namespace Go.Proofs.YtemhhjkmolndbaaDoor
open Go.RowKit Go.PlainAid
set_option linter.unusedVariables false

/-- want[d:]. -/
theorem Strs.drop {w : World} {b o n cap : Nat} {l : List ByteArray} (h : Strs w (.slice (some ⟨b, o, none⟩) n cap) l) (d : Nat) (hd : d ≤ l.length) : Strs w (.slice (some ⟨b, o + d, none⟩) (n - d) (cap - d)) (l.drop d) := by
  obtain ⟨h1, h2, a', cap', e, hc, h3⟩ := h
  simp only [Value.slice.injEq] at e
  obtain ⟨rfl, rfl, rfl⟩ := e
  have hl : (l.drop d).length = l.length - d := List.length_drop ..
  have he : ∀ j, el (l.drop d) j = el l (d + j) := fun j => by
    rw [el_eq, el_eq, List.getD, List.getD, List.getElem?_drop]
  refine ⟨by omega, fun j hj => by rw [he j]; exact h2 (d + j) (by omega), _, cap - d, by rw [hl], by omega, fun h0 => ?_⟩
  obtain ⟨b', o', ha, hb, hcl⟩ := h3 (by omega)
  simp only [Option.some.injEq, Addr.mk.injEq] at ha
  obtain ⟨rfl, rfl, _⟩ := ha
  refine ⟨b, o + d, rfl, hb, fun j hj => ?_⟩
  rw [he j, Nat.add_assoc]
  exact hcl (d + j) (by omega)
/-- The log lies in the box gx; what it reads is want. -/
structure Fw (gx : Nat) (w0 w : World) (l : List Sg) (n m : Int) (a : Option Addr) (k cap : Nat) (b o c : Nat) : Prop where
  bx : Bx w gx 26 #[.slice a k cap, .int .i64 n, .int .i64 m]
  sg : SegOwn w w0.heap.size (.slice a k cap) l
  nb : Value.ownBlock (.slice a k cap) ≠ some gx
  iv : Inv l n m
  wt : Strs w (.slice (some ⟨b, o, none⟩) (rdR l n m).length c) (rdR l n m)
  wb : b ≠ gx
  af : Af w0 w
  o1 : w0.heap.size ≤ gx
theorem Fw.later {gx : Nat} {w0 w w' : World} {l : List Sg} {n m : Int} {a : Option Addr} {k cap b o c : Nat} (h : Fw gx w0 w l n m a k cap b o c) (hb : Below w.heap.size w w') : Fw gx w0 w' l n m a k cap b o c :=
  ⟨h.bx.after hb, h.sg.later hb, h.nb, h.iv, h.wt.later hb, h.wb, h.af.after hb, h.o1⟩
theorem Fw.alloc {gx : Nat} {w0 w : World} {l : List Sg} {n m : Int} {a : Option Addr} {k cap b o c : Nat} (h : Fw gx w0 w l n m a k cap b o c) (x : Obj) : Fw gx w0 (w.alloc x) l n m a k cap b o c := h.later ((Below.refl _ _).alloc (Nat.le_refl _) _)
theorem Fw.drew {gx : Nat} {w0 w : World} {l : List Sg} {n m : Int} {a : Option Addr} {k cap b o c : Nat} (h : Fw gx w0 w l n m a k cap b o c) : Fw gx w0 w.drew l n m a k cap b o c := h.later (Below.refl _ _).drew
theorem Fw.segs {gx : Nat} {w0 w : World} {l : List Sg} {n m : Int} {a : Option Addr} {k cap b o c : Nat} (h : Fw gx w0 w l n m a k cap b o c) : Segs w (.slice a k cap) l := h.sg.segs (fun j hj => by have := h.iv.small j hj; omega)
theorem Fw.small {gx : Nat} {w0 w : World} {l : List Sg} {n m : Int} {a : Option Addr} {k cap b o c : Nat} (h : Fw gx w0 w l n m a k cap b o c) (j : Nat) (hj : j < l.length) : (sT l j).size ≤ 1048576 := by have := h.iv.small j hj; omega
/-- Another log is put into the box. -/
theorem Fw.put {gx q : Nat} {w0 w : World} {l l' : List Sg} {n m n' m' : Int} {a a' : Option Addr} {k cap k' cap' b o c b' o' c' : Nat} (h : Fw gx w0 w l n m a k cap b o c) (hs : SegOwn w q (.slice a' k' cap') l') (hq : gx < q) (hi : Inv l' n' m') (hw : Strs w (.slice (some ⟨b', o', none⟩) (rdR l' n' m').length c') (rdR l' n' m')) (hb : b' ≠ gx) :
    Fw gx w0 (st3 w gx (.slice a' k' cap') (.int .i64 n') (.int .i64 m')) l' n' m' a' k' cap' b' o' c' := by
  have h1 := h.o1
  have hl := (okB_len hi.ok).1
  refine ⟨h.bx.st3 _ _ _, (hs.st3 hq _ _ _).mono (by omega), fun e => ?_, hi, ?_, hb, h.af.st3 h1 _ _ _, h1⟩
  · have := (hs.block hl gx e).1
    omega
  · exact ((hw.set ⟨gx, 0, none⟩ _ hb).set ⟨gx, 1, none⟩ _ hb).set ⟨gx, 2, none⟩ _ hb
/-- As the law's first lines leave it. -/
theorem Fw.start {w0 w : World} {gx b c : Nat} {a : Option Addr} {k cap : Nat} (bx : Bx w gx 26 #[.slice a k cap, .int .i64 1, .int .i64 0]) (sg : SegOwn w w0.heap.size (.slice a k cap) newL) (nb : Value.ownBlock (.slice a k cap) ≠ some gx) (hb : b ≠ gx) (af : Af w0 w) (o1 : w0.heap.size ≤ gx) : Fw gx w0 w newL 1 0 a k cap b 0 c := by
  have hn : rdR newL 1 0 = [] := List.eq_nil_of_length_eq_zero (by have := inv_new.len; omega)
  refine ⟨bx, sg, nb, inv_new, ?_, hb, af, o1⟩
  rw [hn]
  exact ⟨by simp, fun j hj => by simp at hj, _, c, rfl, by simp, fun h => by simp at h⟩
end Go.Proofs.YtemhhjkmolndbaaDoor
