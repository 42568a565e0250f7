/- For the law over AttrsOf: the model's AttrsOf whole, the marks of a command, what they leave alone. -/
import Derived.Test.YtlbebeedkcdgpaaDoorAtS
import Derived.Test.YtlbebeedkcdgpaaDoorInMk
namespace Go.Proofs.YtlbebeedkcdgpaaDoor
open Go.RowKit Go.PlainAid
set_option linter.unusedVariables false

theorem chg_block {w w' : World} {m : TypeId → Bool} {lo hi : Nat} (hc : Chg m lo hi w w') (k : Nat) (hk : k < w.heap.size) (h : k < lo ∨ hi ≤ k) : w'.heap[k]? = w.heap[k]? := hc.out k hk h
theorem Bx.chg {w w' : World} {g : Nat} {t : TypeId} {cs : Array Value} {m : TypeId → Bool} {lo hi : Nat} (h : Bx w g t cs) (hc : Chg m lo hi w w') (hg : g < lo ∨ hi ≤ g) : Bx w' g t cs := (hc.out g h.lt hg).trans h
theorem IdOwn.chg {w w' : World} {base : Nat} {v : Value} {l : List Ii} {m : TypeId → Bool} {lo hi : Nat} (h : IdOwn w base v l) (hc : Chg m lo hi w w') (hb : ∀ k, v.ownBlock = some k → k < lo ∨ hi ≤ k) : IdOwn w' base v l := by
  obtain ⟨a, cap, e, h1, h2, h3⟩ := h
  refine ⟨a, cap, e, h1, h2, fun h0 => ?_⟩
  obtain ⟨g, o, cur, r1, r2, r3, r4⟩ := h3 h0
  refine ⟨g, o, cur, r1, r2, ?_, r4⟩
  subst e; subst r1
  rw [hc.out g (Array.getElem?_eq_some_iff.1 r3).1 (hb g rfl)]
  exact r3
theorem StO.wr {w : World} {lo hi lo' : Nat} {v : Value} {l : List ByteArray} (h : StO w lo' v l) (hb : ∀ k, v.ownBlock = some k → lo ≤ k ∧ k < hi) : Wr w 9 1 lo hi v l.length := by
  obtain ⟨hg, _⟩ := h
  rcases hg.2 with ⟨hn, hz⟩ | ⟨g', cap', cur', hn, hb', hh, hc1, hc2, hc3, hc4⟩
  · exact ⟨none, 0, by rw [hn, hz], fun h => by omega⟩
  · exact ⟨_, cap', hn, fun _ => ⟨g', 0, cur', rfl, hb g' (by rw [hn]; rfl), hh, by omega⟩⟩
end Go.Proofs.YtlbebeedkcdgpaaDoor
