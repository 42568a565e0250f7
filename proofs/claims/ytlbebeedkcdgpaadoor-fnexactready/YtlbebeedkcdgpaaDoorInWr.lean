/- Instances that a call owns may be marked. -/
import Derived.Test.YtlbebeedkcdgpaaDoorInMw
namespace Go.Proofs.YtlbebeedkcdgpaaDoor
open Go.RowKit Go.PlainAid
set_option linter.unusedVariables false

theorem InOwn.wr {w : World} {lo hi : Nat} {v : Value} {l : List In} (h : InOwn w lo hi v l) (hs : Sm l) : WrL w lo hi v l.length := by
  obtain ⟨a, cap, e, h1, h2, h3⟩ := h
  refine ⟨a, cap, e, fun h0 => ?_⟩
  obtain ⟨g, o, cur, r1, r2, r3, r4⟩ := h3 h0
  have hex : ∀ j, ∃ p : Value × Value, j < l.length → InB cur (o + j * 16) (nth l j) p.1 p.2 ∧ PtO w lo hi (nth l j) p.1 p.2 := fun j => by
    by_cases hj : j < l.length
    · obtain ⟨u, d, q1, q2, _⟩ := r4 j hj
      exact ⟨(u, d), fun _ => ⟨q1, q2⟩⟩
    · exact ⟨(undef, undef), fun h => absurd h hj⟩
  obtain ⟨f, hf⟩ := Classical.axiomOfChoice hex
  refine ⟨g, o, fun j => (f j).1, fun j => (f j).2, fun j => (nth l j).cmd.ch.length, fun j => (nth l j).deps.length, r1, ⟨cur, r3, by omega, fun j hj => ⟨(hf j hj).1 12 (by omega), (hf j hj).1 14 (by omega)⟩, ⟨r2.1, r2.2.1⟩, Chg.refl _ _ _ _⟩, fun j hj => ?_⟩
  obtain ⟨_, q2⟩ := hf j hj
  refine ⟨?_, (hs.2 j hj).1, ?_, (hs.2 j hj).2⟩
  · dsimp only
    have hb := q2.bu
    obtain ⟨hg, _⟩ := q2.st
    rcases hg.2 with ⟨hn, hz⟩ | ⟨g', cap', cur', hn, hb', hh, hc1, hc2, hc3, hc4⟩
    · exact ⟨none, 0, by rw [hn, hz], fun h => by omega⟩
    · refine ⟨_, cap', hn, fun _ => ⟨g', 0, cur', rfl, ?_, hh, by omega⟩⟩
      exact hb g' (by rw [hn]; rfl)
  · dsimp only
    have hb := q2.bd
    obtain ⟨a', cap', e', i1, i2, i3⟩ := q2.ids
    refine ⟨a', cap', e', fun hp => ?_⟩
    obtain ⟨g', o', cur', q1, q3, q4, _⟩ := i3 hp
    refine ⟨g', o', cur', q1, hb g' (by rw [e', q1]; rfl), q4, ?_⟩
    have := q3.2
    omega
end Go.Proofs.YtlbebeedkcdgpaaDoor
