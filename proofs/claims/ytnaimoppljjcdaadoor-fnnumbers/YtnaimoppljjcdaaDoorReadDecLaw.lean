/- The law over ReadDec and its model: it returns true at every string. -/
import Derived.Test.YtnaimoppljjcdaaDoorReadDecS
namespace Go.Proofs.YtnaimoppljjcdaaDoor
open Go.RowKit Go.PlainAid
set_option linter.unusedVariables false

theorem ok_unique {l : List UInt8} {n m : Int} (h1 : RdOk l n) (h2 : RdOk l m) : n = m := by
  have e1 := (ok_model _ _ h1).1
  have e2 := (ok_model _ _ h2).1
  omega
theorem ans_unique {s : ByteArray} {a a' : Int} {b b' : Bool} (h1 : Ans s a b) (h2 : Ans s a' b') : a' = a ∧ b' = b := by
  rcases h1 with ⟨rfl, k1⟩ | ⟨rfl, rfl, n1⟩ <;> rcases h2 with ⟨rfl, k2⟩ | ⟨rfl, rfl, n2⟩
  · exact ⟨ok_unique k2 k1, rfl⟩
  · exact absurd k1 (n2 _)
  · exact absurd k2 (n1 _)
  · exact ⟨rfl, rfl⟩

theorem impl_rd (s : ByteArray) (w : World) (hs : s.size ≤ 1048576) (ht : Tab w) (hy : Syn w) : Calls Tryd.prog 13 #[.string s] w (RdPost s w) := by
  by_cases hl : 9 < (Lib.trimPrefix s.data.toList [45]).length
  · exact (impl_rd_long s w hs hl).mono fun e w' ⟨he, hb⟩ => ⟨0, false, he, .inr ⟨rfl, rfl, fun n hn => by have := hn.1; omega⟩, hb⟩
  · have hsz : s.size ≤ 18 := by
      rw [Lib.size_eq]
      by_cases hh : s.data.toList.head? = some 45
      · match hd : s.data.toList, hh with
        | b :: r, hh =>
          have hb : b = 45 := by simpa using hh
          subst hb
          rw [hd, trim_minus] at hl
          simp; omega
      · rw [trim_other _ hh] at hl; omega
    match hm : Lib.atoi s.data.toList with
    | none =>
      refine (impl_rd_err s w hsz (by omega) hm hy).mono fun e w' ⟨he, hb⟩ => ⟨0, false, he, .inr ⟨rfl, rfl, fun n hn => ?_⟩, hb⟩
      have := atoi_itoa n
      rw [hn.2, hm] at this
      cases this
    | some m =>
      by_cases he : Lib.itoa m = s.data.toList
      · have hk : RdOk s.data.toList m := ⟨by omega, he⟩
        exact (impl_rd_ok s m w hk ht).mono fun e w' ⟨he, hb⟩ => ⟨m, true, he, .inl ⟨rfl, hk⟩, hb⟩
      · refine (impl_rd_ne s m w hsz (by omega) hm he ht).mono fun e w' ⟨he', hb⟩ => ⟨0, false, he', .inr ⟨rfl, rfl, fun n hn => he ?_⟩, hb⟩
        have := atoi_itoa n
        rw [hn.2, hm, Option.some.injEq] at this
        rw [this]; exact hn.2

set_option maxHeartbeats 400000 in
theorem law_rd (s : ByteArray) (w : World) (hs : s.size ≤ maxLen) (ht : Tab w) (hy : Syn w) :
    Calls Tryd.prog 5 #[.string s] w fun e w' => e = .returned (.bool true) ∧ Below w.heap.size w w' := by
  have hs' := hs
  unfold maxLen at hs'
  by_cases hb : (1048576 : Int) < s.size
  · go_enter Tryd.func5, Tryd.ntmps5
    go_wp2
    go_ret
    exact ⟨rfl, Below.refl _ _⟩
  · go_enter Tryd.func5, Tryd.ntmps5
    go_wp2_with (first | (go_at_call 19; refine (spec_rd s _ (by omega)).mono ?_; rintro e w1 ⟨a, b, rfl, hA, hb1⟩) | (go_at_call 13; refine (impl_rd s _ (by omega) (ht.below hb1) (hy.below hb1)).mono ?_; rintro e w2 ⟨a', b', rfl, hA', hb2⟩; obtain ⟨rfl, rfl⟩ := ans_unique hA hA'))
    go_ret
    exact ⟨rfl, hb1.trans (hb2.mono hb1.size)⟩
end Go.Proofs.YtnaimoppljjcdaaDoor
