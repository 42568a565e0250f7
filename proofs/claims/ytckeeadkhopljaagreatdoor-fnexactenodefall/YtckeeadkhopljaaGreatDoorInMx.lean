/- The law's marks on one instance that it was handed: exact. -/
import Derived.Test.YtckeeadkhopljaaGreatDoorInCs
import Derived.Test.YtckeeadkhopljaaGreatDoorMkA
namespace Go.Proofs.YtckeeadkhopljaaGreatDoor
open Go.RowKit Go.PlainAid
set_option linter.unusedVariables false

/-- Strings and Ids lie in different blocks. -/
theorem st_id_apart {w : World} {lo lo' : Nat} {u d : Value} {l : List ByteArray} {m : List Ii} (h : GrowsS w lo u l) (h2 : IdOwn w lo' d m) (hm : 0 < m.length) (k : Nat) (hu : u.ownBlock = some k) (hd : d.ownBlock = some k) : False := by
  obtain ⟨a, cap, rfl, _, _, h3⟩ := h2
  obtain ⟨g, o, cur, rfl, _, r3, _⟩ := h3 hm
  rcases h.2 with ⟨hn, _⟩ | ⟨g', cap', cur', hn, hb', hh, _⟩
  · rw [hn] at hu; cases hu
  · rw [hn] at hu
    have e1 : g' = k := Option.some.inj hu
    have e2 : g = k := Option.some.inj hd
    rw [e1] at hh
    rw [e2, hh] at r3
    simp at r3
set_option maxHeartbeats 400000 in
theorem mark_id_nil (a : Option Addr) (cap : Nat) (s : Int) (w : World) :
    Calls Tryz.prog 48 #[.slice a 0 cap, .int .i64 s] w fun e w' => e = .returned (.int .i64 s) ∧ w' = w := by
  go_enter Tryz.func48, Tryz.ntmps48
  go_wp2
  go_loop [1, 5] (fun kv i => kv = .int .i64 s ∧ i = .int .i64 0) (fun _ _ => 0)
  case atStart => exact ⟨rfl, rfl⟩
  case round =>
    obtain ⟨rfl, rfl⟩ := hrel
    go_wp2
    go_ret
    exact ⟨rfl, rfl⟩
end Go.Proofs.YtckeeadkhopljaaGreatDoor
