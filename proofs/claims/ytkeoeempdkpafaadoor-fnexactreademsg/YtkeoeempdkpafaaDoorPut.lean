/- The contract of putBytes, which fills a row of bytes. -/
import Derived.Test.YtkeoeempdkpafaaDoorBytes
namespace Go.Proofs.YtkeoeempdkpafaaDoor
open Go.RowKit Go.PlainAid
set_option linter.unusedVariables false

set_option maxHeartbeats 400000 in
theorem put_bytes (w : World) (g h n k m r B : Nat) (pre X : List Int) (hr : Room w g pre r) (hX : Src w h X) (hk : pre.length = k) (hm : X.length = m)
    (h0 : 0 < m) (hfit : m ≤ r) (hn : k + r = n) (hb : n ≤ 1099511627776) (hB : B ≤ g) :
    Calls Tryd.prog 106 #[.slice (some ⟨g, 0, none⟩) n n, .int .i64 k, .slice (some ⟨h, 0, none⟩) m m] w fun e w' =>
      e = .returned (.int .i64 (k + m : Nat)) ∧ Room w' g (pre ++ X) (r - m) ∧ Below B w w' := by
  obtain ⟨w2, hcp, hr2, hb2⟩ := copy_room w g h k n m r B pre X hr hX hk hm hfit hn hB
  have hlt : k < n := by omega
  have hle : k + m ≤ n := by omega
  clear hk hm hn hr hX
  go_enter Tryd.func106, Tryd.ntmps106
  go_wp2
  go_ret
  exact ⟨by go_num, hr2, hb2⟩

theorem put_bytes_at (w : World) (c : Int) (g h n k m r B : Nat) (pre X : List Int) (hr : Room w g pre r) (hX : Src w h X) (hc : c = (k : Int)) (hk : pre.length = k) (hm : X.length = m)
    (h0 : 0 < m) (hfit : m ≤ r) (hn : k + r = n) (hb : n ≤ 1099511627776) (hB : B ≤ g) :
    Calls Tryd.prog 106 #[.slice (some ⟨g, 0, none⟩) n n, .int .i64 c, .slice (some ⟨h, 0, none⟩) m m] w fun e w' =>
      e = .returned (.int .i64 (c + (m : Int))) ∧ Room w' g (pre ++ X) (r - m) ∧ Below B w w' := by
  subst hc
  exact (put_bytes w g h n k m r B pre X hr hX hk hm h0 hfit hn hb hB).mono fun e w' ⟨he, h1, h2⟩ => ⟨by rw [he, Int.natCast_add], h1, h2⟩
end Go.Proofs.YtkeoeempdkpafaaDoor
