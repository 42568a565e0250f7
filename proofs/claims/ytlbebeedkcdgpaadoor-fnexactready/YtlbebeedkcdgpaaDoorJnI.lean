/- JoinIds: the program's walk. -/
import Derived.Test.YtlbebeedkcdgpaaDoorIdL
import Derived.Test.YtlbebeedkcdgpaaDoorIdG
import Derived.Lib.SliceRun
namespace Go.Proofs.YtlbebeedkcdgpaaDoor
open Go.RowKit Go.PlainAid
set_option linter.unusedVariables false

theorem take_filter_succ (p : Ii → Bool) (l : List Ii) (k : Nat) (h : k < l.length) : (l.take (k + 1)).filter p = (l.take k).filter p ++ (if p ⟨iR l k, iS l k⟩ then [⟨iR l k, iS l k⟩] else []) := by
  rw [List.take_add_one, ii_get l k h, List.filter_append]
  congr 1
  simp only [Option.toList, List.filter_cons, List.filter_nil]
theorem take_snoc_ii (l : List Ii) (k : Nat) (h : k < l.length) : l.take (k + 1) = l.take k ++ [⟨iR l k, iS l k⟩] := by
  rw [List.take_add_one, ii_get l k h]; rfl
theorem filter_take_le (p : Ii → Bool) (l : List Ii) (k : Nat) : ((l.take k).filter p).length ≤ k := by
  have := List.length_filter_le p (l.take k)
  rw [List.length_take] at this
  omega
theorem Bx.c2 {w : World} {g : Nat} {t : TypeId} {x0 x1 : Value} (h : Bx w g t #[x0, x1]) : w.cell? ⟨g, 0, none⟩ = some x0 ∧ w.cell? ⟨g, 1, none⟩ = some x1 := ⟨h.cell 0 _ rfl, h.cell 1 _ rfl⟩
set_option maxRecDepth 100000 in
set_option maxHeartbeats 2000000 in
theorem impl_put (v : Value) (l : List Ii) (r s : Int) (w : World) (hv : Ids w v l) (hl : l.length ≤ 1048577) :
    Calls Tryd.prog 41 #[v, .agg #[.int .i64 r, .int .i64 s], .func (.func 42) #[] #[]] w fun e w' => (∃ u, e = .returned u ∧ IdRow w' w.heap.size u (putI l ⟨r, s⟩)) ∧ Below w.heap.size w w' := by
  obtain ⟨h1, a, ca, rfl, hca, ha⟩ := hv
  generalize hn : l.length = n at h1 ha hca hl
  have HN := Lib.hid hn
  have HA := Lib.hid ha
  clear hn ha hca
  have X0 := Lib.hid (Bx.new w 30 #[.int .i64 r, .int .i64 s] _ rfl)
  have A0 := Lib.hid ((Af.refl w).alloc (.cells #[.int .i64 r, .int .i64 s] 30))
  go_enter Tryd.func41, Tryd.ntmps41
  go_wp2
  go_loopw [7, 14] (fun u i wr => ∃ (k : Nat) (a' : Option Addr) (n' c' : Nat), k ≤ n ∧ i = .int .i64 k ∧ u = .slice a' n' c' ∧ IdRow wr (w.heap.size + 1) (.slice a' n' c') ((l.take k).filter (fun y => ltI y ⟨r, s⟩)) ∧ Bx wr w.heap.size 30 #[.int .i64 r, .int .i64 s] ∧ Af w wr) (fun _ i _ => n - (intOf i).toNat)
  case atStart => exact ⟨0, _, _, _, by omega, rfl, rfl, by simpa using idRow_nil _ _, X0.out, A0.out⟩
  case round =>
    obtain ⟨k, a', n', c', hk, rfl, rfl, hr, hx, haf⟩ := hrel
    have R := Lib.hid hr
    have X := Lib.hid hx
    have A := Lib.hid haf
    have hsz : w.heap.size + 1 ≤ wr.heap.size := by have := hx.lt; omega
    clear hr hx haf
    by_cases hlt : k < n
    · obtain ⟨b, o, rfl, hb, hcb⟩ := HA.out (by omega)
      obtain ⟨c1, c2⟩ := (hcb k hlt).below A.out hb
      obtain ⟨x0, x1⟩ := (X.out.alloc (.cells #[.int .i64 (iR l k), .int .i64 (iS l k)] 30)).c2
      have y1 : (k : Int) < (n : Int) := by omega
      have y0 : (0 : Int) ≤ (k : Int) := by omega
      clear hcb
      go_wp2_with fail
      clear x0 x1 c1 c2
      refine (impl_lt (iR l k) (iS l k) r s _).mono ?_
      rintro e w2 ⟨rfl, b2⟩
      have X2 := Lib.hid ((X.out.alloc (.cells #[.int .i64 (iR l k), .int .i64 (iS l k)] 30)).after b2)
      have Y2 := Lib.hid ((Bx.new wr 30 #[.int .i64 (iR l k), .int .i64 (iS l k)] _ rfl).after b2)
      have R2 := Lib.hid ((R.out.alloc (.cells #[.int .i64 (iR l k), .int .i64 (iS l k)] 30)).later b2)
      have A2 := Lib.hid ((A.out.alloc (.cells #[.int .i64 (iR l k), .int .i64 (iS l k)] 30)).after b2)
      have hsz2 : w.heap.size + 1 ≤ w2.heap.size := by have := b2.size; simp at this; omega
      clear b2 X R A
      cases hq : ltB (iR l k) (iS l k) r s
      · have HF := Lib.hid (show (l.take (k + 1)).filter (fun y => ltI y ⟨r, s⟩) = (l.take k).filter (fun y => ltI y ⟨r, s⟩) by rw [take_filter_succ _ l k (by rw [HN.out]; exact hlt), if_neg (by rw [show ltI (⟨iR l k, iS l k⟩ : Ii) ⟨r, s⟩ = false from hq]; simp), List.append_nil])
        clear hq
        go_wp2
        go_roundw
        case rel => exact ⟨k + 1, a', n', c', by omega, by go_num, rfl, by rw [HF.out]; exact R2.out, X2.out, A2.out⟩
        case measure => simp only [intOf]; omega
      · have HF := Lib.hid (show (l.take (k + 1)).filter (fun y => ltI y ⟨r, s⟩) = (l.take k).filter (fun y => ltI y ⟨r, s⟩) ++ [⟨iR l k, iS l k⟩] by rw [take_filter_succ _ l k (by rw [HN.out]; exact hlt), if_pos (show ltI (⟨iR l k, iS l k⟩ : Ii) ⟨r, s⟩ = true from hq)])
        obtain ⟨z0, z1⟩ := Y2.out.c2
        clear hq
        go_wp2_with (at_builtin; refine wp_append_id rfl (.tmp 22) (.tmp 24) rfl (w.heap.size + 1) (.slice a' n' c') ((l.take k).filter (fun y => ltI y ⟨r, s⟩)) [⟨iR l k, iS l k⟩] rfl (R2.out.alloc _) w2.heap.size 0 1 rfl (fun j hj => ii_one (x := ⟨iR l k, iS l k⟩) (Bx.new w2 _ _ _ rfl).c2 j hj) (by have h1 := filter_take_le (fun y => ltI y ⟨r, s⟩) l k; simp only [List.length_singleton]; omega) (by simp; omega) ?_; intro v6 w6 hr6 hg6; obtain ⟨a6, n6, c6, hv6⟩ := hr6.own.form; subst hv6; have X6 := Lib.hid ((X2.out.alloc (.cells #[.int .i64 (iR l k), .int .i64 (iS l k)] 30)).keep hg6 (fun e => by have := (R2.out.lt _ e.symm).1; omega)); have A6 := Lib.hid ((A2.out.alloc (.cells #[.int .i64 (iR l k), .int .i64 (iS l k)] 30)).grow hg6 (fun k hk => by have := (R2.out.lt _ hk).1; omega)); have R6 := Lib.hid hr6; clear hr6 hg6)
        go_roundw
        case rel => exact ⟨k + 1, a6, n6, c6, by omega, by go_num, rfl, by rw [HF.out]; exact R6.out, X6.out, A6.out⟩
        case measure => simp only [intOf]; omega
    · have hkn : n = k := by omega
      clear hlt
      subst hkn
      obtain ⟨z0, z1⟩ := X.out.c2
      have HT := Lib.hid (show l.take n = l by rw [← HN.out, List.take_length])
      rw [HT.out] at R
      clear X0 A0
      go_wp2_with (at_builtin; refine wp_append_id rfl (.tmp 27) (.tmp 29) rfl (w.heap.size + 1) (.slice a' n' c') (l.filter (fun y => ltI y ⟨r, s⟩)) [⟨r, s⟩] rfl (R.out.alloc _) wr.heap.size 0 1 rfl (fun j hj => ii_one (x := ⟨r, s⟩) (Bx.new wr _ _ _ rfl).c2 j hj) (by have h1 := List.length_filter_le (fun y => ltI y ⟨r, s⟩) l; rw [HN.out] at h1; simp only [List.length_singleton]; omega) (by simp; omega) ?_; intro v6 w6 hr6 hg6; obtain ⟨a6, n6, c6, hv6⟩ := hr6.own.form; subst hv6; have X6 := Lib.hid ((X.out.alloc (.cells #[.int .i64 r, .int .i64 s] 30)).keep hg6 (fun e => by have := (R.out.lt _ e.symm).1; omega)); have A6 := Lib.hid ((A.out.alloc (.cells #[.int .i64 r, .int .i64 s] 30)).grow hg6 (fun k hk => by have := (R.out.lt _ hk).1; omega)); have R6 := Lib.hid hr6; clear hr6 hg6)
      clear z0 z1 X R A
      go_loopw [7, 33] (fun u i wr => ∃ (k : Nat) (a' : Option Addr) (n' c' : Nat), k ≤ n ∧ i = .int .i64 k ∧ u = .slice a' n' c' ∧ IdRow wr (w.heap.size + 1) (.slice a' n' c') (l.filter (fun y => ltI y ⟨r, s⟩) ++ [⟨r, s⟩] ++ (l.take k).filter (fun y => ltI ⟨r, s⟩ y)) ∧ Bx wr w.heap.size 30 #[.int .i64 r, .int .i64 s] ∧ Af w wr) (fun _ i _ => n - (intOf i).toNat)
      case atStart => exact ⟨0, _, _, _, by omega, rfl, rfl, by simpa using R6.out, X6.out, A6.out⟩
      case round =>
        obtain ⟨k, a', n', c', hk, rfl, rfl, hr, hx, haf⟩ := hrel
        have R := Lib.hid hr
        have X := Lib.hid hx
        have A := Lib.hid haf
        have hsz : w.heap.size + 1 ≤ wr.heap.size := by have := hx.lt; omega
        clear hr hx haf
        by_cases hlt : k < n
        · obtain ⟨b, o, rfl, hb, hcb⟩ := HA.out (by omega)
          obtain ⟨c1, c2⟩ := (hcb k hlt).below A.out hb
          obtain ⟨x0, x1⟩ := (X.out.alloc (.cells #[.int .i64 (iR l k), .int .i64 (iS l k)] 30)).c2
          have y1 : (k : Int) < (n : Int) := by omega
          have y0 : (0 : Int) ≤ (k : Int) := by omega
          clear hcb
          go_wp2_with fail
          clear x0 x1 c1 c2
          refine (impl_lt r s (iR l k) (iS l k) _).mono ?_
          rintro e w2 ⟨rfl, b2⟩
          have X2 := Lib.hid ((X.out.alloc (.cells #[.int .i64 (iR l k), .int .i64 (iS l k)] 30)).after b2)
          have Y2 := Lib.hid ((Bx.new wr 30 #[.int .i64 (iR l k), .int .i64 (iS l k)] _ rfl).after b2)
          have R2 := Lib.hid ((R.out.alloc (.cells #[.int .i64 (iR l k), .int .i64 (iS l k)] 30)).later b2)
          have A2 := Lib.hid ((A.out.alloc (.cells #[.int .i64 (iR l k), .int .i64 (iS l k)] 30)).after b2)
          have hsz2 : w.heap.size + 1 ≤ w2.heap.size := by have := b2.size; simp at this; omega
          clear b2 X R A
          cases hq : ltB r s (iR l k) (iS l k)
          · have HF := Lib.hid (show (l.take (k + 1)).filter (fun y => ltI ⟨r, s⟩ y) = (l.take k).filter (fun y => ltI ⟨r, s⟩ y) by rw [take_filter_succ _ l k (by rw [HN.out]; exact hlt), if_neg (by rw [show ltI ⟨r, s⟩ (⟨iR l k, iS l k⟩ : Ii) = false from hq]; simp), List.append_nil])
            clear hq
            go_wp2
            go_roundw
            case rel => exact ⟨k + 1, a', n', c', by omega, by go_num, rfl, by rw [HF.out]; exact R2.out, X2.out, A2.out⟩
            case measure => simp only [intOf]; omega
          · have HF := Lib.hid (show (l.take (k + 1)).filter (fun y => ltI ⟨r, s⟩ y) = (l.take k).filter (fun y => ltI ⟨r, s⟩ y) ++ [⟨iR l k, iS l k⟩] by rw [take_filter_succ _ l k (by rw [HN.out]; exact hlt), if_pos (show ltI ⟨r, s⟩ (⟨iR l k, iS l k⟩ : Ii) = true from hq)])
            obtain ⟨z0, z1⟩ := Y2.out.c2
            clear hq
            go_wp2_with (at_builtin; refine wp_append_id rfl (.tmp 41) (.tmp 43) rfl (w.heap.size + 1) (.slice a' n' c') (l.filter (fun y => ltI y ⟨r, s⟩) ++ [⟨r, s⟩] ++ (l.take k).filter (fun y => ltI ⟨r, s⟩ y)) [⟨iR l k, iS l k⟩] rfl (R2.out.alloc _) w2.heap.size 0 1 rfl (fun j hj => ii_one (x := ⟨iR l k, iS l k⟩) (Bx.new w2 _ _ _ rfl).c2 j hj) (by have h1 := List.length_filter_le (fun y => ltI y ⟨r, s⟩) l; have h2 := filter_take_le (fun y => ltI ⟨r, s⟩ y) l k; rw [HN.out] at h1; simp only [List.length_append, List.length_cons, List.length_nil]; omega) (by simp; omega) ?_; intro v6 w6 hr6 hg6; obtain ⟨a6, n6, c6, hv6⟩ := hr6.own.form; subst hv6; have X6 := Lib.hid ((X2.out.alloc (.cells #[.int .i64 (iR l k), .int .i64 (iS l k)] 30)).keep hg6 (fun e => by have := (R2.out.lt _ e.symm).1; omega)); have A6 := Lib.hid ((A2.out.alloc (.cells #[.int .i64 (iR l k), .int .i64 (iS l k)] 30)).grow hg6 (fun k hk => by have := (R2.out.lt _ hk).1; omega)); have R6 := Lib.hid hr6; clear hr6 hg6)
            go_roundw
            case rel => exact ⟨k + 1, a6, n6, c6, by omega, by go_num, rfl, by rw [HF.out]; have h := R6.out; rw [List.append_assoc, List.append_assoc] at h; rw [List.append_assoc]; exact h, X6.out, A6.out⟩
            case measure => simp only [intOf]; omega
        · obtain rfl : k = n := by omega
          go_wp2
          go_ret
          exact ⟨⟨_, rfl, by have h := R.out.mono (Nat.le_succ _); unfold putI; rw [← HN.out, List.take_length] at h; rw [← List.append_assoc]; exact h⟩, A.out⟩
theorem l_impl_ids (v : Value) (l : List Ii) (b : Bool) (e : idlB l = b) (w0 w : World) (hv : Ids w0 v l) (h : LatI w0 w) : Calls Tryd.prog 70 #[v] w fun e w' => e = .returned (.bool b) ∧ LatI w0 w' :=
  (impl_ids v l w (hv.later h)).mono fun _ w' hh => ⟨e ▸ hh.1, h.trans hh.2⟩
end Go.Proofs.YtlbebeedkcdgpaaDoor
