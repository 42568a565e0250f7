/- JoinIds: the program's walk. -/
import Derived.Test.YthihihphbcaieaaIdL
import Derived.Test.YthihihphbcaieaaIdG
import Derived.Lib.SliceRun
namespace Go.Proofs.Ythihihphbcaieaa
open Go.RowKit Go.PlainAid
set_option linter.unusedVariables false

theorem take_filter_succ (p : Ii → Bool) (l : List Ii) (k : Nat) (h : k < l.length) : (l.take (k + 1)).filter p = (l.take k).filter p ++ (if p ⟨iR l k, iS l k⟩ then [⟨iR l k, iS l k⟩] else []) := by
  rw [List.take_add_one, ii_get l k h, List.filter_append]
  congr 1
  simp only [Option.toList, List.filter_cons, List.filter_nil]
theorem take_snoc_ii (l : List Ii) (k : Nat) (h : k < l.length) : l.take (k + 1) = l.take k ++ [⟨iR l k, iS l k⟩] := by
  rw [List.take_add_one, ii_get l k h]; rfl
theorem filter_take_le (p : Ii → Bool) (l : List Ii) (k : Nat) : ((l.take k).filter p).length ≤ k := by
  have := List.length_filter_le p (l.take k)
  rw [List.length_take] at this
  omega
theorem Bx.c2 {w : World} {g : Nat} {t : TypeId} {x0 x1 : Value} (h : Bx w g t #[x0, x1]) : w.cell? ⟨g, 0, none⟩ = some x0 ∧ w.cell? ⟨g, 1, none⟩ = some x1 := ⟨h.cell 0 _ rfl, h.cell 1 _ rfl⟩
set_option maxHeartbeats 400000 in
theorem clone_ids (v : Value) (l : List Ii) (w : World) (hv : Ids w v l) (hl : l.length ≤ 1048577) :
    Calls Try.prog 38 #[v] w fun e w' => (∃ u, e = .returned u ∧ IdRow w' w.heap.size u l) ∧ Below w.heap.size w w' := by
  obtain ⟨h1, a, ca, rfl, hca, ha⟩ := hv
  cases a with
  | none =>
    have e0 : l = [] := List.eq_nil_of_length_eq_zero (by
      by_cases h0 : 0 < l.length
      · obtain ⟨b, o, e, _⟩ := ha h0; cases e
      · omega)
    subst e0
    clear ha
    have heq : Sem.run Try.prog (binOp BinOp.eql 25 (.slice none 0 ca) (.slice none 0 0)) w = .ok (.bool true) w := Go.Lib.run_eql_slice_nil w _ _ none 0 ca 0 0 Try.underlying25
    go_enter Try.func38, Try.ntmps38
    go_wp2
    go_ret
    exact ⟨⟨_, rfl, idRow_nil _ _⟩, Below.refl _ _⟩
  | some ad =>
    by_cases h0 : 0 < l.length
    · obtain ⟨b, o, e, hb, hcl⟩ := ha h0
      cases e
      have C0 := Lib.hid (fun j hj => (hcl j hj).below ((Below.refl _ _).alloc (Nat.le_refl _) (.cells #[] 36)) hb)
      have HL := Lib.hid hl
      have heq : Sem.run Try.prog (binOp BinOp.eql 25 (.slice (some ⟨b, o, none⟩) l.length ca) (.slice none 0 0)) w = .ok (.bool false) w := Go.Lib.run_eql_slice_nil w _ _ (some ⟨b, o, none⟩) _ ca 0 0 Try.underlying25
      clear ha hcl hl
      go_enter Try.func38, Try.ntmps38
      go_wp2_with (at_builtin; refine wp_append_id rfl (.tmp 5) (.tmp 6) rfl w.heap.size (.slice (some ⟨w.heap.size, 0, none⟩) 0 0) [] l rfl (idRow_new w w.heap.size (Nat.le_refl _)) b o ca rfl C0.out (by have := HL.out; simp only [List.length_nil]; omega) (by simp) ?_; intro u w5 hr hg; rw [List.nil_append] at hr; have R5 := Lib.hid hr; have A5 := Lib.hid (((Af.refl w).alloc (.cells #[] 36)).grow hg (fun k hk => by cases hk; exact Nat.le_refl _)); clear hr hg)
      go_ret
      exact ⟨⟨_, rfl, R5.out⟩, A5.out⟩
    · have e0 : l = [] := List.eq_nil_of_length_eq_zero (by omega)
      subst e0
      have heq : Sem.run Try.prog (binOp BinOp.eql 25 (.slice (some ad) 0 ca) (.slice none 0 0)) w = .ok (.bool false) w := Go.Lib.run_eql_slice_nil w _ _ (some ad) 0 ca 0 0 Try.underlying25
      clear ha h0
      go_enter Try.func38, Try.ntmps38
      go_wp2
      go_ret
      exact ⟨⟨_, rfl, idRow_new w w.heap.size (Nat.le_refl _)⟩, (Af.refl w).alloc _⟩
set_option maxRecDepth 100000 in
set_option maxHeartbeats 2000000 in
theorem impl_put (v : Value) (l : List Ii) (r s : Int) (w : World) (hv : Ids w v l) (hl : l.length ≤ 1048577) :
    Calls Try.prog 39 #[v, .agg #[.int .i64 r, .int .i64 s], .func (.func 35) #[] #[]] w fun e w' => (∃ u, e = .returned u ∧ IdRow w' w.heap.size u (putI l ⟨r, s⟩)) ∧ Below w.heap.size w w' := by
  obtain ⟨h1, a, ca, rfl, hca, ha⟩ := hv
  generalize hn : l.length = n at h1 ha hca hl
  have HN := Lib.hid hn
  have HA := Lib.hid ha
  clear hn ha hca
  have X0 := Lib.hid (Bx.new w 36 #[.int .i64 r, .int .i64 s] _ rfl)
  have A0 := Lib.hid ((Af.refl w).alloc (.cells #[.int .i64 r, .int .i64 s] 36))
  go_enter Try.func39, Try.ntmps39
  go_wp2
  go_loopw [7, 14] (fun u i wr => ∃ (k : Nat) (a' : Option Addr) (n' c' : Nat), k ≤ n ∧ i = .int .i64 k ∧ u = .slice a' n' c' ∧ IdRow wr (w.heap.size + 1) (.slice a' n' c') ((l.take k).filter (fun y => ltI y ⟨r, s⟩)) ∧ Bx wr w.heap.size 36 #[.int .i64 r, .int .i64 s] ∧ Af w wr) (fun _ i _ => n - (intOf i).toNat)
  case atStart => exact ⟨0, _, _, _, by omega, rfl, rfl, by simpa using idRow_nil _ _, X0.out, A0.out⟩
  case round =>
    obtain ⟨k, a', n', c', hk, rfl, rfl, hr, hx, haf⟩ := hrel
    have R := Lib.hid hr
    have X := Lib.hid hx
    have A := Lib.hid haf
    have hsz : w.heap.size + 1 ≤ wr.heap.size := by have := hx.lt; omega
    clear hr hx haf
    by_cases hlt : k < n
    · obtain ⟨b, o, rfl, hb, hcb⟩ := HA.out (by omega)
      obtain ⟨c1, c2⟩ := (hcb k hlt).below A.out hb
      obtain ⟨x0, x1⟩ := (X.out.alloc (.cells #[.int .i64 (iR l k), .int .i64 (iS l k)] 36)).c2
      have y1 : (k : Int) < (n : Int) := by omega
      have y0 : (0 : Int) ≤ (k : Int) := by omega
      clear hcb
      go_wp2_with fail
      clear x0 x1 c1 c2
      refine (impl_lt (iR l k) (iS l k) r s _).mono ?_
      rintro e w2 ⟨rfl, b2⟩
      have X2 := Lib.hid ((X.out.alloc (.cells #[.int .i64 (iR l k), .int .i64 (iS l k)] 36)).after b2)
      have Y2 := Lib.hid ((Bx.new wr 36 #[.int .i64 (iR l k), .int .i64 (iS l k)] _ rfl).after b2)
      have R2 := Lib.hid ((R.out.alloc (.cells #[.int .i64 (iR l k), .int .i64 (iS l k)] 36)).later b2)
      have A2 := Lib.hid ((A.out.alloc (.cells #[.int .i64 (iR l k), .int .i64 (iS l k)] 36)).after b2)
      have hsz2 : w.heap.size + 1 ≤ w2.heap.size := by have := b2.size; simp at this; omega
      clear b2 X R A
      cases hq : ltB (iR l k) (iS l k) r s
      · have HF := Lib.hid (show (l.take (k + 1)).filter (fun y => ltI y ⟨r, s⟩) = (l.take k).filter (fun y => ltI y ⟨r, s⟩) by rw [take_filter_succ _ l k (by rw [HN.out]; exact hlt), if_neg (by rw [show ltI (⟨iR l k, iS l k⟩ : Ii) ⟨r, s⟩ = false from hq]; simp), List.append_nil])
        clear hq
        go_wp2
        go_roundw
        case rel => exact ⟨k + 1, a', n', c', by omega, by go_num, rfl, by rw [HF.out]; exact R2.out, X2.out, A2.out⟩
        case measure => simp only [intOf]; omega
      · have HF := Lib.hid (show (l.take (k + 1)).filter (fun y => ltI y ⟨r, s⟩) = (l.take k).filter (fun y => ltI y ⟨r, s⟩) ++ [⟨iR l k, iS l k⟩] by rw [take_filter_succ _ l k (by rw [HN.out]; exact hlt), if_pos (show ltI (⟨iR l k, iS l k⟩ : Ii) ⟨r, s⟩ = true from hq)])
        obtain ⟨z0, z1⟩ := Y2.out.c2
        clear hq
        go_wp2_with (at_builtin; refine wp_append_id rfl (.tmp 22) (.tmp 24) rfl (w.heap.size + 1) (.slice a' n' c') ((l.take k).filter (fun y => ltI y ⟨r, s⟩)) [⟨iR l k, iS l k⟩] rfl (R2.out.alloc _) w2.heap.size 0 1 rfl (fun j hj => ii_one (x := ⟨iR l k, iS l k⟩) (Bx.new w2 _ _ _ rfl).c2 j hj) (by have h1 := filter_take_le (fun y => ltI y ⟨r, s⟩) l k; simp only [List.length_singleton]; omega) (by simp; omega) ?_; intro v6 w6 hr6 hg6; obtain ⟨a6, n6, c6, hv6⟩ := hr6.own.form; subst hv6; have X6 := Lib.hid ((X2.out.alloc (.cells #[.int .i64 (iR l k), .int .i64 (iS l k)] 36)).keep hg6 (fun e => by have := (R2.out.lt _ e.symm).1; omega)); have A6 := Lib.hid ((A2.out.alloc (.cells #[.int .i64 (iR l k), .int .i64 (iS l k)] 36)).grow hg6 (fun k hk => by have := (R2.out.lt _ hk).1; omega)); have R6 := Lib.hid hr6; clear hr6 hg6)
        go_roundw
        case rel => exact ⟨k + 1, a6, n6, c6, by omega, by go_num, rfl, by rw [HF.out]; exact R6.out, X6.out, A6.out⟩
        case measure => simp only [intOf]; omega
    · have hkn : n = k := by omega
      clear hlt
      subst hkn
      obtain ⟨z0, z1⟩ := X.out.c2
      have HT := Lib.hid (show l.take n = l by rw [← HN.out, List.take_length])
      rw [HT.out] at R
      clear X0 A0
      go_wp2_with (at_builtin; refine wp_append_id rfl (.tmp 27) (.tmp 29) rfl (w.heap.size + 1) (.slice a' n' c') (l.filter (fun y => ltI y ⟨r, s⟩)) [⟨r, s⟩] rfl (R.out.alloc _) wr.heap.size 0 1 rfl (fun j hj => ii_one (x := ⟨r, s⟩) (Bx.new wr _ _ _ rfl).c2 j hj) (by have h1 := List.length_filter_le (fun y => ltI y ⟨r, s⟩) l; rw [HN.out] at h1; simp only [List.length_singleton]; omega) (by simp; omega) ?_; intro v6 w6 hr6 hg6; obtain ⟨a6, n6, c6, hv6⟩ := hr6.own.form; subst hv6; have X6 := Lib.hid ((X.out.alloc (.cells #[.int .i64 r, .int .i64 s] 36)).keep hg6 (fun e => by have := (R.out.lt _ e.symm).1; omega)); have A6 := Lib.hid ((A.out.alloc (.cells #[.int .i64 r, .int .i64 s] 36)).grow hg6 (fun k hk => by have := (R.out.lt _ hk).1; omega)); have R6 := Lib.hid hr6; clear hr6 hg6)
      clear z0 z1 X R A
      go_loopw [7, 33] (fun u i wr => ∃ (k : Nat) (a' : Option Addr) (n' c' : Nat), k ≤ n ∧ i = .int .i64 k ∧ u = .slice a' n' c' ∧ IdRow wr (w.heap.size + 1) (.slice a' n' c') (l.filter (fun y => ltI y ⟨r, s⟩) ++ [⟨r, s⟩] ++ (l.take k).filter (fun y => ltI ⟨r, s⟩ y)) ∧ Bx wr w.heap.size 36 #[.int .i64 r, .int .i64 s] ∧ Af w wr) (fun _ i _ => n - (intOf i).toNat)
      case atStart => exact ⟨0, _, _, _, by omega, rfl, rfl, by simpa using R6.out, X6.out, A6.out⟩
      case round =>
        obtain ⟨k, a', n', c', hk, rfl, rfl, hr, hx, haf⟩ := hrel
        have R := Lib.hid hr
        have X := Lib.hid hx
        have A := Lib.hid haf
        have hsz : w.heap.size + 1 ≤ wr.heap.size := by have := hx.lt; omega
        clear hr hx haf
        by_cases hlt : k < n
        · obtain ⟨b, o, rfl, hb, hcb⟩ := HA.out (by omega)
          obtain ⟨c1, c2⟩ := (hcb k hlt).below A.out hb
          obtain ⟨x0, x1⟩ := (X.out.alloc (.cells #[.int .i64 (iR l k), .int .i64 (iS l k)] 36)).c2
          have y1 : (k : Int) < (n : Int) := by omega
          have y0 : (0 : Int) ≤ (k : Int) := by omega
          clear hcb
          go_wp2_with fail
          clear x0 x1 c1 c2
          refine (impl_lt r s (iR l k) (iS l k) _).mono ?_
          rintro e w2 ⟨rfl, b2⟩
          have X2 := Lib.hid ((X.out.alloc (.cells #[.int .i64 (iR l k), .int .i64 (iS l k)] 36)).after b2)
          have Y2 := Lib.hid ((Bx.new wr 36 #[.int .i64 (iR l k), .int .i64 (iS l k)] _ rfl).after b2)
          have R2 := Lib.hid ((R.out.alloc (.cells #[.int .i64 (iR l k), .int .i64 (iS l k)] 36)).later b2)
          have A2 := Lib.hid ((A.out.alloc (.cells #[.int .i64 (iR l k), .int .i64 (iS l k)] 36)).after b2)
          have hsz2 : w.heap.size + 1 ≤ w2.heap.size := by have := b2.size; simp at this; omega
          clear b2 X R A
          cases hq : ltB r s (iR l k) (iS l k)
          · have HF := Lib.hid (show (l.take (k + 1)).filter (fun y => ltI ⟨r, s⟩ y) = (l.take k).filter (fun y => ltI ⟨r, s⟩ y) by rw [take_filter_succ _ l k (by rw [HN.out]; exact hlt), if_neg (by rw [show ltI ⟨r, s⟩ (⟨iR l k, iS l k⟩ : Ii) = false from hq]; simp), List.append_nil])
            clear hq
            go_wp2
            go_roundw
            case rel => exact ⟨k + 1, a', n', c', by omega, by go_num, rfl, by rw [HF.out]; exact R2.out, X2.out, A2.out⟩
            case measure => simp only [intOf]; omega
          · have HF := Lib.hid (show (l.take (k + 1)).filter (fun y => ltI ⟨r, s⟩ y) = (l.take k).filter (fun y => ltI ⟨r, s⟩ y) ++ [⟨iR l k, iS l k⟩] by rw [take_filter_succ _ l k (by rw [HN.out]; exact hlt), if_pos (show ltI ⟨r, s⟩ (⟨iR l k, iS l k⟩ : Ii) = true from hq)])
            obtain ⟨z0, z1⟩ := Y2.out.c2
            clear hq
            go_wp2_with (at_builtin; refine wp_append_id rfl (.tmp 41) (.tmp 43) rfl (w.heap.size + 1) (.slice a' n' c') (l.filter (fun y => ltI y ⟨r, s⟩) ++ [⟨r, s⟩] ++ (l.take k).filter (fun y => ltI ⟨r, s⟩ y)) [⟨iR l k, iS l k⟩] rfl (R2.out.alloc _) w2.heap.size 0 1 rfl (fun j hj => ii_one (x := ⟨iR l k, iS l k⟩) (Bx.new w2 _ _ _ rfl).c2 j hj) (by have h1 := List.length_filter_le (fun y => ltI y ⟨r, s⟩) l; have h2 := filter_take_le (fun y => ltI ⟨r, s⟩ y) l k; rw [HN.out] at h1; simp only [List.length_append, List.length_cons, List.length_nil]; omega) (by simp; omega) ?_; intro v6 w6 hr6 hg6; obtain ⟨a6, n6, c6, hv6⟩ := hr6.own.form; subst hv6; have X6 := Lib.hid ((X2.out.alloc (.cells #[.int .i64 (iR l k), .int .i64 (iS l k)] 36)).keep hg6 (fun e => by have := (R2.out.lt _ e.symm).1; omega)); have A6 := Lib.hid ((A2.out.alloc (.cells #[.int .i64 (iR l k), .int .i64 (iS l k)] 36)).grow hg6 (fun k hk => by have := (R2.out.lt _ hk).1; omega)); have R6 := Lib.hid hr6; clear hr6 hg6)
            go_roundw
            case rel => exact ⟨k + 1, a6, n6, c6, by omega, by go_num, rfl, by rw [HF.out]; have h := R6.out; rw [List.append_assoc, List.append_assoc] at h; rw [List.append_assoc]; exact h, X6.out, A6.out⟩
            case measure => simp only [intOf]; omega
        · obtain rfl : k = n := by omega
          go_wp2
          go_ret
          exact ⟨⟨_, rfl, by have h := R.out.mono (Nat.le_succ _); unfold putI; rw [← HN.out, List.take_length] at h; rw [← List.append_assoc]; exact h⟩, A.out⟩
theorem l_impl_ids (v : Value) (l : List Ii) (b : Bool) (e : idlB l = b) (w0 w : World) (hv : Ids w0 v l) (h : LatI w0 w) : Calls Try.prog 10 #[v] w fun e w' => e = .returned (.bool b) ∧ LatI w0 w' :=
  (impl_ids v l w (hv.later h)).mono fun _ w' hh => ⟨e ▸ hh.1, h.trans hh.2⟩
set_option maxRecDepth 100000 in
set_option maxHeartbeats 2000000 in
theorem impl_join (v u : Value) (a b : List Ii) (w : World) (hv : Ids w v a) (hu : Ids w u b) (hl : a.length + b.length ≤ 1048576) :
    Calls Try.prog 13 #[v, u] w fun e w' => (∃ u, e = .returned u ∧ IdRow w' w.heap.size u (joinI a b)) ∧ Below w.heap.size w w' := by
  by_cases hok : idlB a = true ∧ idlB b = true
  · obtain ⟨oa, ob⟩ := hok
    have HJ := Lib.hid (show joinI a b = putsI a b by rw [joinI_eq, oa, ob, puts_mrg (srt_of_ok oa) (srt_of_ok ob)]; rfl)
    have HC := Lib.hid (fun W (h : LatI w W) => l_impl_ids v a true oa w W hv h)
    have HD := Lib.hid (fun W (h : LatI w W) => l_impl_ids u b true ob w W hu h)
    have HLP := Lib.hid (fun k : Nat => (show (putsI a (b.take k)).length ≤ 1048576 by rw [puts_mrg (srt_of_ok oa) (List.Pairwise.sublist (List.take_sublist k b) (srt_of_ok ob))]; have := mrg_length a (b.take k); rw [List.length_take] at this; omega))
    obtain ⟨a1, n1, c1, rfl⟩ := hv.form
    have VA := Lib.hid hv
    have VB := Lib.hid hu
    obtain ⟨h1, a2, c2, rfl, hca, ha⟩ := hu
    obtain ⟨n, hn⟩ : ∃ n, b.length = n := ⟨_, rfl⟩
    have HN := Lib.hid hn
    rw [hn] at h1 ha hca HD VB hl ⊢
    have HA := Lib.hid ha
    clear oa ob hv ha hn hca
    go_enter Try.func13, Try.ntmps13
    go_wp2_with fail
    refine (HC.out w (Below.refl _ _)).mono ?_
    rintro e w1 ⟨rfl, L1⟩
    have HL1 := Lib.hid L1
    clear L1
    go_wp2_with fail
    refine (HD.out _ HL1.out).mono ?_
    rintro e w2 ⟨rfl, L2⟩
    clear HL1
    have A2 := Lib.hid (show Af w w2 from L2)
    have V2 := Lib.hid (VA.out.later L2)
    clear L2 HC HD
    go_wp2_with fail
    refine (clone_ids _ a _ V2.out (by omega)).mono ?_
    rintro e w3 ⟨⟨u3, rfl, r3⟩, b3⟩
    obtain ⟨a3, n3, c3, e3⟩ := r3.own.form
    subst e3
    have A3 := Lib.hid (A2.out.after b3)
    have R3 := Lib.hid (r3.mono A2.out.size)
    clear b3 r3 V2 A2
    go_wp2
    go_loopw [5, 20] (fun j i wr => ∃ (k : Nat) (a' : Option Addr) (n' c' : Nat), k ≤ n ∧ i = .int .i64 k ∧ j = .slice a' n' c' ∧ IdRow wr w.heap.size (.slice a' n' c') (putsI a (b.take k)) ∧ Af w wr) (fun _ i _ => n - (intOf i).toNat)
    case atStart => exact ⟨0, _, _, _, by omega, rfl, rfl, by rw [List.take_zero, putsI_nil]; exact R3.out, A3.out⟩
    case round =>
      obtain ⟨k, a', n', c', hk, rfl, rfl, hr, haf⟩ := hrel
      have R := Lib.hid hr
      have A := Lib.hid haf
      clear hr haf R3 A3
      by_cases hlt : k < n
      · obtain ⟨x, o, rfl, hx, hcx⟩ := HA.out (by omega)
        obtain ⟨d1, d2⟩ := (hcx k hlt).below A.out hx
        have y1 : (k : Int) < (n : Int) := by omega
        have y0 : (0 : Int) ≤ (k : Int) := by omega
        have HS := Lib.hid (show putsI a (b.take (k + 1)) = putI (putsI a (b.take k)) ⟨iR b k, iS b k⟩ by rw [take_snoc_ii b k (by rw [HN.out]; exact hlt), putsI_snoc])
        clear hcx
        go_wp2_with fail
        clear d1 d2
        refine (impl_put _ (putsI a (b.take k)) (iR b k) (iS b k) _ (R.out.own.ids.alloc (.cells #[.int .i64 (iR b k), .int .i64 (iS b k)] 36)) (by have := HLP.out k; omega)).mono ?_
        rintro e w4 ⟨⟨u4, rfl, r4⟩, b4⟩
        obtain ⟨a4, n4, c4, e4⟩ := r4.own.form
        subst e4
        have A4 := Lib.hid ((A.out.alloc (.cells #[.int .i64 (iR b k), .int .i64 (iS b k)] 36)).after b4)
        have R4 := Lib.hid (r4.mono ((A.out.alloc (.cells #[.int .i64 (iR b k), .int .i64 (iS b k)] 36)).size))
        clear b4 r4 R A
        go_wp2
        go_roundw
        case rel => exact ⟨k + 1, a4, n4, c4, by omega, by go_num, rfl, by rw [HS.out]; exact R4.out, A4.out⟩
        case measure => simp only [intOf]; omega
      · obtain rfl : k = n := by omega
        go_wp2
        go_ret
        exact ⟨⟨_, rfl, by have h := R.out; rw [← HN.out, List.take_length] at h; rw [HJ.out]; exact h⟩, A.out⟩
  · have HJ := Lib.hid (show joinI a b = [] by rw [joinI_eq, if_neg (by simpa using hok)])
    cases oa : idlB a
    · have HC := Lib.hid (fun W (h : LatI w W) => l_impl_ids v a false oa w W hv h)
      obtain ⟨a1, n1, c1, rfl⟩ := hv.form
      obtain ⟨a2, n2, c2, rfl⟩ := hu.form
      clear hok oa hv hu
      go_enter Try.func13, Try.ntmps13
      go_wp2_with fail
      refine (HC.out w (Below.refl _ _)).mono ?_
      rintro e w2 ⟨rfl, L2⟩
      have A2 := Lib.hid (show Af w w2 from L2)
      clear L2 HC
      go_wp2
      go_ret
      exact ⟨⟨_, rfl, by rw [HJ.out]; exact idRow_nil _ _⟩, A2.out⟩
    · have ob : idlB b = false := by cases h : idlB b; rfl; exact absurd ⟨oa, h⟩ hok
      have HC := Lib.hid (fun W (h : LatI w W) => l_impl_ids v a true oa w W hv h)
      have HD := Lib.hid (fun W (h : LatI w W) => l_impl_ids u b false ob w W hu h)
      obtain ⟨a1, n1, c1, rfl⟩ := hv.form
      obtain ⟨a2, n2, c2, rfl⟩ := hu.form
      clear hok oa ob hv hu
      go_enter Try.func13, Try.ntmps13
      go_wp2_with fail
      refine (HC.out w (Below.refl _ _)).mono ?_
      rintro e w1 ⟨rfl, L1⟩
      have HL1 := Lib.hid L1
      clear L1
      go_wp2_with fail
      refine (HD.out _ HL1.out).mono ?_
      rintro e w2 ⟨rfl, L2⟩
      clear HL1
      have A2 := Lib.hid (show Af w w2 from L2)
      clear L2 HC HD
      go_wp2
      go_ret
      exact ⟨⟨_, rfl, by rw [HJ.out]; exact idRow_nil _ _⟩, A2.out⟩
end Go.Proofs.Ythihihphbcaieaa
