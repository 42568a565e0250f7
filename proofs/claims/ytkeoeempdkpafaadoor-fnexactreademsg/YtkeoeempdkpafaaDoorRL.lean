/- A bundle of texts: RiS, RmLaw. -/
import Derived.Test.YtkeoeempdkpafaaDoorRw
import Derived.Test.YtkeoeempdkpafaaDoorRV
import Derived.Test.YtkeoeempdkpafaaDoorSw
import Derived.Test.YtkeoeempdkpafaaDoorWw
import Derived.Test.YtkeoeempdkpafaaDoorMk
import Derived.Test.YtkeoeempdkpafaaDoorEm
/- A message is read: the model. -/
namespace Go.Proofs.YtkeoeempdkpafaaDoor
open Go.RowKit Go.PlainAid
set_option linter.unusedVariables false

theorem vars9 (s : ByteArray) (w : World) (hs : s.size ≤ 1048576) :
    Calls Tryd.prog 47 #[.string s, .int .i64 0, .int .i64 9] w fun e w' => (∃ v, e = .returned (.tuple #[v, .int .i64 (posI s (k9 s).2)]) ∧ (∃ a m c, v = .slice a m c) ∧ ((k9 s).2 ≠ none → GrowsI w' w.heap.size v [(k1 s).1, (k2 s).1, (k3 s).1, (k4 s).1, (k5 s).1, (k6 s).1, (k7 s).1, (k8 s).1, (k9 s).1])) ∧ Below w.heap.size w w' := by
  have h := vars_c s (some s) 9 w hs (suf_all s) (by decide)
  have e0 : posI s (some s) = 0 := by simp [posI]
  rw [e0] at h
  exact h
theorem vars1 (s : ByteArray) (st : Option ByteArray) (w : World) (hs : s.size ≤ 1048576) (hsf : Suf s st) :
    Calls Tryd.prog 47 #[.string s, .int .i64 (posI s st), .int .i64 1] w fun e w' => (∃ v, e = .returned (.tuple #[v, .int .i64 (posI s (oN st).2)]) ∧ (∃ a m c, v = .slice a m c) ∧ ((oN st).2 ≠ none → GrowsI w' w.heap.size v [(oN st).1])) ∧ Below w.heap.size w w' :=
  vars_c s st 1 w hs hsf (by decide)
theorem vars2 (s : ByteArray) (st : Option ByteArray) (w : World) (hs : s.size ≤ 1048576) (hsf : Suf s st) :
    Calls Tryd.prog 47 #[.string s, .int .i64 (posI s st), .int .i64 2] w fun e w' => (∃ v, e = .returned (.tuple #[v, .int .i64 (posI s (oN (oN st).2).2)]) ∧ (∃ a m c, v = .slice a m c) ∧ ((oN (oN st).2).2 ≠ none → GrowsI w' w.heap.size v [(oN st).1, (oN (oN st).2).1])) ∧ Below w.heap.size w w' :=
  vars_c s st 2 w hs hsf (by decide)
theorem suf9 (s : ByteArray) : Suf s (k9 s).2 := suf_N _ _ (suf_N _ _ (suf_N _ _ (suf_N _ _ (suf_N _ _ (suf_N _ _ (suf_N _ _ (suf_N _ _ (suf_N _ _ (suf_all s)))))))))
theorem suf_D (s : ByteArray) (st : Option ByteArray) (h : Suf s st) (k : Nat) : Suf s (oD st k).2 := by
  induction k with
  | zero => exact h
  | succ k ih => rw [oD_succ]; exact suf_N _ _ (suf_N _ _ ih)
theorem pts_zero (w : World) : Pts w em0.i (.slice none 0 0) (.slice none 0 0) := ⟨(growsS_nil w 0).strs (fun j hj => (by simp at hj)), (idRow_nil w 0).own.ids, by simp [Fit]⟩
theorem gM_no {s : ByteArray} (h : goodM s = true → False) : goodM s = false := by
  cases e : goodM s
  · rfl
  · exact (h e).elim
theorem growsS_row {w w' : World} {base : Nat} {v : Value} {l : List ByteArray} {row : Option Nat} (h : GrowsS w base v l) (hg : w.grownBy w' row) (hne : Value.ownBlock v = none ∨ Value.ownBlock v ≠ row) : GrowsS w' base v l := World.ownsRow.kept h hg hne
attribute [local go_sem] blkO_eq aggO_eq okA_zero okA_mk World.setRow_alloc_new
attribute [local go_sem ↓] load_emsg_pre store_emsg_pre
set_option maxRecDepth 100000 in
set_option maxHeartbeats 16000000 in
theorem spec_readE (s : ByteArray) (w : World) (hs : s.size ≤ 1048576) :
    Calls Tryd.prog 12 #[.string s] w fun e w' => (∃ au nu cu ad nd cd, e = .returned (.tuple #[.agg #[.int .i64 (readM s).kind, .int .i64 (readM s).frm, .int .i64 (readM s).dst, .int .i64 (readM s).i.rep, .int .i64 (readM s).i.slot, .int .i64 (readM s).i.bal, .int .i64 (readM s).i.cmd.kind, .int .i64 (readM s).i.cmd.client, .int .i64 (readM s).i.cmd.no, .string (readM s).i.cmd.set, .string (readM s).i.cmd.name, .string (readM s).i.cmd.tag, .int .i64 (readM s).i.cmd.n, .slice au nu cu, .int .i64 (readM s).i.seq, .slice ad nd cd, .int .i64 (readM s).i.st, .int .i64 (readM s).i.vbal, .bool (readM s).i.same], .bool (goodM s)]) ∧ Pts w' (readM s).i (.slice au nu cu) (.slice ad nd cd)) ∧ Below w.heap.size w w' := by
  have X := Lib.hid (Bx.new w 36 #[.int .i64 0, .int .i64 0, .int .i64 0, .int .i64 0, .int .i64 0, .int .i64 0, .int .i64 0, .int .i64 0, .int .i64 0, .string ⟨#[]⟩, .string ⟨#[]⟩, .string ⟨#[]⟩, .int .i64 0, .slice none 0 0, .int .i64 0, .slice none 0 0, .int .i64 0, .int .i64 0, .bool false] _ rfl)
  have A := Lib.hid ((Af.refl w).alloc (.cells #[.int .i64 0, .int .i64 0, .int .i64 0, .int .i64 0, .int .i64 0, .int .i64 0, .int .i64 0, .int .i64 0, .int .i64 0, .string ⟨#[]⟩, .string ⟨#[]⟩, .string ⟨#[]⟩, .int .i64 0, .slice none 0 0, .int .i64 0, .slice none 0 0, .int .i64 0, .int .i64 0, .bool false] 36))
  go_enter Tryd.func12, Tryd.ntmps12
  go_wp2_with fail
  refine (vars9 s _ hs).mono ?_
  rintro e w1 ⟨⟨lv, rfl, ⟨la, lm, lc, rfl⟩, hl⟩, bb⟩
  have nX := Lib.hid (X.out.after bb)
  have nA := Lib.hid (A.out.after bb)
  clear X A
  have X := nX
  have A := nA
  clear nX nA
  have hgX : w.heap.size < w1.heap.size := X.out.lt
  cases h9 : (k9 s).2 with
  | none =>
    rw [show posI s none = -1 from rfl]
    clear hl bb
    have HG := Lib.hid (gM_no (s := s) (fun hg => by obtain ⟨r, e, _⟩ := model_m hg; rw [h9] at e; cases e))
    obtain ⟨rX1, rX2⟩ := X.out.row rfl
    go_wp2
    have g3 := grown_setRow w1 w.heap.size #[.int .i64 0, .int .i64 0, .int .i64 0, .int .i64 0, .int .i64 0, .int .i64 0, .int .i64 0, .int .i64 0, .int .i64 0, .string ⟨#[]⟩, .string ⟨#[]⟩, .string ⟨#[]⟩, .int .i64 0, .slice none 0 0, .int .i64 0, .slice none 0 0, .int .i64 0, .int .i64 0, .bool false]
    exact bodyPost_ret (results_emsg2 Tryd.results12 _ _ w.heap.size #[.int .i64 0, .int .i64 0, .int .i64 0, .int .i64 0, .int .i64 0, .int .i64 0, .int .i64 0, .int .i64 0, .int .i64 0, .string ⟨#[]⟩, .string ⟨#[]⟩, .string ⟨#[]⟩, .int .i64 0, .slice none 0 0, .int .i64 0, .slice none 0 0, .int .i64 0, .int .i64 0, .bool false] _ rfl rfl (setRow_heap _ _ _ _ _ _ X.out) rfl) rfl ⟨⟨none, 0, 0, none, 0, 0, by rw [readM_no HG.out, HG.out]; rfl, by rw [readM_no HG.out]; exact pts_zero _⟩, A.out.grow g3 (fun k hk => by cases hk; exact Nat.le_refl _)⟩
  | some r =>
    have hsf := suf9 s
    rw [h9] at hsf
    have HSF := Lib.hid hsf
    obtain ⟨z1, z2⟩ := hsf
    obtain ⟨q, hq⟩ : ∃ q, s.size - r.size = q := ⟨_, rfl⟩
    rw [show posI s (some r) = ((s.size - r.size : Nat) : Int) from rfl, hq]
    have y1 : ¬ ((q : Int) < 0) := by omega
    by_cases hr1 : 1 ≤ r.size
    case neg =>
      have y2 : (s.size : Int) ≤ (q : Int) := by omega
      clear hl bb z1 z2 hq
      have HG := Lib.hid (gM_no (s := s) (fun hg => by obtain ⟨r2, e, h1, _⟩ := model_m hg; rw [h9] at e; cases e; exact hr1 h1))
      obtain ⟨rX1, rX2⟩ := X.out.row rfl
      go_wp2
      have g3 := grown_setRow w1 w.heap.size #[.int .i64 0, .int .i64 0, .int .i64 0, .int .i64 0, .int .i64 0, .int .i64 0, .int .i64 0, .int .i64 0, .int .i64 0, .string ⟨#[]⟩, .string ⟨#[]⟩, .string ⟨#[]⟩, .int .i64 0, .slice none 0 0, .int .i64 0, .slice none 0 0, .int .i64 0, .int .i64 0, .bool false]
      exact bodyPost_ret (results_emsg2 Tryd.results12 _ _ w.heap.size #[.int .i64 0, .int .i64 0, .int .i64 0, .int .i64 0, .int .i64 0, .int .i64 0, .int .i64 0, .int .i64 0, .int .i64 0, .string ⟨#[]⟩, .string ⟨#[]⟩, .string ⟨#[]⟩, .int .i64 0, .slice none 0 0, .int .i64 0, .slice none 0 0, .int .i64 0, .int .i64 0, .bool false] _ rfl rfl (setRow_heap _ _ _ _ _ _ X.out) rfl) rfl ⟨⟨none, 0, 0, none, 0, 0, by rw [readM_no HG.out, HG.out]; rfl, by rw [readM_no HG.out]; exact pts_zero _⟩, A.out.grow g3 (fun k hk => by cases hk; exact Nat.le_refl _)⟩
    have y2 : ¬ ((s.size : Int) ≤ (q : Int)) := by omega
    have hql : q < s.size := by omega
    have hg0 := get_bt s q hql
    have hbr : bt s q = bt r 0 := by
      rw [z2, hq, ← get_bt s q hql, ← get_bt (s.extract q s.size) 0 (by rw [ByteArray.size_extract]; omega)]
      congr 2
      simp [ByteArray.getElem_extract]
    rw [hbr] at hg0
    obtain ⟨bs, hbb⟩ : ∃ bs, (bt r 0 == 1) = bs := ⟨_, rfl⟩
    have HBS := Lib.hid (show decide (bt r 0 = 1) = bs from hbb)
    have HL := hl (by rw [h9]; simp)
    obtain ⟨gl, lcap, el, hgl, hcl⟩ := HL.cell (by simp)
    simp only [Value.slice.injEq] at el
    obtain ⟨rfl, rfl, rfl⟩ := el
    have hwv : IntKind.i64.wrap ((k8 s).1 - 1) = (k8 s).1 - 1 := IntWalk.i64_in _ (by have h1 := oN_nonneg (k7 s).2; have h2 := oN_le (k7 s).2; have e1 : (k8 s).1 = (oN (k7 s).2).1 := rfl; omega)
    have hok : okA #[.int .i64 (k1 s).1, .int .i64 (k2 s).1, .int .i64 (k3 s).1, .int .i64 (k4 s).1, .int .i64 (k5 s).1, .int .i64 (k6 s).1, .int .i64 0, .int .i64 0, .int .i64 0, .string ⟨#[]⟩, .string ⟨#[]⟩, .string ⟨#[]⟩, .int .i64 0, .slice none 0 0, .int .i64 (k9 s).1, .slice none 0 0, .int .i64 (k7 s).1, .int .i64 ((k8 s).1 - 1), .bool bs] := ⟨rfl, by simp [Value.oneCell']⟩
    have hrn : rowP 36 (w1.alloc (.cells #[.int .i64 0, .int .i64 0, .int .i64 0, .int .i64 0, .int .i64 0, .int .i64 0, .int .i64 0, .int .i64 0, .int .i64 0, .string ⟨#[]⟩, .string ⟨#[]⟩, .string ⟨#[]⟩, .int .i64 0, .slice none 0 0, .int .i64 0, .slice none 0 0, .int .i64 0, .int .i64 0, .bool false] 36)).drew w1.heap.size := rowP_new w1
    have hsr : ((w1.alloc (.cells #[.int .i64 0, .int .i64 0, .int .i64 0, .int .i64 0, .int .i64 0, .int .i64 0, .int .i64 0, .int .i64 0, .int .i64 0, .string ⟨#[]⟩, .string ⟨#[]⟩, .string ⟨#[]⟩, .int .i64 0, .slice none 0 0, .int .i64 0, .slice none 0 0, .int .i64 0, .int .i64 0, .bool false] 36)).drew).setRow w1.heap.size #[.int .i64 (k1 s).1, .int .i64 (k2 s).1, .int .i64 (k3 s).1, .int .i64 (k4 s).1, .int .i64 (k5 s).1, .int .i64 (k6 s).1, .int .i64 0, .int .i64 0, .int .i64 0, .string ⟨#[]⟩, .string ⟨#[]⟩, .string ⟨#[]⟩, .int .i64 0, .slice none 0 0, .int .i64 (k9 s).1, .slice none 0 0, .int .i64 (k7 s).1, .int .i64 ((k8 s).1 - 1), .bool bs] = (w1.alloc (.cells #[.int .i64 (k1 s).1, .int .i64 (k2 s).1, .int .i64 (k3 s).1, .int .i64 (k4 s).1, .int .i64 (k5 s).1, .int .i64 (k6 s).1, .int .i64 0, .int .i64 0, .int .i64 0, .string ⟨#[]⟩, .string ⟨#[]⟩, .string ⟨#[]⟩, .int .i64 0, .slice none 0 0, .int .i64 (k9 s).1, .slice none 0 0, .int .i64 (k7 s).1, .int .i64 ((k8 s).1 - 1), .bool bs] 36)).drew := congrArg World.drew (World.setRow_alloc_new w1 _ _ _)
    have HQ := Lib.hid hq
    have HZ := Lib.hid z1
    clear hl bb HL z1 z2 hq hbr
    have CK := Lib.hid (fun W (h : Af w1 W) => (⟨(Below.cell h (p := ⟨gl, 0, none⟩) hgl).trans (hcl 0 _ rfl), (Below.cell h (p := ⟨gl, 1, none⟩) hgl).trans (hcl 1 _ rfl), (Below.cell h (p := ⟨gl, 2, none⟩) hgl).trans (hcl 2 _ rfl), (Below.cell h (p := ⟨gl, 3, none⟩) hgl).trans (hcl 3 _ rfl), (Below.cell h (p := ⟨gl, 4, none⟩) hgl).trans (hcl 4 _ rfl), (Below.cell h (p := ⟨gl, 5, none⟩) hgl).trans (hcl 5 _ rfl), (Below.cell h (p := ⟨gl, 6, none⟩) hgl).trans (hcl 6 _ rfl), (Below.cell h (p := ⟨gl, 7, none⟩) hgl).trans (hcl 7 _ rfl), (Below.cell h (p := ⟨gl, 8, none⟩) hgl).trans (hcl 8 _ rfl)⟩ : W.cell? ⟨gl, 0, none⟩ = some (.int .i64 (k1 s).1) ∧ W.cell? ⟨gl, 1, none⟩ = some (.int .i64 (k2 s).1) ∧ W.cell? ⟨gl, 2, none⟩ = some (.int .i64 (k3 s).1) ∧ W.cell? ⟨gl, 3, none⟩ = some (.int .i64 (k4 s).1) ∧ W.cell? ⟨gl, 4, none⟩ = some (.int .i64 (k5 s).1) ∧ W.cell? ⟨gl, 5, none⟩ = some (.int .i64 (k6 s).1) ∧ W.cell? ⟨gl, 6, none⟩ = some (.int .i64 (k7 s).1) ∧ W.cell? ⟨gl, 7, none⟩ = some (.int .i64 (k8 s).1) ∧ W.cell? ⟨gl, 8, none⟩ = some (.int .i64 (k9 s).1)))
    clear hcl
    go_wp2_with fail
    go_cut [6, 20, 21, 25, 26] from 28 (fun mv _ _ _ _ wx => mv = .pointer (some ⟨w1.heap.size, 0, none⟩) ∧ wx = (w1.drew.alloc (.cells #[.int .i64 (k1 s).1, .int .i64 (k2 s).1, .int .i64 (k3 s).1, .int .i64 (k4 s).1, .int .i64 (k5 s).1, .int .i64 (k6 s).1, .int .i64 0, .int .i64 0, .int .i64 0, .string ⟨#[]⟩, .string ⟨#[]⟩, .string ⟨#[]⟩, .int .i64 0, .slice none 0 0, .int .i64 (k9 s).1, .slice none 0 0, .int .i64 (k7 s).1, .int .i64 ((k8 s).1 - 1), .bool bs] 36)))
    case first =>
      refine wp_region_noPanic ?_
      refine wp_region_mix (S := fun w' => w'.cell? ⟨gl, 0, none⟩ = some (.int .i64 (k1 s).1) ∧ w'.cell? ⟨gl, 1, none⟩ = some (.int .i64 (k2 s).1) ∧ w'.cell? ⟨gl, 2, none⟩ = some (.int .i64 (k3 s).1) ∧ w'.cell? ⟨gl, 3, none⟩ = some (.int .i64 (k4 s).1) ∧ w'.cell? ⟨gl, 4, none⟩ = some (.int .i64 (k5 s).1) ∧ w'.cell? ⟨gl, 5, none⟩ = some (.int .i64 (k6 s).1) ∧ w'.cell? ⟨gl, 6, none⟩ = some (.int .i64 (k7 s).1) ∧ w'.cell? ⟨gl, 7, none⟩ = some (.int .i64 (k8 s).1) ∧ w'.cell? ⟨gl, 8, none⟩ = some (.int .i64 (k9 s).1)) [(true, 0), (true, 1), (true, 2), (true, 3), (true, 4), (true, 5), (true, 6), (true, 7), (true, 8), (true, 9), (true, 10), (true, 11), (true, 12), (true, 13), (true, 14), (true, 15), (true, 16), (true, 17), (true, 18), (true, 19), (true, 20), (true, 21), (true, 22), (true, 23), (true, 24), (true, 25), (true, 26), (true, 27), (true, 28), (true, 29), (true, 30), (true, 31), (true, 32), (true, 33), (false, 34), (false, 35)] (by kernel_rfl) (by kernel_rfl) (by kernel_rfl) (by kernel_rfl) (fun _ _ _ _ _ h => h) (CK.out _ (Af.refl w1).drew) ?_
      iterate 34 (refine wpMix_take (v := ?_) rfl rfl ?_ ?_; rotate_left; (intro w' hS'; (try dsimp only at hS'); go_simp; (try with_reducible rfl)); simp only [List.getElem_toArray, List.getElem_cons_succ, List.getElem_cons_zero, Act.put, List.setIfInBounds_toArray, List.set_cons_zero, List.set_cons_succ])
      refine wpMix_step rfl ?_
      go_wp2
      refine ⟨CK.out _ ((Af.refl w1).drew.alloc _), ?_⟩
      refine wpMix_step rfl ?_
      simp only [List.getElem_toArray, List.getElem_cons_succ, List.getElem_cons_zero]
      go_wp2
      refine ⟨CK.out _ ((Af.refl w1).drew.alloc _), ?_⟩
      unfold wpMix
      refine NoPanic.normal ?_
      go_wp2
      go_meet
      case rel => exact ⟨rfl, rfl⟩
    case rest =>
      obtain ⟨rfl, rfl⟩ := hcut
      clear CK
      have M := Lib.hid (show Bx (w1.drew.alloc (.cells #[.int .i64 (k1 s).1, .int .i64 (k2 s).1, .int .i64 (k3 s).1, .int .i64 (k4 s).1, .int .i64 (k5 s).1, .int .i64 (k6 s).1, .int .i64 0, .int .i64 0, .int .i64 0, .string ⟨#[]⟩, .string ⟨#[]⟩, .string ⟨#[]⟩, .int .i64 0, .slice none 0 0, .int .i64 (k9 s).1, .slice none 0 0, .int .i64 (k7 s).1, .int .i64 ((k8 s).1 - 1), .bool bs] 36)) w1.heap.size 36 #[.int .i64 (k1 s).1, .int .i64 (k2 s).1, .int .i64 (k3 s).1, .int .i64 (k4 s).1, .int .i64 (k5 s).1, .int .i64 (k6 s).1, .int .i64 0, .int .i64 0, .int .i64 0, .string ⟨#[]⟩, .string ⟨#[]⟩, .string ⟨#[]⟩, .int .i64 0, .slice none 0 0, .int .i64 (k9 s).1, .slice none 0 0, .int .i64 (k7 s).1, .int .i64 ((k8 s).1 - 1), .bool bs] from Bx.new w1.drew 36 #[.int .i64 (k1 s).1, .int .i64 (k2 s).1, .int .i64 (k3 s).1, .int .i64 (k4 s).1, .int .i64 (k5 s).1, .int .i64 (k6 s).1, .int .i64 0, .int .i64 0, .int .i64 0, .string ⟨#[]⟩, .string ⟨#[]⟩, .string ⟨#[]⟩, .int .i64 0, .slice none 0 0, .int .i64 (k9 s).1, .slice none 0 0, .int .i64 (k7 s).1, .int .i64 ((k8 s).1 - 1), .bool bs] _ rfl)
      have nX := Lib.hid (X.out.drew.alloc (.cells #[.int .i64 (k1 s).1, .int .i64 (k2 s).1, .int .i64 (k3 s).1, .int .i64 (k4 s).1, .int .i64 (k5 s).1, .int .i64 (k6 s).1, .int .i64 0, .int .i64 0, .int .i64 0, .string ⟨#[]⟩, .string ⟨#[]⟩, .string ⟨#[]⟩, .int .i64 0, .slice none 0 0, .int .i64 (k9 s).1, .slice none 0 0, .int .i64 (k7 s).1, .int .i64 ((k8 s).1 - 1), .bool bs] 36))
      have nA := Lib.hid (A.out.drew.alloc (.cells #[.int .i64 (k1 s).1, .int .i64 (k2 s).1, .int .i64 (k3 s).1, .int .i64 (k4 s).1, .int .i64 (k5 s).1, .int .i64 (k6 s).1, .int .i64 0, .int .i64 0, .int .i64 0, .string ⟨#[]⟩, .string ⟨#[]⟩, .string ⟨#[]⟩, .int .i64 0, .slice none 0 0, .int .i64 (k9 s).1, .slice none 0 0, .int .i64 (k7 s).1, .int .i64 ((k8 s).1 - 1), .bool bs] 36))
      clear X A
      have X := nX
      have A := nA
      clear nX nA
      have hwq : IntKind.i64.wrap ((q : Int) + 1) = (q : Int) + 1 := IntWalk.i64_in _ (by omega)
      have hp1 : posI s (some (r.extract 1 r.size)) = (q : Int) + 1 := by
        show ((s.size - (r.extract 1 r.size).size : Nat) : Int) = _
        rw [ext_size r 1 _ (Nat.le_refl _)]
        have := HQ.out; have := HZ.out; omega
      have hs11 : Suf s (some (r.extract 1 r.size)) := suf_cut s r 1 HSF.out hr1
      have TK := Lib.hid (fun W => (by have h := take_c s (some (r.extract 1 r.size)) W hs hs11; rw [hp1] at h; exact h : Calls Tryd.prog 48 #[.string s, .int .i64 ((q : Int) + 1)] W fun e w' => e = .returned (.tuple #[.string (q11 r).1, .int .i64 (posI s (q11 r).2)]) ∧ Below W.heap.size W w'))
      have HS11 := Lib.hid (show Suf s (q11 r).2 from suf_T s _ hs11)
      clear hok hrn hsr hg0 hbb y1 y2 hwv hp1 hs11
      go_wp2_with fail
      clear hwq
      refine (TK.out _).mono ?_
      rintro e w3 ⟨rfl, bb⟩
      have nX := Lib.hid (X.out.after bb)
      have nM := Lib.hid (M.out.after bb)
      have nA := Lib.hid (A.out.after bb)
      clear X M A
      have X := nX
      have M := nM
      have A := nA
      clear nX nM nA
      clear bb TK
      go_wp2_with fail
      refine (vars1 s (q11 r).2 _ hs HS11.out).mono ?_
      rintro e w4 ⟨⟨nv, rfl, ⟨na, nm, nc, rfl⟩, hn⟩, bb⟩
      have hgM : w1.heap.size < w3.heap.size := M.out.lt
      have hz4 : w3.heap.size ≤ w4.heap.size := bb.size
      have nX := Lib.hid (X.out.after bb)
      have nM := Lib.hid (M.out.after bb)
      have nA := Lib.hid (A.out.after bb)
      clear X M A
      have X := nX
      have M := nM
      have A := nA
      clear nX nM nA
      clear bb
      rw [show (oN (q11 r).2).2 = (q12 r).2 from rfl, show (oN (q11 r).2).1 = (q12 r).1 from rfl] at hn
      rw [show (oN (q11 r).2).2 = (q12 r).2 from rfl]
      have HS12 := Lib.hid (show Suf s (q12 r).2 from suf_N s _ HS11.out)
      cases h12 : (q12 r).2 with
      | none =>
        rw [show posI s none = -1 from rfl]
        clear hn
        have HG := Lib.hid (gM_no (s := s) (fun hg => by obtain ⟨r2, e, _, ⟨x, hx⟩, _⟩ := model_m hg; rw [h9] at e; cases e; rw [h12] at hx; cases hx))
        obtain ⟨rX1, rX2⟩ := X.out.row rfl
        go_wp2
        have g3 := grown_setRow w4 w.heap.size #[.int .i64 0, .int .i64 0, .int .i64 0, .int .i64 0, .int .i64 0, .int .i64 0, .int .i64 0, .int .i64 0, .int .i64 0, .string ⟨#[]⟩, .string ⟨#[]⟩, .string ⟨#[]⟩, .int .i64 0, .slice none 0 0, .int .i64 0, .slice none 0 0, .int .i64 0, .int .i64 0, .bool false]
        exact bodyPost_ret (results_emsg2 Tryd.results12 _ _ w.heap.size #[.int .i64 0, .int .i64 0, .int .i64 0, .int .i64 0, .int .i64 0, .int .i64 0, .int .i64 0, .int .i64 0, .int .i64 0, .string ⟨#[]⟩, .string ⟨#[]⟩, .string ⟨#[]⟩, .int .i64 0, .slice none 0 0, .int .i64 0, .slice none 0 0, .int .i64 0, .int .i64 0, .bool false] _ rfl rfl (setRow_heap _ _ _ _ _ _ X.out) rfl) rfl ⟨⟨none, 0, 0, none, 0, 0, by rw [readM_no HG.out, HG.out]; rfl, by rw [readM_no HG.out]; exact pts_zero _⟩, A.out.grow g3 (fun k hk => by cases hk; exact Nat.le_refl _)⟩
      | some r12 =>
          obtain ⟨p, hp⟩ : ∃ p, s.size - r12.size = p := ⟨_, rfl⟩
          rw [show posI s (some r12) = ((s.size - r12.size : Nat) : Int) from rfl, hp]
          have y1 : ¬ ((p : Int) < 0) := by omega
          have HN := hn (by rw [h12]; simp)
          obtain ⟨gn, ncap, en, hgn, hcn⟩ := HN.cell (by simp)
          simp only [Value.slice.injEq] at en
          obtain ⟨rfl, rfl, rfl⟩ := en
          have cn0 := hcn 0 _ rfl
          have hgn3 : w3.heap.size ≤ gn := (HN.lt gn rfl).1
          by_cases h18 : 18 < (q12 r).1
          case pos =>
            clear hn hcn HN
            have HG := Lib.hid (gM_no (s := s) (fun hg => by obtain ⟨r2, e, _, _, h17, _⟩ := model_m hg; rw [h9] at e; cases e; omega))
            obtain ⟨rX1, rX2⟩ := X.out.row rfl
            go_wp2
            have g3 := grown_setRow w4 w.heap.size #[.int .i64 0, .int .i64 0, .int .i64 0, .int .i64 0, .int .i64 0, .int .i64 0, .int .i64 0, .int .i64 0, .int .i64 0, .string ⟨#[]⟩, .string ⟨#[]⟩, .string ⟨#[]⟩, .int .i64 0, .slice none 0 0, .int .i64 0, .slice none 0 0, .int .i64 0, .int .i64 0, .bool false]
            exact bodyPost_ret (results_emsg2 Tryd.results12 _ _ w.heap.size #[.int .i64 0, .int .i64 0, .int .i64 0, .int .i64 0, .int .i64 0, .int .i64 0, .int .i64 0, .int .i64 0, .int .i64 0, .string ⟨#[]⟩, .string ⟨#[]⟩, .string ⟨#[]⟩, .int .i64 0, .slice none 0 0, .int .i64 0, .slice none 0 0, .int .i64 0, .int .i64 0, .bool false] _ rfl rfl (setRow_heap _ _ _ _ _ _ X.out) rfl) rfl ⟨⟨none, 0, 0, none, 0, 0, by rw [readM_no HG.out, HG.out]; rfl, by rw [readM_no HG.out]; exact pts_zero _⟩, A.out.grow g3 (fun k hk => by cases hk; exact Nat.le_refl _)⟩
          have h0 := oN_nonneg (q11 r).2
          obtain ⟨m, hm⟩ : ∃ m : Nat, (q12 r).1 = (m : Int) := ⟨(q12 r).1.toNat, by have e : (q12 r).1 = (oN (q11 r).2).1 := rfl; omega⟩
          rw [hm] at cn0 h18
          have hm18 : m ≤ 18 := by omega
          have CN := Lib.hid cn0
          have HM := Lib.hid hm
          clear hn hcn HN hm h0
          have hzt : (q11 r).1.size ≤ 1048576 := oT_size (fun r2 e => by cases e; rw [ext_size r 1 _ (Nat.le_refl _)]; have := HZ.out; omega)
          go_wp2_with fail
          clear cn0 h18 y1
          refine (spec_read (q11 r).1 _ hzt).mono ?_
          rintro e w5 ⟨⟨va, vn, vcap, rfl, hv⟩, bb⟩
          have hz5 : w4.heap.size ≤ w5.heap.size := bb.size
          have CN := Lib.hid (show (w5.alloc (.cells #[.int .i64 (readC (q11 r).1).kind, .int .i64 (readC (q11 r).1).client, .int .i64 (readC (q11 r).1).no, .string (readC (q11 r).1).set, .string (readC (q11 r).1).name, .string (readC (q11 r).1).tag, .int .i64 (readC (q11 r).1).n, .slice va vn vcap] 33)).cell? ⟨gn, 0, none⟩ = some (.int .i64 (m : Int)) from (Below.cell (bb.alloc bb.size (.cells #[.int .i64 (readC (q11 r).1).kind, .int .i64 (readC (q11 r).1).client, .int .i64 (readC (q11 r).1).no, .string (readC (q11 r).1).set, .string (readC (q11 r).1).name, .string (readC (q11 r).1).tag, .int .i64 (readC (q11 r).1).n, .slice va vn vcap] 33)) (p := ⟨gn, 0, none⟩) hgn).trans CN.out)
          have HUB := Lib.hid (fun k hk => (World.ownsRow.lt hv k hk).2)
          have U := Lib.hid (GrowsS.alloc hv (.cells #[.int .i64 (readC (q11 r).1).kind, .int .i64 (readC (q11 r).1).client, .int .i64 (readC (q11 r).1).no, .string (readC (q11 r).1).set, .string (readC (q11 r).1).name, .string (readC (q11 r).1).tag, .int .i64 (readC (q11 r).1).n, .slice va vn vcap] 33))
          have nX := Lib.hid ((X.out.after bb).alloc (.cells #[.int .i64 (readC (q11 r).1).kind, .int .i64 (readC (q11 r).1).client, .int .i64 (readC (q11 r).1).no, .string (readC (q11 r).1).set, .string (readC (q11 r).1).name, .string (readC (q11 r).1).tag, .int .i64 (readC (q11 r).1).n, .slice va vn vcap] 33))
          have nM := Lib.hid ((M.out.after bb).alloc (.cells #[.int .i64 (readC (q11 r).1).kind, .int .i64 (readC (q11 r).1).client, .int .i64 (readC (q11 r).1).no, .string (readC (q11 r).1).set, .string (readC (q11 r).1).name, .string (readC (q11 r).1).tag, .int .i64 (readC (q11 r).1).n, .slice va vn vcap] 33))
          have nA := Lib.hid ((A.out.after bb).alloc (.cells #[.int .i64 (readC (q11 r).1).kind, .int .i64 (readC (q11 r).1).client, .int .i64 (readC (q11 r).1).no, .string (readC (q11 r).1).set, .string (readC (q11 r).1).name, .string (readC (q11 r).1).tag, .int .i64 (readC (q11 r).1).n, .slice va vn vcap] 33))
          clear X M A
          have X := nX
          have M := nM
          have A := nA
          clear nX nM nA
          clear bb hv
          have f6 := M.out.frozen 6; have x6 := M.out.cell 6 _ rfl
          have f7 := M.out.frozen 7; have x7 := M.out.cell 7 _ rfl
          have f8 := M.out.frozen 8; have x8 := M.out.cell 8 _ rfl
          have f9 := M.out.frozen 9; have x9 := M.out.cell 9 _ rfl
          have f10 := M.out.frozen 10; have x10 := M.out.cell 10 _ rfl
          have f11 := M.out.frozen 11; have x11 := M.out.cell 11 _ rfl
          have f12 := M.out.frozen 12; have x12 := M.out.cell 12 _ rfl
          have f13 := M.out.frozen 13; have x13 := M.out.cell 13 _ rfl
          have lmm := M.out.lt
          have g2 := setL_grown w1.heap.size [.int .i64 (readC (q11 r).1).kind, .int .i64 (readC (q11 r).1).client, .int .i64 (readC (q11 r).1).no, .string (readC (q11 r).1).set, .string (readC (q11 r).1).name, .string (readC (q11 r).1).tag, .int .i64 (readC (q11 r).1).n, .slice va vn vcap] (w5.alloc (.cells #[.int .i64 (readC (q11 r).1).kind, .int .i64 (readC (q11 r).1).client, .int .i64 (readC (q11 r).1).no, .string (readC (q11 r).1).set, .string (readC (q11 r).1).name, .string (readC (q11 r).1).tag, .int .i64 (readC (q11 r).1).n, .slice va vn vcap] 33)) 6
          have m2 : Bx (setL (w5.alloc (.cells #[.int .i64 (readC (q11 r).1).kind, .int .i64 (readC (q11 r).1).client, .int .i64 (readC (q11 r).1).no, .string (readC (q11 r).1).set, .string (readC (q11 r).1).name, .string (readC (q11 r).1).tag, .int .i64 (readC (q11 r).1).n, .slice va vn vcap] 33)) w1.heap.size 6 [.int .i64 (readC (q11 r).1).kind, .int .i64 (readC (q11 r).1).client, .int .i64 (readC (q11 r).1).no, .string (readC (q11 r).1).set, .string (readC (q11 r).1).name, .string (readC (q11 r).1).tag, .int .i64 (readC (q11 r).1).n, .slice va vn vcap]) w1.heap.size 36 #[.int .i64 (k1 s).1, .int .i64 (k2 s).1, .int .i64 (k3 s).1, .int .i64 (k4 s).1, .int .i64 (k5 s).1, .int .i64 (k6 s).1, .int .i64 (readC (q11 r).1).kind, .int .i64 (readC (q11 r).1).client, .int .i64 (readC (q11 r).1).no, .string (readC (q11 r).1).set, .string (readC (q11 r).1).name, .string (readC (q11 r).1).tag, .int .i64 (readC (q11 r).1).n, .slice va vn vcap, .int .i64 (k9 s).1, .slice none 0 0, .int .i64 (k7 s).1, .int .i64 ((k8 s).1 - 1), .bool bs] := by have h9 := setL_heap [.int .i64 (readC (q11 r).1).kind, .int .i64 (readC (q11 r).1).client, .int .i64 (readC (q11 r).1).no, .string (readC (q11 r).1).set, .string (readC (q11 r).1).name, .string (readC (q11 r).1).tag, .int .i64 (readC (q11 r).1).n, .slice va vn vcap] (w5.alloc (.cells #[.int .i64 (readC (q11 r).1).kind, .int .i64 (readC (q11 r).1).client, .int .i64 (readC (q11 r).1).no, .string (readC (q11 r).1).set, .string (readC (q11 r).1).name, .string (readC (q11 r).1).tag, .int .i64 (readC (q11 r).1).n, .slice va vn vcap] 33)) _ 6 M.out; rw [updL_eq [.int .i64 (readC (q11 r).1).kind, .int .i64 (readC (q11 r).1).client, .int .i64 (readC (q11 r).1).no, .string (readC (q11 r).1).set, .string (readC (q11 r).1).name, .string (readC (q11 r).1).tag, .int .i64 (readC (q11 r).1).n, .slice va vn vcap] #[.int .i64 (k1 s).1, .int .i64 (k2 s).1, .int .i64 (k3 s).1, .int .i64 (k4 s).1, .int .i64 (k5 s).1, .int .i64 (k6 s).1, .int .i64 0, .int .i64 0, .int .i64 0, .string ⟨#[]⟩, .string ⟨#[]⟩, .string ⟨#[]⟩, .int .i64 0, .slice none 0 0, .int .i64 (k9 s).1, .slice none 0 0, .int .i64 (k7 s).1, .int .i64 ((k8 s).1 - 1), .bool bs] 6 (show 6 + 8 ≤ 19 by omega)] at h9; exact h9
          have hgne : gn ≠ w1.heap.size := by omega
          have hX6 : Bx (setL (w5.alloc (.cells #[.int .i64 (readC (q11 r).1).kind, .int .i64 (readC (q11 r).1).client, .int .i64 (readC (q11 r).1).no, .string (readC (q11 r).1).set, .string (readC (q11 r).1).name, .string (readC (q11 r).1).tag, .int .i64 (readC (q11 r).1).n, .slice va vn vcap] 33)) w1.heap.size 6 [.int .i64 (readC (q11 r).1).kind, .int .i64 (readC (q11 r).1).client, .int .i64 (readC (q11 r).1).no, .string (readC (q11 r).1).set, .string (readC (q11 r).1).name, .string (readC (q11 r).1).tag, .int .i64 (readC (q11 r).1).n, .slice va vn vcap]) w.heap.size 36 #[.int .i64 0, .int .i64 0, .int .i64 0, .int .i64 0, .int .i64 0, .int .i64 0, .int .i64 0, .int .i64 0, .int .i64 0, .string ⟨#[]⟩, .string ⟨#[]⟩, .string ⟨#[]⟩, .int .i64 0, .slice none 0 0, .int .i64 0, .slice none 0 0, .int .i64 0, .int .i64 0, .bool false] := X.out.keep g2 (by simp <;> omega)
          have hA6 : Af w (setL (w5.alloc (.cells #[.int .i64 (readC (q11 r).1).kind, .int .i64 (readC (q11 r).1).client, .int .i64 (readC (q11 r).1).no, .string (readC (q11 r).1).set, .string (readC (q11 r).1).name, .string (readC (q11 r).1).tag, .int .i64 (readC (q11 r).1).n, .slice va vn vcap] 33)) w1.heap.size 6 [.int .i64 (readC (q11 r).1).kind, .int .i64 (readC (q11 r).1).client, .int .i64 (readC (q11 r).1).no, .string (readC (q11 r).1).set, .string (readC (q11 r).1).name, .string (readC (q11 r).1).tag, .int .i64 (readC (q11 r).1).n, .slice va vn vcap]) := A.out.grow g2 (fun k hk => by cases hk; omega)
          have hU6 : GrowsS (setL (w5.alloc (.cells #[.int .i64 (readC (q11 r).1).kind, .int .i64 (readC (q11 r).1).client, .int .i64 (readC (q11 r).1).no, .string (readC (q11 r).1).set, .string (readC (q11 r).1).name, .string (readC (q11 r).1).tag, .int .i64 (readC (q11 r).1).n, .slice va vn vcap] 33)) w1.heap.size 6 [.int .i64 (readC (q11 r).1).kind, .int .i64 (readC (q11 r).1).client, .int .i64 (readC (q11 r).1).no, .string (readC (q11 r).1).set, .string (readC (q11 r).1).name, .string (readC (q11 r).1).tag, .int .i64 (readC (q11 r).1).n, .slice va vn vcap]) (w4.heap.size + 1) (.slice va vn vcap) (readC (q11 r).1).ch := U.out.kept g2 (by omega)
          have hC6 : (setL (w5.alloc (.cells #[.int .i64 (readC (q11 r).1).kind, .int .i64 (readC (q11 r).1).client, .int .i64 (readC (q11 r).1).no, .string (readC (q11 r).1).set, .string (readC (q11 r).1).name, .string (readC (q11 r).1).tag, .int .i64 (readC (q11 r).1).n, .slice va vn vcap] 33)) w1.heap.size 6 [.int .i64 (readC (q11 r).1).kind, .int .i64 (readC (q11 r).1).client, .int .i64 (readC (q11 r).1).no, .string (readC (q11 r).1).set, .string (readC (q11 r).1).name, .string (readC (q11 r).1).tag, .int .i64 (readC (q11 r).1).n, .slice va vn vcap]).cell? ⟨gn, 0, none⟩ = some (.int .i64 (m : Int)) := (World.cell?_of_block (a := ⟨gn, 0, none⟩) (g2.block gn (by simp; omega) (by simp <;> omega))).trans CN.out
          have X6 := Lib.hid hX6; have A6 := Lib.hid hA6; have U6 := Lib.hid hU6; have C6 := Lib.hid hC6; have M6 := Lib.hid m2
          clear X A U CN M g2 m2 hX6 hA6 hU6 hC6
          go_wp2
          clear f6 x6 f7 x7 f8 x8 f9 x9 f10 x10 f11 x11 f12 x12 f13 x13 lmm
          go_loopw [5, 11] (fun pv iv wr => ∃ (k : Nat) (a' : Option Addr) (n' c' : Nat) (r' : ByteArray), k ≤ m ∧ iv = .int .i64 k ∧ (oD (q12 r).2 k).2 = some r' ∧ pv = .int .i64 (posI s (some r')) ∧ Bx wr w1.heap.size 36 #[.int .i64 (k1 s).1, .int .i64 (k2 s).1, .int .i64 (k3 s).1, .int .i64 (k4 s).1, .int .i64 (k5 s).1, .int .i64 (k6 s).1, .int .i64 (readC (q11 r).1).kind, .int .i64 (readC (q11 r).1).client, .int .i64 (readC (q11 r).1).no, .string (readC (q11 r).1).set, .string (readC (q11 r).1).name, .string (readC (q11 r).1).tag, .int .i64 (readC (q11 r).1).n, .slice va vn vcap, .int .i64 (k9 s).1, .slice a' n' c', .int .i64 (k7 s).1, .int .i64 ((k8 s).1 - 1), .bool bs] ∧ IdRow wr (w5.heap.size + 1) (.slice a' n' c') (oD (q12 r).2 k).1 ∧ GrowsS wr (w4.heap.size + 1) (.slice va vn vcap) (readC (q11 r).1).ch ∧ wr.cell? ⟨gn, 0, none⟩ = some (.int .i64 (m : Int)) ∧ Bx wr w.heap.size 36 #[.int .i64 0, .int .i64 0, .int .i64 0, .int .i64 0, .int .i64 0, .int .i64 0, .int .i64 0, .int .i64 0, .int .i64 0, .string ⟨#[]⟩, .string ⟨#[]⟩, .string ⟨#[]⟩, .int .i64 0, .slice none 0 0, .int .i64 0, .slice none 0 0, .int .i64 0, .int .i64 0, .bool false] ∧ Af w wr ∧ w5.heap.size < wr.heap.size) (fun _ i _ => m - (intOf i).toNat)
          case atStart => exact ⟨0, none, 0, 0, r12, by omega, rfl, h12, by rw [show posI s (some r12) = ((s.size - r12.size : Nat) : Int) from rfl, hp], M6.out, idRow_nil _ _, U6.out, C6.out, X6.out, A6.out, by simp⟩
          case round =>
            clear X6 A6 U6 C6 M6
            obtain ⟨k, a', n', c', r', hk, rfl, hst, rfl, hM, hD, hU, hC, hX, hA, hwr⟩ := hrel
            have M := Lib.hid hM; have D := Lib.hid hD; have U := Lib.hid hU; have X := Lib.hid hX; have A := Lib.hid hA; have HST := Lib.hid hst; have CC := Lib.hid hC
            clear hM hD hU hX hA hst
            by_cases hlt : k < m
            · have y1 : (k : Int) < (m : Int) := by omega
              have HSU := Lib.hid (show Suf s (some r') by have h := suf_D s (q12 r).2 HS12.out k; rw [HST.out] at h; exact h)
              go_wp2_with fail
              refine (vars2 s (some r') _ hs HSU.out).mono ?_
              rintro e w7 ⟨⟨dv, rfl, ⟨da, dm, dc, rfl⟩, hd⟩, bb⟩
              have hz7 : wr.heap.size ≤ w7.heap.size := bb.size
              have hgnr : gn < wr.heap.size := by omega
              have hC7 : w7.cell? ⟨gn, 0, none⟩ = some (.int .i64 (m : Int)) := (Below.cell bb (p := ⟨gn, 0, none⟩) hgnr).trans CC.out
              have CC7 := Lib.hid hC7
              have nX := Lib.hid (X.out.after bb)
              have nM := Lib.hid (M.out.after bb)
              have nA := Lib.hid (A.out.after bb)
              have nD := Lib.hid (D.out.later bb)
              have nU := Lib.hid (growsS_row U.out (grown_of_below bb none) (by cases Value.ownBlock _ <;> simp))
              clear X M A D U
              have X := nX
              have M := nM
              have A := nA
              have D := nD
              have U := nU
              clear nX nM nA nD nU
              clear bb hC CC hC7
              have HD1 := Lib.hid (oD_succ (q12 r).2 k)
              rw [HST.out] at HD1
              cases hs2 : (oN (oN (some r')).2).2 with
              | none =>
                rw [show posI s none = -1 from rfl]
                clear hd y1
                have HG := Lib.hid (gM_no (s := s) (fun hg => by obtain ⟨r2, e, _, _, _, ⟨x, hx⟩, _⟩ := model_m hg; rw [h9] at e; cases e; have h1 : (oD (q12 r).2 (k + 1)).2 = none := by { rw [HD1.out]; exact hs2 }; have h2 := oD_none _ (k + 1) h1 (m - (k + 1)); rw [show k + 1 + (m - (k + 1)) = m by omega] at h2; unfold q13 at hx; rw [HM.out, Int.toNat_natCast, h2] at hx; cases hx))
                obtain ⟨rX1, rX2⟩ := X.out.row rfl
                go_wp2
                have g3 := grown_setRow w7 w.heap.size #[.int .i64 0, .int .i64 0, .int .i64 0, .int .i64 0, .int .i64 0, .int .i64 0, .int .i64 0, .int .i64 0, .int .i64 0, .string ⟨#[]⟩, .string ⟨#[]⟩, .string ⟨#[]⟩, .int .i64 0, .slice none 0 0, .int .i64 0, .slice none 0 0, .int .i64 0, .int .i64 0, .bool false]
                exact bodyPost_ret (results_emsg2 Tryd.results12 _ _ w.heap.size #[.int .i64 0, .int .i64 0, .int .i64 0, .int .i64 0, .int .i64 0, .int .i64 0, .int .i64 0, .int .i64 0, .int .i64 0, .string ⟨#[]⟩, .string ⟨#[]⟩, .string ⟨#[]⟩, .int .i64 0, .slice none 0 0, .int .i64 0, .slice none 0 0, .int .i64 0, .int .i64 0, .bool false] _ rfl rfl (setRow_heap _ _ _ _ _ _ X.out) rfl) rfl ⟨⟨none, 0, 0, none, 0, 0, by rw [readM_no HG.out, HG.out]; rfl, by rw [readM_no HG.out]; exact pts_zero _⟩, A.out.grow g3 (fun k hk => by cases hk; exact Nat.le_refl _)⟩
              | some r2 =>
                  obtain ⟨va1, hva1⟩ : ∃ x, (oN (some r')).1 = x := ⟨_, rfl⟩
                  obtain ⟨vb1, hvb1⟩ : ∃ x, (oN (oN (some r')).2).1 = x := ⟨_, rfl⟩
                  rw [hs2, hva1, hvb1] at HD1
                  rw [hva1, hvb1] at hd
                  have HDG := hd (by rw [hs2]; simp)
                  obtain ⟨gd, dcap, ed, hgd, hcd⟩ := HDG.cell (by simp)
                  simp only [Value.slice.injEq] at ed
                  obtain ⟨rfl, rfl, rfl⟩ := ed
                  have hgdl : wr.heap.size ≤ gd := (HDG.lt gd rfl).1
                  have d0 := hcd 0 _ rfl; have d1 := hcd 1 _ rfl
                  obtain ⟨p2, hp2⟩ : ∃ p2, s.size - r2.size = p2 := ⟨_, rfl⟩
                  rw [show posI s (some r2) = ((s.size - r2.size : Nat) : Int) from rfl, hp2]
                  have y2 : ¬ ((p2 : Int) < 0) := by omega
                  have HP2 := Lib.hid hp2
                  have hlen := oD_length (q12 r).2 k
                  have hgMw : w1.heap.size < w7.heap.size := M.out.lt
                  have HVA := Lib.hid hva1; have HVB := Lib.hid hvb1; have HS2 := Lib.hid hs2
                  have f15 := M.out.frozen 15; have x15 := M.out.cell 15 _ rfl; have lmm := M.out.lt
                  have HLN := Lib.hid hlen
                  clear hd hcd HDG hp2 hva1 hvb1 hs2 hlen
                  go_wp2
                  have X2 := Lib.hid ((Bx.new w7 32 #[.int .i64 va1, .int .i64 vb1] _ rfl).drew)
                  have nX := Lib.hid ((X.out.alloc (.cells #[.int .i64 va1, .int .i64 vb1] 32)).drew)
                  have nM := Lib.hid ((M.out.alloc (.cells #[.int .i64 va1, .int .i64 vb1] 32)).drew)
                  have nA := Lib.hid ((A.out.alloc (.cells #[.int .i64 va1, .int .i64 vb1] 32)).drew)
                  have nD := Lib.hid ((D.out.alloc (.cells #[.int .i64 va1, .int .i64 vb1] 32)).drew)
                  have nU := Lib.hid (GrowsS.drew (GrowsS.alloc U.out (.cells #[.int .i64 va1, .int .i64 vb1] 32)))
                  clear X M A D U
                  have X := nX
                  have M := nM
                  have A := nA
                  have D := nD
                  have U := nU
                  clear nX nM nA nD nU
                  have hC8 : ((w7.alloc (.cells #[.int .i64 va1, .int .i64 vb1] 32)).drew).cell? ⟨gn, 0, none⟩ = some (.int .i64 (m : Int)) := (Below.cell ((Below.refl w7.heap.size w7).alloc (Nat.le_refl _) (.cells #[.int .i64 va1, .int .i64 vb1] 32)).drew (p := ⟨gn, 0, none⟩) (show gn < w7.heap.size by omega)).trans CC7.out
                  have HC8 := Lib.hid hC8
                  clear hC8
                  go_region_law (first | (refine step_append_id rfl (.tmp 108) (.tmp 116) rfl (w5.heap.size + 1) (.slice a' n' c') (oD (q12 r).2 k).1 ⟨va1, vb1⟩ (by simp [Act.eval]) D.out w7.heap.size 1 (by simp [Act.eval]) ⟨X2.out.cell 0 _ rfl, X2.out.cell 1 _ rfl⟩ (by rw [HLN.out]; omega) (by simp; omega) ?_; intro v9 w9 r9 g9; obtain ⟨a9, c9, rfl⟩ := r9.form; obtain ⟨n9, hn9⟩ : ∃ n9, ((oD (q12 r).2 k).1 ++ [(⟨va1, vb1⟩ : Ii)]).length = n9 := ⟨_, rfl⟩; rw [hn9] at r9 ⊢; have M9 := Lib.hid (M.out.keep g9 (fun e => by have := (D.out.lt _ e.symm).1; omega)); have x159 := M9.out.cell 15 _ rfl; have f159 := M9.out.frozen 15; have lm9 := M9.out.lt))
                  all_goals
                    go_wp2
                    have hDl : ∀ j, Value.ownBlock (.slice a' n' c') = some j → w5.heap.size + 1 ≤ j := fun j hj => (D.out.lt j hj).1
                    have hz9 : w7.heap.size + 1 ≤ w9.heap.size := by have := g9.size; simp at this; exact this
                    have nX := Lib.hid (X.out.keep g9 (fun e => by have := hDl _ e.symm; omega))
                    have nA := Lib.hid (A.out.grow g9 (fun j hj => by have := hDl j hj; omega))
                    have nU := Lib.hid (growsS_row U.out g9 (by cases hob : Value.ownBlock (.slice va vn vcap) with | none => exact .inl rfl | some j => right; intro e; have h1 := HUB.out j hob; have h2 := hDl j e.symm; omega))
                    clear X A U
                    have X := nX
                    have A := nA
                    have U := nU
                    clear nX nA nU
                    have hC9 : w9.cell? ⟨gn, 0, none⟩ = some (.int .i64 (m : Int)) := (World.cell?_of_block (a := ⟨gn, 0, none⟩) (g9.block gn (by simp; omega) (fun e => by have := hDl _ e.symm; omega))).trans HC8.out
                    have M := M9
                    have g10 := setL_grown w1.heap.size [.slice a9 n9 c9] w9 15
                    have m10 : Bx (w9.setCell ⟨w1.heap.size, 15, none⟩ (.slice a9 n9 c9)) w1.heap.size 36 #[.int .i64 (k1 s).1, .int .i64 (k2 s).1, .int .i64 (k3 s).1, .int .i64 (k4 s).1, .int .i64 (k5 s).1, .int .i64 (k6 s).1, .int .i64 (readC (q11 r).1).kind, .int .i64 (readC (q11 r).1).client, .int .i64 (readC (q11 r).1).no, .string (readC (q11 r).1).set, .string (readC (q11 r).1).name, .string (readC (q11 r).1).tag, .int .i64 (readC (q11 r).1).n, .slice va vn vcap, .int .i64 (k9 s).1, .slice a9 n9 c9, .int .i64 (k7 s).1, .int .i64 ((k8 s).1 - 1), .bool bs] := by have h9 := setL_heap [.slice a9 n9 c9] w9 _ 15 M.out; rw [updL_eq [.slice a9 n9 c9] #[.int .i64 (k1 s).1, .int .i64 (k2 s).1, .int .i64 (k3 s).1, .int .i64 (k4 s).1, .int .i64 (k5 s).1, .int .i64 (k6 s).1, .int .i64 (readC (q11 r).1).kind, .int .i64 (readC (q11 r).1).client, .int .i64 (readC (q11 r).1).no, .string (readC (q11 r).1).set, .string (readC (q11 r).1).name, .string (readC (q11 r).1).tag, .int .i64 (readC (q11 r).1).n, .slice va vn vcap, .int .i64 (k9 s).1, (.slice a' n' c'), .int .i64 (k7 s).1, .int .i64 ((k8 s).1 - 1), .bool bs] 15 (show 15 + 1 ≤ 19 by omega)] at h9; exact h9
                    have hC10 : (w9.setCell ⟨w1.heap.size, 15, none⟩ (.slice a9 n9 c9)).cell? ⟨gn, 0, none⟩ = some (.int .i64 (m : Int)) := (World.cell?_of_block (a := ⟨gn, 0, none⟩) (g10.block gn (by omega) (by simp <;> omega))).trans hC9
                    have hM10 := m10
                    have hX10 : Bx (w9.setCell ⟨w1.heap.size, 15, none⟩ (.slice a9 n9 c9)) w.heap.size 36 #[.int .i64 0, .int .i64 0, .int .i64 0, .int .i64 0, .int .i64 0, .int .i64 0, .int .i64 0, .int .i64 0, .int .i64 0, .string ⟨#[]⟩, .string ⟨#[]⟩, .string ⟨#[]⟩, .int .i64 0, .slice none 0 0, .int .i64 0, .slice none 0 0, .int .i64 0, .int .i64 0, .bool false] := X.out.keep g10 (by simp <;> omega)
                    have hA10 : Af w (w9.setCell ⟨w1.heap.size, 15, none⟩ (.slice a9 n9 c9)) := A.out.grow g10 (fun k hk => by cases hk; omega)
                    have hU10 : GrowsS (w9.setCell ⟨w1.heap.size, 15, none⟩ (.slice a9 n9 c9)) (w4.heap.size + 1) (.slice va vn vcap) (readC (q11 r).1).ch := U.out.kept g10 (by omega)
                    have hD10 : IdRow (w9.setCell ⟨w1.heap.size, 15, none⟩ (.slice a9 n9 c9)) (w5.heap.size + 1) (.slice a9 n9 c9) (oD (q12 r).2 (k + 1)).1 := by rw [HD1.out]; exact r9.kept g10 (fun j hj e => by cases hj; have := (r9.lt _ e).1; omega)
                    go_roundw
                    case rel => exact ⟨k + 1, a9, n9, c9, r2, by omega, by go_num, by rw [HD1.out], by rw [show posI s (some r2) = ((s.size - r2.size : Nat) : Int) from rfl, HP2.out], hM10, hD10, hU10, hC10, hX10, hA10, by simp; omega⟩
                    case measure => simp only [intOf]; omega
            · obtain rfl : k = m := by omega
              have hq13 : (oD (q12 r).2 k).1 = (q13 r).1 := by unfold q13; rw [HM.out, Int.toNat_natCast]
              have MM := Lib.hid (show Bx wr w1.heap.size 36 #[.int .i64 (mS s r).kind, .int .i64 (mS s r).frm, .int .i64 (mS s r).dst, .int .i64 (mS s r).i.rep, .int .i64 (mS s r).i.slot, .int .i64 (mS s r).i.bal, .int .i64 (mS s r).i.cmd.kind, .int .i64 (mS s r).i.cmd.client, .int .i64 (mS s r).i.cmd.no, .string (mS s r).i.cmd.set, .string (mS s r).i.cmd.name, .string (mS s r).i.cmd.tag, .int .i64 (mS s r).i.cmd.n, .slice va vn vcap, .int .i64 (mS s r).i.seq, .slice a' n' c', .int .i64 (mS s r).i.st, .int .i64 (mS s r).i.vbal, .bool (mS s r).i.same] from (by have h := M.out; rw [← HBS.out] at h; exact h))
              have DD := Lib.hid D.out
              rw [hq13] at DD
              have hfit := readC_fit (q11 r).1
              have hlen := oD_length (q12 r).2 k
              rw [hq13] at hlen
              have PT := Lib.hid (show Pts wr (mS s r).i (.slice va vn vcap) (.slice a' n' c') from ⟨U.out.strs hfit.2.2, DD.out.own.ids, hfit.1⟩)
              obtain ⟨rM1, rM2⟩ := MM.out.row rfl
              have DDD := Lib.hid (show IdRow wr (w5.heap.size + 1) (.slice a' n' c') (mS s r).i.deps from DD.out)
              have HFT := Lib.hid hfit
              clear M D hq13 hfit DD
              go_wp2_with fail
              clear rM1 rM2 hC
              refine (spec_showE (mS s r) _ _ _ PT.out (show (q13 r).1.length ≤ 1048576 by omega)).mono ?_
              rintro e w8 ⟨rfl, bb⟩
              have nX := Lib.hid (X.out.after bb)
              have nMM := Lib.hid (MM.out.after bb)
              have nA := Lib.hid (A.out.after bb)
              have nU := Lib.hid (growsS_row U.out (grown_of_below bb none) (by cases Value.ownBlock _ <;> simp))
              have nDDD := Lib.hid (DDD.out.later bb)
              clear X MM A U DDD
              have X := nX
              have MM := nMM
              have A := nA
              have U := nU
              have DDD := nDDD
              clear nX nMM nA nU nDDD
              clear bb CC PT
              by_cases he : showE (mS s r) = s
              · obtain ⟨hgd, hrw⟩ := good_back he (by omega)
                have HGD := Lib.hid hgd; have HRW := Lib.hid hrw
                have hteq : ((showE (mS s r)).toList == s.toList) = true := by rw [he]; simp
                clear he hgd hrw
                obtain ⟨rM1, rM2⟩ := MM.out.row rfl
                obtain ⟨rX1, rX2⟩ := X.out.row rfl
                go_wp2
                have g3 := grown_setRow w8 w.heap.size #[.int .i64 (mS s r).kind, .int .i64 (mS s r).frm, .int .i64 (mS s r).dst, .int .i64 (mS s r).i.rep, .int .i64 (mS s r).i.slot, .int .i64 (mS s r).i.bal, .int .i64 (mS s r).i.cmd.kind, .int .i64 (mS s r).i.cmd.client, .int .i64 (mS s r).i.cmd.no, .string (mS s r).i.cmd.set, .string (mS s r).i.cmd.name, .string (mS s r).i.cmd.tag, .int .i64 (mS s r).i.cmd.n, .slice va vn vcap, .int .i64 (mS s r).i.seq, .slice a' n' c', .int .i64 (mS s r).i.st, .int .i64 (mS s r).i.vbal, .bool (mS s r).i.same]
                exact bodyPost_ret (results_emsg2 Tryd.results12 _ _ w.heap.size #[.int .i64 (mS s r).kind, .int .i64 (mS s r).frm, .int .i64 (mS s r).dst, .int .i64 (mS s r).i.rep, .int .i64 (mS s r).i.slot, .int .i64 (mS s r).i.bal, .int .i64 (mS s r).i.cmd.kind, .int .i64 (mS s r).i.cmd.client, .int .i64 (mS s r).i.cmd.no, .string (mS s r).i.cmd.set, .string (mS s r).i.cmd.name, .string (mS s r).i.cmd.tag, .int .i64 (mS s r).i.cmd.n, .slice va vn vcap, .int .i64 (mS s r).i.seq, .slice a' n' c', .int .i64 (mS s r).i.st, .int .i64 (mS s r).i.vbal, .bool (mS s r).i.same] _ rfl rfl (setRow_heap _ _ _ _ _ _ X.out) rfl) rfl ⟨⟨va, vn, vcap, a', n', c', by rw [readM_yes HGD.out, HGD.out, HRW.out]; rfl, by rw [readM_yes HGD.out, HRW.out]; exact ⟨GrowsS.strs (U.out.kept g3 (by omega)) HFT.out.2.2, (DDD.out.kept g3 (fun j hj e => by cases hj; have := (DDD.out.lt _ e).1; omega)).own.ids, HFT.out.1⟩⟩, A.out.grow g3 (fun k hk => by cases hk; exact Nat.le_refl _)⟩
              · have hteq := ne_list he
                have HG := Lib.hid (gM_no (s := s) (fun hg => by obtain ⟨r2, e, _, _, _, _, hm2⟩ := model_m hg; rw [h9] at e; cases e; exact he (by rw [hm2]; exact good_show_m hg)))
                obtain ⟨rX1, rX2⟩ := X.out.row rfl
                go_wp2
                have g3 := grown_setRow w8 w.heap.size #[.int .i64 0, .int .i64 0, .int .i64 0, .int .i64 0, .int .i64 0, .int .i64 0, .int .i64 0, .int .i64 0, .int .i64 0, .string ⟨#[]⟩, .string ⟨#[]⟩, .string ⟨#[]⟩, .int .i64 0, .slice none 0 0, .int .i64 0, .slice none 0 0, .int .i64 0, .int .i64 0, .bool false]
                exact bodyPost_ret (results_emsg2 Tryd.results12 _ _ w.heap.size #[.int .i64 0, .int .i64 0, .int .i64 0, .int .i64 0, .int .i64 0, .int .i64 0, .int .i64 0, .int .i64 0, .int .i64 0, .string ⟨#[]⟩, .string ⟨#[]⟩, .string ⟨#[]⟩, .int .i64 0, .slice none 0 0, .int .i64 0, .slice none 0 0, .int .i64 0, .int .i64 0, .bool false] _ rfl rfl (setRow_heap _ _ _ _ _ _ X.out) rfl) rfl ⟨⟨none, 0, 0, none, 0, 0, by rw [readM_no HG.out, HG.out]; rfl, by rw [readM_no HG.out]; exact pts_zero _⟩, A.out.grow g3 (fun k hk => by cases hk; exact Nat.le_refl _)⟩
end Go.Proofs.YtkeoeempdkpafaaDoor
/- The law over ReadEMsg and its model: it returns true. -/
namespace Go.Proofs.YtkeoeempdkpafaaDoor
open Go.RowKit Go.PlainAid
set_option linter.unusedVariables false

theorem mkL_smallE (l : List ByteArray) (hs : l.length ≤ 1048576) : ∀ j, j < (mkL l l.length).length → (el (mkL l l.length) j).size ≤ 9223372036854775807 := by
  intro j hj
  rw [mkL_length] at hj
  rw [mkL_el l _ j hj, if_pos hj]
  have := mkT_size (j + 1)
  omega
theorem rdM_small (s : ByteArray) : (readM s).i.cmd.ch.length ≤ 1048576 ∧ (readM s).i.deps.length ≤ 1048576 := by
  cases h : goodM s
  · rw [readM_no h]; exact ⟨by simp, by simp⟩
  · rw [readM_yes h]
    have h1 := (readC_fit (k11 s).1).2.1
    have h2 := iD_length (f11 s)
    exact ⟨by show (readC (k11 s).1).ch.length ≤ _; omega, by show (k13 s).1.length ≤ _; rw [k13_eq]; omega⟩
attribute [local go_sem] blkO_eq aggO_eq okA_mk World.setRow_alloc_new
attribute [local go_sem ↓] load_emsg_pre store_emsg_pre
set_option maxRecDepth 100000 in
set_option maxHeartbeats 8000000 in
theorem law_readE (s : ByteArray) (a : Addr) (w : World) (hS : Sent w a) :
    Calls Tryd.prog 4 #[.string s] w fun e w' => e = .returned (.bool true) ∧ Below w.heap.size w w' := by
  by_cases hs : s.size ≤ 1048576
  case neg =>
    have y1 : (1048576 : Int) < (s.size : Int) := by omega
    go_enter Tryd.func4, Tryd.ntmps4
    go_wp2
    go_ret
    exact ⟨rfl, Below.refl _ _⟩
  have HS := Lib.hid hS
  have hsm := rdM_small s
  obtain ⟨x, hx⟩ : ∃ x, readM s = x := ⟨_, rfl⟩
  obtain ⟨bg, hbg⟩ : ∃ bg, goodM s = bg := ⟨_, rfl⟩
  rw [hx] at hsm
  have HSM := Lib.hid hsm
  have CI := Lib.hid (fun W (h : Sent W a) => (by have h9 := impl_readE s a W h hs; rw [hx, hbg] at h9; exact h9 : Calls Tryd.prog 13 #[.string s] W fun e w' => (∃ au nu cu ad nd cd, e = .returned (.tuple #[.agg #[.int .i64 x.kind, .int .i64 x.frm, .int .i64 x.dst, .int .i64 x.i.rep, .int .i64 x.i.slot, .int .i64 x.i.bal, .int .i64 x.i.cmd.kind, .int .i64 x.i.cmd.client, .int .i64 x.i.cmd.no, .string x.i.cmd.set, .string x.i.cmd.name, .string x.i.cmd.tag, .int .i64 x.i.cmd.n, .slice au nu cu, .int .i64 x.i.seq, .slice ad nd cd, .int .i64 x.i.st, .int .i64 x.i.vbal, .bool x.i.same], .bool bg]) ∧ PtO w' W.heap.size w'.heap.size x.i (.slice au nu cu) (.slice ad nd cd)) ∧ Below W.heap.size W w'))
  have CS := Lib.hid (fun W => (by have h9 := spec_readE s W hs; rw [hx, hbg] at h9; exact h9 : Calls Tryd.prog 12 #[.string s] W fun e w' => (∃ au nu cu ad nd cd, e = .returned (.tuple #[.agg #[.int .i64 x.kind, .int .i64 x.frm, .int .i64 x.dst, .int .i64 x.i.rep, .int .i64 x.i.slot, .int .i64 x.i.bal, .int .i64 x.i.cmd.kind, .int .i64 x.i.cmd.client, .int .i64 x.i.cmd.no, .string x.i.cmd.set, .string x.i.cmd.name, .string x.i.cmd.tag, .int .i64 x.i.cmd.n, .slice au nu cu, .int .i64 x.i.seq, .slice ad nd cd, .int .i64 x.i.st, .int .i64 x.i.vbal, .bool x.i.same], .bool bg]) ∧ Pts w' x.i (.slice au nu cu) (.slice ad nd cd)) ∧ Below W.heap.size W w'))
  have y1 : ¬ (1048576 : Int) < (s.size : Int) := by omega
  clear hx hbg hsm hS
  go_enter Tryd.func4, Tryd.ntmps4
  go_wp2_with fail
  refine (CS.out _).mono ?_
  rintro e w1 ⟨⟨a1, n1, c1, a2, n2, c2, rfl, p1⟩, bb⟩
  have A := Lib.hid (show Af w (w1.alloc (.cells #[.int .i64 x.kind, .int .i64 x.frm, .int .i64 x.dst, .int .i64 x.i.rep, .int .i64 x.i.slot, .int .i64 x.i.bal, .int .i64 x.i.cmd.kind, .int .i64 x.i.cmd.client, .int .i64 x.i.cmd.no, .string x.i.cmd.set, .string x.i.cmd.name, .string x.i.cmd.tag, .int .i64 x.i.cmd.n, .slice a1 n1 c1, .int .i64 x.i.seq, .slice a2 n2 c2, .int .i64 x.i.st, .int .i64 x.i.vbal, .bool x.i.same] 36)) from Below.alloc bb bb.size (.cells #[.int .i64 x.kind, .int .i64 x.frm, .int .i64 x.dst, .int .i64 x.i.rep, .int .i64 x.i.slot, .int .i64 x.i.bal, .int .i64 x.i.cmd.kind, .int .i64 x.i.cmd.client, .int .i64 x.i.cmd.no, .string x.i.cmd.set, .string x.i.cmd.name, .string x.i.cmd.tag, .int .i64 x.i.cmd.n, .slice a1 n1 c1, .int .i64 x.i.seq, .slice a2 n2 c2, .int .i64 x.i.st, .int .i64 x.i.vbal, .bool x.i.same] 36))
  have X0 := Lib.hid (Bx.new w1 36 #[.int .i64 x.kind, .int .i64 x.frm, .int .i64 x.dst, .int .i64 x.i.rep, .int .i64 x.i.slot, .int .i64 x.i.bal, .int .i64 x.i.cmd.kind, .int .i64 x.i.cmd.client, .int .i64 x.i.cmd.no, .string x.i.cmd.set, .string x.i.cmd.name, .string x.i.cmd.tag, .int .i64 x.i.cmd.n, .slice a1 n1 c1, .int .i64 x.i.seq, .slice a2 n2 c2, .int .i64 x.i.st, .int .i64 x.i.vbal, .bool x.i.same] _ rfl)
  have P1 := Lib.hid (p1.alloc (.cells #[.int .i64 x.kind, .int .i64 x.frm, .int .i64 x.dst, .int .i64 x.i.rep, .int .i64 x.i.slot, .int .i64 x.i.bal, .int .i64 x.i.cmd.kind, .int .i64 x.i.cmd.client, .int .i64 x.i.cmd.no, .string x.i.cmd.set, .string x.i.cmd.name, .string x.i.cmd.tag, .int .i64 x.i.cmd.n, .slice a1 n1 c1, .int .i64 x.i.seq, .slice a2 n2 c2, .int .i64 x.i.st, .int .i64 x.i.vbal, .bool x.i.same] 36))
  have AL := Lib.hid (Af.refl (w1.alloc (.cells #[.int .i64 x.kind, .int .i64 x.frm, .int .i64 x.dst, .int .i64 x.i.rep, .int .i64 x.i.slot, .int .i64 x.i.bal, .int .i64 x.i.cmd.kind, .int .i64 x.i.cmd.client, .int .i64 x.i.cmd.no, .string x.i.cmd.set, .string x.i.cmd.name, .string x.i.cmd.tag, .int .i64 x.i.cmd.n, .slice a1 n1 c1, .int .i64 x.i.seq, .slice a2 n2 c2, .int .i64 x.i.st, .int .i64 x.i.vbal, .bool x.i.same] 36)))
  have WA := Lib.hid bb.size
  have hz := rowP_new w1
  clear bb p1
  go_wp2_with fail
  clear hz y1
  refine (CI.out _ (HS.out.later A.out)).mono ?_
  rintro e w2 ⟨⟨a3, n3, c3, a4, n4, c4, rfl, pp⟩, bb⟩
  have hlo : w1.heap.size + 1 ≤ w2.heap.size := by have := bb.size; simpa using this
  have nA := Lib.hid (A.out.after (bb.alloc bb.size (.cells #[.int .i64 x.kind, .int .i64 x.frm, .int .i64 x.dst, .int .i64 x.i.rep, .int .i64 x.i.slot, .int .i64 x.i.bal, .int .i64 x.i.cmd.kind, .int .i64 x.i.cmd.client, .int .i64 x.i.cmd.no, .string x.i.cmd.set, .string x.i.cmd.name, .string x.i.cmd.tag, .int .i64 x.i.cmd.n, .slice a3 n3 c3, .int .i64 x.i.seq, .slice a4 n4 c4, .int .i64 x.i.st, .int .i64 x.i.vbal, .bool x.i.same] 36)))
  have nX0 := Lib.hid (X0.out.after (bb.alloc bb.size (.cells #[.int .i64 x.kind, .int .i64 x.frm, .int .i64 x.dst, .int .i64 x.i.rep, .int .i64 x.i.slot, .int .i64 x.i.bal, .int .i64 x.i.cmd.kind, .int .i64 x.i.cmd.client, .int .i64 x.i.cmd.no, .string x.i.cmd.set, .string x.i.cmd.name, .string x.i.cmd.tag, .int .i64 x.i.cmd.n, .slice a3 n3 c3, .int .i64 x.i.seq, .slice a4 n4 c4, .int .i64 x.i.st, .int .i64 x.i.vbal, .bool x.i.same] 36)))
  have nAL := Lib.hid (AL.out.after (bb.alloc bb.size (.cells #[.int .i64 x.kind, .int .i64 x.frm, .int .i64 x.dst, .int .i64 x.i.rep, .int .i64 x.i.slot, .int .i64 x.i.bal, .int .i64 x.i.cmd.kind, .int .i64 x.i.cmd.client, .int .i64 x.i.cmd.no, .string x.i.cmd.set, .string x.i.cmd.name, .string x.i.cmd.tag, .int .i64 x.i.cmd.n, .slice a3 n3 c3, .int .i64 x.i.seq, .slice a4 n4 c4, .int .i64 x.i.st, .int .i64 x.i.vbal, .bool x.i.same] 36)))
  clear A X0 AL
  have A := nA
  have X0 := nX0
  have AL := nAL
  clear nA nX0 nAL
  have X1 := Lib.hid (Bx.new w2 36 #[.int .i64 x.kind, .int .i64 x.frm, .int .i64 x.dst, .int .i64 x.i.rep, .int .i64 x.i.slot, .int .i64 x.i.bal, .int .i64 x.i.cmd.kind, .int .i64 x.i.cmd.client, .int .i64 x.i.cmd.no, .string x.i.cmd.set, .string x.i.cmd.name, .string x.i.cmd.tag, .int .i64 x.i.cmd.n, .slice a3 n3 c3, .int .i64 x.i.seq, .slice a4 n4 c4, .int .i64 x.i.st, .int .i64 x.i.vbal, .bool x.i.same] _ rfl)
  have P2 := Lib.hid (show PtO (w2.alloc (.cells #[.int .i64 x.kind, .int .i64 x.frm, .int .i64 x.dst, .int .i64 x.i.rep, .int .i64 x.i.slot, .int .i64 x.i.bal, .int .i64 x.i.cmd.kind, .int .i64 x.i.cmd.client, .int .i64 x.i.cmd.no, .string x.i.cmd.set, .string x.i.cmd.name, .string x.i.cmd.tag, .int .i64 x.i.cmd.n, .slice a3 n3 c3, .int .i64 x.i.seq, .slice a4 n4 c4, .int .i64 x.i.st, .int .i64 x.i.vbal, .bool x.i.same] 36)) (w1.heap.size + 1) w2.heap.size x.i (.slice a3 n3 c3) (.slice a4 n4 c4) from (pp.mono (by simp) (Nat.le_refl _)).later ((Below.refl _ _).alloc (Nat.le_refl _) (.cells #[.int .i64 x.kind, .int .i64 x.frm, .int .i64 x.dst, .int .i64 x.i.rep, .int .i64 x.i.slot, .int .i64 x.i.bal, .int .i64 x.i.cmd.kind, .int .i64 x.i.cmd.client, .int .i64 x.i.cmd.no, .string x.i.cmd.set, .string x.i.cmd.name, .string x.i.cmd.tag, .int .i64 x.i.cmd.n, .slice a3 n3 c3, .int .i64 x.i.seq, .slice a4 n4 c4, .int .i64 x.i.st, .int .i64 x.i.vbal, .bool x.i.same] 36)))
  clear bb pp
  have hz := rowP_new w2
  obtain ⟨rX01, rX02⟩ := X0.out.row rfl
  obtain ⟨rX11, rX12⟩ := X1.out.row rfl
  go_wp2_with fail
  clear rX01 rX02 rX11 rX12
  clear hz
  refine (eq_emsg_yes x _ _ _ _ _ P2.out.pts (P1.out.later AL.out)).mono ?_
  rintro e w3 ⟨rfl, bb⟩
  have nA := Lib.hid (A.out.after bb)
  have nX0 := Lib.hid (X0.out.after bb)
  have nAL := Lib.hid (AL.out.after bb)
  have nX1 := Lib.hid (X1.out.after bb)
  have nP2 := Lib.hid (P2.out.later bb)
  clear A X0 AL X1 P2
  have A := nA
  have X0 := nX0
  have AL := nAL
  have X1 := nX1
  have P2 := nP2
  clear nA nX0 nAL nX1 nP2
  clear bb
  obtain ⟨rX11, rX12⟩ := X1.out.row rfl
  go_wp2_with fail
  clear rX11 rX12
  have hw3 : w2.heap.size < w3.heap.size := X1.out.lt
  refine (mark_emsg x _ _ (w1.heap.size + 1) w2.heap.size _ P2.out (by omega) HSM.out.1 HSM.out.2).mono ?_
  rintro e w4 ⟨rfl, gm, dm, bl, kb⟩
  have nX1 := Lib.hid (kb _ _ _ (Nat.le_refl _) X1.out)
  have nX0 := Lib.hid (X0.out.later bl (Nat.lt_succ_self _))
  have hw1 := A.out.size
  have hwl : w.heap.size ≤ w1.heap.size + 1 := by have := WA.out; omega
  have nA := Lib.hid (show Af w w4 from Below.trans A.out (bl.mono hwl))
  have nAL := Lib.hid (show Af (w1.alloc (.cells #[.int .i64 x.kind, .int .i64 x.frm, .int .i64 x.dst, .int .i64 x.i.rep, .int .i64 x.i.slot, .int .i64 x.i.bal, .int .i64 x.i.cmd.kind, .int .i64 x.i.cmd.client, .int .i64 x.i.cmd.no, .string x.i.cmd.set, .string x.i.cmd.name, .string x.i.cmd.tag, .int .i64 x.i.cmd.n, .slice a1 n1 c1, .int .i64 x.i.seq, .slice a2 n2 c2, .int .i64 x.i.st, .int .i64 x.i.vbal, .bool x.i.same] 36)) w4 from Below.trans AL.out (bl.mono (by simp)))
  clear X1 X0 A AL P2 kb bl hw1 hwl
  have X1 := nX1
  have X0 := nX0
  have A := nA
  have AL := nAL
  clear nX1 nX0 nA nAL
  have GM := Lib.hid gm; have DM := Lib.hid dm
  clear gm dm
  obtain ⟨m, hm⟩ : ∃ m : Int, (x.i.cmd.ch.length : Int) + 1 + 2 * (x.i.deps.length : Int) = m := ⟨_, rfl⟩
  have HM := Lib.hid hm
  rw [hm]
  have dk : decide (m < 0) = false := decide_eq_false (by omega)
  clear hm
  obtain ⟨rX11, rX12⟩ := X1.out.row rfl
  go_wp2_with fail
  clear rX11 rX12
  refine (held_emsg x _ _ _ (GM.out.strs (mkL_smallE _ HSM.out.1)) DM.out.ids HSM.out.1 HSM.out.2).mono ?_
  rintro e w5 ⟨rfl, bb⟩
  rw [HM.out]
  have nA := Lib.hid (A.out.after bb)
  have nX0 := Lib.hid (X0.out.after bb)
  have nAL := Lib.hid (AL.out.after bb)
  have nX1 := Lib.hid (X1.out.after bb)
  have nGM := Lib.hid (GM.out.later bb)
  have nDM := Lib.hid (DM.out.later bb)
  clear A X0 AL X1 GM DM
  have A := nA
  have X0 := nX0
  have AL := nAL
  have X1 := nX1
  have GM := nGM
  have DM := nDM
  clear nA nX0 nAL nX1 nGM nDM
  clear bb
  go_wp2_with fail
  refine (CI.out _ (HS.out.later A.out)).mono ?_
  rintro e w6 ⟨⟨a5, n5, c5, a6, n6, c6, rfl, pp⟩, bb⟩
  have nA := Lib.hid (A.out.after (bb.alloc bb.size (.cells #[.int .i64 x.kind, .int .i64 x.frm, .int .i64 x.dst, .int .i64 x.i.rep, .int .i64 x.i.slot, .int .i64 x.i.bal, .int .i64 x.i.cmd.kind, .int .i64 x.i.cmd.client, .int .i64 x.i.cmd.no, .string x.i.cmd.set, .string x.i.cmd.name, .string x.i.cmd.tag, .int .i64 x.i.cmd.n, .slice a5 n5 c5, .int .i64 x.i.seq, .slice a6 n6 c6, .int .i64 x.i.st, .int .i64 x.i.vbal, .bool x.i.same] 36)))
  have nX0 := Lib.hid (X0.out.after (bb.alloc bb.size (.cells #[.int .i64 x.kind, .int .i64 x.frm, .int .i64 x.dst, .int .i64 x.i.rep, .int .i64 x.i.slot, .int .i64 x.i.bal, .int .i64 x.i.cmd.kind, .int .i64 x.i.cmd.client, .int .i64 x.i.cmd.no, .string x.i.cmd.set, .string x.i.cmd.name, .string x.i.cmd.tag, .int .i64 x.i.cmd.n, .slice a5 n5 c5, .int .i64 x.i.seq, .slice a6 n6 c6, .int .i64 x.i.st, .int .i64 x.i.vbal, .bool x.i.same] 36)))
  have nAL := Lib.hid (AL.out.after (bb.alloc bb.size (.cells #[.int .i64 x.kind, .int .i64 x.frm, .int .i64 x.dst, .int .i64 x.i.rep, .int .i64 x.i.slot, .int .i64 x.i.bal, .int .i64 x.i.cmd.kind, .int .i64 x.i.cmd.client, .int .i64 x.i.cmd.no, .string x.i.cmd.set, .string x.i.cmd.name, .string x.i.cmd.tag, .int .i64 x.i.cmd.n, .slice a5 n5 c5, .int .i64 x.i.seq, .slice a6 n6 c6, .int .i64 x.i.st, .int .i64 x.i.vbal, .bool x.i.same] 36)))
  have nX1 := Lib.hid (X1.out.after (bb.alloc bb.size (.cells #[.int .i64 x.kind, .int .i64 x.frm, .int .i64 x.dst, .int .i64 x.i.rep, .int .i64 x.i.slot, .int .i64 x.i.bal, .int .i64 x.i.cmd.kind, .int .i64 x.i.cmd.client, .int .i64 x.i.cmd.no, .string x.i.cmd.set, .string x.i.cmd.name, .string x.i.cmd.tag, .int .i64 x.i.cmd.n, .slice a5 n5 c5, .int .i64 x.i.seq, .slice a6 n6 c6, .int .i64 x.i.st, .int .i64 x.i.vbal, .bool x.i.same] 36)))
  have nGM := Lib.hid (GM.out.later (bb.alloc bb.size (.cells #[.int .i64 x.kind, .int .i64 x.frm, .int .i64 x.dst, .int .i64 x.i.rep, .int .i64 x.i.slot, .int .i64 x.i.bal, .int .i64 x.i.cmd.kind, .int .i64 x.i.cmd.client, .int .i64 x.i.cmd.no, .string x.i.cmd.set, .string x.i.cmd.name, .string x.i.cmd.tag, .int .i64 x.i.cmd.n, .slice a5 n5 c5, .int .i64 x.i.seq, .slice a6 n6 c6, .int .i64 x.i.st, .int .i64 x.i.vbal, .bool x.i.same] 36)))
  have nDM := Lib.hid (DM.out.later (bb.alloc bb.size (.cells #[.int .i64 x.kind, .int .i64 x.frm, .int .i64 x.dst, .int .i64 x.i.rep, .int .i64 x.i.slot, .int .i64 x.i.bal, .int .i64 x.i.cmd.kind, .int .i64 x.i.cmd.client, .int .i64 x.i.cmd.no, .string x.i.cmd.set, .string x.i.cmd.name, .string x.i.cmd.tag, .int .i64 x.i.cmd.n, .slice a5 n5 c5, .int .i64 x.i.seq, .slice a6 n6 c6, .int .i64 x.i.st, .int .i64 x.i.vbal, .bool x.i.same] 36)))
  clear A X0 AL X1 GM DM
  have A := nA
  have X0 := nX0
  have AL := nAL
  have X1 := nX1
  have GM := nGM
  have DM := nDM
  clear nA nX0 nAL nX1 nGM nDM
  have X3 := Lib.hid (Bx.new w6 36 #[.int .i64 x.kind, .int .i64 x.frm, .int .i64 x.dst, .int .i64 x.i.rep, .int .i64 x.i.slot, .int .i64 x.i.bal, .int .i64 x.i.cmd.kind, .int .i64 x.i.cmd.client, .int .i64 x.i.cmd.no, .string x.i.cmd.set, .string x.i.cmd.name, .string x.i.cmd.tag, .int .i64 x.i.cmd.n, .slice a5 n5 c5, .int .i64 x.i.seq, .slice a6 n6 c6, .int .i64 x.i.st, .int .i64 x.i.vbal, .bool x.i.same] _ rfl)
  have P3 := Lib.hid (pp.pts.alloc (.cells #[.int .i64 x.kind, .int .i64 x.frm, .int .i64 x.dst, .int .i64 x.i.rep, .int .i64 x.i.slot, .int .i64 x.i.bal, .int .i64 x.i.cmd.kind, .int .i64 x.i.cmd.client, .int .i64 x.i.cmd.no, .string x.i.cmd.set, .string x.i.cmd.name, .string x.i.cmd.tag, .int .i64 x.i.cmd.n, .slice a5 n5 c5, .int .i64 x.i.seq, .slice a6 n6 c6, .int .i64 x.i.st, .int .i64 x.i.vbal, .bool x.i.same] 36))
  clear bb pp
  have hz := rowP_new w6
  obtain ⟨rX01, rX02⟩ := X0.out.row rfl
  obtain ⟨rX31, rX32⟩ := X3.out.row rfl
  go_wp2_with fail
  clear rX01 rX02 rX31 rX32
  clear hz
  refine (eq_emsg_yes x _ _ _ _ _ P3.out (P1.out.later AL.out)).mono ?_
  rintro e w7 ⟨rfl, bb⟩
  have nA := Lib.hid (A.out.after bb)
  have nX0 := Lib.hid (X0.out.after bb)
  have nAL := Lib.hid (AL.out.after bb)
  have nX1 := Lib.hid (X1.out.after bb)
  have nGM := Lib.hid (GM.out.later bb)
  have nDM := Lib.hid (DM.out.later bb)
  have nX3 := Lib.hid (X3.out.after bb)
  have nP3 := Lib.hid (P3.out.later bb)
  clear A X0 AL X1 GM DM X3 P3
  have A := nA
  have X0 := nX0
  have AL := nAL
  have X1 := nX1
  have GM := nGM
  have DM := nDM
  have X3 := nX3
  have P3 := nP3
  clear nA nX0 nAL nX1 nGM nDM nX3 nP3
  clear bb
  obtain ⟨rX11, rX12⟩ := X1.out.row rfl
  go_wp2_with fail
  clear rX11 rX12
  refine (held_emsg x _ _ _ (GM.out.strs (mkL_smallE _ HSM.out.1)) DM.out.ids HSM.out.1 HSM.out.2).mono ?_
  rintro e w8 ⟨rfl, bb⟩
  rw [HM.out]
  have nA := Lib.hid (A.out.after bb)
  have nX0 := Lib.hid (X0.out.after bb)
  have nAL := Lib.hid (AL.out.after bb)
  have nX1 := Lib.hid (X1.out.after bb)
  have nGM := Lib.hid (GM.out.later bb)
  have nDM := Lib.hid (DM.out.later bb)
  have nX3 := Lib.hid (X3.out.after bb)
  have nP3 := Lib.hid (P3.out.later bb)
  clear A X0 AL X1 GM DM X3 P3
  have A := nA
  have X0 := nX0
  have AL := nAL
  have X1 := nX1
  have GM := nGM
  have DM := nDM
  have X3 := nX3
  have P3 := nP3
  clear nA nX0 nAL nX1 nGM nDM nX3 nP3
  clear bb
  go_wp2
  go_ret
  exact ⟨rfl, A.out⟩
end Go.Proofs.YtkeoeempdkpafaaDoor
