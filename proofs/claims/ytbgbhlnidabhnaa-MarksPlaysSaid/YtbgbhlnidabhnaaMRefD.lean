/-
  The document's Back (MADE out of MBack's text by substitution: RkS for MkS).
-/
import Derived.Test.YtbgbhlnidabhnaaMRefC
namespace Go.Proofs.Ytbgbhlnidabhnaa.U
open Go.RowKit
set_option linter.unusedVariables false
set_option linter.unusedSimpArgs false
set_option maxRecDepth 100000

section
variable {P Q : Nat → Prop} {w w' : World} {bt : Nat} {s : Ms}
theorem RkS.cells (h : RkS P w bt s) : ∃ mb ja jc, w.cell? ⟨bt, 0, none⟩ = some mb ∧ w.cell? ⟨bt, 1, none⟩ = some (.slice ja s.js.length jc) ∧ w.cell? ⟨bt, 2, none⟩ = some (.int .i64 (s.ix : Nat)) ∧ (∀ i, w.frozen? ⟨bt, i, none⟩ = false) ∧ bt < w.heap.size ∧ Rc w ja s.js.length jc 2 (fl s.js) ∧ True := by
  obtain ⟨na, nc, ja, jc, h1, h2, h3, h4, h5, p1, p2⟩ := h
  exact ⟨_, ja, jc, by rw [cell_row h1]; rfl, by rw [cell_row h1]; rfl, by rw [cell_row h1]; rfl, frozen_row h1, heap_lt h1, h4, trivial⟩
theorem RkS.jump (h : RkS P w bt s) {i : Nat} (hi : i < s.js.length) :
    ∃ mb b off jc, w.cell? ⟨bt, 0, none⟩ = some mb ∧ w.cell? ⟨bt, 1, none⟩ = some (.slice (some ⟨b, off, none⟩) s.js.length jc) ∧ w.cell? ⟨bt, 2, none⟩ = some (.int .i64 (s.ix : Nat)) ∧ (∀ i, w.frozen? ⟨bt, i, none⟩ = false) ∧ P bt ∧ P b ∧ b ≠ bt ∧
      w.cell? ⟨b, off + i * 2, none⟩ = some (.int .i64 (s.js.getD i po0).l) ∧ w.cell? ⟨b, off + i * 2 + 1, none⟩ = some (.int .i64 (s.js.getD i po0).c) := by
  obtain ⟨na, nc, ja, jc, h1, h2, h3, h4, h5, p1, p2⟩ := h
  obtain ⟨b, off, rfl, hbl, hln, r0, r1⟩ := h4.po (i := i) (Below.refl _ _) hi
  have hb := h5.at_ (by omega) rfl
  exact ⟨_, b, off, jc, by rw [cell_row h1]; rfl, by rw [cell_row h1]; rfl, by rw [cell_row h1]; rfl, frozen_row h1, p1, hb.1, hb.2, r0, r1⟩
theorem AfR.trans {w1 w2 : World} {s1 s2 : Ms} (h1 : AfR P w w1 bt s1) (h2 : ∀ P', RkS P' w1 bt s1 → AfR P' w1 w2 bt s2) : AfR P w w2 bt s2 := by
  obtain ⟨P', a1, a2, a3⟩ := h1
  obtain ⟨P'', b1, b2, b3⟩ := h2 P' a1
  refine ⟨P'', b1, a2.trans b2 (fun k hk h => ?_), fun k hk => ?_⟩
  · rcases a3 k h with h | h
    · exact h
    · omega
  · rcases b3 k hk with h | h
    · exact a3 k h
    · exact .inr (Nat.le_trans a2.size h)
theorem AfR.after {w0 : World} (hb : Below w0.heap.size w0 w) (h : AfR P w w' bt s) (hP : ∀ k, P k → k < w0.heap.size) : AfR P w0 w' bt s := by
  obtain ⟨P', a1, a2, a3⟩ := h
  exact ⟨P', a1, (Fr.of_below P hb).trans a2 (fun _ _ h => h), fun k hk => (a3 k hk).imp id (fun h => Nat.le_trans hb.size h)⟩
theorem AfR.setIx (h : RkS P w bt s) (i : Nat) : AfR P w (w.setCell ⟨bt, 2, none⟩ (.int .i64 (i : Nat))) bt ⟨s.ns, s.js, i⟩ :=
  h.stepIx (Below.refl _ _) i (Below.refl _ _)
end

set_option maxHeartbeats 2000000 in
theorem rback_mid {P : Nat → Prop} {bt : Nat} {s : Ms} {B : Int} (p : Po) (w : World) (h : RkS P w bt s) (hok : s.ok B) (hne : s.ix ≠ s.js.length) :
    Calls Try.prog 22 #[.pointer (some ⟨bt, 0, none⟩), p.v] w fun e w' => e = .returned (ansV (backM s p).2) ∧ AfR P w w' bt (backM s p).1 := by
  obtain ⟨l, c⟩ := p
  show Calls _ _ #[.pointer (some ⟨bt, 0, none⟩), .agg #[.int .i64 l, .int .i64 c]] w _
  obtain ⟨w1, hw1⟩ : ∃ w1, (w.alloc (.cells #[.int .i64 l, .int .i64 c] 23)).alloc (.cells #[.int .i64 0, .int .i64 0] 23) = w1 := ⟨_, rfl⟩
  have hb1 : Below w.heap.size w w1 := by rw [← hw1]; exact ((Below.refl _ w).alloc (Nat.le_refl _) _).alloc (by simp) _
  have hg1 : w1.heap[w.heap.size + 1]? = some (.cells #[.int .i64 0, .int .i64 0] 23 (0, 0)) := by
    rw [← hw1]
    have := heap_alloc_new (w.alloc (.cells #[.int .i64 l, .int .i64 c] 23)) (.cells #[.int .i64 0, .int .i64 0] 23)
    rw [show (w.alloc (.cells #[.int .i64 l, .int .i64 c] 23)).heap.size = w.heap.size + 1 by simp] at this
    exact this
  have c0 : w1.cell? ⟨w.heap.size + 1, 0, none⟩ = some (.int .i64 0) := by rw [cell_row hg1]; rfl
  have c1 : w1.cell? ⟨w.heap.size + 1, 1, none⟩ = some (.int .i64 0) := by rw [cell_row hg1]; rfl
  have z00 : w1.frozen? ⟨w.heap.size + 1, 0, none⟩ = false := frozen_row hg1 0
  have z01 : w1.frozen? ⟨w.heap.size + 1, 1, none⟩ = false := frozen_row hg1 1
  have hto : toEnd s ⟨l, c⟩ = s := by simp [toEnd, hne]
  have h1 := h.below hb1
  have HG1 := Lib.hid hg1
  clear hg1
  obtain ⟨n, hn⟩ : ∃ n, s.js.length = n := ⟨_, rfl⟩
  obtain ⟨x, hx⟩ : ∃ x, s.ix = x := ⟨_, rfl⟩
  have hl := hok.len
  have hxn := hok.ix
  rw [hx, hn] at hxn hne
  rw [hn] at hl
  have heq : ((x : Int) == (n : Int)) = false := by simp; omega
  by_cases h0 : x = 0
  · have hs : backM s ⟨l, c⟩ = (s, none) := by simp [backM, hto, hx, h0]
    rw [hs]
    obtain ⟨mb, ja, jc, e0, e1, e2, fz, hbt, hrc, hja⟩ := h1.cells
    rw [hn] at e1
    rw [hx] at e2
    have heq0 : ((x : Int) == 0) = true := by simp [h0]
    have HN := Lib.hid hn
    have HX := Lib.hid hx
    have H0 := Lib.hid h0
    clear hn hx h0 hja hrc fz hto hs
    go_enter Try.func22, Try.ntmps22
    go_wp2
    go_quiet (fail)
    go_wp2
    refine bodyPost_ret (v := .tuple #[.agg #[.int .i64 0, .int .i64 0], .bool false]) ?_ rfl ⟨rfl, h.same ?_⟩
    · rw [results_ct rfl]
      go_simp
    · refine Below.setCell (Below.setCell (bdrewN hb1 _) ?_ _) ?_ _ <;> simp
  · have hs : backM s ⟨l, c⟩ = (⟨s.ns, s.js, x - 1⟩, some (s.js.getD (x - 1) po0)) := by simp [backM, hto, hx, h0]
    rw [hs]
    obtain ⟨mb, b, off, jc, e0, e1, e2, fz, pbt, pb, hbne, r0, r1⟩ := h1.jump (i := x - 1) (by omega)
    rw [hn] at e1
    rw [hx] at e2
    have heq0 : ((x : Int) == 0) = false := by simp [h0]
    obtain ⟨k, hk⟩ : ∃ k, x - 1 = k := ⟨_, rfl⟩
    have hk1 : (x : Int) - 1 = (k : Int) := by omega
    have hkn : k < n := by omega
    have hkni : (k : Int) < (n : Int) := by omega
    rw [hk] at r0 r1 ⊢
    obtain ⟨q, hq⟩ : ∃ q, s.js.getD k po0 = q := ⟨_, rfl⟩
    rw [hq] at r0 r1 ⊢
    have hbl := h.lt b pb
    have hbtl := h.lt bt pbt
    have fz2 := fz 2
    have hbne2 : ¬ bt = b := fun e => hbne e.symm
    have n1 : ¬ b = w.heap.size + 1 := by omega
    have n2 : ¬ w.heap.size + 1 = b := by omega
    have n3 : ¬ bt = w.heap.size + 1 := by omega
    have n4 : ¬ w.heap.size + 1 = bt := by omega
    have HN := Lib.hid hn
    have HX := Lib.hid hx
    have H0 := Lib.hid h0
    have HQ := Lib.hid hq
    have HK := Lib.hid hk
    clear hn hx h0 hq hk fz hto hs
    go_enter Try.func22, Try.ntmps22
    go_wp2
    go_quiet (fail)
    go_wp2
    go_region
    all_goals go_wp2
    all_goals (refine bodyPost_ret (v := .tuple #[.agg #[.int .i64 q.l, .int .i64 q.c], .bool true]) ?_ rfl ⟨rfl, ?_⟩)
    · rw [results_ct rfl]
      go_simp
    · refine h.stepIx (w1 := w1.drewN nq) (bdrewN hb1 nq) k ?_
      refine Below.drew (Below.setCell (Below.setCell (Below.refl _ _) ?_ _) ?_ _) <;> simp

set_option maxHeartbeats 4000000 in
theorem rback_end {P : Nat → Prop} {bt : Nat} {s : Ms} {B : Int} (p : Po) (w : World) (h : RkS P w bt s) (hok : s.ok B) (hne : s.ix = s.js.length) :
    Calls Try.prog 22 #[.pointer (some ⟨bt, 0, none⟩), p.v] w fun e w' => e = .returned (ansV (backM s p).2) ∧ AfR P w w' bt (backM s p).1 := by
  obtain ⟨l, c⟩ := p
  show Calls _ _ #[.pointer (some ⟨bt, 0, none⟩), .agg #[.int .i64 l, .int .i64 c]] w _
  obtain ⟨w1, hw1⟩ : ∃ w1, (w.alloc (.cells #[.int .i64 l, .int .i64 c] 23)).alloc (.cells #[.int .i64 0, .int .i64 0] 23) = w1 := ⟨_, rfl⟩
  have hb1 : Below w.heap.size w w1 := by rw [← hw1]; exact ((Below.refl _ w).alloc (Nat.le_refl _) _).alloc (by simp) _
  have hg1 : w1.heap[w.heap.size + 1]? = some (.cells #[.int .i64 0, .int .i64 0] 23 (0, 0)) := by
    rw [← hw1]
    have := heap_alloc_new (w.alloc (.cells #[.int .i64 l, .int .i64 c] 23)) (.cells #[.int .i64 0, .int .i64 0] 23)
    rw [show (w.alloc (.cells #[.int .i64 l, .int .i64 c] 23)).heap.size = w.heap.size + 1 by simp] at this
    exact this
  have d0 : w1.cell? ⟨w.heap.size, 0, none⟩ = some (.int .i64 l) := by
    have := heap_alloc_new w (.cells #[.int .i64 l, .int .i64 c] 23)
    rw [← hw1, ((Below.refl _ (w.alloc (.cells #[.int .i64 l, .int .i64 c] 23))).alloc (Nat.le_refl _) _).cell (p := ⟨w.heap.size, 0, none⟩) (by simp), cell_row this]; rfl
  have d1 : w1.cell? ⟨w.heap.size, 1, none⟩ = some (.int .i64 c) := by
    have := heap_alloc_new w (.cells #[.int .i64 l, .int .i64 c] 23)
    rw [← hw1, ((Below.refl _ (w.alloc (.cells #[.int .i64 l, .int .i64 c] 23))).alloc (Nat.le_refl _) _).cell (p := ⟨w.heap.size, 1, none⟩) (by simp), cell_row this]; rfl
  have hs1 : w1.heap.size = w.heap.size + 2 := by rw [← hw1]; simp
  have h1 := h.below hb1
  have hP := h.lt
  have hl := hok.len
  obtain ⟨n, hn⟩ : ∃ n, s.js.length = n := ⟨_, rfl⟩
  rw [hn] at hl hne
  obtain ⟨mb1, ja1, jc1, a0, a1, a2, fz1, hbt1, _, _⟩ := h1.cells
  rw [hn] at a1
  rw [hne] at a2
  have heq : ((n : Int) == (n : Int)) = true := by simp
  -- what Push leaves
  obtain ⟨t, ht⟩ : ∃ t, pushM s ⟨l, c⟩ = t := ⟨_, rfl⟩
  have htn : t.ns = s.ns := by rw [← ht]; exact pushM_ns s _
  have hto : toEnd s ⟨l, c⟩ = ⟨s.ns, t.js, t.js.length - 1⟩ := by simp [toEnd, hne, hn, ht]
  obtain ⟨m, hm⟩ : ∃ m, t.js.length = m := ⟨_, rfl⟩
  have hm100 : m ≤ 100 := by
    rw [← hm, ← ht]
    unfold pushM
    split
    · exact (pushJ_len (by omega) _).1
    · omega
  have hpush : ∀ W : World, Below w1.heap.size w1 W → Calls Try.prog 20 #[.pointer (some ⟨bt, 0, none⟩), .agg #[.int .i64 l, .int .i64 c]] W fun e w3 => e = .returned (.tuple #[]) ∧
      Hid (AfR P w1 w3 bt t) ∧ (∃ mb ja jc, w3.cell? ⟨bt, 0, none⟩ = some mb ∧ w3.cell? ⟨bt, 1, none⟩ = some (.slice ja m jc) ∧ w3.cell? ⟨bt, 2, none⟩ = some (.int .i64 (t.ix : Nat)) ∧ w3.frozen? ⟨bt, 2, none⟩ = false ∧ bt < w.heap.size ∧
        (2 ≤ m → ∃ b off, ja = some ⟨b, off, none⟩ ∧ b ≠ bt ∧ b ≠ w.heap.size + 1 ∧ w3.cell? ⟨b, off + (m - 2) * 2, none⟩ = some (.int .i64 (t.js.getD (m - 2) po0).l) ∧ w3.cell? ⟨b, off + (m - 2) * 2 + 1, none⟩ = some (.int .i64 (t.js.getD (m - 2) po0).c))) ∧
      w3.cell? ⟨w.heap.size + 1, 0, none⟩ = some (.int .i64 0) ∧ w3.cell? ⟨w.heap.size + 1, 1, none⟩ = some (.int .i64 0) ∧ w3.frozen? ⟨w.heap.size + 1, 0, none⟩ = false ∧ w3.frozen? ⟨w.heap.size + 1, 1, none⟩ = false := by
    intro W hW
    have hMW := h1.below hW
    have hbW : Below w.heap.size w W := hb1.trans (hW.mono hb1.size)
    refine (rpush_any ⟨l, c⟩ W hMW hok).mono ?_
    rw [ht]
    rintro e w3 ⟨rfl, hA⟩
    have hA' := hA
    obtain ⟨P', hM3, hF3, hP3⟩ := hA
    obtain ⟨mb, ja, jc, e0, e1, e2, fz, hbt, _, _⟩ := hM3.cells
    have hWs := hW.size
    have hg3 : w3.heap[w.heap.size + 1]? = some (.cells #[.int .i64 0, .int .i64 0] 23 (0, 0)) := by
      rw [hF3.block _ (by omega) (fun e => by have := hP _ e; omega), hW.block _ (by omega)]
      exact hg1
    have hPbt : P bt := by obtain ⟨_, _, _, _, _, _, _, _, _, p1, _⟩ := h; exact p1
    rw [hm] at e1
    refine ⟨rfl, hA'.after hW (fun k hk => by have := hP k hk; omega), ⟨mb, ja, jc, e0, e1, e2, fz 2, hP bt hPbt, fun hm2 => ?_⟩, by rw [cell_row hg3]; rfl, by rw [cell_row hg3]; rfl, frozen_row hg3 0, frozen_row hg3 1⟩
    obtain ⟨mb', b, off, jc', f0, f1, f2, _, _, pb, hbne, r0, r1⟩ := hM3.jump (i := m - 2) (by omega)
    rw [hm] at f1
    rw [e1] at f1
    simp only [Option.some.injEq, Value.slice.injEq, true_and] at f1
    obtain ⟨rfl, rfl⟩ := f1
    refine ⟨b, off, rfl, hbne, ?_, r0, r1⟩
    rcases hP3 b pb with h | h
    · have := hP b h; omega
    · omega
  have HG1 := Lib.hid hg1
  have HS1 := Lib.hid hs1
  have HTO := Lib.hid hto
  have HTN := Lib.hid htn
  have fz12 := fz1 2
  clear hg1 hs1 hto htn
  have HT := Lib.hid ht
  have HN := Lib.hid hn
  have HNE := Lib.hid hne
  clear ht hn hne fz1
  by_cases hm2 : 2 ≤ m
  · have hs : backM s ⟨l, c⟩ = (⟨s.ns, t.js, m - 2⟩, some (t.js.getD (m - 2) po0)) := by
      have : ¬ m - 1 = 0 := by omega
      simp only [backM, HTO.out, hm, if_neg this]
      rw [show m - 1 - 1 = m - 2 by omega]
    rw [hs]
    obtain ⟨q, hq⟩ : ∃ q, t.js.getD (m - 2) po0 = q := ⟨_, rfl⟩
    obtain ⟨k, hk⟩ : ∃ k, m - 2 = k := ⟨_, rfl⟩
    rw [hq] at hpush ⊢
    rw [hk] at hpush ⊢
    obtain ⟨k1, hk1⟩ : ∃ k1 : Nat, k1 = m - 1 := ⟨_, rfl⟩
    have v1 : (m : Int) - 1 = (k1 : Int) := by omega
    have v2 : max (k1 : Int) 0 = (k1 : Int) := by omega
    have v2b : max 0 (k1 : Int) = (k1 : Int) := by omega
    have v3 : ((k1 : Int) == 0) = false := by simp; omega
    have v4 : (k1 : Int) - 1 = (k : Int) := by omega
    have v5 : k < m := by omega
    have v6 : (k : Int) < (m : Int) := by omega
    have v7 : (0 : Int) ≤ (k1 : Int) := by omega
    have HQ := Lib.hid hq
    have HK := Lib.hid hk
    have HK1 := Lib.hid hk1
    have HM := Lib.hid hm
    clear hq hk hs hk1 hm
    go_enter Try.func22, Try.ntmps22
    go_wp2
    go_quiet (fail)
    go_wp2_with (go_at_call 20; refine (hpush _ (bdrewN (Below.refl _ _) _)).mono ?_; rintro e w3 ⟨rfl, HA, ⟨mb, ja, jc, e0, e1, e2, fz2, hbtl, hj⟩, c0, c1, z00, z01⟩; obtain ⟨b, off, rfl, hbne, hbn, r0, r1⟩ := hj hm2)
    have n1 : ¬ b = w.heap.size + 1 := hbn
    have n2 : ¬ w.heap.size + 1 = b := fun e => hbn e.symm
    have n3 : ¬ bt = w.heap.size + 1 := by omega
    have n4 : ¬ w.heap.size + 1 = bt := by omega
    have hbne2 : ¬ bt = b := fun e => hbne e.symm
    go_region
    all_goals go_wp2
    all_goals (refine bodyPost_ret (v := .tuple #[.agg #[.int .i64 q.l, .int .i64 q.c], .bool true]) ?_ rfl ⟨rfl, ?_⟩)
    · rw [results_ct rfl]
      go_simp
    · have hA2 := (HA.out.trans (fun P' hM => AfR.setIx hM k1)).trans (fun P' hM => AfR.setIx hM k)
      obtain ⟨P', hM, hF, hP'⟩ := hA2
      rw [HTN.out] at hM
      have hbl : Below w.heap.size ((w3.setCell ⟨bt, 2, none⟩ (.int .i64 (k1 : Nat))).setCell ⟨bt, 2, none⟩ (.int .i64 (k : Nat))) ((((w3.setCell ⟨bt, 2, none⟩ (.int .i64 (k1 : Nat))).setCell ⟨bt, 2, none⟩ (.int .i64 (k : Nat))).setCell ⟨w.heap.size + 1, 0, none⟩ (.int .i64 q.l)).setCell ⟨w.heap.size + 1, 1, none⟩ (.int .i64 q.c)).drew := by
        refine Below.drew (Below.setCell (Below.setCell (Below.refl _ _) ?_ _) ?_ _) <;> simp
      have hS1 := HS1.out
      refine ⟨P', hM.fr (F := fun k => k = w.heap.size + 1) ?_ (fun k' hk' e => ?_), ((Fr.of_below P hb1).trans hF (fun _ _ h => h)).trans (fr_low hbl) (fun k' h1' h2' => by omega), fun k' hk' => (hP' k' hk').imp id (fun h => by omega)⟩
      · exact (((Fr.refl (fun k => k = w.heap.size + 1) _).setCell ⟨w.heap.size + 1, 0, none⟩ _ (fun _ => rfl)).setCell ⟨w.heap.size + 1, 1, none⟩ _ (fun _ => rfl)).drew
      · rcases hP' k' hk' with h' | h'
        · have := hP k' h'
          omega
        · omega
  · have hs : backM s ⟨l, c⟩ = (⟨s.ns, t.js, 0⟩, none) := by
      have : m - 1 = 0 := by omega
      simp only [backM, HTO.out, hm, if_pos this]
      rw [this]
    rw [hs]
    have v2 : max ((m : Int) - 1) 0 = 0 := by omega
    have v2b : max 0 ((m : Int) - 1) = 0 := by omega
    have v3 : ((0 : Int) == 0) = true := rfl
    have v5 : (m : Int) - 1 ≤ 0 := by omega
    have HM := Lib.hid hm
    clear hs hm
    go_enter Try.func22, Try.ntmps22
    go_wp2
    go_quiet (fail)
    go_wp2_with (go_at_call 20; refine (hpush _ (bdrewN (Below.refl _ _) _)).mono ?_; rintro e w3 ⟨rfl, HA, ⟨mb, ja, jc, e0, e1, e2, fz2, hbtl, hj⟩, c0, c1, z00, z01⟩; clear hj)
    all_goals (refine bodyPost_ret (v := .tuple #[.agg #[.int .i64 0, .int .i64 0], .bool false]) (by rw [results_ct rfl]; go_simp) rfl ⟨rfl, ?_⟩)
    all_goals (try (rw [show (m : Int) - 1 = 0 by omega]))
    all_goals (
      have hA2 := HA.out.trans (fun P' hM => AfR.setIx hM 0)
      obtain ⟨P', hM, hF, hP'⟩ := hA2
      rw [HTN.out] at hM
      have hbl : Below w.heap.size (w3.setCell ⟨bt, 2, none⟩ (.int .i64 ((0 : Nat) : Int))) (((w3.setCell ⟨bt, 2, none⟩ (.int .i64 ((0 : Nat) : Int))).setCell ⟨w.heap.size + 1, 0, none⟩ (.int .i64 0)).setCell ⟨w.heap.size + 1, 1, none⟩ (.int .i64 0)) := by
        refine Below.setCell (Below.setCell (Below.refl _ _) ?_ _) ?_ _ <;> simp
      have hS1 := HS1.out
      refine ⟨P', hM.fr (F := fun k => k = w.heap.size + 1) ?_ (fun k' hk' e => ?_), ((Fr.of_below P hb1).trans hF (fun _ _ h => h)).trans (fr_low hbl) (fun k' h1' h2' => by omega), fun k' hk' => (hP' k' hk').imp id (fun h => by omega)⟩
      · exact ((Fr.refl (fun k => k = w.heap.size + 1) _).setCell ⟨w.heap.size + 1, 0, none⟩ _ (fun _ => rfl)).setCell ⟨w.heap.size + 1, 1, none⟩ _ (fun _ => rfl)
      · rcases hP' k' hk' with h' | h'
        · have := hP k' h'
          omega
        · omega)
theorem rback_any {P : Nat → Prop} {bt : Nat} {s : Ms} {B : Int} (p : Po) (w : World) (h : RkS P w bt s) (hok : s.ok B) :
    Calls Try.prog 22 #[.pointer (some ⟨bt, 0, none⟩), p.v] w fun e w' => e = .returned (ansV (backM s p).2) ∧ AfR P w w' bt (backM s p).1 := by
  by_cases hx : s.ix = s.js.length
  · exact rback_end p w h hok hx
  · exact rback_mid p w h hok hx
end Go.Proofs.Ytbgbhlnidabhnaa.U
