/-
  The walk of lengths.replace onto nothing.
-/
import Derived.Test.YtndlebopfojjeaaTRep
namespace Go.Proofs.Ytndlebopfojjeaa.U
open Go.RowKit
set_option linter.unusedVariables false
set_option linter.unusedSimpArgs false
set_option maxRecDepth 100000

set_option maxHeartbeats 4000000 in
theorem treplace_0 (F N : Nat → Prop) (bt : Nat) (tv : Value) (TG : List Nat) (wa : Option Addr) (wn wc : Nat) (w : World) (h : w.heap[bt]? = some (.cells #[tv, .slice none 0 0, .int .i64 0] 71 (0, 0))) (hbF : F bt) (hNF : ∀ k, N k → ¬ F k) (hNw : ∀ k, w.heap.size ≤ k → N k)
    (hrd : RdN w wa wn wc TG) (hin : InF N wa wn) (h0 : 0 < wn) (hsz : sizeN TG ≤ 1048576) :
    Calls Try.prog 44 #[.pointer (some ⟨bt, 1, none⟩), .int .i64 0, .int .i64 0, .slice wa wn wc] w (RepPost w F N bt tv TG) := by
  have hl := hrd.len
  have hTGl : TG.length ≤ 1048576 := by rw [sizeN_sum] at hsz; omega
  obtain ⟨w1, hw1⟩ : ∃ w1, w.setCell ⟨bt, 2, none⟩ (.int .i64 (wn : Nat)) = w1 := ⟨_, rfl⟩
  have hf1 : Fr (· = bt) w w1 := by rw [← hw1]; exact (Fr.refl _ _).setCell _ _ (fun _ => rfl)
  have g1 : w1.heap[bt]? = some (.cells #[tv, .slice none 0 0, .int .i64 (wn : Nat)] 71 (0, 0)) := by
    rw [← hw1]
    exact heap_set h 2 _
  have hws : RdN w1 wa wn wc TG := Rc.frF hrd hin hf1 (fun k hk e => hNF k hk (by rw [e]; exact hbF))
  have hsz1 : w1.heap.size = w.heap.size := by rw [← hw1]; simp
  have hLB : LB w1 F bt none 0 0 [] 0 := ⟨heap_lt g1, cell_row g1 1, Rc.none0 _ _, (fun p hp => by cases hp), rfl, by simp [lists, sizeN]⟩
  have HFI : Hid (∀ W, Below w1.heap.size w1 W → Calls Try.prog 55 #[.pointer (some ⟨bt, 1, none⟩), .int .i64 0] W fun e w' => e = .returned (.tuple #[.int .i64 0, .int .i64 0]) ∧ Below W.heap.size W w') := fun W hW =>
    tfind_any F bt none 0 0 [] 0 0 W (hLB.below hW) (Nat.le_refl _)
  have k2 : w.cell? ⟨bt, 2, none⟩ = some (.int .i64 0) := cell_row h 2
  have z2 := frozen_row h 2
  have hbtl := heap_lt h
  have c1 := hLB.c1
  have hbt1 := hLB.lt
  have hwn : wn ≤ 1048576 := by omega
  have hsum : TG.sum ≤ 1048576 := by rw [sizeN_sum] at hsz; omega
  obtain ⟨yb, yo, rfl, hybl, _⟩ := hws.at_ h0
  have hyB : N yb := hin h0 _ rfl
  have HBLK : Hid (∀ wr W, Below w1.heap.size w1 wr → Below wr.heap.size wr W → Calls Try.prog 64 #[.slice (some ⟨yb, yo, none⟩) wn wc] W fun e w2 => ∃ gv M, e = .returned (.slice (some ⟨gv, 0, none⟩) M M) ∧ w2.cell? ⟨bt, 1, none⟩ = some (.slice none 0 0) ∧ bt < w2.heap.size ∧
      Hid (∃ qs, Below w1.heap.size w1 w2 ∧ 0 < M ∧ M ≤ wn ∧ w2.ownsRow 0 92 2 (.slice (some ⟨gv, 0, none⟩) M M) M (flatB qs) ∧ BlkOk N w2 qs ∧ (lists qs).flatten = TG)) := by
    intro wr W hr hW
    have hb0 := hr.trans (hW.mono hr.size)
    refine (blocksOf_any N yb yo wn wc TG W (Rc.below hws hb0) hyB h0 (by omega) (by unfold lim; omega)).mono ?_
    rintro e w2 ⟨M, qs, rfl, m1, m2, m3, m4, m5, m6⟩
    have hb1 := hb0.trans (m6.mono hb0.size)
    exact ⟨_, M, rfl, (hb1.cell (p := ⟨bt, 1, none⟩) hbt1).trans c1, by have := hb1.size; omega, qs, hb1, m1, m2, m3, m4, m5⟩
  have HREP : Hid (∀ (W2 : World) (gv M : Nat), Hid (∃ qs, Below w1.heap.size w1 W2 ∧ 0 < M ∧ M ≤ wn ∧ W2.ownsRow 0 92 2 (.slice (some ⟨gv, 0, none⟩) M M) M (flatB qs) ∧ BlkOk N W2 qs ∧ (lists qs).flatten = TG) →
      Calls Try.prog 63 #[.slice none 0 0, .int .i64 0, .int .i64 0, .slice (some ⟨gv, 0, none⟩) M M] W2 fun e w3 => ∃ a' n' c', e = .returned (.slice a' n' c') ∧ w3.cell? ⟨bt, 1, none⟩ = some (.slice none 0 0) ∧ w3.frozen? ⟨bt, 1, none⟩ = false ∧ bt < w3.heap.size ∧
        Hid (RepPost w F N bt tv TG (.returned (.tuple #[])) (w3.setCell ⟨bt, 1, none⟩ (.slice a' n' c')))) := by
    intro W2 gv M hh
    obtain ⟨qs, m0, m1, m2, m3, m4, m5⟩ := hh.out
    have hql : qs.length = M := by have := m3.1; rw [flatB_len] at this; omega
    refine (repl_none gv M M qs W2 m3 m1 (by omega)).mono ?_
    intro e w3 hp
    obtain ⟨a', c', q1, q2, q3, q4, q5⟩ := rep_end (w := w) (w1 := w1) (wr := w1) (W2 := W2) (W3 := w3) (F := F) (bt := bt) (N := N) (f := 0) (t := 0) (tv := tv) (ps := []) (qs := qs) (TG := TG) (a := none) (c := 0) (e := e) (by rw [hl]; exact g1) (fun k e => by cases e) (fun p hp => by cases hp) hbF (fun k e => by cases e) hNF hNw hf1 (Below.refl _ _) m0 m4 (by intro e; rw [e] at hql; simp at hql; omega) (by simpa [lists] using m5) (by omega) (by
      have e1 : (([] : Blks).take 0 ++ (qs ++ ([] : Blks).drop 0)) = qs := by simp
      rw [e1, hql]
      exact hp)
    exact ⟨a', _, c', q1, q2, q3, q4, q5⟩
  have HW1 := Lib.hid hw1
  clear hws hin hrd h g1 hf1 hLB hw1 hyB hybl hsz hsum hNF hNw hl hsz1
  go_enter Try.func44, Try.ntmps44
  go_upto_region 1 with fail
  rw [HW1.out]
  go_wp2_with fail
  refine (HFI.out _ (Below.refl _ _)).mono ?_
  rintro e w2 ⟨rfl, hb2⟩
  have HB2 := Lib.hid hb2
  clear hb2
  go_wp2_with fail
  refine (HFI.out w2 HB2.out).mono ?_
  rintro e w3 ⟨rfl, hb3⟩
  have HB3 : Hid (Below w1.heap.size w1 w3) := HB2.out.trans (hb3.mono HB2.out.size)
  have c3 : w3.cell? ⟨bt, 1, none⟩ = some (.slice none 0 0) := (HB3.out.cell (p := ⟨bt, 1, none⟩) hbt1).trans c1
  have hbt3 : bt < w3.heap.size := by have := HB3.out.size; omega
  clear hb3 HB2
  go_wp2_with fail
  go_loopw [3, 10] (fun v3 v10 wr => v3 = .slice (some ⟨yb, yo, none⟩) wn wc ∧ v10 = .int .i64 0 ∧ wr = w3) (fun _ _ _ => 0)
  case atStart => exact ⟨rfl, rfl, rfl⟩
  case round =>
    obtain ⟨rfl, rfl, rfl⟩ := hrel
    go_wp2_with fail
    go_loopw [3, 8] (fun v3 v8 wr' => v3 = .slice (some ⟨yb, yo, none⟩) wn wc ∧ v8 = .int .i64 0 ∧ wr' = wr) (fun _ _ _ => 0)
    case atStart => exact ⟨rfl, rfl, rfl⟩
    case round =>
      obtain ⟨rfl, rfl, rfl⟩ := hrel
      go_wp2_with fail
      go_region_with (first
        | (go_at_call 64; refine (HBLK.out _ _ HB3.out (by first | exact Below.refl _ _ | exact (Below.refl _ _).drew)).mono ?_; rintro e w5 ⟨gv, M, rfl, c5, l5, hq⟩)
        | (go_at_call 63; refine (HREP.out _ gv M hq).mono ?_; rintro e w6 ⟨a6, n6, c6, rfl, c7, z7, l7, hfin⟩))
      all_goals
        go_wp2_with fail
        refine bodyPost_ret (results_none rfl _ _ _) rfl ?_
        exact hfin.out
end Go.Proofs.Ytndlebopfojjeaa.U
