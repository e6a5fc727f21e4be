/-
  The walk of MarksNone.
-/
import Derived.Test.YtbgbhlnidabhnaaMDeed
namespace Go.Proofs.Ytbgbhlnidabhnaa.U
open Go.RowKit
set_option linter.unusedVariables false
set_option linter.unusedSimpArgs false
set_option maxRecDepth 100000

set_option maxHeartbeats 4000000 in
theorem marksNone_wide (kd r : Int) (q : Po) (u : Tri) (c : Ch) (w : World) (h : KnD w kd r q u c) :
    Calls Try.prog 7 #[.agg #[.int .i64 kd, .int .i32 r, .int .i64 q.l, .int .i64 q.c, u.1, u.2.1, u.2.2]] w fun e w' => e = .returned (.bool true) ∧ Below w.heap.size w w' := by
  obtain ⟨-, hr, -, ⟨⟨oa, oc, na, nc, rfl, -, -⟩, -⟩, -⟩ := h
  obtain ⟨l, cc⟩ := q
  show Calls _ _ #[.agg #[.int .i64 kd, .int .i32 r, .int .i64 l, .int .i64 cc, .int .i64 c.pos, .slice oa c.old.length oc, .slice na c.now.length nc]] w _
  obtain ⟨w1, hw1⟩ : ∃ w1, w.alloc (.cells #[.int .i64 kd, .int .i32 r, .int .i64 l, .int .i64 cc, .int .i64 c.pos, .slice oa c.old.length oc, .slice na c.now.length nc] 41) = w1 := ⟨_, rfl⟩
  have hb1 : Below w.heap.size w w1 := by rw [← hw1]; exact (Below.refl _ w).alloc (Nat.le_refl _) _
  have gp : w1.heap[w.heap.size]? = some (.cells #[.int .i64 kd, .int .i32 r, .int .i64 l, .int .i64 cc, .int .i64 c.pos, .slice oa c.old.length oc, .slice na c.now.length nc] 41 (0, 0)) := by
    rw [← hw1]
    exact heap_alloc_new w _
  have args : ∀ W : World, Below w1.heap.size w1 W → W.cell? ⟨w.heap.size, 1, none⟩ = some (.int .i32 r) ∧ W.cell? ⟨w.heap.size, 2, none⟩ = some (.int .i64 l) ∧ W.cell? ⟨w.heap.size, 3, none⟩ = some (.int .i64 cc) ∧ W.cell? ⟨w.heap.size, 4, none⟩ = some (.int .i64 c.pos) ∧ W.cell? ⟨w.heap.size, 5, none⟩ = some (.slice oa c.old.length oc) ∧ W.cell? ⟨w.heap.size, 6, none⟩ = some (.slice na c.now.length nc) := by
    intro W hW
    have g1 := (hW.block w.heap.size (heap_lt gp)).trans gp
    exact ⟨by rw [cell_row g1]; rfl, by rw [cell_row g1]; rfl, by rw [cell_row g1]; rfl, by rw [cell_row g1]; rfl, by rw [cell_row g1]; rfl, by rw [cell_row g1]; rfl⟩
  obtain ⟨a1, a2, a3, a4, a5, a6⟩ := args w1 (Below.refl _ _)
  clear gp
  have al : ∀ {a : World} (o : Obj), Below w1.heap.size w1 a → Below w1.heap.size w1 (a.alloc o) := fun o ha => ha.alloc ha.size o
  have tr : ∀ {a b : World}, Below w1.heap.size w1 a → Below a.heap.size a b → Below w1.heap.size w1 b := fun ha hb => ha.trans (hb.mono ha.size)
  go_enter Try.func7, Try.ntmps7
  go_wp2_with (go_at_call 17; refine (adjust_nil _ _ _ _).mono ?_; rintro e w2 ⟨rfl, hb2⟩; obtain ⟨a1, a2, a3, a4, a5, a6⟩ := args w2 hb2)
  go_wp2_with (go_at_call 19; refine (push_nil ⟨l, cc⟩ _).mono ?_; rintro e w3 ⟨rfl, hb3⟩; have hc3 := tr hb2 hb3; obtain ⟨a1, a2, a3, a4, a5, a6⟩ := args w3 hc3)
  go_wp2_with (go_at_call 15; refine (get_nil r _).mono ?_; rw [ans_none]; rintro e w4 ⟨rfl, hb4⟩; have hc4 := al (.cells #[.int .i64 0, .int .i64 0] 23) (tr hc3 hb4); obtain ⟨a1, a2, a3, a4, a5, a6⟩ := args _ hc4)
  go_wp2_with (go_at_call 21; refine (back_nil ⟨l, cc⟩ _).mono ?_; rw [ans_none]; rintro e w5 ⟨rfl, hb5⟩; have hc5 := al (.cells #[.int .i64 0, .int .i64 0] 23) (tr hc4 hb5); obtain ⟨a1, a2, a3, a4, a5, a6⟩ := args _ hc5)
  go_wp2_with (go_at_call 23; refine (forth_nil _).mono ?_; rw [ans_none]; rintro e w6 ⟨rfl, hb6⟩; have hc6 := al (.cells #[.int .i64 0, .int .i64 0] 23) (tr hc5 hb6); obtain ⟨a1, a2, a3, a4, a5, a6⟩ := args _ hc6)
  go_wp2_with (first | (go_at_call 25; refine (jumps_nil _).mono ?_; rintro e w7 ⟨rfl, rfl⟩) | (go_at_call 13; refine (set_nil r ⟨l, cc⟩ _).mono ?_; rintro e w8 ⟨rfl, hb8⟩) | (go_at_call 27; refine (names_nil _).mono ?_; rintro e w9 ⟨rfl, rfl⟩) | (go_at_call 11; refine (awake_ok _).mono ?_; rintro e w10 ⟨rfl, hb10⟩))
  go_ret
  exact ⟨rfl, hb1.trans ((tr (tr hc6 hb8) hb10).mono hb1.size)⟩
end Go.Proofs.Ytbgbhlnidabhnaa.U
