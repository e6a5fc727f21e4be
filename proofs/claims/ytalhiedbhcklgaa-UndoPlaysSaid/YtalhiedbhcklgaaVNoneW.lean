/-
  UndoNone: its walk; a deed, opened as far as it wants.
-/
import Derived.Test.YtalhiedbhcklgaaVAwakeW
import Derived.Lib.SmallJoins
namespace Go.Proofs.Ytalhiedbhcklgaa.U
open Go.RowKit
set_option linter.unusedVariables false
set_option linter.unusedSimpArgs false
set_option maxRecDepth 100000

theorem five {α : Type} {l : List α} (h : l.length = 5) : ∃ a b c d e, l = [a, b, c, d, e] := by
  match l, h with
  | [a, b, c, d, e], _ => exact ⟨a, b, c, d, e, rfl⟩
theorem three {α : Type} {l : List α} (h : l.length = 3) : ∃ a b c, l = [a, b, c] := by
  match l, h with
  | [a, b, c], _ => exact ⟨a, b, c, rfl⟩
section
open Go.WideShapes Go.ChangeShapes Go.ChangeAt
variable {H : Type} {enc : TypeId × Value → H} {w : World} {base : Nat} {held : Bool}
/-- the shape of a change -/
theorem change_shape {m : Nat} {v0 v1 v2 : Value} {y : DataW H × List MemPlace} (h : DataW.trod enc Try.prog w base (fun _ => true) held m 24 [v0, v1, v2] = some y) :
    ∃ (p : Int) (oa : Option Addr) (on oc : Nat) (na : Option Addr) (nn nc : Nat), v0 = .int .i64 p ∧ v1 = .slice oa on oc ∧ v2 = .slice na nn nc := by
  obtain ⟨ys, n', _, _, _, hyl, hf⟩ := DataW.trod_struct Try.underlying24 h
  obtain ⟨y0, y1, y2, rfl⟩ := three (l := ys) hyl
  have g0 : DataW.trod enc Try.prog w base (fun _ => true) held n' 3 [v0] = some y0 := hf 0 _ rfl
  have g1 : DataW.trod enc Try.prog w base (fun _ => true) held n' 22 [v1] = some y1 := hf 1 _ rfl
  have g2 : DataW.trod enc Try.prog w base (fun _ => true) held n' 22 [v2] = some y2 := hf 2 _ rfl
  obtain ⟨p, e0, _, w0⟩ := DataW.trod_int Try.underlying3 g0
  obtain ⟨a1, l1, c1, e1⟩ := Go.Joins.slice_form Try.underlying22 g1
  obtain ⟨a2, l2, c2, e2⟩ := Go.Joins.slice_form Try.underlying22 g2
  simp at e0 e1 e2
  exact ⟨p, a1, l1, c1, a2, l2, c2, e0, e1, e2⟩
/-- the shape of a deed -/
theorem deed_shape {r : Reach} {b0 : Nat} {v : Value} {d : DataW H} {p : List MemPlace} (hv : Value.okWide Try.prog w r b0 45 v) (h : DataW.Trod enc Try.prog w base (fun _ => true) held 45 v d p) :
    ∃ (k n q : Int) (oa : Option Addr) (on oc : Nat) (na : Option Addr) (nn nc : Nat), v = .agg #[.int .i64 k, .int .i64 n, .int .i64 q, .slice oa on oc, .slice na nn nc] := by
  obtain ⟨cs, rfl, hsz⟩ := okWide_struct Try.underlying45 hv
  obtain ⟨fuel, hf⟩ := h
  have hC : Try.prog.cellsOf 45 = 5 := by kernel_rfl
  have hf : DataW.trod enc Try.prog w base (fun _ => true) held fuel 45 cs.toList = some (d, p) := by simpa [Value.cells] using hf
  obtain ⟨ys, n', _, _, hcl, hyl, hg⟩ := DataW.trod_struct Try.underlying45 hf
  rw [hC] at hcl
  obtain ⟨v0, v1, v2, v3, v4, he⟩ := five hcl
  rw [he] at hg
  obtain ⟨y0, y1, y2, rfl⟩ := three (l := ys) hyl
  have g0 : DataW.trod enc Try.prog w base (fun _ => true) held n' 3 [v0] = some y0 := hg 0 _ rfl
  have g1 : DataW.trod enc Try.prog w base (fun _ => true) held n' 3 [v1] = some y1 := hg 1 _ rfl
  have g2 : DataW.trod enc Try.prog w base (fun _ => true) held n' 24 [v2, v3, v4] = some y2 := hg 2 _ rfl
  obtain ⟨k, e0, _, w0⟩ := DataW.trod_int Try.underlying3 g0
  obtain ⟨n, e1, _, w1⟩ := DataW.trod_int Try.underlying3 g1
  obtain ⟨q, oa, on, oc, na, nn, nc, rfl, rfl, rfl⟩ := change_shape g2
  simp at e0 e1
  subst e0 e1
  refine ⟨k, n, q, oa, on, oc, na, nn, nc, ?_⟩
  congr 1
  apply Array.toList_inj.1
  rw [he]
end

set_option maxHeartbeats 4000000 in
theorem undoNone_walk (k n p : Int) (oa na : Option Addr) (on oc nn nc : Nat) (w : World) : Calls Try.prog 8 #[.agg #[.int .i64 k, .int .i64 n, .int .i64 p, .slice oa on oc, .slice na nn nc]] w fun e w' => e = .returned (.bool true) ∧ Below w.heap.size w w' := by
  obtain ⟨W1, hW1⟩ : ∃ W1, w.alloc (.cells #[.int .i64 k, .int .i64 n, .int .i64 p, .slice oa on oc, .slice na nn nc] 45) = W1 := ⟨_, rfl⟩
  have s1 : W1.heap.size = w.heap.size + 1 := by rw [← hW1]; simp
  have hb1 : Below w.heap.size w W1 := by rw [← hW1]; exact (Below.refl _ _).alloc (Nat.le_refl _) _
  have g1 : W1.heap[w.heap.size]? = some (.cells #[.int .i64 k, .int .i64 n, .int .i64 p, .slice oa on oc, .slice na nn nc] 45 (0, 0)) := by rw [← hW1]; exact heap_alloc_new w _
  have HW := Lib.hid hW1
  have HB := Lib.hid hb1
  have c1 : W1.cell? ⟨w.heap.size, 1, none⟩ = some (.int .i64 n) := cell_row g1 1
  have c2 : W1.cell? ⟨w.heap.size, 2, none⟩ = some (.int .i64 p) := cell_row g1 2
  have c3 : W1.cell? ⟨w.heap.size, 3, none⟩ = some (.slice oa on oc) := cell_row g1 3
  have c4 : W1.cell? ⟨w.heap.size, 4, none⟩ = some (.slice na nn nc) := cell_row g1 4
  have l1 : w.heap.size < W1.heap.size := by omega
  have HG := Lib.hid g1
  clear hW1 hb1 s1 g1
  go_enter Try.func8, Try.ntmps8
  go_wp2_with fail
  rw [HW.out]
  refine (begin_nil W1).mono ?_
  rintro e w2 ⟨rfl, rfl⟩
  go_wp2_with fail
  refine (add_nil _ _ _ _ _ _ _ W1).mono ?_
  rintro e W2 ⟨rfl, hb2⟩
  have q1 : W2.cell? ⟨w.heap.size, 1, none⟩ = some (.int .i64 n) := (hb2.cell (p := ⟨w.heap.size, 1, none⟩) l1).trans c1
  have l2 : w.heap.size < W2.heap.size := by have := hb2.size; omega
  have HB2 : Hid (Below w.heap.size w W2) := HB.out.trans (hb2.mono HB.out.size)
  clear hb2 c1 c2 c3 c4 l1 HW HB HG
  go_wp2_with fail
  refine (end_nil W2).mono ?_
  rintro e w2 ⟨rfl, rfl⟩
  go_wp2_with fail
  refine (undo_nil W2).mono ?_
  rintro e w2 ⟨rfl, rfl⟩
  go_wp2_with fail
  refine (redo_nil W2).mono ?_
  rintro e w2 ⟨rfl, rfl⟩
  go_wp2_with fail
  refine (to_nil _ W2).mono ?_
  rintro e w2 ⟨rfl, rfl⟩
  go_wp2_with fail
  refine (lenT_nil W2).mono ?_
  rintro e w2 ⟨rfl, rfl⟩
  go_wp2_with fail
  refine (at_nil W2).mono ?_
  rintro e w2 ⟨rfl, rfl⟩
  go_wp2_with fail
  refine (awake_any W2).mono ?_
  rintro e w2 ⟨rfl, hb3⟩
  have HB3 : Hid (Below w.heap.size w w2) := HB2.out.trans (hb3.mono HB2.out.size)
  clear hb3 HB2 q1 l2
  go_wp2_with fail
  go_ret
  exact ⟨rfl, HB3.out⟩
end Go.Proofs.Ytalhiedbhcklgaa.U
