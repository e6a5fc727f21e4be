/-
  Rows of things, each of a class: what lies in run's boxes.
-/
import Derived.Test.YthlhgkeodaifcaaDoorBBet
namespace Go.Proofs.YthlhgkeodaifcaaDoor.U
open Go.RowKit
set_option linter.unusedVariables false
set_option linter.unusedSimpArgs false
set_option maxRecDepth 100000

theorem rowF {w : World} {b : Nat} {ty : TypeId} {v0 v1 : Value} (h : w.heap[b]? = some (.cells #[v0, v1] ty (0, 0))) : w.cell? ⟨b, 0, none⟩ = some v0 ∧ w.cell? ⟨b, 1, none⟩ = some v1 :=
  ⟨by rw [cell_row h]; rfl, by rw [cell_row h]; rfl⟩
theorem row2v {w : World} {b : Nat} {ty : TypeId} {v0 v1 : Value} (h : w.heap[b]? = some (.cells #[v0, v1] ty (0, 0))) : w.cell? ⟨b, 0, none⟩ = some v0 ∧ w.cell? ⟨b, 1, none⟩ = some v1 ∧ w.frozen? ⟨b, 0, none⟩ = false ∧ w.frozen? ⟨b, 1, none⟩ = false :=
  ⟨by rw [cell_row h]; rfl, by rw [cell_row h]; rfl, by simp [World.frozen?, h], by simp [World.frozen?, h]⟩
/-- the row, the result, the piece so far -/
def RnS (w : World) (A : Obj) (S : Nat) (f t : Int) (W : World) : Prop := Below w.heap.size w W ∧ W.heap[w.heap.size]? = some A ∧ W.heap[w.heap.size + 1]? = some (.cells #[.int .i64 0, .int .i64 0] 70 (0, 0)) ∧ W.heap[S]? = some (.cells #[.int .i64 f, .int .i64 t] 70 (0, 0)) ∧ w.heap.size + 1 < S
theorem RnS.below {w W W2 : World} {A : Obj} {S : Nat} {f t : Int} (h : RnS w A S f t W) (hb : Below W.heap.size W W2) : RnS w A S f t W2 := by
  obtain ⟨h1, h2, h3, h4, h5⟩ := h
  exact ⟨btr h1 hb, keepO h2 hb, keepO h3 hb, keepO h4 hb, h5⟩
theorem RnS.setF {w W : World} {A : Obj} {S : Nat} {f t : Int} (h : RnS w A S f t W) (v : Int) : RnS w A S v t (W.setCell ⟨S, 0, none⟩ (.int .i64 v)) := by
  obtain ⟨h1, h2, h3, h4, h5⟩ := h
  have k1 : ¬ w.heap.size = S := by omega
  have k2 : ¬ w.heap.size + 1 = S := by omega
  exact ⟨setCell_below h1 _ _ _ (by omega), (Below.heap_setCell _ _ _ _ k1).trans h2, (Below.heap_setCell _ _ _ _ k2).trans h3, heap_set h4 0 _, h5⟩
theorem RnS.setT {w W : World} {A : Obj} {S : Nat} {f t : Int} (h : RnS w A S f t W) (v : Int) : RnS w A S f v (W.setCell ⟨S, 1, none⟩ (.int .i64 v)) := by
  obtain ⟨h1, h2, h3, h4, h5⟩ := h
  have k1 : ¬ w.heap.size = S := by omega
  have k2 : ¬ w.heap.size + 1 = S := by omega
  exact ⟨setCell_below h1 _ _ _ (by omega), (Below.heap_setCell _ _ _ _ k1).trans h2, (Below.heap_setCell _ _ _ _ k2).trans h3, heap_set h4 1 _, h5⟩
theorem RnS.ends {w W : World} {A : Obj} {S : Nat} {f t : Int} (h : RnS w A S f t W) (x y : Value) : Below w.heap.size w ((W.setCell ⟨w.heap.size + 1, 0, none⟩ x).setCell ⟨w.heap.size + 1, 1, none⟩ y) := setCell_below (setCell_below h.1 _ _ _ (by omega)) _ _ _ (by omega)
theorem RnS.row {w W : World} {v0 v1 : Value} {ty : TypeId} {S : Nat} {f t : Int} (h : RnS w (.cells #[v0, v1] ty (0, 0)) S f t W) : W.cell? ⟨w.heap.size, 0, none⟩ = some v0 ∧ W.cell? ⟨w.heap.size, 1, none⟩ = some v1 := rowF h.2.1
theorem RnS.span {w W : World} {A : Obj} {S : Nat} {f t : Int} (h : RnS w A S f t W) : W.cell? ⟨S, 0, none⟩ = some (.int .i64 f) ∧ W.cell? ⟨S, 1, none⟩ = some (.int .i64 t) ∧ W.frozen? ⟨S, 0, none⟩ = false ∧ W.frozen? ⟨S, 1, none⟩ = false := row2 h.2.2.2.1
theorem RnS.res {w W : World} {A : Obj} {S : Nat} {f t : Int} (h : RnS w A S f t W) : W.cell? ⟨w.heap.size + 1, 0, none⟩ = some (.int .i64 0) ∧ W.cell? ⟨w.heap.size + 1, 1, none⟩ = some (.int .i64 0) ∧ W.frozen? ⟨w.heap.size + 1, 0, none⟩ = false ∧ W.frozen? ⟨w.heap.size + 1, 1, none⟩ = false := row2 h.2.2.1
/-- a number in memory -/
def mSp (S i : Nat) (W : World) : Nat := (intOf ((W.cell? ⟨S, i, none⟩).getD (.bool false))).toNat
theorem RnS.m0 {w W : World} {A : Obj} {S f t : Nat} (h : RnS w A S (f : Nat) (t : Nat) W) : mSp S 0 W = f := by
  unfold mSp
  rw [h.span.1]
  simp [intOf]
theorem RnS.m1 {w W : World} {A : Obj} {S f t : Nat} (h : RnS w A S (f : Nat) (t : Nat) W) : mSp S 1 W = t := by
  unfold mSp
  rw [h.span.2.1]
  simp [intOf]
end Go.Proofs.YthlhgkeodaifcaaDoor.U
