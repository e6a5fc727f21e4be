/-
  The pairs, as the row lists them, lie in the variable's cells.
-/
import Derived.Test.YthlhgkeodaifcaaDoorRows
import Derived.Test.YthlhgkeodaifcaaDoorBMo
import Derived.Lib.LaidU8
import Derived.LaidMore
import Derived.OpenShut
namespace Go.Proofs.YthlhgkeodaifcaaDoor.U
open Go.RowKit
set_option linter.unusedVariables false
set_option linter.unusedSimpArgs false

theorem pairs_is : (Rows.laid_inkhorn_object_pairs : DataW Unit) = .agg ((List.range 4).map fun i => .agg ((List.range 2).map fun j => .lit (.int .i32 (prsT.getD (i * 2 + j) 0)))) := by rfl

theorem gl_of_laid {W : World} (h : laidMetH Tryd.prog Rows.objectFindsRow.laid W) : Gl W := by
  rw [MakeChecks.laidMetH_plain _ _ _ (by kernel_rfl)] at h
  have hv := Lib.laidMet.reads h (n := "inkhorn/object.pairs") (d := Rows.laid_inkhorn_object_pairs) (List.mem_singleton.2 rfl)
  obtain ⟨g, t, cs, fuel, p, hg, hty, hvar, hd⟩ := hv
  obtain rfl := Option.some.inj ((show Tryd.prog.globalNamed "inkhorn/object.pairs" = some 0 by kernel_rfl).symm.trans hg)
  obtain rfl := Option.some.inj ((show (Tryd.prog.globals[0]?).map (·.type) = some 61 by kernel_rfl).symm.trans hty)
  rw [pairs_is] at hd
  have c60 : Tryd.prog.cellsOf 60 = 2 := by kernel_rfl
  have c21 : Tryd.prog.cellsOf 21 = 1 := by kernel_rfl
  have u61 : Tryd.prog.underlying 61 = some (.array 4 60) := by kernel_rfl
  have u60 : Tryd.prog.underlying 60 = some (.array 2 21) := by kernel_rfl
  have v := World.var?_cell hg hvar
  have key : ∀ i, i < 4 → ∀ j, j < 2 → W.cell? ⟨0, i * 2 + j, none⟩ = some (.int .i32 (prsT.getD (i * 2 + j) 0)) := by
    intro i hi j hj
    obtain ⟨fuel1, d1, q1, hd1, he1⟩ := Lib.array_elem u61 hd i hi
    simp only [List.getElem?_map, List.getElem?_range hi, Option.map_some, Option.some.injEq] at hd1
    subst hd1
    rw [c60] at he1
    obtain ⟨fuel2, d2, q2, hd2, he2⟩ := Lib.array_elem u60 he1 j hj
    simp only [List.getElem?_map, List.getElem?_range hj, Option.map_some, Option.some.injEq] at hd2
    subst hd2
    rw [c21] at he2
    obtain ⟨z0, g0, e0, _⟩ := DataW.trod_int Tryd.underlying21 he2
    simp only [Prod.mk.injEq, DataW.lit.injEq, Lit.int.injEq, true_and] at e0
    obtain ⟨e1, -⟩ := e0
    have k0 := congrArg (·[0]?) g0
    simp only [List.getElem?_take, List.getElem?_drop] at k0
    rw [e1, v, ← Array.getElem?_toList]
    simp at k0
    simpa using k0.2
  intro i hi
  have := key (i / 2) (by omega) (i % 2) (by omega)
  rw [show i / 2 * 2 + i % 2 = i by omega] at this
  exact this
end Go.Proofs.YthlhgkeodaifcaaDoor.U
