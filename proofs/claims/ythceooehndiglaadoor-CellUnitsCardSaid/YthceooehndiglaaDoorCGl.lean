/-
  The table of ranges, as the row lists it, lies in the variable's cells; what a row of numbers reads as.
-/
import Derived.Test.YthceooehndiglaaDoorCLeaf
import Derived.Lib.LaidU8
import Derived.LaidMore
import Derived.OpenShut
namespace Go.Proofs.YthceooehndiglaaDoor.U
open Go.RowKit
set_option linter.unusedVariables false
set_option linter.unusedSimpArgs false

theorem Rd_of_row {k : IntKind} {w : World} {a : Option Addr} {len cap : Nat} {zs : List Int}
    (h : (a = none ∧ len = 0 ∧ cap = 0 ∧ zs = []) ∨ ∃ x, a = some x ∧ len ≤ cap ∧ cap ≤ maxLen ∧ zs.length = cap ∧ (∀ i, i < zs.length → w.cell? (x.add i) = some (.int k (zs.getD i 0))) ∧ ∀ n ∈ zs, (Lit.int k n).wf = true) :
    Rd k w a len cap (zs.take len) := by
  rcases h with ⟨rfl, rfl, rfl, rfl⟩ | ⟨x, rfl, hl, hm, hz, hc, hw⟩
  · exact Rd.none0 _ _
  · refine ⟨by rw [List.length_take]; omega, hl, hm, fun y hy => hw y (List.mem_of_mem_take hy), (fun h => by cases h), fun hp => ?_⟩
    obtain ⟨b, off, spot⟩ := x
    have h0 := hc 0 (by omega)
    have hspot : spot = none := by simpa [Addr.add] using World.cell?_spot h0
    subst hspot
    refine ⟨b, off, rfl, fun i hi => ?_⟩
    have h1 := hc i (by omega)
    have he : (⟨b, off, none⟩ : Addr).add i = ⟨b, off + i, none⟩ := by
      by_cases h0 : i = 0
      · subst h0; rfl
      · simp [Addr.add]; intro hj; exact absurd hj h0
    rw [he] at h1
    rw [h1]
    simp [List.getD_eq_getElem?_getD, List.getElem?_take, hi]

theorem ranges_is : (Rows.laid_inkhorn_cell_ranges : DataW Unit) = .agg ((List.range 16).map fun i => .agg [.lit (.int .i32 (tabF.getD i 0)), .lit (.int .i32 (tabL.getD i 0)), .lit (.int .i64 (tabW.getD i 0))]) := by rfl

theorem gl_of_laid {W : World} (h : laidMetH Tryd.prog Rows.cellWidthsRow.laid W) : Gl W := by
  rw [MakeChecks.laidMetH_plain _ _ _ (by kernel_rfl)] at h
  have hv := Lib.laidMet.reads h (n := "inkhorn/cell.ranges") (d := Rows.laid_inkhorn_cell_ranges) (List.mem_singleton.2 rfl)
  obtain ⟨g, t, cs, fuel, p, hg, hty, hvar, hd⟩ := hv
  obtain rfl := Option.some.inj ((show Tryd.prog.globalNamed "inkhorn/cell.ranges" = some 0 by kernel_rfl).symm.trans hg)
  obtain rfl := Option.some.inj ((show (Tryd.prog.globals[0]?).map (·.type) = some 42 by kernel_rfl).symm.trans hty)
  rw [ranges_is] at hd
  have c41 : Tryd.prog.cellsOf 41 = 3 := by kernel_rfl
  have c21 : Tryd.prog.cellsOf 21 = 1 := by kernel_rfl
  have c3 : Tryd.prog.cellsOf 3 = 1 := by kernel_rfl
  intro i hi
  obtain ⟨fuel', d, q, hdi, he⟩ := Lib.array_elem Tryd.underlying42 hd i hi
  simp only [List.getElem?_map, List.getElem?_range hi, Option.map_some, Option.some.injEq] at hdi
  subst hdi
  rw [c41] at he
  obtain ⟨xs, n, rfl, hx, hl, hxl, hall⟩ := DataW.trod_struct Tryd.underlying41 he
  have hxs : xs.map (·.1) = [.lit (.int .i32 (tabF.getD i 0)), .lit (.int .i32 (tabL.getD i 0)), .lit (.int .i64 (tabW.getD i 0))] := by
    have := congrArg Prod.fst hx
    simpa using this.symm
  obtain ⟨x0, x1, x2, rfl⟩ : ∃ x0 x1 x2, xs = [x0, x1, x2] := by
    match xs, hxs with
    | [x0, x1, x2], _ => exact ⟨x0, x1, x2, rfl⟩
  simp only [List.map_cons, List.map_nil, List.cons.injEq, and_true] at hxs
  obtain ⟨e0, e1, e2⟩ := hxs
  have f0 := hall 0 _ rfl
  have f1 := hall 1 _ rfl
  have f2 := hall 2 _ rfl
  change DataW.trod _ _ _ _ _ _ _ 21 ((((cs.toList.drop (i * 3)).take 3).drop 0).take (Tryd.prog.cellsOf 21)) = some x0 at f0
  change DataW.trod _ _ _ _ _ _ _ 21 ((((cs.toList.drop (i * 3)).take 3).drop 1).take (Tryd.prog.cellsOf 21)) = some x1 at f1
  change DataW.trod _ _ _ _ _ _ _ 3 ((((cs.toList.drop (i * 3)).take 3).drop 2).take (Tryd.prog.cellsOf 3)) = some x2 at f2
  rw [c21] at f0 f1
  rw [c3] at f2
  obtain ⟨z0, g0, rfl, _⟩ := DataW.trod_int Tryd.underlying21 f0
  obtain ⟨z1, g1, rfl, _⟩ := DataW.trod_int Tryd.underlying21 f1
  obtain ⟨z2, g2, rfl, _⟩ := DataW.trod_int Tryd.underlying3 f2
  simp only [DataW.lit.injEq, Lit.int.injEq, true_and] at e0 e1 e2
  subst e0; subst e1; subst e2
  have k0 := congrArg (·[0]?) g0
  have k1 := congrArg (·[0]?) g1
  have k2 := congrArg (·[0]?) g2
  simp only [List.getElem?_take, List.getElem?_drop] at k0 k1 k2
  have v := World.var?_cell hg hvar
  refine ⟨?_, ?_, ?_⟩
  · rw [v, ← Array.getElem?_toList]; simpa using k0
  · rw [v, ← Array.getElem?_toList]; simpa using k1
  · rw [v, ← Array.getElem?_toList]; simpa using k2
end Go.Proofs.YthceooehndiglaaDoor.U
