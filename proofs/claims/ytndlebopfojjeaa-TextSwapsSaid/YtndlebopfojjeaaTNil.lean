/-
  What a text that is none answers.
-/
import Derived.Test.YtndlebopfojjeaaTText
namespace Go.Proofs.Ytndlebopfojjeaa.U
open Go.RowKit
set_option linter.unusedVariables false
set_option linter.unusedSimpArgs false
set_option maxRecDepth 100000

theorem results_ct0 {fn : Func} {p q : Tmp} {ty : TypeId} (h : fn.results = #[.cell p ty, .tmp q]) (tmps : Array Value) (P : Program) (w : World) :
    (results fn tmps).run P w = ((asAddr (tmps.getD p undef)).run P w).andThen fun a w₁ => ((loadVar ty a).run P w₁).andThen fun v w₂ => .ok (.tuple #[v, tmps.getD q undef]) w₂ := by
  simp only [results, h]
  simp [Sem.run_bind, Result.andThen]
theorem count_nil (w : World) : Calls Try.prog 24 #[.pointer none] w fun e w' => e = .returned (.int .i64 0) ∧ w = w' := by
  go_enter Try.func24, Try.ntmps24
  go_wp2_with fail
  go_ret
  exact ⟨rfl, rfl⟩
theorem runesT_nil (w : World) : Calls Try.prog 23 #[.pointer none] w fun e w' => e = .returned (.int .i64 0) ∧ w = w' := by
  go_enter Try.func23, Try.ntmps23
  go_wp2_with fail
  go_ret
  exact ⟨rfl, rfl⟩
theorem all_nil (w : World) : Calls Try.prog 25 #[.pointer none] w fun e w' => e = .returned (.slice none 0 0) ∧ w = w' := by
  go_enter Try.func25, Try.ntmps25
  go_wp2_with fail
  go_ret
  exact ⟨rfl, rfl⟩
theorem line_nil (i : Int) (w : World) : Calls Try.prog 15 #[.pointer none, .int .i64 i] w fun e w' => e = .returned (.tuple #[.slice none 0 0, .int .i64 1]) ∧ w = w' := by
  go_enter Try.func15, Try.ntmps15
  go_wp2_with fail
  go_ret2
  exact ⟨rfl, rfl⟩
theorem place_nil (i : Int) (w : World) : Calls Try.prog 19 #[.pointer none, .int .i64 i] w fun e w' => e = .returned (.tuple #[.agg #[.int .i64 0, .int .i64 0], .int .i64 1]) ∧ Below w.heap.size w w' := by
  go_enter Try.func19, Try.ntmps19
  go_wp2_with fail
  (try simp only [Exit.inBlock, Exit.then])
  refine bodyPost_ret (v := .tuple #[.agg #[.int .i64 0, .int .i64 0], .int .i64 1]) ?_ rfl ⟨rfl, ?_⟩
  · rw [results_ct0 rfl]
    go_simp
  · exact (Below.refl _ _).alloc (Nat.le_refl _) _
theorem replace_nil (i n : Int) (v : Value) (w : World) : Calls Try.prog 30 #[.pointer none, .int .i64 i, .int .i64 n, v] w fun e w' => e = .returned (.int .i64 1) ∧ w = w' := by
  go_enter Try.func30, Try.ntmps30
  go_wp2_with fail
  go_ret
  exact ⟨rfl, rfl⟩
theorem insert_nil (p q : Int) (v : Value) (w : World) : Calls Try.prog 26 #[.pointer none, .agg #[.int .i64 p, .int .i64 q], v] w fun e w' => e = .returned (.int .i64 1) ∧ Below w.heap.size w w' := by
  go_enter Try.func26, Try.ntmps26
  go_wp2_with fail
  refine (offset_nil _ p q rfl _).mono ?_
  rintro e w1 ⟨rfl, hb⟩
  have hb' := Lib.hid (((Below.refl w.heap.size w).alloc (Nat.le_refl _) (.cells #[.int .i64 p, .int .i64 q] 30)).trans (hb.mono (by simp)))
  clear hb
  go_wp2_with fail
  go_ret
  exact ⟨rfl, hb'.out⟩
theorem between_nil (p q r s : Int) (w : World) : Calls Try.prog 50 #[.pointer none, .agg #[.int .i64 p, .int .i64 q], .agg #[.int .i64 r, .int .i64 s]] w fun e w' => ∃ a b, e = .returned (.tuple #[.int .i64 a, .int .i64 b, .int .i64 1]) ∧ Below w.heap.size w w' := by
  obtain ⟨wb, hwb⟩ : ∃ wb, (w.alloc (.cells #[.int .i64 p, .int .i64 q] 30)).alloc (.cells #[.int .i64 r, .int .i64 s] 30) = wb := ⟨_, rfl⟩
  have HB : Hid (Below w.heap.size w wb) := by rw [← hwb]; exact ((Below.refl _ _).alloc (Nat.le_refl _) _).alloc (by simp) _
  have hg1 : wb.heap[w.heap.size]? = some (.cells #[.int .i64 p, .int .i64 q] 30 (0, 0)) := by
    rw [← hwb, Below.heap_alloc _ _ _ (by simp), heap_alloc_new]
  have hg2 : wb.heap[w.heap.size + 1]? = some (.cells #[.int .i64 r, .int .i64 s] 30 (0, 0)) := by
    have := heap_alloc_new (w.alloc (.cells #[.int .i64 p, .int .i64 q] 30)) (.cells #[.int .i64 r, .int .i64 s] 30)
    rw [← hwb]
    simpa using this
  have HA : Hid (∀ W, Below wb.heap.size wb W → W.cell? ⟨w.heap.size, 0, none⟩ = some (.int .i64 p) ∧ W.cell? ⟨w.heap.size, 1, none⟩ = some (.int .i64 q) ∧ W.cell? ⟨w.heap.size + 1, 0, none⟩ = some (.int .i64 r) ∧ W.cell? ⟨w.heap.size + 1, 1, none⟩ = some (.int .i64 s) ∧ w.heap.size < W.heap.size ∧ w.heap.size + 1 < W.heap.size) := by
    intro W hW
    have q1 := (hW.block _ (heap_lt hg1)).trans hg1
    have q2 := (hW.block _ (heap_lt hg2)).trans hg2
    exact ⟨cell_row q1 0, cell_row q1 1, cell_row q2 0, cell_row q2 1, heap_lt q1, heap_lt q2⟩
  have HWB := Lib.hid hwb
  obtain ⟨a0, a1, a2, a3, l0, l1⟩ := HA.out wb (Below.refl _ _)
  clear hwb hg1 hg2
  go_enter Try.func50, Try.ntmps50
  go_upto_region 1 with fail
  rw [HWB.out]
  go_wp2_with fail
  refine (offset_nil _ p q rfl _).mono ?_
  rintro e w1 ⟨rfl, hb⟩
  have hb' := Lib.hid (HB.out.trans (hb.mono HB.out.size))
  obtain ⟨b0, b1, b2, b3, l2, l3⟩ := HA.out w1 hb
  have HB1 := Lib.hid hb
  clear hb a0 a1 a2 a3 l0 l1
  go_wp2_with fail
  go_ret3
  exact ⟨_, _, rfl, hb'.out⟩
theorem delete_nil (p q r s : Int) (w : World) : Calls Try.prog 28 #[.pointer none, .agg #[.int .i64 p, .int .i64 q], .agg #[.int .i64 r, .int .i64 s]] w fun e w' => e = .returned (.int .i64 1) ∧ Below w.heap.size w w' := by
  obtain ⟨wb, hwb⟩ : ∃ wb, (w.alloc (.cells #[.int .i64 p, .int .i64 q] 30)).alloc (.cells #[.int .i64 r, .int .i64 s] 30) = wb := ⟨_, rfl⟩
  have HB : Hid (Below w.heap.size w wb) := by rw [← hwb]; exact ((Below.refl _ _).alloc (Nat.le_refl _) _).alloc (by simp) _
  have hg1 : wb.heap[w.heap.size]? = some (.cells #[.int .i64 p, .int .i64 q] 30 (0, 0)) := by
    rw [← hwb, Below.heap_alloc _ _ _ (by simp), heap_alloc_new]
  have hg2 : wb.heap[w.heap.size + 1]? = some (.cells #[.int .i64 r, .int .i64 s] 30 (0, 0)) := by
    have := heap_alloc_new (w.alloc (.cells #[.int .i64 p, .int .i64 q] 30)) (.cells #[.int .i64 r, .int .i64 s] 30)
    rw [← hwb]
    simpa using this
  have a0 := cell_row hg1 0
  have a1 := cell_row hg1 1
  have a2 := cell_row hg2 0
  have a3 := cell_row hg2 1
  have l0 := heap_lt hg1
  have l1 := heap_lt hg2
  have HWB := Lib.hid hwb
  clear hwb hg1 hg2
  go_enter Try.func28, Try.ntmps28
  go_upto_region 1 with fail
  rw [HWB.out]
  go_wp2_with fail
  refine (between_nil p q r s _).mono ?_
  rintro e w1 ⟨a, b, rfl, hb⟩
  have hb' := Lib.hid (HB.out.trans (hb.mono HB.out.size))
  clear hb
  go_wp2_with fail
  go_ret
  exact ⟨rfl, hb'.out⟩
theorem slice_nil (p q r s : Int) (w : World) : Calls Try.prog 27 #[.pointer none, .agg #[.int .i64 p, .int .i64 q], .agg #[.int .i64 r, .int .i64 s]] w fun e w' => e = .returned (.tuple #[.slice none 0 0, .int .i64 1]) ∧ Below w.heap.size w w' := by
  obtain ⟨wb, hwb⟩ : ∃ wb, (w.alloc (.cells #[.int .i64 p, .int .i64 q] 30)).alloc (.cells #[.int .i64 r, .int .i64 s] 30) = wb := ⟨_, rfl⟩
  have HB : Hid (Below w.heap.size w wb) := by rw [← hwb]; exact ((Below.refl _ _).alloc (Nat.le_refl _) _).alloc (by simp) _
  have hg1 : wb.heap[w.heap.size]? = some (.cells #[.int .i64 p, .int .i64 q] 30 (0, 0)) := by
    rw [← hwb, Below.heap_alloc _ _ _ (by simp), heap_alloc_new]
  have hg2 : wb.heap[w.heap.size + 1]? = some (.cells #[.int .i64 r, .int .i64 s] 30 (0, 0)) := by
    have := heap_alloc_new (w.alloc (.cells #[.int .i64 p, .int .i64 q] 30)) (.cells #[.int .i64 r, .int .i64 s] 30)
    rw [← hwb]
    simpa using this
  have a0 := cell_row hg1 0
  have a1 := cell_row hg1 1
  have a2 := cell_row hg2 0
  have a3 := cell_row hg2 1
  have l0 := heap_lt hg1
  have l1 := heap_lt hg2
  have HWB := Lib.hid hwb
  clear hwb hg1 hg2
  go_enter Try.func27, Try.ntmps27
  go_upto_region 1 with fail
  rw [HWB.out]
  go_wp2_with fail
  refine (between_nil p q r s _).mono ?_
  rintro e w1 ⟨a, b, rfl, hb⟩
  have hb' := Lib.hid (HB.out.trans (hb.mono HB.out.size))
  clear hb
  go_wp2_with fail
  go_ret2
  exact ⟨rfl, hb'.out⟩
end Go.Proofs.Ytndlebopfojjeaa.U
