/-
  The walk of RegisterNone.
-/
import Derived.Test.YtleidcegbfnmkaaHAwake
namespace Go.Proofs.Ytleidcegbfnmkaa.U
open Go.RowKit
set_option linter.unusedVariables false
set_option linter.unusedSimpArgs false
set_option maxRecDepth 100000

set_option maxHeartbeats 2000000 in
theorem registerNone_wide (ask : Bool) (nm k : Int) (a : Option Addr) (n c : Nat) (del : Bool) (w : World) :
    Calls Try.prog 8 #[.agg #[.bool ask, .int .i32 nm, .int .i64 k, .slice a n c, .bool del]] w fun e w' => e = .returned (.bool true) ∧ Below w.heap.size w w' := by
  obtain ⟨wb, hwb⟩ : ∃ wb, w.alloc (.cells #[.bool ask, .int .i32 nm, .int .i64 k, .slice a n c, .bool del] 33) = wb := ⟨_, rfl⟩
  have hrow : wb.heap[w.heap.size]? = some (.cells #[.bool ask, .int .i32 nm, .int .i64 k, .slice a n c, .bool del] 33 (0, 0)) := by rw [← hwb]; exact heap_alloc_new w _
  have hB : Below w.heap.size w wb := by rw [← hwb]; exact (Below.refl _ _).alloc (Nat.le_refl _) _
  obtain ⟨b, hbe⟩ : ∃ b, w.heap.size = b := ⟨_, rfl⟩
  rw [hbe] at hrow
  have HB := Lib.hid (And.intro hB (And.intro hbe (heap_lt hrow)))
  have HW := Lib.hid hwb
  have HBE := Lib.hid hbe
  have KS : Hid (∀ W, Below wb.heap.size wb W → (W.cell? ⟨b, 0, none⟩ = some (.bool ask) ∧ W.cell? ⟨b, 1, none⟩ = some (.int .i32 nm) ∧ W.cell? ⟨b, 2, none⟩ = some (.int .i64 k) ∧ W.cell? ⟨b, 3, none⟩ = some (.slice a n c) ∧ W.cell? ⟨b, 4, none⟩ = some (.bool del) ∧ b < W.heap.size)) := by
    intro W hW
    have e1 := (hW.block b (heap_lt hrow)).trans hrow
    exact ⟨cell_row e1 0, cell_row e1 1, cell_row e1 2, cell_row e1 3, cell_row e1 4, heap_lt e1⟩
  have HG : Hid (∀ W, Hid (Below wb.heap.size wb W) → Calls Try.prog 11 #[.pointer none, .int .i32 nm] W fun e w' => e = .returned (.tuple #[.agg #[.int .i64 0, .slice none 0 0], .int .i64 1]) ∧ Hid (∀ o, Below wb.heap.size wb (w'.alloc o))) := by
    intro W hW
    refine (pget_nil nm W).mono ?_
    rintro e w' ⟨rfl, h⟩
    have h2 := hW.out.trans (h.mono hW.out.size)
    exact ⟨rfl, fun o => h2.alloc h2.size _⟩
  have HP : Hid (∀ W, Hid (Below wb.heap.size wb W) → Calls Try.prog 15 #[.pointer none, .int .i32 nm, .agg #[.int .i64 k, .slice a n c], .bool del] W fun e w' => e = .returned (.int .i64 1) ∧ Hid (Below wb.heap.size wb w')) := by
    intro W hW
    refine (pput_nil nm k a n c del W).mono ?_
    rintro e w' ⟨rfl, h⟩
    exact ⟨rfl, hW.out.trans (h.mono hW.out.size)⟩
  have HA : Hid (∀ W, Hid (Below wb.heap.size wb W) → Calls Try.prog 18 #[.pointer none] W fun e w' => e = .returned (.slice none 0 0) ∧ Hid (Below wb.heap.size wb w')) := by
    intro W hW
    refine (pall_nil W).mono ?_
    rintro e w' ⟨rfl, h⟩
    exact ⟨rfl, hW.out.trans (h.mono hW.out.size)⟩
  have HK : Hid (∀ W, Hid (Below wb.heap.size wb W) → Calls Try.prog 19 #[] W fun e w' => e = .returned (.bool true) ∧ Hid (Below wb.heap.size wb w')) := by
    intro W hW
    refine (awake_any W).mono ?_
    rintro e w' ⟨rfl, h⟩
    exact ⟨rfl, hW.out.trans (h.mono hW.out.size)⟩
  have HR0 : Hid (Below wb.heap.size wb wb) := Below.refl _ _
  clear hrow hB hwb hbe
  obtain ⟨c0, c1, c2, c3, c4, c5⟩ := KS.out wb HR0.out
  go_enter Try.func8, Try.ntmps8
  go_upto_region 2 with fail
  (try rw [HW.out])
  (try rw [HBE.out])
  go_upto_region 3 with (go_at_call 11; (with_reducible refine (HG.out _ HR0).mono ?_); rintro e w1 ⟨rfl, H1⟩)
  obtain ⟨wc, hwc⟩ : ∃ wc, w1.alloc (.cells #[.int .i64 0, .slice none 0 0] 31) = wc := ⟨_, rfl⟩
  have H2 : Hid (Below wb.heap.size wb wc) := by rw [← hwc]; exact H1.out _
  (try rw [hwc])
  clear hwc H1 c0 c1 c2 c3 c4 c5
  obtain ⟨c0, c1, c2, c3, c4, c5⟩ := KS.out wc H2.out
  go_wp2_with (first
    | (go_at_call 15; (with_reducible refine (HP.out _ H2).mono ?_); rintro e w3 ⟨rfl, H3⟩)
    | (go_at_call 18; (with_reducible refine (HA.out _ H3).mono ?_); rintro e w4 ⟨rfl, H4⟩)
    | (go_at_call 19; (with_reducible refine (HK.out _ H4).mono ?_); rintro e w5 ⟨rfl, H5⟩))
  go_ret
  exact ⟨rfl, HB.out.1.trans (H5.out.mono (by have := HB.out.1.size; have := HB.out.2.1; have := HB.out.2.2; omega))⟩
end Go.Proofs.Ytleidcegbfnmkaa.U
