/-
  The walk of CellWidths.
-/
import Derived.Test.YthceooehndiglaaDoorCAwake
import Derived.Test.YthceooehndiglaaDoorCRefA
namespace Go.Proofs.YthceooehndiglaaDoor.U
open Go.RowKit
set_option linter.unusedVariables false
set_option linter.unusedSimpArgs false

theorem wf_i32_mk {x : Int} (h0 : -2147483648 ≤ x) (h1 : x ≤ 2147483647) : (Lit.int .i32 x).wf = true := by
  simp [Lit.wf, IntKind.min, IntKind.max, IntKind.signed, IntKind.bits]; omega

theorem rshow_own (r : Int) (w : World) :
    Calls Tryd.prog 14 #[.int .i32 r] w fun e w' => ∃ v, e = .returned v ∧ w'.ownsRow w.heap.size 21 1 v (showM r).length ((showM r).map (Value.int .i32)) ∧ Below w.heap.size w w' := by
  refine (rshow_any r w).mono ?_
  rintro e w' ⟨cs, rfl, rfl, hcs⟩
  have hl : cs.length = (showM r).length := by rw [hcs]; simp
  refine ⟨_, rfl, ?_, (Below.refl _ w).alloc (Nat.le_refl _) _⟩
  rw [← hl]
  exact own_of_row (heap_alloc_new w _) (Nat.le_refl _) ⟨hcs, rfl⟩ (by rw [hl, show_len]; unfold maxLen; split <;> omega)
theorem rwidth_is (r : Int) (n : Nat) (w : World) (h : Hid (widthM r = n)) :
    Calls Tryd.prog 11 #[.int .i32 r] w fun e w' => e = .returned (.int .i64 n) ∧ w = w' := by
  have := h.out; subst this; exact rwidth_any r w

theorem cellWidths_walk (r : Int) (w : World) (hw : (Lit.int .i32 r).wf = true) (hg : Gl w) :
    Calls Tryd.prog 3 #[.int .i32 r] w fun e w' => e = .returned (.bool true) ∧ Below w.heap.size w w' := by
  obtain ⟨n, hn⟩ : ∃ n, widthM r = n := ⟨_, rfl⟩
  have HN : Hid (widthM r = n) := hn
  have hnn : ((n : Int) == (n : Int)) = true := by simp
  have HG := Lib.hid hg
  have HW := Lib.hid (showM_wf hw)
  clear hn hw hg
  go_enter Tryd.func3, Tryd.ntmps3
  go_wp2_with fail
  refine (width_is r n _ HG.out HN).mono ?_
  rintro e w' ⟨rfl, rfl⟩
  go_wp2_with fail
  refine (rwidth_is r n _ HN).mono ?_
  rintro e w' ⟨rfl, rfl⟩
  go_wp2_with fail
  refine (show_own r _).mono ?_
  rintro e w1 ⟨v1, rfl, hown1, hb1⟩
  obtain ⟨a1, c1, rfl⟩ := own_slice hown1
  go_wp2_with fail
  refine (rshow_own r _).mono ?_
  rintro e w2 ⟨v2, rfl, hown2, hb2⟩
  obtain ⟨a2, c2, rfl⟩ := own_slice hown2
  have R1 := (Rd.own hown1 HW.out).below hb2
  have R2 := Rd.own hown2 HW.out
  have HB2 := Lib.hid (hb1.trans (hb2.mono hb1.size))
  have HR1 := Lib.hid R1
  have HR2 := Lib.hid R2
  clear hown1 hown2 hb1 hb2 R1 R2
  go_wp2_with fail
  refine (runes_is _ _ _ _ _ _ _ HR1.out HR2.out).mono ?_
  rintro e w3 ⟨rfl, hb3⟩
  have HB3 := Lib.hid (HB2.out.trans (hb3.mono HB2.out.size))
  clear hb3
  go_wp2_with fail
  refine (awake_any _ (HG.out.below HG.out.lt HB3.out)).mono ?_
  rintro e w4 ⟨rfl, hb4⟩
  go_wp2_with fail
  go_ret
  exact ⟨rfl, HB3.out.trans (hb4.mono HB3.out.size)⟩
end Go.Proofs.YthceooehndiglaaDoor.U
