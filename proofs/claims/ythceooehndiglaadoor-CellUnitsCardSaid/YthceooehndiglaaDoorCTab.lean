/-
  A tab's width that may be; the contract of the document's Tab.
-/
import Derived.Test.YthceooehndiglaaDoorCLeaf
namespace Go.Proofs.YthceooehndiglaaDoor.U
open Go.RowKit
set_option linter.unusedVariables false
set_option linter.unusedSimpArgs false

/-- a tab's width that may be -/
def tabM (t : Int) : Nat := if t < 1 ∨ 64 < t then 8 else t.toNat
theorem tabM_in (t : Int) : 1 ≤ tabM t ∧ tabM t ≤ 64 := by unfold tabM; split <;> omega
theorem tab_any (t : Int) (w : World) :
    Calls Tryd.prog 33 #[.int .i64 t] w fun e w' => e = .returned (.int .i64 (tabM t)) ∧ w = w' := by
  have hm : (tabM t : Int) = if t < 1 ∨ 64 < t then 8 else t := by unfold tabM; split <;> omega
  rw [hm]; clear hm
  go_enter Tryd.func33, Tryd.ntmps33
  go_wp2
  all_goals go_ret
  all_goals exact ⟨ret_int (by first | rfl | (split <;> omega)), rfl⟩
end Go.Proofs.YthceooehndiglaaDoor.U
