/-
  Contracts of the small functions of package utf: whether a rune is a scalar, its length, its last six bits, the lead of a byte.
-/
import Derived.Test.YtcjngpgicegacaaRows
import Derived.Test.YtcjngpgicegacaaUPure
import Derived.Test.YtcjngpgicegacaaUBase
namespace Go.Proofs.Ytcjngpgicegacaa.U
open Go.RowKit
set_option linter.unusedVariables false
set_option linter.unusedSimpArgs false


theorem lead_any (c : Int) (w : World) (h0 : 0 ≤ c) (h1 : c ≤ 255) :
    Calls Try.prog 29 #[.int .u8 c] w fun e w' => e = .returned (.tuple #[.int .i64 (leadN c), .int .u8 (leadL c), .int .u8 (leadM c)]) ∧ w = w' := by
  go_enter Try.func29, Try.ntmps29
  go_wp2
  all_goals try simp only [beq_iff_eq, beq_eq_false_iff_ne, ne_eq] at *
  all_goals go_ret3
  all_goals exact ⟨ret_tup3 (by unfold leadN; repeat' split <;> omega) (by unfold leadL; repeat' split <;> omega) (by unfold leadM; repeat' split <;> omega), rfl⟩

theorem valid_any (r : Int) (w : World) :
    Calls Try.prog 14 #[.int .i32 r] w fun e w' => e = .returned (.bool (validB r)) ∧ w = w' := by
  go_enter Try.func14, Try.ntmps14
  go_wp2
  all_goals go_ret
  all_goals exact ⟨ret_bool (by unfold validB; rw [Bool.eq_iff_iff]; simp; omega), rfl⟩

theorem scalar_any (r : Int) (w : World) :
    Calls Try.prog 27 #[.int .i32 r] w fun e w' => e = .returned (.int .i32 (scal r)) ∧ w = w' := by
  have hv : scal r = if (0 ≤ r ∧ r < 55296) ∨ (57343 < r ∧ r ≤ 1114111) then r else 65533 := by
    unfold scal validB; simp only [decide_eq_true_eq]
  rw [hv]; clear hv
  go_enter Try.func27, Try.ntmps27
  go_wp2
  all_goals go_ret
  all_goals exact ⟨ret_int (by first | rfl | (split <;> omega)), rfl⟩

theorem lowerSix_any (r : Int) (w : World) (h0 : 0 ≤ r) :
    Calls Try.prog 35 #[.int .i32 r] w fun e w' => e = .returned (.int .u8 (128 + r % 64)) ∧ w = w' := by
  go_enter Try.func35, Try.ntmps35
  go_wp2
  go_ret
  exact ⟨rfl, rfl⟩

theorem len_any (r : Int) (w : World) :
    Calls Try.prog 16 #[.int .i32 r] w fun e w' => e = .returned (.int .i64 (lenV r)) ∧ w = w' := by
  go_enter Try.func16, Try.ntmps16
  go_wp2_with (go_at_call 27; refine (scalar_any _ _).mono ?_; rintro e w' ⟨rfl, rfl⟩)
  all_goals go_ret
  all_goals exact ⟨ret_int (by unfold lenV; repeat' split <;> omega), rfl⟩
end Go.Proofs.Ytcjngpgicegacaa.U
