/-
  The document's Brackets. (MADE by wip/tools/gen_brk.py.)
-/
import Derived.Test.YthlhgkeodaifcaaDoorBAwake
namespace Go.Proofs.YthlhgkeodaifcaaDoor.U
open Go.RowKit
set_option linter.unusedVariables false
set_option linter.unusedSimpArgs false
set_option maxRecDepth 100000
def brV (key : Int) : Value := match brk key with
  | none => .tuple #[.int .i32 0, .int .i32 0]
  | some (o, c) => .tuple #[.int .i32 o, .int .i32 c]
theorem rbrk_any (key : Int) (w : World) : Calls Tryd.prog 15 #[.int .i32 key] w fun e w' => e = .returned (brV key) ∧ w = w' := by
  by_cases h40 : key = 40
  · have hr : brV key = .tuple #[.int .i32 40, .int .i32 41] := by rw [h40]; rfl
    rw [hr]
    have e40 : (key == 40) = true := by simp [h40]
    clear hr h40
    go_enter Tryd.func15, Tryd.ntmps15
    go_wp2_with fail
    go_ret2
    exact ⟨rfl, rfl⟩
  by_cases h41 : key = 41
  · have hr : brV key = .tuple #[.int .i32 40, .int .i32 41] := by rw [h41]; rfl
    rw [hr]
    have e40 : (key == 40) = false := by simp [h40]
    have e41 : (key == 41) = true := by simp [h41]
    clear hr h41
    go_enter Tryd.func15, Tryd.ntmps15
    go_wp2_with fail
    go_ret2
    exact ⟨rfl, rfl⟩
  by_cases h98 : key = 98
  · have hr : brV key = .tuple #[.int .i32 40, .int .i32 41] := by rw [h98]; rfl
    rw [hr]
    have e40 : (key == 40) = false := by simp [h40]
    have e41 : (key == 41) = false := by simp [h41]
    have e98 : (key == 98) = true := by simp [h98]
    clear hr h98
    go_enter Tryd.func15, Tryd.ntmps15
    go_wp2_with fail
    go_ret2
    exact ⟨rfl, rfl⟩
  by_cases h91 : key = 91
  · have hr : brV key = .tuple #[.int .i32 91, .int .i32 93] := by rw [h91]; rfl
    rw [hr]
    have e40 : (key == 40) = false := by simp [h40]
    have e41 : (key == 41) = false := by simp [h41]
    have e98 : (key == 98) = false := by simp [h98]
    have e91 : (key == 91) = true := by simp [h91]
    clear hr h91
    go_enter Tryd.func15, Tryd.ntmps15
    go_wp2_with fail
    go_ret2
    exact ⟨rfl, rfl⟩
  by_cases h93 : key = 93
  · have hr : brV key = .tuple #[.int .i32 91, .int .i32 93] := by rw [h93]; rfl
    rw [hr]
    have e40 : (key == 40) = false := by simp [h40]
    have e41 : (key == 41) = false := by simp [h41]
    have e98 : (key == 98) = false := by simp [h98]
    have e91 : (key == 91) = false := by simp [h91]
    have e93 : (key == 93) = true := by simp [h93]
    clear hr h93
    go_enter Tryd.func15, Tryd.ntmps15
    go_wp2_with fail
    go_ret2
    exact ⟨rfl, rfl⟩
  by_cases h123 : key = 123
  · have hr : brV key = .tuple #[.int .i32 123, .int .i32 125] := by rw [h123]; rfl
    rw [hr]
    have e40 : (key == 40) = false := by simp [h40]
    have e41 : (key == 41) = false := by simp [h41]
    have e98 : (key == 98) = false := by simp [h98]
    have e91 : (key == 91) = false := by simp [h91]
    have e93 : (key == 93) = false := by simp [h93]
    have e123 : (key == 123) = true := by simp [h123]
    clear hr h123
    go_enter Tryd.func15, Tryd.ntmps15
    go_wp2_with fail
    go_ret2
    exact ⟨rfl, rfl⟩
  by_cases h125 : key = 125
  · have hr : brV key = .tuple #[.int .i32 123, .int .i32 125] := by rw [h125]; rfl
    rw [hr]
    have e40 : (key == 40) = false := by simp [h40]
    have e41 : (key == 41) = false := by simp [h41]
    have e98 : (key == 98) = false := by simp [h98]
    have e91 : (key == 91) = false := by simp [h91]
    have e93 : (key == 93) = false := by simp [h93]
    have e123 : (key == 123) = false := by simp [h123]
    have e125 : (key == 125) = true := by simp [h125]
    clear hr h125
    go_enter Tryd.func15, Tryd.ntmps15
    go_wp2_with fail
    go_ret2
    exact ⟨rfl, rfl⟩
  by_cases h66 : key = 66
  · have hr : brV key = .tuple #[.int .i32 123, .int .i32 125] := by rw [h66]; rfl
    rw [hr]
    have e40 : (key == 40) = false := by simp [h40]
    have e41 : (key == 41) = false := by simp [h41]
    have e98 : (key == 98) = false := by simp [h98]
    have e91 : (key == 91) = false := by simp [h91]
    have e93 : (key == 93) = false := by simp [h93]
    have e123 : (key == 123) = false := by simp [h123]
    have e125 : (key == 125) = false := by simp [h125]
    have e66 : (key == 66) = true := by simp [h66]
    clear hr h66
    go_enter Tryd.func15, Tryd.ntmps15
    go_wp2_with fail
    go_ret2
    exact ⟨rfl, rfl⟩
  by_cases h60 : key = 60
  · have hr : brV key = .tuple #[.int .i32 60, .int .i32 62] := by rw [h60]; rfl
    rw [hr]
    have e40 : (key == 40) = false := by simp [h40]
    have e41 : (key == 41) = false := by simp [h41]
    have e98 : (key == 98) = false := by simp [h98]
    have e91 : (key == 91) = false := by simp [h91]
    have e93 : (key == 93) = false := by simp [h93]
    have e123 : (key == 123) = false := by simp [h123]
    have e125 : (key == 125) = false := by simp [h125]
    have e66 : (key == 66) = false := by simp [h66]
    have e60 : (key == 60) = true := by simp [h60]
    clear hr h60
    go_enter Tryd.func15, Tryd.ntmps15
    go_wp2_with fail
    go_ret2
    exact ⟨rfl, rfl⟩
  by_cases h62 : key = 62
  · have hr : brV key = .tuple #[.int .i32 60, .int .i32 62] := by rw [h62]; rfl
    rw [hr]
    have e40 : (key == 40) = false := by simp [h40]
    have e41 : (key == 41) = false := by simp [h41]
    have e98 : (key == 98) = false := by simp [h98]
    have e91 : (key == 91) = false := by simp [h91]
    have e93 : (key == 93) = false := by simp [h93]
    have e123 : (key == 123) = false := by simp [h123]
    have e125 : (key == 125) = false := by simp [h125]
    have e66 : (key == 66) = false := by simp [h66]
    have e60 : (key == 60) = false := by simp [h60]
    have e62 : (key == 62) = true := by simp [h62]
    clear hr h62
    go_enter Tryd.func15, Tryd.ntmps15
    go_wp2_with fail
    go_ret2
    exact ⟨rfl, rfl⟩
  have hr : brV key = .tuple #[.int .i32 0, .int .i32 0] := by
    have : brk key = none := by
      unfold brk
      rw [if_neg (by omega), if_neg (by omega), if_neg (by omega), if_neg (by omega)]
    unfold brV; rw [this]
  rw [hr]
  have e40 : (key == 40) = false := by simp [h40]
  have e41 : (key == 41) = false := by simp [h41]
  have e98 : (key == 98) = false := by simp [h98]
  have e91 : (key == 91) = false := by simp [h91]
  have e93 : (key == 93) = false := by simp [h93]
  have e123 : (key == 123) = false := by simp [h123]
  have e125 : (key == 125) = false := by simp [h125]
  have e66 : (key == 66) = false := by simp [h66]
  have e60 : (key == 60) = false := by simp [h60]
  have e62 : (key == 62) = false := by simp [h62]
  clear hr
  go_enter Tryd.func15, Tryd.ntmps15
  go_wp2_with fail
  go_ret2
  exact ⟨rfl, rfl⟩
end Go.Proofs.YthlhgkeodaifcaaDoor.U
