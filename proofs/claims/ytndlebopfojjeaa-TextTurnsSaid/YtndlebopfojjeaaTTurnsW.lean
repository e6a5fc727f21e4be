/-
  The walk of TextTurns, of lines within the reach.
-/
import Derived.Test.YtndlebopfojjeaaTTurns
import Derived.Test.YtndlebopfojjeaaTWide
namespace Go.Proofs.Ytndlebopfojjeaa.U
open Go.RowKit
set_option linter.unusedVariables false
set_option linter.unusedSimpArgs false
set_option maxRecDepth 100000

set_option maxHeartbeats 4000000 in
theorem textTurns_wide (a : Option Addr) (n c : Nat) (L : List (List Int)) (w : World) (h : RdL (fun k => k < w.heap.size) w a n c L) (hw : WideL L) :
    Calls Try.prog 5 #[.slice a n c] w fun e w' => e = .returned (.bool true) ∧ Below w.heap.size w w' := by
  cases hsm : smallL L with
  | true => exact textTurns_walk a n c L w h (by have := smallL_wide hsm; omega)
  | false =>
    have HSM := Lib.hid (small_wide _ a n c L w h hw)
    rw [hsm] at HSM
    clear h
    go_enter Try.func5, Try.ntmps5
    go_wp2_with (go_at_call 10; refine HSM.out.mono ?_; rintro e w' ⟨rfl, rfl⟩)
    go_ret
    exact ⟨rfl, Below.refl _ _⟩
end Go.Proofs.Ytndlebopfojjeaa.U
