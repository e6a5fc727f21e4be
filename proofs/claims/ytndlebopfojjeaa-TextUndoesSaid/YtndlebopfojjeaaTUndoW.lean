/-
  The walk of TextUndoes, of lines within the reach.
-/
import Derived.Test.YtndlebopfojjeaaTUndo
import Derived.Test.YtndlebopfojjeaaTWide
namespace Go.Proofs.Ytndlebopfojjeaa.U
open Go.RowKit
set_option linter.unusedVariables false
set_option linter.unusedSimpArgs false
set_option maxRecDepth 100000

set_option maxHeartbeats 4000000 in
theorem textUndoes_wide (a : Option Addr) (len cap : Nat) (L : List (List Int)) (n : Int) (ma : Option Addr) (mn mc : Nat) (more : List Int) (w : World) (h : RdL (fun k => k < w.heap.size) w a len cap L) (hn : (Lit.int .i64 n).wf = true) (hm : Rd .i32 w ma mn mc more) (hw : WideL L) :
    Calls Try.prog 6 #[.slice a len cap, .int .i64 n, .slice ma mn mc] w fun e w' => e = .returned (.bool true) ∧ Below w.heap.size w w' := by
  have HSM := Lib.hid (small_wide _ a len cap L w h hw)
  have hms := hm.small
  cases hsm : smallL L with
  | false =>
    rw [hsm] at HSM
    clear h hm
    go_enter Try.func6, Try.ntmps6
    go_wp2_with (go_at_call 10; refine HSM.out.mono ?_; rintro e w' ⟨rfl, rfl⟩)
    go_ret
    exact ⟨rfl, Below.refl _ _⟩
  | true =>
    by_cases hmn : mn ≤ 1048576
    · exact textUndoes_walk a len cap L n ma mn mc more w h hn hm (by have := smallL_wide hsm; omega) hmn
    rw [hsm] at HSM
    have t1 : (1000 : Int) < (mn : Int) := by omega
    clear h hm
    go_enter Try.func6, Try.ntmps6
    go_wp2_with (go_at_call 10; refine HSM.out.mono ?_; rintro e w' ⟨rfl, rfl⟩)
    go_ret
    exact ⟨rfl, Below.refl _ _⟩
end Go.Proofs.Ytndlebopfojjeaa.U
