/-
  The walk of TextLines, of lines within the reach.
-/
import Derived.Test.YtndlebopfojjeaaTLines
import Derived.Test.YtndlebopfojjeaaTWide
namespace Go.Proofs.Ytndlebopfojjeaa.U
open Go.RowKit
set_option linter.unusedVariables false
set_option linter.unusedSimpArgs false
set_option maxRecDepth 100000

set_option maxHeartbeats 4000000 in
theorem textLines_wide (a : Option Addr) (len cap : Nat) (L : List (List Int)) (p q : Int) (n : Int) (w : World) (h : RdL (fun k => k < w.heap.size) w a len cap L) (hp : (Lit.int .i64 p).wf = true) (hq : (Lit.int .i64 q).wf = true) (hn : (Lit.int .i64 n).wf = true) (hw : WideL L) :
    Calls Try.prog 4 #[.slice a len cap, .agg #[.int .i64 p, .int .i64 q], .int .i64 n] w fun e w' => e = .returned (.bool true) ∧ Below w.heap.size w w' := by
  by_cases hss : smallL L = true
  · exact textLines_walk a len cap L p q n w h hp hq hn (by have := smallL_wide hss; omega)
  obtain ⟨B, hB⟩ : ∃ B, w.heap.size = B := ⟨_, rfl⟩
  obtain ⟨w1, hw1⟩ : ∃ w1, w.alloc (.cells #[.int .i64 p, .int .i64 q] 38) = w1 := ⟨_, rfl⟩
  have b01 : Below w.heap.size w w1 := by rw [← hw1]; exact (Below.refl _ _).alloc (Nat.le_refl _) _
  have g1 : w1.heap[B]? = some (.cells #[.int .i64 p, .int .i64 q] 38 (0, 0)) := by rw [← hw1, ← hB]; exact heap_alloc_new w _
  have hs1 : w1.heap.size = B + 1 := by rw [← hw1, ← hB]; simp
  have HL := Lib.hid (h.below b01)
  have HSM := Lib.hid (small_wide _ a len cap L w1 HL.out hw)
  have HW := Lib.hid hw1
  have HBE := Lib.hid hB
  have HB1 : Hid (Below B w w1 ∧ B ≤ w1.heap.size) := ⟨by rw [← hB]; exact b01, by omega⟩
  have HS1 := Lib.hid hs1
  have HG1 := Lib.hid g1
  have HP : Hid (i64b p ∧ i64b q ∧ i64b n) := ⟨wf_i64_in hp, wf_i64_in hq, wf_i64_in hn⟩
  clear h b01 g1 hs1 hw1 hp hq hn hw
  rw [hB]
  clear hB
  cases hsm : smallL L with
  | false =>
    rw [hsm] at HSM
    go_enter Try.func4, Try.ntmps4
    go_upto_region 1 with fail
    rw [HBE.out, HW.out]
    go_wp2_with (go_at_call 10; refine HSM.out.mono ?_; rintro e w' ⟨rfl, rfl⟩)
    go_ret
    exact ⟨rfl, HB1.out.1⟩
  | true => exact absurd hsm hss
end Go.Proofs.Ytndlebopfojjeaa.U
