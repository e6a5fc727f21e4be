/-
  The walk of TextSwaps, of lines within the reach.
-/
import Derived.Test.YtndlebopfojjeaaTSwaps
import Derived.Test.YtndlebopfojjeaaTWide
namespace Go.Proofs.Ytndlebopfojjeaa.U
open Go.RowKit
set_option linter.unusedVariables false
set_option linter.unusedSimpArgs false
set_option maxRecDepth 100000

set_option maxHeartbeats 4000000 in
theorem textSwaps_wide (a : Option Addr) (len cap : Nat) (L : List (List Int)) (p q : Int) (ma : Option Addr) (mn mc : Nat) (more : List (List Int)) (w : World) (h : RdL (fun k => k < w.heap.size) w a len cap L) (hp : (Lit.int .i64 p).wf = true) (hq : (Lit.int .i64 q).wf = true) (hm : RdL (fun k => k < w.heap.size) w ma mn mc more) (hw : WideL L) (hw2 : WideL more) :
    Calls Try.prog 7 #[.slice a len cap, .agg #[.int .i64 p, .int .i64 q], .slice ma mn mc] w fun e w' => e = .returned (.bool true) ∧ Below w.heap.size w w' := by
  by_cases hss : smallL L = true ∧ smallL more = true
  · exact textSwaps_walk a len cap L p q ma mn mc more w h hp hq hm (by have := smallL_wide hss.1; omega) (by have := smallL_wide hss.2; omega)
  obtain ⟨B, hB⟩ : ∃ B, w.heap.size = B := ⟨_, rfl⟩
  obtain ⟨w1, hw1⟩ : ∃ w1, w.alloc (.cells #[.int .i64 p, .int .i64 q] 38) = w1 := ⟨_, rfl⟩
  have b01 : Below w.heap.size w w1 := by rw [← hw1]; exact (Below.refl _ _).alloc (Nat.le_refl _) _
  have g1 : w1.heap[B]? = some (.cells #[.int .i64 p, .int .i64 q] 38 (0, 0)) := by rw [← hw1, ← hB]; exact heap_alloc_new w _
  have hs1 : w1.heap.size = B + 1 := by rw [← hw1, ← hB]; simp
  have HL := Lib.hid (h.below b01)
  have HMo := Lib.hid (hm.below b01)
  have HSM := Lib.hid (small_wide _ a len cap L w1 HL.out hw)
  have HSM2 := Lib.hid (small_wide _ ma mn mc more w1 HMo.out hw2)
  have hml := hm.len
  have HW := Lib.hid hw1
  have HBE := Lib.hid hB
  have HB1 : Hid (Below B w w1 ∧ B ≤ w1.heap.size) := ⟨by rw [← hB]; exact b01, by omega⟩
  have HS1 := Lib.hid hs1
  have HG1 := Lib.hid g1
  obtain ⟨p1, p2⟩ := wf_i64_in hp
  obtain ⟨q1, q2⟩ := wf_i64_in hq
  rw [hB] at HL HMo
  clear h hm b01 g1 hs1 hw1 hp hq
  rw [hB]
  clear hB
  cases hsm : smallL L with
  | false =>
    rw [hsm] at HSM
    go_enter Try.func7, Try.ntmps7
    go_upto_region 1 with fail
    rw [HBE.out, HW.out]
    go_wp2_with (first
      | (go_at_call 10; refine HSM.out.mono ?_; rintro e w' ⟨rfl, rfl⟩)
      | (go_at_call 14; refine (awake_any w1).mono ?_; rintro e w' ⟨rfl, hb⟩))
    go_ret
    exact ⟨rfl, HB1.out.1.trans (hb.mono HB1.out.2)⟩
  | true =>
    rw [hsm] at HSM
    cases hsm2 : smallL more with
    | false =>
      rw [hsm2] at HSM2
      go_enter Try.func7, Try.ntmps7
      go_upto_region 1 with fail
      rw [HBE.out, HW.out]
      go_wp2_with fail
      refine HSM.out.mono ?_
      rintro e w' ⟨rfl, rfl⟩
      go_wp2_with (first
        | (go_at_call 10; refine HSM2.out.mono ?_; rintro e w' ⟨rfl, rfl⟩)
        | (go_at_call 14; refine (awake_any w1).mono ?_; rintro e w' ⟨rfl, hb⟩))
      go_ret
      exact ⟨rfl, HB1.out.1.trans (hb.mono HB1.out.2)⟩
    | true => exact absurd ⟨hsm, hsm2⟩ hss
end Go.Proofs.Ytndlebopfojjeaa.U
