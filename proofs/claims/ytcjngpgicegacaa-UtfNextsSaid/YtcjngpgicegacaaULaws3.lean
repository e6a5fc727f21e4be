/-
  The walk of UtfNexts.
-/
import Derived.Test.YtcjngpgicegacaaURefC
import Derived.Test.YtcjngpgicegacaaULaws1
namespace Go.Proofs.Ytcjngpgicegacaa.U
open Go.RowKit
set_option linter.unusedVariables false
set_option linter.unusedSimpArgs false

theorem utfNexts_walk (a : Option Addr) (len cap : Nat) (xs : List Int) (w : World) (h : Rd .u8 w a len cap xs) :
    Calls Try.prog 5 #[.slice a len cap] w fun e w' => e = .returned (.bool true) ∧ Below w.heap.size w w' := by
  obtain ⟨⟨R, N, M⟩, hq⟩ : ∃ q, nextV xs = q := ⟨_, rfl⟩
  have HQ := Lib.hid hq; clear hq
  have HR := Lib.hid h; clear h
  have e1 : (R == R) = true := by simp
  have e2 : (N == N) = true := by simp
  have e3 : (M == M) = true := by simp
  go_enter Try.func5, Try.ntmps5
  go_wp2_with (first
    | (go_at_call 20; refine (next_any a len cap xs R N M _ HR.out HQ).mono ?_; rintro e w1 ⟨rfl, hb1⟩; have B1 := Lib.hid hb1; clear hb1)
    | (go_at_call 21; refine (refNext_any a len cap xs R N M _ (HR.out.below B1.out) HQ).mono ?_; rintro e w2 ⟨rfl, hb2⟩; have B2 := Lib.hid (B1.out.trans (hb2.mono (B' := w.heap.size) B1.out.size)); clear hb2)
    | (go_at_call 13; refine (awake_any _).mono ?_; rintro e w3 ⟨rfl, hb3⟩; have B3 := Lib.hid (B2.out.trans (hb3.mono (B' := w.heap.size) B2.out.size)); clear hb3))
  go_ret
  exact ⟨rfl, B3.out⟩
end Go.Proofs.Ytcjngpgicegacaa.U
