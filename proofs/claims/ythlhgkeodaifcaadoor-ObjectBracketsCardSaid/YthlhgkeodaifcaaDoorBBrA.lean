/-
  The document's brackets.
-/
import Derived.Test.YthlhgkeodaifcaaDoorBBrI
namespace Go.Proofs.YthlhgkeodaifcaaDoor.U
open Go.RowKit
set_option linter.unusedVariables false
set_option linter.unusedSimpArgs false

theorem rbrackets_any (F : Nat → Prop) (a : Option Addr) (n c : Nat) (L : List (List Int)) (p1 p2 : Nat) (o1 o2 : Int) (around : Bool) (w : World) (h : RdL F w a n c L) (hoo : o1 ≠ o2) (hz : sizeN (lens L) ≤ 262144) :
    Calls Tryd.prog 23 #[.slice a n c, .agg #[.int .i64 (p1 : Nat), .int .i64 (p2 : Nat)], .int .i32 o1, .int .i32 o2, .bool around] w fun e w' => e = .returned (brsV (bracketsP L (p1, p2) o1 o2 around)) ∧ Below w.heap.size w w' := by
  cases around with
  | true => exact rbrackets_early F a n c L p1 p2 o1 o2 true w h hoo hz (.inr rfl)
  | false =>
    cases hr : pairP L (p1, p2) o1 o2 with
    | none => exact rbrackets_early F a n c L p1 p2 o1 o2 false w h hoo hz (.inl (by rw [hr]; rfl))
    | some r =>
      obtain ⟨⟨a1, a2⟩, ⟨b1, b2⟩⟩ := r
      exact rbrackets_inner F a n c L p1 p2 o1 o2 w h hoo hz a1 a2 b1 b2 hr
end Go.Proofs.YthlhgkeodaifcaaDoor.U
