/-
  The walk of PatChoices, its arguments in the frame's order.
-/
import Derived.Test.YtkjiobbkbhmijaaRChoices
namespace Go.Proofs.Ytkjiobbkbhmijaa.U
open Go.RowKit
theorem patChoices_walk (a1 : Option Addr) (n1 c1 : Nat) (la : List Int) (a2 : Option Addr) (n2 c2 : Nat) (lb : List Int) (w : World) (h1 : Rd .i32 w a1 n1 c1 la) (h2 : Rd .i32 w a2 n2 c2 lb) :
    Calls Try.prog 5 #[.slice a1 n1 c1, .slice a2 n2 c2] w fun e w' => e = .returned (.bool true) ∧ Below w.heap.size w w' := patChoices_walk0 a1 a2 n1 n2 c1 c2 la lb w h1 h2
end Go.Proofs.Ytkjiobbkbhmijaa.U
