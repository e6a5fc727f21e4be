/-
  A place's box.
-/
import Derived.Test.YthlhgkeodaifcaaDoorBBase
namespace Go.Proofs.YthlhgkeodaifcaaDoor.U
open Go.RowKit
set_option linter.unusedVariables false
set_option linter.unusedSimpArgs false
/-- a place's box -/
def At (W : World) (B : Nat) (p : Pl) : Prop := W.heap[B]? = some (.cells #[.int .i64 (p.1 : Nat), .int .i64 (p.2 : Nat)] 24 (0, 0))
theorem At.lt {W B p} (h : At W B p) : B < W.heap.size := (Array.getElem?_eq_some_iff.1 h).1
theorem At.keep {W W' : World} {B : Nat} {p : Pl} (h : At W B p) (hb : W'.heap[B]? = W.heap[B]?) : At W' B p := hb.trans h
end Go.Proofs.YthlhgkeodaifcaaDoor.U
