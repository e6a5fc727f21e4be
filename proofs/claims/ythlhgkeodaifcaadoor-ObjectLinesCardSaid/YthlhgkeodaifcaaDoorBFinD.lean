/-
  The walk of ObjectLines, with the program's Find.
-/
import Derived.Test.YthlhgkeodaifcaaDoorBPrg
import Derived.Test.YthlhgkeodaifcaaDoorBLines
namespace Go.Proofs.YthlhgkeodaifcaaDoor.U
open Go.RowKit

theorem objectLines_wide (a : Option Addr) (n c : Nat) (L : List (List Int)) (q : Po) (W : World) (h : RdL (fun k => k < W.heap.size) W a n c L) (hq : i64p q) (hw : WideL L) (hg : Gl W) :
    Calls Tryd.prog 7 #[.slice a n c, q.v] W fun e w' => e = .returned (.bool true) ∧ Below W.heap.size W w' :=
  objectLines_wideM ofind_any a n c L q W h hq hw hg
end Go.Proofs.YthlhgkeodaifcaaDoor.U
