/-
  The walk of ObjectWords, with the program's Find.
-/
import Derived.Test.YthlhgkeodaifcaaDoorBPrg
import Derived.Test.YthlhgkeodaifcaaDoorBWord
namespace Go.Proofs.YthlhgkeodaifcaaDoor.U
open Go.RowKit

theorem objectWords_wide (a : Option Addr) (n c : Nat) (L : List (List Int)) (q : Po) (big : Bool) (W : World) (h : RdL (fun k => k < W.heap.size) W a n c L) (hq : i64p q) (hw : WideL L) (hg : Gl W) :
    Calls Tryd.prog 5 #[.slice a n c, q.v, .bool big] W fun e w' => e = .returned (.bool true) ∧ Below W.heap.size W w' :=
  objectWords_wideM ofind_any a n c L q big W h hq hw hg
end Go.Proofs.YthlhgkeodaifcaaDoor.U
