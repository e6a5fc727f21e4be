/-
  The walk of ObjectBrackets, with the program's Find.
-/
import Derived.Test.YthlhgkeodaifcaaDoorBPrg
import Derived.Test.YthlhgkeodaifcaaDoorBBks
namespace Go.Proofs.YthlhgkeodaifcaaDoor.U
open Go.RowKit

theorem objectBrackets_wide (a : Option Addr) (n c : Nat) (L : List (List Int)) (q : Po) (key : Int) (W : World) (h : RdL (fun k => k < W.heap.size) W a n c L) (hq : i64p q) (hk : (Lit.int .i32 key).wf = true) (hw : WideL L) (hg : Gl W) :
    Calls Tryd.prog 6 #[.slice a n c, q.v, .int .i32 key] W fun e w' => e = .returned (.bool true) ∧ Below W.heap.size W w' :=
  objectBrackets_wideM ofind_any a n c L q key W h hq (wf_i32_in hk) hw hg
end Go.Proofs.YthlhgkeodaifcaaDoor.U
