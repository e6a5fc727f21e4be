/-
  The walks of layer 10's laws over the program's Move (OMove: wmove_any : MoveC, the program's contract).
-/
import Derived.Test.YtikdojebnbmpoaaOMove
import Derived.Test.YtikdojebnbmpoaaOLaws1
import Derived.Test.YtikdojebnbmpoaaOLaws2
import Derived.Test.YtikdojebnbmpoaaOLaws3
import Derived.Test.YtikdojebnbmpoaaOLaws4
namespace Go.Proofs.Ytikdojebnbmpoaa.U
open Go.RowKit
theorem motionBrackets_wide (a : Option Addr) (n c : Nat) (L : List (List Int)) (q : Po) (W : World) (h : RdL (fun k => k < W.heap.size) W a n c L) (hq : i64p q) (hw : WideL L) :
    Calls Try.prog 5 #[.slice a n c, q.v] W fun e w' => e = .returned (.bool true) ∧ Below W.heap.size W w' := motionBrackets_wideM wmove_any a n c L q W h hq hw
theorem motionCounts_wide (a : Option Addr) (n c : Nat) (L : List (List Int)) (q : Po) (x y : Int) (W : World) (h : RdL (fun k => k < W.heap.size) W a n c L) (hq : i64p q) (hx : (Lit.int .i64 x).wf = true) (hy : (Lit.int .i64 y).wf = true) (hw : WideL L) :
    Calls Try.prog 4 #[.slice a n c, q.v, .agg #[.int .i64 x, .int .i64 y]] W fun e w' => e = .returned (.bool true) ∧ Below W.heap.size W w' := motionCounts_wideM wmove_any a n c L q x y W h hq hx hy hw
theorem motionThere_wide (a : Option Addr) (n c : Nat) (L : List (List Int)) (q : Po) (m : Mo) (W : World) (h : RdL (fun k => k < W.heap.size) W a n c L) (hq : i64p q) (hm : i64m m) (hw : WideL L) :
    Calls Try.prog 3 #[.slice a n c, q.v, m.v] W fun e w' => e = .returned (.bool true) ∧ Below W.heap.size W w' := motionThere_wideM wmove_any a n c L q m W h hq hm hw
theorem motionFinds_wide (a : Option Addr) (n c : Nat) (L : List (List Int)) (q : Po) (m : Mo) (W : World) (h : RdL (fun k => k < W.heap.size) W a n c L) (hq : i64p q) (hm : i64m m) (hw : WideL L) :
    Calls Try.prog 6 #[.slice a n c, q.v, m.v] W fun e w' => e = .returned (.bool true) ∧ Below W.heap.size W w' := motionFinds_wideM wmove_any a n c L q m W h hq hm hw
end Go.Proofs.Ytikdojebnbmpoaa.U
