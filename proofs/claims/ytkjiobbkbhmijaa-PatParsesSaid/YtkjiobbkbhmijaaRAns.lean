/-
  What the program's reading functions leave; a part without parts.
-/
import Derived.Test.YtkjiobbkbhmijaaRParts
import Derived.Test.YtkjiobbkbhmijaaRStar
namespace Go.Proofs.Ytkjiobbkbhmijaa.U
open Go.RowKit
set_option linter.unusedVariables false
set_option linter.unusedSimpArgs false
set_option maxRecDepth 100000

/-- a part that was read, or an error -/
def PaAns (w : World) (br : Nat) (p : List Int) (o : Nat) (r : Rs (Re × List Int × Nat)) (e : Ending) (w' : World) : Prop :=
  match r with
  | .error c => e = errV c ∧ Fr (· = br) w w'
  | .ok (y, l', n') => ∃ v, e = .returned (ptV v y) ∧ PtAt (New w w') w' v y ∧ RdS w' br p l' n' o ∧ Fr (· = br) w w'
theorem PaAns.ok {w w' : World} {br : Nat} {p l' : List Int} {n' o : Nat} {y : Re} {e : Ending} {v : List Value} (h : e = .returned (ptV v y)) (k : PtAt (New w w') w' v y ∧ RdS w' br p l' n' o ∧ Fr (· = br) w w') : PaAns w br p o (.ok (y, l', n')) e w' := ⟨v, h, k.1, k.2.1, k.2.2⟩
/-- a part without parts: whatever the world -/
theorem PtAt.leaf (F : Nat → Prop) (w : World) (k r : Int) (hk : k ≠ 10) : PtAt F w [.int .i64 k, .int .i32 r, .slice none 0 0, .bool false, .int .i64 0, .int .i64 0, .slice none 0 0] (.mk k r [] false 0 0 []) :=
  ⟨fun _ => ReAt.simple F w k r false, fun h => by rw [sz_simple k r [] false 0 0 hk] at h; omega⟩
theorem ptV_leaf (k r : Int) (hk : k ≠ 10) : ptV [.int .i64 k, .int .i32 r, .slice none 0 0, .bool false, .int .i64 0, .int .i64 0, .slice none 0 0] (.mk k r [] false 0 0 []) = .agg #[.int .i64 k, .int .i32 r, .slice none 0 0, .bool false, .int .i64 0, .int .i64 0, .slice none 0 0, .int .i64 1] := by
  unfold ptV
  rw [sz_simple k r [] false 0 0 hk]
  rfl
/-- the result's block, laid first -/
def zero8 : Array Value := #[.int .i64 0, .int .i32 0, .slice none 0 0, .bool false, .int .i64 0, .int .i64 0, .slice none 0 0, .int .i64 0]
/-- an answer in the result's block R: what was told of it behind a call stays -/
theorem PaAns.put {w w2 W : World} {br : Nat} {p l' : List Int} {n' o : Nat} {y : Re} {v : List Value} (hR : w.heap.size < w2.heap.size) (hb : Fr (fun k => k = br ∨ w.heap.size ≤ k) w w2) (hp : PtAt (fun k => w.heap.size < k ∧ k < w2.heap.size) w2 v y) (hr : RdS w2 br p l' n' o) (hbr : br < w.heap.size) (hf : Fr (fun j => j = w.heap.size) w2 W) :
    PtAt (New w W) W v y ∧ RdS W br p l' n' o ∧ Fr (· = br) w W := by
  have hs := hf.size
  refine ⟨(hp.frF hf (fun k hk e => by omega)).mono (fun k hk => ⟨by omega, by omega⟩), hr.fr hf (fun k e => by omega), ?_⟩
  have h6 : Fr (fun k => k = br ∨ w.heap.size ≤ k) w W := hb.trans hf (fun k _ e => Or.inr (by omega))
  exact ⟨h6.os, h6.tape, h6.output, h6.size, fun k hk hne => h6.block k hk (fun e => e.elim hne (fun e => by omega))⟩
theorem fr_up {w W : World} {br : Nat} (h6 : Fr (fun k => k = br ∨ w.heap.size ≤ k) w W) : Fr (· = br) w W :=
  ⟨h6.os, h6.tape, h6.output, h6.size, fun k hk hne => h6.block k hk (fun e => e.elim hne (fun e => by omega))⟩
end Go.Proofs.Ytkjiobbkbhmijaa.U
