/-
  Steps by words, paragraphs, sentences: far, words, w, b, e, }, {, ), (. (MADE by wip/tools/gen_words.py.)
-/
import Derived.Test.YtikdojebnbmpoaaOSteps
import Derived.Test.YtikdojebnbmpoaaOLeadB
import Derived.Test.YtikdojebnbmpoaaNProg
namespace Go.Proofs.Ytikdojebnbmpoaa.U
open Go.RowKit
set_option linter.unusedVariables false
set_option linter.unusedSimpArgs false
set_option maxRecDepth 100000

/-- the closure that a step by words is, and its boxes -/
theorem words1_any (a : Option Addr) (n c : Nat) (f : FuncId) (big : Bool) (p1 p2 r1 r2 b1 b2 : Nat) (t1 t2 : TypeId) (w : World)
    (h1 : w.heap[b1]? = some (.cells #[.func (.func f) #[] #[]] t1 (0, 0))) (h2 : w.heap[b2]? = some (.cells #[.bool big] t2 (0, 0)))
    (hcf : ∀ (xs : Array Value) (W : World), Sem.run Try.prog (callFunc f xs) W = .ok (.enter f xs) W)
    (hf : ∀ W : World, Below w.heap.size w W → Calls Try.prog f #[.slice a n c, .agg #[.int .i64 (p1 : Nat), .int .i64 (p2 : Nat)], .bool big] W fun e w' => e = .returned (.agg #[.int .i64 (r1 : Nat), .int .i64 (r2 : Nat)]) ∧ Below W.heap.size W w') :
    Calls Try.prog 63 #[.slice a n c, .agg #[.int .i64 (p1 : Nat), .int .i64 (p2 : Nat)], .pointer (some ⟨b1, 0, none⟩), .pointer (some ⟨b2, 0, none⟩)] w fun e w' => e = .returned (.agg #[.int .i64 (r1 : Nat), .int .i64 (r2 : Nat)]) ∧ Below w.heap.size w w' := by
  obtain ⟨w1, hw1, hsz, g1, g2, hb1⟩ := two2 w (.cells #[.int .i64 (p1 : Nat), .int .i64 (p2 : Nat)] 24) (.cells #[.int .i64 0, .int .i64 0] 24)
  have c1 : w1.cell? ⟨b1, 0, none⟩ = some (.func (.func f) #[] #[]) := by rw [cell_row ((hb1.block _ (Array.getElem?_eq_some_iff.1 h1).1).trans h1)]; rfl
  have c2 : w1.cell? ⟨b2, 0, none⟩ = some (.bool big) := by rw [cell_row ((hb1.block _ (Array.getElem?_eq_some_iff.1 h2).1).trans h2)]; rfl
  obtain ⟨x0, x1, -, -⟩ := row2 g1
  have HW1 := Lib.hid hw1
  have HB1 := Lib.hid hb1
  have G2 := Lib.hid g2
  have HF := Lib.hid (hf w1 hb1)
  clear hw1 hb1 g1 g2 h1 h2 hf hsz
  go_enter Try.func63, Try.ntmps63
  go_upto_region 1 with fail
  rw [HW1.out]
  go_wp2_with ((with_reducible (refine HF.out.mono ?_)); rintro e w2 ⟨rfl, hb2⟩; obtain ⟨a0, a1, z0, z1⟩ := row2 ((hb2.block _ (Array.getElem?_eq_some_iff.1 G2.out).1).trans G2.out))
  refine bodyPost_ret (v := .agg #[.int .i64 (r1 : Nat), .int .i64 (r2 : Nat)]) ?_ rfl ⟨rfl, ?_⟩
  · rw [results_cell1 rfl]
    go_simp
  · have h2 := btr HB1.out hb2
    (repeat' (first | exact h2 | omega | refine setCell_below ?_ _ _ _ ?_))
theorem words_any (a : Option Addr) (n c l q : Nat) (t : Nat) (key cnt arg want : Int) (op : Bool) (f : FuncId) (big : Bool) (w : World) (hk : decide (key < 97) = big) :
    Calls Try.prog 49 #[askL a n c l q (t : Nat) key cnt arg want op, .func (.func f) #[] #[]] w fun e w' => ∃ (b1 b2 : Nat) (t1 t2 : TypeId), e = .returned (.func (.func 63) #[] #[.pointer (some ⟨b1, 0, none⟩), .pointer (some ⟨b2, 0, none⟩)]) ∧ Below w.heap.size w w' ∧ w'.heap[b1]? = some (.cells #[.func (.func f) #[] #[]] t1 (0, 0)) ∧ w'.heap[b2]? = some (.cells #[.bool big] t2 (0, 0)) := by
  have hmf : ∀ (fn : Fn) (first cap : Array Value) (w : World), (Instr.makeFunc fn first cap).run Try.prog w = .ok (.func fn first cap) w := fun _ _ _ _ => rfl
  obtain ⟨w1, hw1, hsz, g1, g2, hb1⟩ := two2 w (askO a n c l q (t : Nat) key cnt arg want op) (.cells #[.func (.func f) #[] #[]] 59)
  obtain ⟨x0, x1, x2, x3, x4, x5, x6, x7, x8⟩ := row9 g1
  have HW1 := Lib.hid hw1
  have HB1 := Lib.hid hb1
  have G2 := Lib.hid g2
  clear hw1 hb1 g1 g2 hsz
  go_enter Try.func49, Try.ntmps49
  go_upto_region 1 with fail
  rw [HW1.out]
  go_wp2_with fail
  go_ret
  have hb2 := bal w1 (.cells #[.bool big] 4)
  exact ⟨w.heap.size + 1, w1.heap.size, _, _, rfl, btr HB1.out hb2, (hb2.block _ (Array.getElem?_eq_some_iff.1 G2.out).1).trans G2.out, heap_alloc_new w1 _⟩
end Go.Proofs.Ytikdojebnbmpoaa.U
