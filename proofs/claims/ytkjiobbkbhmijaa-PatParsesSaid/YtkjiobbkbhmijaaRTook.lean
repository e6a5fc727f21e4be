/-
  Runes that are laid and taken: in short words; eight cells that are stored.
-/
import Derived.Test.YtkjiobbkbhmijaaREnd
namespace Go.Proofs.Ytkjiobbkbhmijaa.U
open Go.RowKit
set_option linter.unusedVariables false
set_option linter.unusedSimpArgs false
set_option maxRecDepth 100000

section
variable {w : World} {br : Nat} {p l : List Int} {n o : Nat}
theorem took1_yes (h : RdS w br p l n o) (c : Int) (hp : pre [c] l = true) (hc : (Lit.int .i32 c).wf = true) :
    Calls Try.prog 33 #[.pointer (some ⟨br, 0, none⟩), .slice (some ⟨w.heap.size, 0, none⟩) 1 1] (w.alloc (.cells #[.int .i32 c] 21)) fun e w' => e = .returned (.bool true) ∧ Hid (RdS w' br p (l.drop 1) n o ∧ Fr (· = br) w w') := by
  refine (took_yes br p l [c] n o 1 1 _ _ (h.below (bal w _)) (rd1 w c hc) hp).mono ?_
  rintro e w2 ⟨rfl, h2, hf2⟩
  exact ⟨rfl, h2, (Fr.of_below (· = br) (bal w _)).trans hf2 (fun _ _ h => h)⟩
theorem took1_no (h : RdS w br p l n o) (c : Int) (hp : pre [c] l = false) (hc : (Lit.int .i32 c).wf = true) :
    Calls Try.prog 33 #[.pointer (some ⟨br, 0, none⟩), .slice (some ⟨w.heap.size, 0, none⟩) 1 1] (w.alloc (.cells #[.int .i32 c] 21)) fun e w' => e = .returned (.bool false) ∧ Hid (Below w.heap.size w w') := by
  refine (took_no br p l [c] n o 1 1 _ _ (h.below (bal w _)) (rd1 w c hc) hp).mono ?_
  rintro e w2 ⟨rfl, hb2⟩
  exact ⟨rfl, (bal w _).trans (hb2.mono (bal w _).size)⟩
theorem took2_yes (h : RdS w br p l n o) (c d : Int) (hp : pre [c, d] l = true) (hc : (Lit.int .i32 c).wf = true) (hd : (Lit.int .i32 d).wf = true) :
    Calls Try.prog 33 #[.pointer (some ⟨br, 0, none⟩), .slice (some ⟨w.heap.size, 0, none⟩) 2 2] (w.alloc (.cells #[.int .i32 c, .int .i32 d] 21)) fun e w' => e = .returned (.bool true) ∧ Hid (RdS w' br p (l.drop 2) n o ∧ Fr (· = br) w w') := by
  refine (took_yes br p l [c, d] n o 2 2 _ _ (h.below (bal w _)) (rd2 w c d hc hd) hp).mono ?_
  rintro e w2 ⟨rfl, h2, hf2⟩
  exact ⟨rfl, h2, (Fr.of_below (· = br) (bal w _)).trans hf2 (fun _ _ h => h)⟩
theorem took2_no (h : RdS w br p l n o) (c d : Int) (hp : pre [c, d] l = false) (hc : (Lit.int .i32 c).wf = true) (hd : (Lit.int .i32 d).wf = true) :
    Calls Try.prog 33 #[.pointer (some ⟨br, 0, none⟩), .slice (some ⟨w.heap.size, 0, none⟩) 2 2] (w.alloc (.cells #[.int .i32 c, .int .i32 d] 21)) fun e w' => e = .returned (.bool false) ∧ Hid (Below w.heap.size w w') := by
  refine (took_no br p l [c, d] n o 2 2 _ _ (h.below (bal w _)) (rd2 w c d hc hd) hp).mono ?_
  rintro e w2 ⟨rfl, hb2⟩
  exact ⟨rfl, (bal w _).trans (hb2.mono (bal w _).size)⟩
end
theorem put8 {w3 : World} {g : Nat} {tg : TypeId} {c0 c1 c2 c3 c4 c5 c6 c7 : Value} (hg : w3.heap[g]? = some (.cells #[c0, c1, c2, c3, c4, c5, c6, c7] tg (0, 0))) (a0 a1 a2 a3 a4 a5 a6 a7 : Value) :
    ((((((((w3.setCell ⟨g, 0, none⟩ a0).setCell ⟨g, 1, none⟩ a1).setCell ⟨g, 2, none⟩ a2).setCell ⟨g, 3, none⟩ a3).setCell ⟨g, 4, none⟩ a4).setCell ⟨g, 5, none⟩ a5).setCell ⟨g, 6, none⟩ a6).setCell ⟨g, 7, none⟩ a7).heap[g]? = some (.cells #[a0, a1, a2, a3, a4, a5, a6, a7] tg (0, 0)) ∧ Fr (fun j => j = g) w3 ((((((((w3.setCell ⟨g, 0, none⟩ a0).setCell ⟨g, 1, none⟩ a1).setCell ⟨g, 2, none⟩ a2).setCell ⟨g, 3, none⟩ a3).setCell ⟨g, 4, none⟩ a4).setCell ⟨g, 5, none⟩ a5).setCell ⟨g, 6, none⟩ a6).setCell ⟨g, 7, none⟩ a7) := by
  have e0 : (w3.setCell ⟨g, 0, none⟩ a0).heap[g]? = some (.cells #[a0, c1, c2, c3, c4, c5, c6, c7] tg (0, 0)) := heap_set hg 0 a0
  have e1 : ((w3.setCell ⟨g, 0, none⟩ a0).setCell ⟨g, 1, none⟩ a1).heap[g]? = some (.cells #[a0, a1, c2, c3, c4, c5, c6, c7] tg (0, 0)) := heap_set e0 1 a1
  have e2 : (((w3.setCell ⟨g, 0, none⟩ a0).setCell ⟨g, 1, none⟩ a1).setCell ⟨g, 2, none⟩ a2).heap[g]? = some (.cells #[a0, a1, a2, c3, c4, c5, c6, c7] tg (0, 0)) := heap_set e1 2 a2
  have e3 : ((((w3.setCell ⟨g, 0, none⟩ a0).setCell ⟨g, 1, none⟩ a1).setCell ⟨g, 2, none⟩ a2).setCell ⟨g, 3, none⟩ a3).heap[g]? = some (.cells #[a0, a1, a2, a3, c4, c5, c6, c7] tg (0, 0)) := heap_set e2 3 a3
  have e4 : (((((w3.setCell ⟨g, 0, none⟩ a0).setCell ⟨g, 1, none⟩ a1).setCell ⟨g, 2, none⟩ a2).setCell ⟨g, 3, none⟩ a3).setCell ⟨g, 4, none⟩ a4).heap[g]? = some (.cells #[a0, a1, a2, a3, a4, c5, c6, c7] tg (0, 0)) := heap_set e3 4 a4
  have e5 : ((((((w3.setCell ⟨g, 0, none⟩ a0).setCell ⟨g, 1, none⟩ a1).setCell ⟨g, 2, none⟩ a2).setCell ⟨g, 3, none⟩ a3).setCell ⟨g, 4, none⟩ a4).setCell ⟨g, 5, none⟩ a5).heap[g]? = some (.cells #[a0, a1, a2, a3, a4, a5, c6, c7] tg (0, 0)) := heap_set e4 5 a5
  have e6 : (((((((w3.setCell ⟨g, 0, none⟩ a0).setCell ⟨g, 1, none⟩ a1).setCell ⟨g, 2, none⟩ a2).setCell ⟨g, 3, none⟩ a3).setCell ⟨g, 4, none⟩ a4).setCell ⟨g, 5, none⟩ a5).setCell ⟨g, 6, none⟩ a6).heap[g]? = some (.cells #[a0, a1, a2, a3, a4, a5, a6, c7] tg (0, 0)) := heap_set e5 6 a6
  have e7 : ((((((((w3.setCell ⟨g, 0, none⟩ a0).setCell ⟨g, 1, none⟩ a1).setCell ⟨g, 2, none⟩ a2).setCell ⟨g, 3, none⟩ a3).setCell ⟨g, 4, none⟩ a4).setCell ⟨g, 5, none⟩ a5).setCell ⟨g, 6, none⟩ a6).setCell ⟨g, 7, none⟩ a7).heap[g]? = some (.cells #[a0, a1, a2, a3, a4, a5, a6, a7] tg (0, 0)) := heap_set e6 7 a7
  refine ⟨e7, ?_⟩
  (repeat' (refine Fr.setCell ?_ _ _ ?_)) <;> first | exact Fr.refl _ _ | exact fun _ => rfl
theorem put7 {w3 : World} {g : Nat} {tg : TypeId} {c0 c1 c2 c3 c4 c5 c6 : Value} (hg : w3.heap[g]? = some (.cells #[c0, c1, c2, c3, c4, c5, c6] tg (0, 0))) (a0 a1 a2 a3 a4 a5 a6 : Value) :
    (((((((w3.setCell ⟨g, 0, none⟩ a0).setCell ⟨g, 1, none⟩ a1).setCell ⟨g, 2, none⟩ a2).setCell ⟨g, 3, none⟩ a3).setCell ⟨g, 4, none⟩ a4).setCell ⟨g, 5, none⟩ a5).setCell ⟨g, 6, none⟩ a6).heap[g]? = some (.cells #[a0, a1, a2, a3, a4, a5, a6] tg (0, 0)) ∧ Fr (fun j => j = g) w3 (((((((w3.setCell ⟨g, 0, none⟩ a0).setCell ⟨g, 1, none⟩ a1).setCell ⟨g, 2, none⟩ a2).setCell ⟨g, 3, none⟩ a3).setCell ⟨g, 4, none⟩ a4).setCell ⟨g, 5, none⟩ a5).setCell ⟨g, 6, none⟩ a6) := by
  have e0 : (w3.setCell ⟨g, 0, none⟩ a0).heap[g]? = some (.cells #[a0, c1, c2, c3, c4, c5, c6] tg (0, 0)) := heap_set hg 0 a0
  have e1 : ((w3.setCell ⟨g, 0, none⟩ a0).setCell ⟨g, 1, none⟩ a1).heap[g]? = some (.cells #[a0, a1, c2, c3, c4, c5, c6] tg (0, 0)) := heap_set e0 1 a1
  have e2 : (((w3.setCell ⟨g, 0, none⟩ a0).setCell ⟨g, 1, none⟩ a1).setCell ⟨g, 2, none⟩ a2).heap[g]? = some (.cells #[a0, a1, a2, c3, c4, c5, c6] tg (0, 0)) := heap_set e1 2 a2
  have e3 : ((((w3.setCell ⟨g, 0, none⟩ a0).setCell ⟨g, 1, none⟩ a1).setCell ⟨g, 2, none⟩ a2).setCell ⟨g, 3, none⟩ a3).heap[g]? = some (.cells #[a0, a1, a2, a3, c4, c5, c6] tg (0, 0)) := heap_set e2 3 a3
  have e4 : (((((w3.setCell ⟨g, 0, none⟩ a0).setCell ⟨g, 1, none⟩ a1).setCell ⟨g, 2, none⟩ a2).setCell ⟨g, 3, none⟩ a3).setCell ⟨g, 4, none⟩ a4).heap[g]? = some (.cells #[a0, a1, a2, a3, a4, c5, c6] tg (0, 0)) := heap_set e3 4 a4
  have e5 : ((((((w3.setCell ⟨g, 0, none⟩ a0).setCell ⟨g, 1, none⟩ a1).setCell ⟨g, 2, none⟩ a2).setCell ⟨g, 3, none⟩ a3).setCell ⟨g, 4, none⟩ a4).setCell ⟨g, 5, none⟩ a5).heap[g]? = some (.cells #[a0, a1, a2, a3, a4, a5, c6] tg (0, 0)) := heap_set e4 5 a5
  have e6 : (((((((w3.setCell ⟨g, 0, none⟩ a0).setCell ⟨g, 1, none⟩ a1).setCell ⟨g, 2, none⟩ a2).setCell ⟨g, 3, none⟩ a3).setCell ⟨g, 4, none⟩ a4).setCell ⟨g, 5, none⟩ a5).setCell ⟨g, 6, none⟩ a6).heap[g]? = some (.cells #[a0, a1, a2, a3, a4, a5, a6] tg (0, 0)) := heap_set e5 6 a6
  refine ⟨e6, ?_⟩
  (repeat' (refine Fr.setCell ?_ _ _ ?_)) <;> first | exact Fr.refl _ _ | exact fun _ => rfl
end Go.Proofs.Ytkjiobbkbhmijaa.U
