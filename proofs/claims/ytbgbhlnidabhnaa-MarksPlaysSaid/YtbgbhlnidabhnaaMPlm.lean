/-
  Both marks side by side, and blocks of the law's own: a deed, two places.
-/
import Derived.Test.YtbgbhlnidabhnaaMRefG
import Derived.Test.YtbgbhlnidabhnaaMOk
namespace Go.Proofs.Ytbgbhlnidabhnaa.U
open Go.RowKit
set_option linter.unusedVariables false
set_option linter.unusedSimpArgs false
set_option maxRecDepth 100000

def posO (q : Po) : Obj := .cells #[.int .i64 q.l, .int .i64 q.c] 23 (0, 0)
/-- the program's marks and the document's, and blocks D that belong to neither -/
def PlM (w0 w : World) (bt bx : Nat) (s x : Ms) (D : Nat → Prop) : Prop :=
  Below w0.heap.size w0 w ∧ (∀ k, D k → w0.heap.size ≤ k ∧ k < w.heap.size) ∧
    ∃ P Q, MkS P w bt s ∧ RkS Q w bx x ∧ (∀ k, P k → w0.heap.size ≤ k) ∧ (∀ k, Q k → w0.heap.size ≤ k) ∧ (∀ k, P k → ¬ Q k) ∧ (∀ k, P k → ¬ D k) ∧ (∀ k, Q k → ¬ D k)
section
variable {w0 w w' : World} {bt bx : Nat} {s x s' x' : Ms} {D D' : Nat → Prop}
theorem PlM.bel (h : PlM w0 w bt bx s x D) : Below w0.heap.size w0 w := h.1
theorem PlM.afm {P Q : Nat → Prop} (hb : Below w0.heap.size w0 w) (hD : ∀ k, D k → w0.heap.size ≤ k ∧ k < w.heap.size) (hR : RkS Q w bx x) (p1 : ∀ k, P k → w0.heap.size ≤ k) (p2 : ∀ k, Q k → w0.heap.size ≤ k) (p3 : ∀ k, P k → ¬ Q k) (p4 : ∀ k, P k → ¬ D k) (p5 : ∀ k, Q k → ¬ D k) (ha : AfM P w w' bt s') :
    PlM w0 w' bt bx s' x D ∧ ∀ k, D k → w'.heap[k]? = w.heap[k]? := by
  obtain ⟨P', a1, a2, a3⟩ := ha
  refine ⟨⟨hb.trans (a2.below hb.size p1), fun k hk => ⟨(hD k hk).1, Nat.lt_of_lt_of_le (hD k hk).2 a2.size⟩, P', Q, a1, hR.fr a2 (fun k hq hp => p3 k hp hq), fun k hk => ?_, p2, fun k hk => ?_, fun k hk => ?_, p5⟩, fun k hk => a2.block k (hD k hk).2 (fun hp => p4 k hp hk)⟩
  · rcases a3 k hk with h | h
    · exact p1 k h
    · exact Nat.le_trans hb.size h
  · rcases a3 k hk with h | h
    · exact p3 k h
    · exact fun hq => by have := hR.lt k hq; omega
  · rcases a3 k hk with h | h
    · exact p4 k h
    · exact fun hd => by have := (hD k hd).2; omega
theorem PlM.afr {P Q : Nat → Prop} (hb : Below w0.heap.size w0 w) (hD : ∀ k, D k → w0.heap.size ≤ k ∧ k < w.heap.size) (hM : MkS P w bt s) (p1 : ∀ k, P k → w0.heap.size ≤ k) (p2 : ∀ k, Q k → w0.heap.size ≤ k) (p3 : ∀ k, P k → ¬ Q k) (p4 : ∀ k, P k → ¬ D k) (p5 : ∀ k, Q k → ¬ D k) (ha : AfR Q w w' bx x') :
    PlM w0 w' bt bx s x' D ∧ ∀ k, D k → w'.heap[k]? = w.heap[k]? := by
  obtain ⟨Q', a1, a2, a3⟩ := ha
  refine ⟨⟨hb.trans (a2.below hb.size p2), fun k hk => ⟨(hD k hk).1, Nat.lt_of_lt_of_le (hD k hk).2 a2.size⟩, P, Q', hM.fr a2 p3, a1, p1, fun k hk => ?_, fun k hp hq => ?_, p4, fun k hk => ?_⟩, fun k hk => a2.block k (hD k hk).2 (fun hp => p5 k hp hk)⟩
  · rcases a3 k hk with h | h
    · exact p2 k h
    · exact Nat.le_trans hb.size h
  · rcases a3 k hq with h | h
    · exact p3 k hp h
    · have := hM.lt k hp
      omega
  · rcases a3 k hk with h | h
    · exact p5 k h
    · exact fun hd => by have := (hD k hd).2; omega
/-- a call of the program's -/
theorem PlM.prog {f : FuncId} {args : Array Value} {r : Ending} (h : PlM w0 w bt bx s x D) (hc : ∀ P, MkS P w bt s → (∀ k, P k → w0.heap.size ≤ k) → Calls Try.prog f args w fun e w' => e = r ∧ AfM P w w' bt s') :
    Calls Try.prog f args w fun e w' => e = r ∧ PlM w0 w' bt bx s' x D ∧ ∀ k, D k → w'.heap[k]? = w.heap[k]? := by
  obtain ⟨hb, hD, P, Q, h1, h2, p1, p2, p3, p4, p5⟩ := h
  refine (hc P h1 p1).mono ?_
  rintro e w' ⟨he, ha⟩
  exact ⟨he, PlM.afm hb hD h2 p1 p2 p3 p4 p5 ha⟩
/-- a call of the document's -/
theorem PlM.ref {f : FuncId} {args : Array Value} {r : Ending} (h : PlM w0 w bt bx s x D) (hc : ∀ Q, RkS Q w bx x → (∀ k, Q k → w0.heap.size ≤ k) → Calls Try.prog f args w fun e w' => e = r ∧ AfR Q w w' bx x') :
    Calls Try.prog f args w fun e w' => e = r ∧ PlM w0 w' bt bx s x' D ∧ ∀ k, D k → w'.heap[k]? = w.heap[k]? := by
  obtain ⟨hb, hD, P, Q, h1, h2, p1, p2, p3, p4, p5⟩ := h
  refine (hc Q h2 p2).mono ?_
  rintro e w' ⟨he, ha⟩
  exact ⟨he, PlM.afr hb hD h1 p1 p2 p3 p4 p5 ha⟩
/-- other blocks of the law's own -/
theorem PlM.turn (h : PlM w0 w bt bx s x D) (hb : Below w.heap.size w w') (hD' : ∀ k, D' k → (D k ∨ w.heap.size ≤ k) ∧ k < w'.heap.size) : PlM w0 w' bt bx s x D' := by
  obtain ⟨h0, hD, P, Q, h1, h2, p1, p2, p3, p4, p5⟩ := h
  refine ⟨h0.trans (hb.mono h0.size), fun k hk => ⟨?_, (hD' k hk).2⟩, P, Q, h1.below hb, h2.below hb, p1, p2, p3, fun k hp hd => ?_, fun k hp hd => ?_⟩
  · rcases (hD' k hk).1 with q | q
    · exact (hD k q).1
    · exact Nat.le_trans h0.size q
  · rcases (hD' k hd).1 with q | q
    · exact p4 k hp q
    · have := h1.lt k hp; omega
  · rcases (hD' k hd).1 with q | q
    · exact p5 k hp q
    · have := h2.lt k hp; omega
/-- a store into a block of the law's own -/
theorem PlM.own (h : PlM w0 w bt bx s x D) (hf : Fr D w w') : PlM w0 w' bt bx s x D := by
  obtain ⟨h0, hD, P, Q, h1, h2, p1, p2, p3, p4, p5⟩ := h
  exact ⟨h0.trans (hf.below h0.size (fun k hk => (hD k hk).1)), fun k hk => ⟨(hD k hk).1, Nat.lt_of_lt_of_le (hD k hk).2 hf.size⟩, P, Q, h1.fr hf p4, h2.fr hf p5, p1, p2, p3, p4, p5⟩
end

/-- .. a deed at gd, places at ga, gb -/
def Pm (w0 w : World) (bt bx gd ga gb : Nat) (O : Obj) (s x : Ms) (qa qb : Po) : Prop :=
  PlM w0 w bt bx s x (fun k => k = gd ∨ k = ga ∨ k = gb) ∧ w.heap[gd]? = some O ∧ w.heap[ga]? = some (posO qa) ∧ w.heap[gb]? = some (posO qb) ∧ gd ≠ ga ∧ gd ≠ gb ∧ ga ≠ gb
section
variable {w0 w w' : World} {bt bx gd ga gb : Nat} {O : Obj} {s x s' x' : Ms} {qa qb : Po}
theorem Pm.prog {f : FuncId} {args : Array Value} {r : Ending} (h : Pm w0 w bt bx gd ga gb O s x qa qb) (hc : ∀ P, MkS P w bt s → (∀ k, P k → w0.heap.size ≤ k) → Calls Try.prog f args w fun e w' => e = r ∧ AfM P w w' bt s') :
    Calls Try.prog f args w fun e w' => e = r ∧ Hid (Pm w0 w' bt bx gd ga gb O s' x qa qb) := by
  obtain ⟨h1, h2, h3, h4, h5⟩ := h
  refine (h1.prog hc).mono ?_
  rintro e w' ⟨he, hp, hk⟩
  exact ⟨he, hp, (hk gd (.inl rfl)).trans h2, (hk ga (.inr (.inl rfl))).trans h3, (hk gb (.inr (.inr rfl))).trans h4, h5⟩
theorem Pm.ref {f : FuncId} {args : Array Value} {r : Ending} (h : Pm w0 w bt bx gd ga gb O s x qa qb) (hc : ∀ P, RkS P w bx x → (∀ k, P k → w0.heap.size ≤ k) → Calls Try.prog f args w fun e w' => e = r ∧ AfR P w w' bx x') :
    Calls Try.prog f args w fun e w' => e = r ∧ Hid (Pm w0 w' bt bx gd ga gb O s x' qa qb) := by
  obtain ⟨h1, h2, h3, h4, h5⟩ := h
  refine (h1.ref hc).mono ?_
  rintro e w' ⟨he, hp, hk⟩
  exact ⟨he, hp, (hk gd (.inl rfl)).trans h2, (hk ga (.inr (.inl rfl))).trans h3, (hk gb (.inr (.inr rfl))).trans h4, h5⟩
theorem Pm.drew (h : Pm w0 w bt bx gd ga gb O s x qa qb) : Pm w0 w.drew bt bx gd ga gb O s x qa qb := by
  obtain ⟨h1, h2⟩ := h
  exact ⟨h1.turn (Below.refl _ _).drew (fun k hk => ⟨.inl hk, (h1.2.1 k hk).2⟩), h2⟩
theorem Pm.setA (h : Pm w0 w bt bx gd ga gb O s x qa qb) (q : Po) : Pm w0 ((w.setCell ⟨ga, 0, none⟩ (.int .i64 q.l)).setCell ⟨ga, 1, none⟩ (.int .i64 q.c)) bt bx gd ga gb O s x q qb := by
  obtain ⟨h1, h2, h3, h4, n1, n2, n3⟩ := h
  have hf : Fr (fun k => k = ga) w ((w.setCell ⟨ga, 0, none⟩ (.int .i64 q.l)).setCell ⟨ga, 1, none⟩ (.int .i64 q.c)) := ((Fr.refl (fun k => k = ga) w).setCell ⟨ga, 0, none⟩ _ (fun _ => rfl)).setCell ⟨ga, 1, none⟩ _ (fun _ => rfl)
  refine ⟨h1.own (hf.mono (fun k _ e => .inr (.inl e))), (hf.block gd (heap_lt h2) n1).trans h2, heap_set (heap_set h3 0 (.int .i64 q.l)) 1 (.int .i64 q.c), (hf.block gb (heap_lt h4) (fun e => n3 e.symm)).trans h4, n1, n2, n3⟩
theorem Pm.setB (h : Pm w0 w bt bx gd ga gb O s x qa qb) (q : Po) : Pm w0 ((w.setCell ⟨gb, 0, none⟩ (.int .i64 q.l)).setCell ⟨gb, 1, none⟩ (.int .i64 q.c)) bt bx gd ga gb O s x qa q := by
  obtain ⟨h1, h2, h3, h4, n1, n2, n3⟩ := h
  have hf : Fr (fun k => k = gb) w ((w.setCell ⟨gb, 0, none⟩ (.int .i64 q.l)).setCell ⟨gb, 1, none⟩ (.int .i64 q.c)) := ((Fr.refl (fun k => k = gb) w).setCell ⟨gb, 0, none⟩ _ (fun _ => rfl)).setCell ⟨gb, 1, none⟩ _ (fun _ => rfl)
  refine ⟨h1.own (hf.mono (fun k _ e => .inr (.inr e))), (hf.block gd (heap_lt h2) n2).trans h2, (hf.block ga (heap_lt h3) n3).trans h3, heap_set (heap_set h4 0 (.int .i64 q.l)) 1 (.int .i64 q.c), n1, n2, n3⟩
theorem Pm.below (h : Pm w0 w bt bx gd ga gb O s x qa qb) (hb : Below w.heap.size w w') : Pm w0 w' bt bx gd ga gb O s x qa qb := by
  obtain ⟨h1, h2, h3, h4, h5⟩ := h
  exact ⟨h1.turn hb (fun k hk => ⟨.inl hk, Nat.lt_of_lt_of_le (h1.2.1 k hk).2 hb.size⟩), (hb.block gd (heap_lt h2)).trans h2, (hb.block ga (heap_lt h3)).trans h3, (hb.block gb (heap_lt h4)).trans h4, h5⟩
theorem Pm.deed {O' : Array Value} (h : Pm w0 w bt bx gd ga gb (.cells O' 41 (0, 0)) s x qa qb) : (∀ j, w.cell? ⟨gd, j, none⟩ = O'[j]?) ∧ gd < w.heap.size := ⟨fun j => cell_row h.2.1 j, heap_lt h.2.1⟩
theorem Pm.boxes (h : Pm w0 w bt bx gd ga gb O s x qa qb) : w.cell? ⟨ga, 0, none⟩ = some (.int .i64 qa.l) ∧ w.cell? ⟨ga, 1, none⟩ = some (.int .i64 qa.c) ∧ w.cell? ⟨gb, 0, none⟩ = some (.int .i64 qb.l) ∧ w.cell? ⟨gb, 1, none⟩ = some (.int .i64 qb.c) ∧ w.frozen? ⟨ga, 0, none⟩ = false ∧ w.frozen? ⟨ga, 1, none⟩ = false ∧ w.frozen? ⟨gb, 0, none⟩ = false ∧ w.frozen? ⟨gb, 1, none⟩ = false ∧ ga < w.heap.size ∧ gb < w.heap.size :=
  ⟨cell_row h.2.2.1 0, cell_row h.2.2.1 1, cell_row h.2.2.2.1 0, cell_row h.2.2.2.1 1, frozen_row h.2.2.1 0, frozen_row h.2.2.1 1, frozen_row h.2.2.2.1 0, frozen_row h.2.2.2.1 1, heap_lt h.2.2.1, heap_lt h.2.2.2.1⟩
theorem Pm.mk (h : Pm w0 w bt bx gd ga gb O s x qa qb) : ∃ P, MkS P w bt s := by
  obtain ⟨⟨_, _, P, Q, h1, h2, _⟩, _⟩ := h
  exact ⟨P, h1⟩
theorem Pm.rk (h : Pm w0 w bt bx gd ga gb O s x qa qb) : ∃ Q, RkS Q w bx x := by
  obtain ⟨⟨_, _, P, Q, h1, h2, _⟩, _⟩ := h
  exact ⟨Q, h2⟩
theorem Pm.jj (h : Pm w0 w bt bx gd ga gb O s x qa qb) : ∃ ja jc, w.cell? ⟨bx, 1, none⟩ = some (.slice ja x.js.length jc) ∧ w.cell? ⟨bx, 2, none⟩ = some (.int .i64 (x.ix : Nat)) ∧ bx < w.heap.size ∧ Rc w ja x.js.length jc 2 (fl x.js) := by
  obtain ⟨Q, h1⟩ := h.rk
  obtain ⟨_, ja, jc, _, e1, e2, _, hl, hr, _⟩ := h1.cells
  exact ⟨ja, jc, e1, e2, hl, hr⟩
end
end Go.Proofs.Ytbgbhlnidabhnaa.U
