/-
  Slices of units: how they lie in memory.
-/
import Derived.Test.YthceooehndiglaaDoorCText
import Derived.Test.YthceooehndiglaaDoorCMeas
namespace Go.Proofs.YthceooehndiglaaDoor.U
open Go.RowKit
set_option linter.unusedVariables false
set_option linter.unusedSimpArgs false

/-- a unit as it lies in memory: its numbers; its Text: the slice, the runes -/
structure UV where
  u : Un
  ta : Option Addr
  tl : Nat
  tc : Nat
  tx : List Int
deriving Inhabited

def UV.cells (x : UV) : List Value := [.int .i64 x.u.fr, .int .i64 x.u.to, .int .i64 x.u.col, .int .i64 x.u.wd, .slice x.ta x.tl x.tc]
def UV.val (x : UV) : Value := .slice x.ta x.tl x.tc
def flat (vs : List UV) : List Value := vs.flatMap UV.cells
theorem flat_nil : flat [] = [] := rfl
theorem flat_snoc (vs : List UV) (x : UV) : flat (vs ++ [x]) = flat vs ++ x.cells := by simp [flat]
theorem flat_len (vs : List UV) : (flat vs).length = vs.length * 5 := by
  induction vs with
  | nil => rfl
  | cons x r ih =>
    have e : flat (x :: r) = x.cells ++ flat r := by simp [flat]
    rw [e, List.length_append, ih]
    simp [UV.cells]; omega
theorem flat_at : ∀ (vs : List UV) (i j : Nat), i < vs.length → j < 5 → (flat vs)[i * 5 + j]? = (vs.getD i default).cells[j]?
  | x :: r, 0, j, _, hj => by
    have e : flat (x :: r) = x.cells ++ flat r := by simp [flat]
    rw [e, List.getElem?_append_left (by simp [UV.cells]; omega)]
    simp
  | x :: r, i + 1, j, hi, hj => by
    have e : flat (x :: r) = x.cells ++ flat r := by simp [flat]
    have ih := flat_at r i j (by simpa using hi) hj
    rw [e, List.getElem?_append_right (by simp [UV.cells]; omega)]
    have e2 : (i + 1) * 5 + j - x.cells.length = i * 5 + j := by simp [UV.cells]; omega
    rw [e2, ih]
    simp
  | [], i, j, hi, _ => by simp at hi

/-- What is owned stays owned where its block lies as it lay. -/
theorem own_block {w w' : World} {B : Nat} {e : TypeId} {s : Nat} {v : Value} {n : Nat} {xs : List Value} (h : w.ownsRow B e s v n xs) (hk : ∀ k, v.ownBlock = some k → w'.heap[k]? = w.heap[k]?) : w'.ownsRow B e s v n xs := by
  refine ⟨h.1, ?_⟩
  rcases h.2 with hn | ⟨g, cap, cur, rfl, hb, hg, rest⟩
  · exact .inl hn
  · exact .inr ⟨g, cap, cur, rfl, hb, (hk g rfl).trans hg, rest⟩
theorem own_heap {w : World} {B : Nat} {e : TypeId} {s : Nat} {v : Value} {n : Nat} {xs : List Value} (h : w.ownsRow B e s v n xs) {k : Nat} (hk : v.ownBlock = some k) : ∃ cur, w.heap[k]? = some (.cells cur e (0, 0)) := by
  rcases h.2 with ⟨rfl, _⟩ | ⟨g, cap, cur, rfl, hb, hg, rest⟩
  · simp [Value.ownBlock] at hk
  · simp [Value.ownBlock] at hk
    subst hk
    exact ⟨cur, hg⟩
/-- Rows of two element types lie apart. -/
theorem rows_apart {w : World} {B1 B2 : Nat} {e1 e2 : TypeId} {s1 s2 : Nat} {v1 v2 : Value} {n1 n2 : Nat} {xs1 xs2 : List Value} (h1 : w.ownsRow B1 e1 s1 v1 n1 xs1) (h2 : w.ownsRow B2 e2 s2 v2 n2 xs2) (hne : e1 ≠ e2) {k : Nat} (hk : v1.ownBlock = some k) : some k ≠ v2.ownBlock := by
  intro e
  obtain ⟨c1, g1⟩ := own_heap h1 hk
  obtain ⟨c2, g2⟩ := own_heap h2 e.symm
  rw [g1] at g2
  simp at g2
  exact hne g2.2

/-- A slice of units that can be read. -/
def RdU (w : World) (a : Option Addr) (len cap : Nat) (vs : List UV) : Prop :=
  vs.length = len ∧ len ≤ cap ∧ cap ≤ maxLen ∧ (a = none → cap = 0) ∧
  (0 < len → ∃ b off, a = some ⟨b, off, none⟩ ∧ ∀ i, i < len → w.cell? ⟨b, off + i * 5, none⟩ = some (.int .i64 (vs.getD i default).u.fr) ∧ w.cell? ⟨b, off + i * 5 + 1, none⟩ = some (.int .i64 (vs.getD i default).u.to) ∧
    w.cell? ⟨b, off + i * 5 + 2, none⟩ = some (.int .i64 (vs.getD i default).u.col) ∧ w.cell? ⟨b, off + i * 5 + 3, none⟩ = some (.int .i64 (vs.getD i default).u.wd) ∧ w.cell? ⟨b, off + i * 5 + 4, none⟩ = some (vs.getD i default).val) ∧
  ∀ x ∈ vs, Rd .i32 w x.ta x.tl x.tc x.tx
theorem RdU.len {w a len cap vs} (h : RdU w a len cap vs) : vs.length = len := h.1
theorem RdU.small {w a len cap vs} (h : RdU w a len cap vs) : len ≤ 9223372036854775807 := by have := h.2.1; have := h.2.2.1; unfold maxLen at this; omega
theorem RdU.below {w w' : World} {a len cap vs} (h : RdU w a len cap vs) (hb : Below w.heap.size w w') : RdU w' a len cap vs := by
  obtain ⟨h1, h2, h3, h4, h5, h6⟩ := h
  refine ⟨h1, h2, h3, h4, fun hp => ?_, fun x hx => (h6 x hx).below hb⟩
  obtain ⟨b, off, ha, hc⟩ := h5 hp
  refine ⟨b, off, ha, fun i hi => ?_⟩
  obtain ⟨c0, c1, c2, c3, c4⟩ := hc i hi
  have hlt := block_lt_of_cell c0
  exact ⟨(hb.cell (p := ⟨b, off + i * 5, none⟩) hlt).trans c0, (hb.cell (p := ⟨b, off + i * 5 + 1, none⟩) hlt).trans c1, (hb.cell (p := ⟨b, off + i * 5 + 2, none⟩) hlt).trans c2, (hb.cell (p := ⟨b, off + i * 5 + 3, none⟩) hlt).trans c3, (hb.cell (p := ⟨b, off + i * 5 + 4, none⟩) hlt).trans c4⟩
theorem RdU.take {w a len cap vs} (h : RdU w a len cap vs) (n : Nat) (hn : n ≤ len) : RdU w a n cap (vs.take n) := by
  obtain ⟨h1, h2, h3, h4, h5, h6⟩ := h
  refine ⟨by simp [h1]; omega, by omega, h3, h4, fun hp => ?_, fun x hx => h6 x (List.mem_of_mem_take hx)⟩
  obtain ⟨b, off, ha, hc⟩ := h5 (by omega)
  refine ⟨b, off, ha, fun i hi => ?_⟩
  have e : (vs.take n).getD i default = vs.getD i default := by simp [List.getD_eq_getElem?_getD, List.getElem?_take, hi]
  rw [e]
  exact hc i (by omega)

theorem RdU.own {w : World} {B B2 : Nat} {a : Option Addr} {n cap m : Nat} {vs : List UV} (h : w.ownsRow B 39 5 (.slice a n cap) m (flat vs))
    (ht : ∀ x ∈ vs, w.ownsRow B2 21 1 x.val x.tl (x.tx.map (Value.int .i32)) ∧ ∀ r ∈ x.tx, (Lit.int .i32 r).wf = true) : RdU w a n cap vs := by
  have hrd : ∀ x ∈ vs, Rd .i32 w x.ta x.tl x.tc x.tx := fun x hx => Rd.own (ht x hx).1 (ht x hx).2
  obtain ⟨h1, h2⟩ := h
  rw [flat_len] at h1
  rcases h2 with ⟨hv, hn⟩ | ⟨g, c, cur, hv, hg, hh, hnc, hcm, hcs, hx⟩
  · simp only [Value.slice.injEq] at hv
    obtain ⟨rfl, rfl, rfl⟩ := hv
    exact ⟨by omega, Nat.le_refl _, Nat.zero_le _, fun _ => rfl, fun h => by omega, hrd⟩
  · simp only [Value.slice.injEq] at hv
    obtain ⟨rfl, rfl, rfl⟩ := hv
    refine ⟨by omega, hnc, hcm, (fun hn0 => by cases hn0), fun hp => ⟨g, 0, rfl, fun i hi => ?_⟩, hrd⟩
    have key : ∀ j, j < 5 → w.cell? ⟨g, 0 + i * 5 + j, none⟩ = (vs.getD i default).cells[j]? := fun j hj => by
      rw [cell_of_row w g (0 + i * 5 + j) cur 39 (0, 0) hh, Nat.zero_add, ← flat_at vs i j (by omega) hj, ← hx, List.getElem?_take, if_pos (by omega), ← Array.getElem?_toList]
    refine ⟨?_, ?_, ?_, ?_, ?_⟩
    · exact key 0 (by omega)
    · exact key 1 (by omega)
    · exact key 2 (by omega)
    · exact key 3 (by omega)
    · exact key 4 (by omega)

theorem showM_wf {r : Int} (h : (Lit.int .i32 r).wf = true) : ∀ x ∈ showM r, (Lit.int .i32 x).wf = true := fun x hx => by
  obtain ⟨h0, h1⟩ := wf_i32_in h
  have := show_wf h0 h1 x hx
  simp [Lit.wf, IntKind.min, IntKind.max, IntKind.signed, IntKind.bits]; omega
theorem textM_wf {line : List Int} (h : ∀ x ∈ line, (Lit.int .i32 x).wf = true) (u : Un) : ∀ x ∈ textM line u, (Lit.int .i32 x).wf = true := by
  intro x hx
  have hrn : (Lit.int .i32 (rn line u.fr)).wf = true := by
    unfold rn
    by_cases hi : u.fr < line.length
    · exact h _ (getD_mem hi)
    · rw [List.getD_eq_getElem?_getD, List.getElem?_eq_none (by omega)]; rfl
  unfold textM at hx
  split at hx
  · rw [List.mem_replicate] at hx; rw [hx.2]; rfl
  · split at hx
    · rcases List.mem_cons.1 hx with rfl | hx
      · rfl
      · exact h x (List.mem_of_mem_take (List.mem_of_mem_drop hx))
    · rcases List.mem_append.1 hx with hx | hx
      · exact showM_wf hrn x hx
      · exact h x (List.mem_of_mem_take (List.mem_of_mem_drop hx))

theorem news_cells (w : World) (x : UV) (t : TypeId) : ∀ j u, x.cells[j]? = some u → (w.alloc (.cells x.cells.toArray t)).cell? ((⟨w.heap.size, 0, none⟩ : Addr).add j) = some u := by
  intro j u hu
  have he : (⟨w.heap.size, 0, none⟩ : Addr).add j = ⟨w.heap.size, j, none⟩ := by
    by_cases h0 : j = 0
    · subst h0; rfl
    · simp [Addr.add]; intro hj; exact absurd hj h0
  rw [he, cell_of_row _ _ j _ t (0, 0) (heap_alloc_new w _)]
  simpa using hu
theorem infoU : (Tryd.prog.info? 39).map (fun i => (i.zero, i.size, i.bytes)) = some (some (.agg #[.int .i64 0, .int .i64 0, .int .i64 0, .int .i64 0, .slice none 0 0]), 5, 56) := by kernel_rfl
end Go.Proofs.YthceooehndiglaaDoor.U
