/-
  Rows of places in memory.
-/
import Derived.Test.YtnegijbdgefaoaaNBase
import Derived.Test.YtnegijbdgefaoaaNPure
namespace Go.Proofs.Ytnegijbdgefaoaa.U
open Go.RowKit
set_option linter.unusedVariables false
set_option linter.unusedSimpArgs false
set_option maxRecDepth 100000

theorem row2 {w : World} {b : Nat} {ty : TypeId} {v0 v1 : Value} (h : w.heap[b]? = some (.cells #[v0, v1] ty (0, 0))) : w.cell? ⟨b, 0, none⟩ = some v0 ∧ w.cell? ⟨b, 1, none⟩ = some v1 ∧ w.frozen? ⟨b, 0, none⟩ = false ∧ w.frozen? ⟨b, 1, none⟩ = false :=
  ⟨by rw [cell_row h]; rfl, by rw [cell_row h]; rfl, frozen_row h 0, frozen_row h 1⟩
theorem bal (W : World) (o : Obj) : Below W.heap.size W (W.alloc o) := (Below.refl _ W).alloc (Nat.le_refl _) o
theorem setCell_below {B : Nat} {a b : World} (h : Below B a b) (k i : Nat) (v : Value) (hk : B ≤ k) : Below B a (b.setCell ⟨k, i, none⟩ v) := h.setCell hk v
/-- places as cells -/
def plc (p : Pl) : List Value := [.int .i64 (p.1 : Nat), .int .i64 (p.2 : Nat)]
def plcs (ps : List Pl) : List Value := ps.flatMap plc
theorem plcs_append (a b : List Pl) : plcs (a ++ b) = plcs a ++ plcs b := by simp [plcs]
theorem plcs_cons (p : Pl) (a : List Pl) : plcs (p :: a) = plc p ++ plcs a := by simp [plcs]
theorem plcs_one (p : Pl) : plcs [p] = plc p := by simp [plcs]
theorem plcs_len : ∀ ps : List Pl, (plcs ps).length = ps.length * 2
  | [] => rfl
  | p :: r => by rw [plcs_cons, List.length_append, plcs_len r]; simp [plc]; omega
theorem plcs_one1 (ps : List Pl) : ∀ u ∈ plcs ps, u.oneCell' = true := by
  intro u hu
  obtain ⟨p, _, hp⟩ := List.mem_flatMap.1 hu
  simp [plc] at hp
  rcases hp with rfl | rfl <;> rfl
theorem plcs_at : ∀ (ps : List Pl) (i : Nat) {p : Pl}, ps[i]? = some p → (plcs ps)[i * 2]? = some (.int .i64 (p.1 : Nat)) ∧ (plcs ps)[i * 2 + 1]? = some (.int .i64 (p.2 : Nat))
  | [], i, p, h => by simp at h
  | q :: r, 0, p, h => by
    simp only [List.getElem?_cons_zero, Option.some.injEq] at h
    subst h
    rw [plcs_cons]; exact ⟨rfl, rfl⟩
  | q :: r, i + 1, p, h => by
    have := plcs_at r i (p := p) (by simpa using h)
    rw [plcs_cons, show (i + 1) * 2 = i * 2 + 1 + 1 by omega]
    simpa [plc] using this
/-- a row of places that can be read -/
def RdP (w : World) (a : Option Addr) (n c : Nat) (ps : List Pl) : Prop := Rc w a n c 2 (plcs ps)
theorem RdP.len {w a n c ps} (h : RdP w a n c ps) : ps.length = n := by have := h.1; rw [plcs_len] at this; omega
theorem RdP.below {w w' : World} {a n c ps} (h : RdP w a n c ps) (hb : Below w.heap.size w w') : RdP w' a n c ps := Rc.below h hb
theorem RdP.get {w W : World} {a : Option Addr} {n c i : Nat} {ps : List Pl} {p : Pl} (h : RdP w a n c ps) (hb : Below w.heap.size w W) (hp : ps[i]? = some p) :
    ∃ b off, a = some ⟨b, off, none⟩ ∧ b < w.heap.size ∧ W.cell? ⟨b, off + i * 2, none⟩ = some (.int .i64 (p.1 : Nat)) ∧ W.cell? ⟨b, off + i * 2 + 1, none⟩ = some (.int .i64 (p.2 : Nat)) := by
  have hi := (List.getElem?_eq_some_iff.1 hp).1
  obtain ⟨b, off, rfl, hbl, hc⟩ := h.at_ (by rw [← h.len]; omega)
  obtain ⟨c0, c1⟩ := plcs_at ps i hp
  have d0 := hc _ _ c0
  have d1 := hc _ _ c1
  rw [← Nat.add_assoc] at d1
  exact ⟨b, off, rfl, hbl, (hb.cell (p := ⟨b, off + i * 2, none⟩) hbl).trans d0, (hb.cell (p := ⟨b, off + i * 2 + 1, none⟩) hbl).trans d1⟩
theorem infoP : (Try.prog.info? 24).map (fun i => (i.zero, i.size, i.bytes)) = some (some (.agg #[.int .i64 0, .int .i64 0]), 2, 16) := by kernel_rfl
/-- append of a place that has just been laid -/
theorem app_pl (w : World) (B : Nat) (v : Value) (n : Nat) (ps : List Pl) (p : Pl) (h : w.ownsRow B 24 2 v n (plcs ps)) (hB : B ≤ w.heap.size) (hn : n ≤ 1000000) :
    ∃ a' c' w', (∀ ty, (Builtin.append_ #[35, 35] ty #[v, .slice (some ⟨w.heap.size, 0, none⟩) 1 1]).run Try.prog (w.alloc (.cells #[.int .i64 (p.1 : Nat), .int .i64 (p.2 : Nat)] 24)) = .ok (.slice a' (n + 1) c') w') ∧ w'.ownsRow B 24 2 (.slice a' (n + 1) c') (n + 1) (plcs (ps ++ [p])) ∧ Below B w w' := by
  have hb0 : Below w.heap.size w (w.alloc (.cells #[.int .i64 (p.1 : Nat), .int .i64 (p.2 : Nat)] 24)) := (Below.refl _ w).alloc (Nat.le_refl _) _
  have hg := heap_alloc_new w (.cells #[.int .i64 (p.1 : Nat), .int .i64 (p.2 : Nat)] 24)
  obtain ⟨i0, hi0, hz0, hz1, hz2⟩ := info_parts infoP
  obtain ⟨v', w', hrun, hown, hfr, hnear⟩ := run_append_own_k (P := Try.prog) (w.alloc (.cells #[.int .i64 (p.1 : Nat), .int .i64 (p.2 : Nat)] 24)) B 35 24 i0 _ 2 16 Try.underlying35 hi0 hz0 hz1 hz2 rfl (by decide) v n _ (h.alloc _) (some ⟨w.heap.size, 0, none⟩) 1 1 (plc p) rfl (fun _ => ⟨_, rfl, fun j u hu => by
      rw [add_lit, cell_row hg, Nat.zero_add]
      simpa [plc] using hu⟩) (fun u hu => plcs_one1 [p] u (by rw [plcs_one]; exact hu)) (by unfold maxLen; omega) (by omega) (by simp; omega)
  obtain ⟨a', c', rfl⟩ := own_slice hown
  refine ⟨a', c', w', hrun, ?_, (hb0.mono hB).trans (hfr.below (by simp; omega) (fun k e => (h.lt k e.symm).1))⟩
  rw [plcs_append, plcs_one]
  exact hown
end Go.Proofs.Ytnegijbdgefaoaa.U
