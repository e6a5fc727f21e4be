/-
  MarksRound: what marks are on the way; the walk.
-/
import Derived.Test.YtbgbhlnidabhnaaMArg
import Derived.Deep.DeepCutAuto
namespace Go.Proofs.Ytbgbhlnidabhnaa.U
open Go.RowKit
set_option linter.unusedVariables false
set_option linter.unusedSimpArgs false
set_option maxRecDepth 100000

theorem Aw.less {B : Nat} {hs hs' : List (Nat × Po)} {w : World} {bt : Nat} {s : Ms} (h : Aw B hs w bt s) (hl : ∀ x ∈ hs', x ∈ hs) : Aw B hs' w bt s := by
  obtain ⟨hB, P, h1, h2, h3⟩ := h
  exact ⟨hB, P, h1, fun k hk => ⟨(h2 k hk).1, fun x hx => (h2 k hk).2 x (hl x hx)⟩, fun x hx => h3 x (hl x hx)⟩
/-- a row of jumps, three lines apart -/
def rowJ (n : Nat) : List Po := (List.range n).map (fun i : Nat => (⟨3 * (i : Int), (i : Int)⟩ : Po))
def herE : Po := ⟨1000, 5⟩
theorem rowJ_len (n : Nat) : (rowJ n).length = n := by simp [rowJ]
theorem rowJ_succ (n : Nat) : rowJ (n + 1) = rowJ n ++ [⟨3 * (n : Int), (n : Int)⟩] := by simp [rowJ, List.range_succ]
theorem rowJ_get {n i : Nat} (h : i < n) : (rowJ n).getD i po0 = ⟨3 * (i : Int), (i : Int)⟩ := by
  rw [List.getD_eq_getElem?_getD, List.getElem?_eq_getElem (by rw [rowJ_len]; exact h)]
  simp [rowJ]
theorem rowJ_mem {n : Nat} {p : Po} (h : p ∈ rowJ n) : ∃ i : Nat, i < n ∧ p = ⟨3 * (i : Int), (i : Int)⟩ := by
  simp only [rowJ, List.mem_map, List.mem_range] at h
  obtain ⟨i, hi, rfl⟩ := h
  exact ⟨i, hi, rfl⟩
theorem rowJ_not {n : Nat} {l : Int} (h : ∀ i : Nat, i < n → 3 * (i : Int) ≠ l) : notL l (rowJ n) = rowJ n := by
  unfold notL
  rw [List.filter_eq_self]
  intro x hx
  obtain ⟨i, hi, rfl⟩ := rowJ_mem hx
  simpa using h i hi
theorem push_row {n : Nat} (hn : n < 99) : pushM ⟨[], rowJ n, n⟩ ⟨3 * (n : Int), (n : Int)⟩ = ⟨[], rowJ (n + 1), n + 1⟩ := by
  have hf : fitsP ⟨3 * (n : Int), (n : Int)⟩ = true := by simp [fitsP]; omega
  have h1 : notL (3 * (n : Int)) (rowJ n) = rowJ n := rowJ_not (fun i hi => by omega)
  have h2 : pushJ (rowJ n) ⟨3 * (n : Int), (n : Int)⟩ = rowJ (n + 1) := by
    unfold pushJ
    simp only [h1]
    rw [if_neg (by rw [List.length_append, rowJ_len]; simp; omega), rowJ_succ]
  simp [pushM, hf, h2, rowJ_len]
def rowH (n : Nat) : List Po := rowJ n ++ [herE]
theorem rowH_len (n : Nat) : (rowH n).length = n + 1 := by simp [rowH, rowJ_len]
theorem push_here {n : Nat} (hn : n ≤ 99) : pushM ⟨[], rowJ n, n⟩ herE = ⟨[], rowH n, n + 1⟩ := by
  have hf : fitsP herE = true := by simp [fitsP, herE]
  have h1 : notL 1000 (rowJ n) = rowJ n := rowJ_not (fun i hi => by omega)
  have h2 : pushJ (rowJ n) herE = rowH n := by
    unfold pushJ
    rw [show herE.l = 1000 from rfl]
    simp only [h1]
    rw [if_neg (by rw [List.length_append, rowJ_len]; simp; omega)]
    rfl
  simp [pushM, hf, h2, rowH_len]
/-- where one is, while one goes back: i jumps are ahead -/
def goneS (n i : Nat) : Ms := if i = n then ⟨[], rowJ n, n⟩ else ⟨[], rowH n, i⟩
theorem back_row {n i : Nat} (hn : n ≤ 99) (hi : i < n) : backM (goneS n (i + 1)) herE = (goneS n i, some ⟨3 * (i : Int), (i : Int)⟩) := by
  have hg : goneS n i = ⟨[], rowH n, i⟩ := if_neg (by omega)
  have hget : (rowH n).getD i po0 = ⟨3 * (i : Int), (i : Int)⟩ := by
    unfold rowH
    rw [List.getD_eq_getElem?_getD, List.getElem?_append_left (by rw [rowJ_len]; exact hi), ← List.getD_eq_getElem?_getD, rowJ_get hi]
  by_cases h : i + 1 = n
  · subst h
    have hg1 : goneS (i + 1) (i + 1) = ⟨[], rowJ (i + 1), i + 1⟩ := if_pos rfl
    have ht : toEnd ⟨[], rowJ (i + 1), i + 1⟩ herE = ⟨[], rowH (i + 1), i + 1⟩ := by
      unfold toEnd
      rw [if_pos (by rw [rowJ_len]), push_here hn]
      simp [rowH_len]
    rw [hg, hg1]
    unfold backM
    rw [ht]
    simp only [Nat.add_one_ne_zero, if_false, Nat.add_sub_cancel, hget]
  · have hg1 : goneS n (i + 1) = ⟨[], rowH n, i + 1⟩ := if_neg h
    have ht : toEnd ⟨[], rowH n, i + 1⟩ herE = ⟨[], rowH n, i + 1⟩ := by
      unfold toEnd
      rw [if_neg (by rw [rowH_len]; simp only; omega)]
    rw [hg, hg1]
    unfold backM
    rw [ht]
    simp only [Nat.add_one_ne_zero, if_false, Nat.add_sub_cancel, hget]
theorem forth_row {n i : Nat} (hi : i + 1 < n) : forthM ⟨[], rowH n, i⟩ = (⟨[], rowH n, i + 1⟩, some ⟨3 * ((i + 1 : Nat) : Int), ((i + 1 : Nat) : Int)⟩) := by
  have hget : (rowH n).getD (i + 1) po0 = ⟨3 * ((i + 1 : Nat) : Int), ((i + 1 : Nat) : Int)⟩ := by
    unfold rowH
    rw [List.getD_eq_getElem?_getD, List.getElem?_append_left (by rw [rowJ_len]; exact hi), ← List.getD_eq_getElem?_getD, rowJ_get hi]
  unfold forthM
  rw [if_neg (by rw [rowH_len]; simp only; omega)]
  simp only [hget]
theorem forth_here {n : Nat} (hn : 1 ≤ n) : forthM ⟨[], rowH n, n - 1⟩ = (⟨[], rowH n, n⟩, some herE) := by
  have e : n - 1 + 1 = n := by omega
  have hget : (rowH n).getD n po0 = herE := by
    unfold rowH
    rw [List.getD_eq_getElem?_getD, List.getElem?_append_right (by rw [rowJ_len]; omega), rowJ_len]
    simp
  unfold forthM
  rw [if_neg (by rw [rowH_len]; simp only; omega)]
  simp only [e, hget]
theorem forth_end (n : Nat) : forthM ⟨[], rowH n, n⟩ = (⟨[], rowH n, n⟩, none) := by
  unfold forthM
  rw [if_pos (by rw [rowH_len]; simp)]
theorem okRow {n k : Nat} (hn : n ≤ 99) (hk : k ≤ n) : Ms.ok ⟨[], rowJ n, k⟩ 0 := okA _ _ _ (by rw [rowJ_len]; omega) (by rw [rowJ_len]; exact hk) rfl (fun p hp => by
  obtain ⟨i, hi, rfl⟩ := rowJ_mem hp
  simp only [okP]
  omega)
theorem okRowH {n k : Nat} (hn : n ≤ 99) (hk : k ≤ n + 1) : Ms.ok ⟨[], rowH n, k⟩ 0 := okA _ _ _ (by rw [rowH_len]; omega) (by rw [rowH_len]; exact hk) rfl (fun p hp => by
  rcases List.mem_append.1 hp with hp | hp
  · exact (okRow hn (Nat.le_refl n)).jumps p hp
  · simp only [List.mem_singleton] at hp
    subst hp
    simp [okP, herE])
end Go.Proofs.Ytbgbhlnidabhnaa.U
