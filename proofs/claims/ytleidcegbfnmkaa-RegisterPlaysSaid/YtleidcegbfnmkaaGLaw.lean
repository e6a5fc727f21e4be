/-
  What registers hold behind deeds. Plain mathematics.
-/
import Derived.Test.YtleidcegbfnmkaaGPure
namespace Go.Proofs.Ytleidcegbfnmkaa.U
open Go.RowKit
set_option linter.unusedVariables false
set_option linter.unusedSimpArgs false
set_option maxRecDepth 100000

theorem holds_step (s : List Nm) (n m : Int) : holdsR (stepS s n) m = if m = n then (holdsR s (n - 1)).or (holdsR s n) else holdsR s m := by
  unfold stepS
  cases h : holdsR s (n - 1) with
  | none =>
    simp only [Option.none_or]
    split
    · rename_i e; rw [e]
    · rfl
  | some r =>
    simp only [Option.some_or]
    rw [holds_set]
theorem holds_shift (s : List Nm) : ∀ (j : Nat) (m : Int), holdsR (shiftR j s) m = if 57 - (j : Int) < m ∧ m ≤ 57 then (holdsR s (m - 1)).or (holdsR s m) else holdsR s m
  | 0, m => by
    rw [if_neg (by omega)]
    rfl
  | j + 1, m => by
    show holdsR (stepS (shiftR j s) (57 - (j : Int))) m = _
    rw [holds_step, holds_shift s j (57 - j - 1), holds_shift s j (57 - j), holds_shift s j m]
    by_cases hm : m = 57 - (j : Int)
    · subst hm
      rw [if_pos rfl, if_neg (by omega), if_neg (by omega), if_pos (by omega)]
    · rw [if_neg hm]
      by_cases h : 57 - (j : Int) < m ∧ m ≤ 57
      · rw [if_pos h, if_pos (by omega)]
      · rw [if_neg h, if_neg (by omega)]
theorem holds_fin (s : List Nm) (n m : Int) (r : Rg) : holdsR (finR s n r) m = if m = 34 ∨ m = n then some r else holdsR s m := by
  unfold finR
  rw [holds_set, holds_set]
  by_cases h : m = 34
  · rw [if_pos h, if_pos (.inl h)]
  · rw [if_neg h]
    by_cases h2 : m = n
    · rw [if_pos h2, if_pos (.inr h2)]
    · rw [if_neg h2, if_neg (by rintro (e | e); exact h e; exact h2 e)]
/-- a register's name -/
def nmB (n : Int) : Bool := decide (n = 34) || decide (n = 45) || (decide (48 ≤ n) && decide (n ≤ 57)) || littleR n
theorem nmB_name {n : Int} (h : nmB n = true) : nameG n = n ∧ mayG n = true := by
  unfold nmB littleR at h
  simp only [Bool.or_eq_true, Bool.and_eq_true, decide_eq_true_eq] at h
  have e : (if n = 0 then (34 : Int) else n) = n := if_neg (by omega)
  have hb : bigR n = false := by unfold bigR; simp; omega
  constructor
  · unfold nameG
    rw [e, hb]
    rfl
  · unfold mayG littleR
    simp only [Bool.or_eq_true, Bool.and_eq_true, decide_eq_true_eq]
    omega
theorem nmB_some {s : List Nm} {n : Int} {r : Rg} (h : nmB n = true) (hh : holdsR s n = some r) : getR s n = (r, 0) := by
  have h2 := nmB_name h
  unfold getR
  rw [h2.1, if_pos h2.2, hh]
theorem nmB_none {s : List Nm} {n : Int} (h : nmB n = true) (hh : holdsR s n = none) : getR s n = (rg0, 26) := by
  have h2 := nmB_name h
  unfold getR
  rw [h2.1, if_pos h2.2, hh]
theorem get_zero (s : List Nm) : getR s 0 = getR s 34 := rfl
/-- registers whose names are names -/
def OkN (s : List Nm) : Prop := ∀ x ∈ s, nmB x.1 = true
theorem OkN.nil : OkN [] := fun x hx => by cases hx
theorem OkN.set {s : List Nm} (h : OkN s) (hs : s.Pairwise (fun a b => a.1 < b.1)) {n : Int} {r : Rg} (hn : nmB n = true) : OkN (setR s n r) := by
  intro x hx
  rcases (setR_mem hs x).1 hx with e | e
  · exact h x e.1
  · rw [e]; exact hn
theorem OkN.fin {s : List Nm} (h : OkN s) (hs : s.Pairwise (fun a b => a.1 < b.1)) {n : Int} {r : Rg} (hn : nmB n = true) : OkN (finR s n r) := (h.set hs hn).set (setR_sorted hs) (by decide)
theorem shift_keeps {s : List Nm} (h : OkN s) (hs : s.Pairwise (fun a b => a.1 < b.1)) : ∀ j : Nat, j ≤ 8 → OkN (shiftR j s) ∧ (shiftR j s).Pairwise (fun a b => a.1 < b.1)
  | 0, _ => ⟨h, hs⟩
  | j + 1, hj => by
    have ih := shift_keeps h hs j (by omega)
    show OkN (stepS (shiftR j s) (57 - (j : Int))) ∧ _
    unfold stepS
    show _ ∧ (stepS (shiftR j s) (57 - (j : Int))).Pairwise _
    unfold stepS
    cases holdsR (shiftR j s) (57 - (j : Int) - 1) with
    | none => exact ih
    | some r => exact ⟨ih.1.set ih.2 (by unfold nmB; simp; omega), setR_sorted ih.2⟩
theorem put_names {s : List Nm} (h : OkN s) (hs : OkS s) (n : Int) (r : Rg) (d : Bool) : OkN (putR s n r d).1 := by
  have hp := hs.1
  unfold putR
  by_cases hb : badR n r = true
  · rw [if_pos hb]; exact h
  rw [if_neg hb]
  by_cases h95 : n = 95
  · rw [if_pos h95]; exact h
  rw [if_neg h95]
  by_cases hbig : bigR n = true
  · rw [if_pos hbig]
    have hb2 := hbig
    unfold bigR at hb2
    simp only [Bool.and_eq_true, decide_eq_true_eq] at hb2
    split
    · exact h
    · exact h.fin hp (by unfold nmB littleR; simp; omega)
  rw [if_neg hbig]
  by_cases hl : littleR n = true
  · rw [if_pos hl]; exact h.fin hp (by unfold nmB; rw [hl]; simp)
  rw [if_neg hl]
  split
  · exact h.fin hp (by decide)
  · split
    · have := shift_keeps h hp 8 (Nat.le_refl _)
      exact this.1.fin this.2 (by decide)
    · exact h.fin hp (by decide)
theorem mem_holds {s : List Nm} (hs : s.Pairwise (fun a b => a.1 < b.1)) {x : Nm} (hx : x ∈ s) : holdsR s x.1 = some x.2 := by
  unfold holdsR
  obtain ⟨i, hi, rfl⟩ := List.getElem_of_mem hx
  rw [List.find?_eq_some_iff_getElem.2 ⟨by simp, i, hi, rfl, fun j hj => ?_⟩]
  · rfl
  · have := List.pairwise_iff_getElem.1 hs j i (by omega) hi hj
    simp only [beq_iff_eq, Bool.not_eq_true', beq_eq_false_iff_ne, ne_eq]
    omega
/-- what is put under a letter, as RegisterThere puts it -/
theorem put_letter (s : List Nm) {n : Int} {r : Rg} (d : Bool) (hn : littleR n = true) (hr : r.ok) : putR s n r d = (finR s n r, 0) := by
  have h2 := hn
  unfold littleR at h2
  simp only [Bool.and_eq_true, decide_eq_true_eq] at h2
  have hbad : badR n r = false := by
    have := hr.1
    have := hr.2.1
    have := hr.2.2.2
    unfold badR
    rw [hn]
    simp
    omega
  have hno : normR r = r := by unfold normR; rw [if_neg hr.2.2.1]
  unfold putR
  rw [hbad, if_neg (by simp), if_neg (by omega), if_neg (by unfold bigR; simp; omega), if_pos hn, hno]
/-- texts of one line grow -/
theorem join_one (a b : List Int) : joinR ⟨0, [a]⟩ ⟨0, [b]⟩ = ⟨0, [a ++ b]⟩ := by simp [joinR]
/-- deletes of lines shift: W is what was deleted, the last one first -/
def Numb (s : List Nm) (W : List Rg) : Prop := ∀ i : Nat, i < 9 → holdsR s (49 + (i : Int)) = W[i]?
theorem numb_nil : Numb [] [] := fun i _ => by simp [holdsR]
theorem numb_del {s : List Nm} {W : List Rg} (h : Numb s W) (r : Rg) : Numb (finR (shiftR 8 s) 49 r) (r :: W) := by
  intro i hi
  rw [holds_fin]
  cases i with
  | zero => rw [if_pos (by simp)]; rfl
  | succ i =>
    rw [if_neg (by omega), holds_shift, if_pos (by omega), List.getElem?_cons_succ]
    have h1 := h i (by omega)
    have h2 := h (i + 1) (by omega)
    rw [show (49 : Int) + ((i + 1 : Nat) : Int) - 1 = 49 + (i : Int) by omega, h1, h2]
    by_cases hl : i < W.length
    · rw [List.getElem?_eq_getElem hl]; rfl
    · rw [List.getElem?_eq_none (by omega), List.getElem?_eq_none (by omega)]; rfl
theorem numb_yank {s : List Nm} {W : List Rg} (h : Numb s W) (r : Rg) : Numb (finR s 48 r) W := by
  intro i hi
  rw [holds_fin, if_neg (by omega), h i hi]
end Go.Proofs.Ytleidcegbfnmkaa.U
