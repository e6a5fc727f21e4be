/-
  The walk of CellParts.
-/
import Derived.Test.YthceooehndiglaaDoorCLaws3
namespace Go.Proofs.YthceooehndiglaaDoor.U
open Go.RowKit
set_option linter.unusedVariables false
set_option linter.unusedSimpArgs false

def okR (x : Int) : Prop := validB x = true ∧ 32 ≤ x ∧ (x < 127 ∨ 160 ≤ x)
def wsum : List Int → Nat
  | [] => 0
  | x :: r => widthM x + wsum r
theorem wsum_append : ∀ (a b : List Int), wsum (a ++ b) = wsum a + wsum b
  | [], b => by simp [wsum]
  | x :: a, b => by simp [wsum, wsum_append a b]; omega
theorem wsum_zero : ∀ (a : List Int), (∀ x ∈ a, zeroB x = true) → wsum a = 0
  | [], _ => rfl
  | x :: a, h => by
    have h1 := (widthM_zero x).2 (h x (by simp))
    have h2 := wsum_zero a (fun y hy => h y (by simp [hy]))
    simp [wsum, h1, h2]
theorem wsum_take {xs : List Int} {k : Nat} (h : k < xs.length) : wsum (xs.take (k + 1)) = wsum (xs.take k) + widthM (xs.getD k 0) := by
  rw [List.take_add_one, wsum_append, List.getD_eq_getElem?_getD, List.getElem?_eq_getElem h]
  simp [wsum]
theorem wsum_le : ∀ (a : List Int), wsum a ≤ 2 * a.length
  | [] => by simp [wsum]
  | x :: a => by have := wsum_le a; have := widthM_le x; simp [wsum]; omega

theorem width_plain {x : Int} (h : 32 ≤ x) (h2 : x ≤ 767) (h3 : x ≠ 127) : widthM x = 1 := by
  unfold widthM
  have hz : zeroB x = false := by unfold zeroB; simp only [decide_eq_false_iff_not]; omega
  have hw : wideB x = false := by unfold wideB; simp only [decide_eq_false_iff_not]; omega
  have hc : ctlB x = false := by unfold ctlB; simp only [decide_eq_false_iff_not]; omega
  rw [hz, hw, hc]; simp
theorem width_bad {x : Int} (h : validB x = false) : widthM x = 1 := by
  unfold validB at h
  simp only [decide_eq_false_iff_not] at h
  unfold widthM
  have hz : zeroB x = false := by unfold zeroB; simp only [decide_eq_false_iff_not]; omega
  have hw : wideB x = false := by unfold wideB; simp only [decide_eq_false_iff_not]; omega
  have hc : ctlB x = false := by unfold ctlB; simp only [decide_eq_false_iff_not]; omega
  rw [hz, hw, hc]; simp
theorem okR_zero {x : Int} (h : zeroB x = true) : okR x := by
  unfold zeroB at h
  simp only [decide_eq_true_eq] at h
  refine ⟨?_, by omega, by omega⟩
  unfold validB; simp only [decide_eq_true_eq]; omega
theorem width_fffd : widthM 65533 = 1 := by decide
theorem okR_fffd : okR 65533 := ⟨by decide, by omega, by omega⟩
theorem okR_32 : okR 32 := ⟨by decide, by omega, by omega⟩
theorem width_32 : widthM 32 = 1 := by decide

theorem show_ok (r : Int) : (∀ x ∈ showM r, okR x) ∧ wsum (showM r) = widthM r := by
  unfold showM
  by_cases hc : ctlB r = true
  · rw [if_pos hc, width_ctl hc]
    unfold ctlB at hc
    simp only [decide_eq_true_eq] at hc
    have key : ∀ y : Int, 63 ≤ y → y ≤ 95 → okR y ∧ widthM y = 1 := fun y h1 h2 => by
      refine ⟨⟨?_, by omega, by omega⟩, width_plain (by omega) (by omega) (by omega)⟩
      unfold validB; simp only [decide_eq_true_eq]; omega
    have k1 := key 94 (by omega) (by omega)
    have k2 := key (if 64 ≤ r then r - 64 else r + 64) (by split <;> omega) (by split <;> omega)
    refine ⟨fun x hx => ?_, ?_⟩
    · simp only [List.mem_cons, List.not_mem_nil, or_false] at hx
      rcases hx with rfl | rfl
      · exact k1.1
      · exact k2.1
    · simp only [wsum, k1.2, k2.2]
  · rw [if_neg hc]
    have hc' : ctlB r = false := by simpa using hc
    by_cases hm : (128 ≤ r ∧ r ≤ 159) ∨ validB r = false
    · rw [if_pos (by simpa using hm)]
      refine ⟨fun x hx => by simp only [List.mem_singleton] at hx; subst hx; exact okR_fffd, ?_⟩
      have e : widthM r = 1 := by
        rcases hm with h | h
        · exact width_plain (by omega) (by omega) (by omega)
        · exact width_bad h
      simp only [wsum, width_fffd, e]
    · rw [if_neg (by simpa using hm)]
      have hv : validB r = true := by cases h : validB r; exact absurd (Or.inr h) hm; rfl
      have h1 : ¬ (128 ≤ r ∧ r ≤ 159) := fun h => hm (.inl h)
      unfold ctlB at hc'
      simp only [decide_eq_false_iff_not] at hc'
      have hv2 := hv
      unfold validB at hv2
      simp only [decide_eq_true_eq] at hv2
      refine ⟨fun x hx => by simp only [List.mem_singleton] at hx; subst hx; exact ⟨hv, by omega, by omega⟩, by simp [wsum]⟩

theorem show_pos (r : Int) : 1 ≤ (showM r).length := by rw [show_len]; split <;> omega

theorem mid_zero {line : List Int} {i j : Nat} (h : ∀ m, i ≤ m → m < j → zeroB (rn line m) = true) : ∀ x ∈ (line.take j).drop i, zeroB x = true := by
  intro x hx
  obtain ⟨m, hm, rfl⟩ := List.getElem_of_mem hx
  simp only [List.length_drop, List.length_take] at hm
  have := h (i + m) (by omega) (by omega)
  unfold rn at this
  rw [List.getD_eq_getElem?_getD, List.getElem?_eq_getElem (by omega)] at this
  simpa using this

/-- what is shown of a unit is as wide as it, and plain -/
theorem text_ok {line : List Int} {tab : Nat} (ht : 1 ≤ tab ∧ tab ≤ 64) {u : Un} (h1 : u.fr < u.to) (h2 : u.wd = width1 line tab u.col u.fr) (h3 : ∀ j, u.fr < j → j < u.to → zeroB (rn line j) = true) :
    (∀ x ∈ textM line u, okR x) ∧ wsum (textM line u) = u.wd ∧ 1 ≤ (textM line u).length := by
  unfold textM
  by_cases h9 : rn line u.fr = 9
  · rw [if_pos h9]
    have hw : 1 ≤ u.wd := by rw [h2]; exact width1_pos ht
    refine ⟨fun x hx => by rw [List.mem_replicate] at hx; rw [hx.2]; exact okR_32, ?_, by simpa using hw⟩
    have : ∀ n, wsum (List.replicate n 32) = n := fun n => by
      induction n with
      | zero => rfl
      | succ n ih => rw [List.replicate_succ]; simp only [wsum, ih, width_32]; omega
    exact this _
  rw [if_neg h9]
  by_cases hz : zeroB (rn line u.fr) = true
  · rw [if_pos hz]
    have hm := mid_zero (line := line) (i := u.fr) (j := u.to) (fun m hm1 hm2 => by
      by_cases e : m = u.fr
      · subst e; exact hz
      · exact h3 m (by omega) hm2)
    refine ⟨fun x hx => ?_, ?_, by simp⟩
    · rcases List.mem_cons.1 hx with rfl | hx
      · exact okR_32
      · exact okR_zero (hm x hx)
    · simp only [wsum, width_32, wsum_zero _ hm]
      rw [h2]; unfold width1; rw [if_neg h9, if_pos hz]
  · rw [if_neg hz]
    have hm := mid_zero (line := line) (i := u.fr + 1) (j := u.to) (fun m hm1 hm2 => h3 m (by omega) hm2)
    obtain ⟨s1, s2⟩ := show_ok (rn line u.fr)
    refine ⟨fun x hx => ?_, ?_, ?_⟩
    · rcases List.mem_append.1 hx with hx | hx
      · exact s1 x hx
      · exact okR_zero (hm x hx)
    · rw [wsum_append, s2, wsum_zero _ hm, h2]; unfold width1; rw [if_neg h9, if_neg hz]; omega
    · have := show_pos (rn line u.fr); simp only [List.length_append]; omega
end Go.Proofs.YthceooehndiglaaDoor.U
