/-
  A set's items, up to where it ends. No program here.
-/
import Derived.Test.YtkjiobbkbhmijaaRSet
import Derived.Test.YtkjiobbkbhmijaaRfNum
namespace Go.Proofs.Ytkjiobbkbhmijaa.U
set_option linter.unusedVariables false
set_option linter.unusedSimpArgs false

theorem items_dead : ∀ (f : Nat) (acc : List (Int × Int)) (l : List Int), (∀ x ∈ l.drop 1, x ≠ 93) → (acc ≠ [] → ∀ x ∈ l, x ≠ 93) → items f acc l = .error 10
  | 0, acc, l, h, k => rfl
  | f + 1, acc, l, h, k => by
    cases l with
    | nil => exact items_none f acc
    | cons c l1 =>
      have hb : (!acc.isEmpty && pre [93] (c :: l1)) = false := by
        by_cases ha : acc = []
        · subst ha; rfl
        · have := k ha c (by simp)
          have e : pre [93] (c :: l1) = false := by simp [pre, List.isPrefixOf]; omega
          rw [e]; simp
      rw [items_step f acc c l1 hb]
      have hs : ∀ x ∈ itemL l1, x ≠ 93 := by
        intro x hx
        unfold itemL at hx
        split at hx
        · exact h x (by simpa using List.mem_of_mem_drop hx)
        · exact h x (by simpa using hx)
      exact items_dead f _ _ (fun x hx => hs x (List.mem_of_mem_drop hx)) (fun _ => hs)
theorem getD_drop (p : List Int) (k m : Nat) : (p.drop k).getD m 0 = p.getD (k + m) 0 := by
  simp only [List.getD_eq_getElem?_getD, List.getElem?_drop]
theorem rng {p : List Int} {i e : Nat} (hie : i < e) (he : e < p.length) (h93 : p.getD e 0 = 93) (hno : ∀ j, i + 1 ≤ j → j < e → p.getD j 0 ≠ 93) :
    isRange (p.drop (i + 1)) = (decide (i + 2 < e) && (p.getD (i + 1) 0 == 45)) := by
  unfold isRange
  rw [getD_drop, getD_drop, List.length_drop, Nat.add_zero]
  have hB : i + 2 < e → p.getD (i + 1 + 1) 0 ≠ 93 := fun h => hno (i + 1 + 1) (by omega) (by omega)
  have hA : p.getD (i + 1) 0 = 45 → i + 1 ≠ e := by rintro h rfl; rw [h] at h93; omega
  have hC : i + 1 + 1 = e → p.getD (i + 1 + 1) 0 = 93 := by rintro rfl; exact h93
  obtain ⟨A, hAe⟩ : ∃ A, p.getD (i + 1) 0 = A := ⟨_, rfl⟩
  obtain ⟨B, hBe⟩ : ∃ B, p.getD (i + 1 + 1) 0 = B := ⟨_, rfl⟩
  rw [hAe] at hA ⊢
  rw [hBe] at hB hC ⊢
  clear hAe hBe hno h93
  by_cases h45 : A = 45
  · have h1 := hA h45
    by_cases h2 : i + 2 < e
    · have h3 := hB h2
      have h4 : 2 ≤ p.length - (i + 1) := by omega
      simp [h45, h2, h4, h3]
    · have h3 := hC (by omega)
      simp [h2, h3]
  · have h4 : (A == 45) = false := by simpa using h45
    rw [h4]
    simp
theorem pre93 (c : Int) (l : List Int) (h : c ≠ 93) : pre [93] (c :: l) = false := by simp [pre, List.isPrefixOf]; omega
theorem items_go {p : List Int} {i e : Nat} (hie : i < e) (he : e < p.length) (h93 : p.getD e 0 = 93) (hno : ∀ j, i + 1 ≤ j → j < e → p.getD j 0 ≠ 93) (f : Nat) (acc : List (Int × Int)) (ha : acc ≠ [] → p.getD i 0 ≠ 93) :
    items (f + 1) acc (p.drop i) = if (decide (i + 2 < e) && (p.getD (i + 1) 0 == 45)) = true then items f (acc ++ [(p.getD i 0, p.getD (i + 2) 0)]) (p.drop (i + 3)) else items f (acc ++ [(p.getD i 0, p.getD i 0)]) (p.drop (i + 1)) := by
  rw [drop_at (by omega : i < p.length), items_step]
  · unfold itemV itemL
    rw [rng hie he h93 hno]
    split
    · rw [List.drop_drop, getD_drop]
    · rfl
  · by_cases h0 : acc = []
    · subst h0; rfl
    · have := ha h0
      rw [pre93 _ _ this]; simp
theorem items_at {p : List Int} {e : Nat} (he : e < p.length) (h93 : p.getD e 0 = 93) (f : Nat) (acc : List (Int × Int)) (ha : acc ≠ []) : items (f + 1) acc (p.drop e) = .ok (acc, p.drop (e + 1)) := by
  rw [drop_at he, h93, items_end]
  · rfl
  · cases acc with
    | nil => exact absurd rfl ha
    | cons x l => rfl
/-- the items that are left are read: what has been read stays -/
theorem items_ok {p : List Int} {e : Nat} (he : e < p.length) (h93 : p.getD e 0 = 93) : ∀ (f : Nat) (acc : List (Int × Int)) (i : Nat), i ≤ e → (acc = [] → i < e) → (∀ j, i + 1 ≤ j → j < e → p.getD j 0 ≠ 93) → (acc ≠ [] → i < e → p.getD i 0 ≠ 93) → e - i < f → ∃ st, items f acc (p.drop i) = .ok (acc ++ st, p.drop (e + 1))
  | 0, acc, i, h1, h2, h3, h4, h5 => by omega
  | f + 1, acc, i, h1, h2, h3, h4, h5 => by
    by_cases hie : i = e
    · subst hie
      exact ⟨[], by rw [items_at he h93 f acc (fun e => by have := h2 e; omega), List.append_nil]⟩
    · rw [items_go (by omega) he h93 h3 f acc (fun ha => h4 ha (by omega))]
      split
      · rename_i hc
        simp only [Bool.and_eq_true, decide_eq_true_eq] at hc
        obtain ⟨st, hst⟩ := items_ok he h93 f (acc ++ [(p.getD i 0, p.getD (i + 2) 0)]) (i + 3) (by omega) (fun e => by simp at e) (fun j hj hje => h3 j (by omega) hje) (fun _ hi => h3 (i + 3) (by omega) hi) (by omega)
        exact ⟨(p.getD i 0, p.getD (i + 2) 0) :: st, by rw [hst]; simp⟩
      · obtain ⟨st, hst⟩ := items_ok he h93 f (acc ++ [(p.getD i 0, p.getD i 0)]) (i + 1) (by omega) (fun e => by simp at e) (fun j hj hje => h3 j (by omega) hje) (fun _ hi => h3 (i + 1) (by omega) hi) (by omega)
        exact ⟨(p.getD i 0, p.getD i 0) :: st, by rw [hst]; simp⟩
theorem isDown_app (a b : List (Int × Int)) : isDown (a ++ b) = (isDown a || isDown b) := by simp [isDown, List.any_append]
end Go.Proofs.Ytkjiobbkbhmijaa.U
