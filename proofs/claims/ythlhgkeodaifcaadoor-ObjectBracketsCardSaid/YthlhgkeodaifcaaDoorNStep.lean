/-
  The places, one by one: which comes next, which came before; what is sought among those behind a place, ahead of it. No program here.
-/
import Derived.Test.YthlhgkeodaifcaaDoorNPure
namespace Go.Proofs.YthlhgkeodaifcaaDoor.U
set_option linter.unusedVariables false
set_option linter.unusedSimpArgs false

theorem aheadP_trans {p q r : Pl} (h : aheadP p q = true) (k : aheadP q r = true) : aheadP p r = true := by
  rw [aheadP_iff] at *; omega
theorem pl_lt {P : List Pl} (hs : P.Pairwise fun p q => aheadP p q = true) {i j : Nat} {p q : Pl} (hi : P[i]? = some p) (hj : P[j]? = some q) (h : i < j) : aheadP p q = true := by
  obtain ⟨hi1, hi2⟩ := List.getElem?_eq_some_iff.1 hi
  obtain ⟨hj1, hj2⟩ := List.getElem?_eq_some_iff.1 hj
  have := List.pairwise_iff_getElem.1 hs i j hi1 hj1 h
  rwa [hi2, hj2] at this
theorem pl_lt_iff {P : List Pl} (hs : P.Pairwise fun p q => aheadP p q = true) {i j : Nat} {p q : Pl} (hi : P[i]? = some p) (hj : P[j]? = some q) : aheadP p q = true ↔ i < j := by
  refine ⟨fun h => ?_, pl_lt hs hi hj⟩
  rcases Nat.lt_trichotomy i j with h1 | h1 | h1
  · exact h1
  · subst h1
    rw [hi] at hj
    cases hj
    rw [aheadP_irr] at h
    cases h
  · have := pl_lt hs hj hi h1
    rw [aheadP_asym this] at h
    cases h
theorem pl_next {P : List Pl} (hs : P.Pairwise fun p q => aheadP p q = true) {i : Nat} {p q : Pl} (hi : P[i]? = some p) (hq : q ∈ P) (hpq : aheadP p q = true) (hb : ∀ x ∈ P, aheadP p x = true → aheadP x q = false) : P[i + 1]? = some q := by
  obtain ⟨j, hj1, hj2⟩ := List.mem_iff_getElem.1 hq
  have hj : P[j]? = some q := List.getElem?_eq_some_iff.2 ⟨hj1, hj2⟩
  have hij := (pl_lt_iff hs hi hj).1 hpq
  have hx : P[i + 1]? = some P[i + 1] := List.getElem?_eq_getElem (by omega)
  have h1 := hb P[i + 1] (List.getElem_mem _) (pl_lt hs hi hx (by omega))
  have : ¬ i + 1 < j := fun h => by rw [pl_lt hs hx hj h] at h1; cases h1
  have : i + 1 = j := by omega
  rw [this]; exact hj
theorem pl_prev {P : List Pl} (hs : P.Pairwise fun p q => aheadP p q = true) {i : Nat} {p q : Pl} (hi : P[i]? = some p) (hq : q ∈ P) (hpq : aheadP q p = true) (hb : ∀ x ∈ P, aheadP x p = true → aheadP q x = false) : 0 < i ∧ P[i - 1]? = some q := by
  obtain ⟨j, hj1, hj2⟩ := List.mem_iff_getElem.1 hq
  have hj : P[j]? = some q := List.getElem?_eq_some_iff.2 ⟨hj1, hj2⟩
  have hij := (pl_lt_iff hs hj hi).1 hpq
  refine ⟨by omega, ?_⟩
  have hil := (List.getElem?_eq_some_iff.1 hi).1
  have hx : P[i - 1]? = some P[i - 1] := List.getElem?_eq_getElem (by omega)
  have h1 := hb P[i - 1] (List.getElem_mem _) (pl_lt hs hx hi (by omega))
  have : ¬ j < i - 1 := fun h => by rw [pl_lt hs hj hx h] at h1; cases h1
  have : j = i - 1 := by omega
  rw [← this]; exact hj
/-- the next place -/
def sucP (L : List (List Int)) (p : Pl) : Pl := if p.2 + 1 < (lnL L p.1).length then (p.1, p.2 + 1) else (p.1 + 1, 0)
/-- the one before -/
def preP (L : List (List Int)) (p : Pl) : Pl := if 0 < p.2 then (p.1, p.2 - 1) else (p.1 - 1, (lnL L (p.1 - 1)).length - 1)
theorem last_eq {L : List (List Int)} (h : L ≠ []) : lastP L = (L.length - 1, (lnL L (L.length - 1)).length - 1) := by
  have hL := List.length_pos_iff.2 h
  have hm : ((L.length - 1, (lnL L (L.length - 1)).length - 1) : Pl) ∈ places L := places_mem.2 ⟨by simp only; omega, Nat.le_refl _⟩
  have h1 := lastP_max h hm
  by_cases e : lastP L = (L.length - 1, (lnL L (L.length - 1)).length - 1)
  · exact e
  · exfalso
    have h2 := aheadP_total h1 e
    obtain ⟨k1, k2⟩ := places_mem.1 (lastP_mem h)
    rw [aheadP_iff] at h2
    simp only at h2
    rcases h2 with h2 | ⟨h2, h3⟩
    · omega
    · rw [← h2] at k2; omega
theorem last_take {L : List (List Int)} {i : Nat} (h0 : 0 < i) (hi : i ≤ L.length) : lastP (L.take i) = (i - 1, (lnL L (i - 1)).length - 1) := by
  have hn : L.take i ≠ [] := by
    intro e
    have h1 : (L.take i).length = 0 := by rw [e]; rfl
    rw [List.length_take] at h1
    omega
  rw [last_eq hn, List.length_take, Nat.min_eq_left hi]
  congr 1
  unfold lnL
  rw [List.getD_eq_getElem?_getD, List.getD_eq_getElem?_getD, List.getElem?_take_of_lt (by omega)]
theorem suc_step {L : List (List Int)} {i : Nat} {p : Pl} (hi : (places L)[i]? = some p) (hl : p ≠ lastP L) : (places L)[i + 1]? = some (sucP L p) ∧ okP L (sucP L p) := by
  have hpm := List.mem_of_getElem? hi
  obtain ⟨h1, h2⟩ := places_mem.1 hpm
  have hL : L ≠ [] := by rintro rfl; simp at h1
  rw [last_eq hL] at hl
  have hok : okP L (sucP L p) := by
    unfold sucP
    split
    · rename_i h; exact ⟨h1, by simp only; omega⟩
    · rename_i h
      refine ⟨?_, by simp⟩
      simp only
      by_cases e : p.1 + 1 < L.length
      · exact e
      · exfalso
        apply hl
        have e1 : p.1 = L.length - 1 := by omega
        have e2 : p.2 = (lnL L (L.length - 1)).length - 1 := by rw [← e1]; omega
        exact Prod.ext e1 e2
  refine ⟨pl_next (places_sorted L) hi (places_mem.2 hok) ?_ ?_, hok⟩
  · rw [aheadP_iff]; unfold sucP; split <;> simp
  · intro x hx hp
    obtain ⟨k1, k2⟩ := places_mem.1 hx
    rw [aheadP_iff] at hp
    cases e : aheadP x (sucP L p) with
    | false => rfl
    | true =>
      exfalso
      rw [aheadP_iff] at e
      unfold sucP at e
      split at e
      · rename_i h; simp only at e; omega
      · rename_i h
        simp only at e
        rcases hp with hp | ⟨hp, hq⟩
        · omega
        · rw [← hp] at k2; omega
theorem pre_step {L : List (List Int)} {i : Nat} {p : Pl} (hi : (places L)[i]? = some p) (hl : p ≠ (0, 0)) : 0 < i ∧ (places L)[i - 1]? = some (preP L p) ∧ (p.2 = 0 → 0 < p.1) := by
  have hpm := List.mem_of_getElem? hi
  obtain ⟨h1, h2⟩ := places_mem.1 hpm
  have h0 : p.2 = 0 → 0 < p.1 := fun e => by
    rcases Nat.eq_zero_or_pos p.1 with h | h
    · exact absurd (Prod.ext h e) hl
    · exact h
  have hok : okP L (preP L p) := by
    unfold preP
    split
    · rename_i h; exact ⟨h1, by show p.2 - 1 ≤ (lnL L p.1).length - 1; omega⟩
    · rename_i h
      have := h0 (by omega)
      exact ⟨by simp only; omega, Nat.le_refl _⟩
  have hmain := pl_prev (places_sorted L) hi (places_mem.2 hok) (by
    rw [aheadP_iff]; unfold preP
    split
    · rename_i h; exact Or.inr ⟨rfl, by show p.2 - 1 < p.2; omega⟩
    · rename_i h; have := h0 (by omega); exact Or.inl (by show p.1 - 1 < p.1; omega)) (by
    intro x hx hp
    obtain ⟨k1, k2⟩ := places_mem.1 hx
    rw [aheadP_iff] at hp
    cases e : aheadP (preP L p) x with
    | false => rfl
    | true =>
      exfalso
      rw [aheadP_iff] at e
      unfold preP at e
      split at e
      · rename_i h; simp only at e; omega
      · rename_i h
        have := h0 (by omega)
        simp only at e
        rcases e with e | ⟨e, e2⟩
        · omega
        · rw [← e] at k2; omega)
  exact ⟨hmain.1, hmain.2, h0⟩
/-- the places behind p, the nearest first -/
def behL (L : List (List Int)) (p : Pl) : List Pl := (places L).filter (aheadP p)
/-- the places ahead of p, the nearest first -/
def befL (L : List (List Int)) (p : Pl) : List Pl := ((places L).filter fun x => aheadP x p).reverse
theorem beh_drop {L : List (List Int)} {i : Nat} {p : Pl} (hi : (places L)[i]? = some p) : behL L p = (places L).drop (i + 1) := by
  obtain ⟨h1, h2⟩ := List.getElem?_eq_some_iff.1 hi
  have := sorted_behind (places_sorted L) h1
  rw [h2] at this
  exact this
theorem bef_take {L : List (List Int)} {i : Nat} {p : Pl} (hi : (places L)[i]? = some p) : befL L p = ((places L).take i).reverse := by
  obtain ⟨h1, h2⟩ := List.getElem?_eq_some_iff.1 hi
  have := sorted_before (places_sorted L) h1
  rw [h2] at this
  unfold befL
  rw [this]
theorem find_filter {α : Type} (f g : α → Bool) : ∀ l : List α, (l.filter f).find? g = l.find? fun x => f x && g x
  | [] => rfl
  | a :: l => by
    rw [List.filter_cons, List.find?_cons]
    cases h : f a
    · simp [find_filter f g l]
    · simp [List.find?_cons, find_filter f g l]
theorem behind_find (L : List (List Int)) (kd : Int) (p : Pl) : behindP L kd p = ((behL L p).find? (isK L kd)).getD (lastP L) := by
  unfold behindP behL; rw [find_filter]
theorem before_find (L : List (List Int)) (kd : Int) (p : Pl) : beforeP L kd p = ((befL L p).find? (isK L kd)).getD (0, 0) := by
  unfold beforeP befL; rw [← List.filter_reverse, find_filter]
theorem beh_mem {L : List (List Int)} {p x : Pl} (h : x ∈ behL L p) : okP L x ∧ aheadP p x = true := by
  obtain ⟨h1, h2⟩ := List.mem_filter.1 h; exact ⟨places_mem.1 h1, h2⟩
theorem bef_mem {L : List (List Int)} {p x : Pl} (h : x ∈ befL L p) : okP L x ∧ aheadP x p = true := by
  obtain ⟨h1, h2⟩ := List.mem_filter.1 (List.mem_reverse.1 h); exact ⟨places_mem.1 h1, h2⟩
theorem find_congr {α : Type} {f g : α → Bool} : ∀ {l : List α}, (∀ x ∈ l, f x = g x) → l.find? f = l.find? g
  | [], _ => rfl
  | a :: l, h => by
    rw [List.find?_cons, List.find?_cons, h a (by simp), find_congr (l := l) (fun x hx => h x (by simp [hx]))]
/-- as far as it was gone: nothing was found -/
theorem find_none_pre {α : Type} {f : α → Bool} {us pre : List α} {x : α} (h : pre ++ [x] <+: us) (hn : ∀ y ∈ pre, f y = false) (hx : f x = true) : us.find? f = some x := by
  obtain ⟨t, rfl⟩ := h
  rw [List.append_assoc, List.find?_append, List.find?_eq_none.2 (fun y hy => by simp [hn y hy])]
  simp [hx]
end Go.Proofs.YthlhgkeodaifcaaDoor.U
