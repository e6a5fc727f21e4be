/-
  The way to the bracket that belongs to one, place by place. No program here.
-/
import Derived.Test.YthlhgkeodaifcaaDoorBBase
import Derived.Test.YthlhgkeodaifcaaDoorOLawP
namespace Go.Proofs.YthlhgkeodaifcaaDoor.U
set_option linter.unusedVariables false
set_option linter.unusedSimpArgs false

theorem filter_head {R : List (Pl × Int)} (hs : R.Pairwise fun a b => aheadP a.1 b.1 = true) {e : Pl × Int} (he : e ∈ R) {f g : Pl × Int → Bool} (hf : ∀ x ∈ R, f x = true ↔ (x.1 = e.1 ∨ aheadP e.1 x.1 = true)) (hg : ∀ x ∈ R, g x = true ↔ aheadP e.1 x.1 = true) : R.filter f = e :: R.filter g := by
  obtain ⟨A, B, rfl⟩ := List.append_of_mem he
  obtain ⟨h1, h2, h3⟩ := List.pairwise_append.1 hs
  obtain ⟨h4, h5⟩ := List.pairwise_cons.1 h2
  have fA : A.filter f = [] := List.filter_eq_nil_iff.2 fun x hx h => by
    have hlt := h3 x hx e (by simp)
    rcases (hf x (by simp [hx])).1 h with h6 | h6
    · rw [h6, aheadP_irr] at hlt; cases hlt
    · rw [aheadP_asym hlt] at h6; cases h6
  have gA : A.filter g = [] := List.filter_eq_nil_iff.2 fun x hx h => by
    have hlt := h3 x hx e (by simp)
    have h6 := (hg x (by simp [hx])).1 h
    rw [aheadP_asym hlt] at h6; cases h6
  have fe : f e = true := (hf e (by simp)).2 (Or.inl rfl)
  have ge : ¬ g e = true := fun h => by have := (hg e (by simp)).1 h; rw [aheadP_irr] at this; cases this
  have fB : B.filter f = B := List.filter_eq_self.2 fun x hx => (hf x (by simp [hx])).2 (Or.inr (h4 x hx))
  have gB : B.filter g = B := List.filter_eq_self.2 fun x hx => (hg x (by simp [hx])).2 (h4 x hx)
  rw [List.filter_append, List.filter_append, fA, gA, List.filter_cons_of_pos fe, List.filter_cons_of_neg ge, fB, gB]
  rfl
theorem filter_last {R : List (Pl × Int)} (hs : R.Pairwise fun a b => aheadP a.1 b.1 = true) {e : Pl × Int} (he : e ∈ R) {f g : Pl × Int → Bool} (hf : ∀ x ∈ R, f x = true ↔ (x.1 = e.1 ∨ aheadP x.1 e.1 = true)) (hg : ∀ x ∈ R, g x = true ↔ aheadP x.1 e.1 = true) : R.filter f = R.filter g ++ [e] := by
  obtain ⟨A, B, rfl⟩ := List.append_of_mem he
  obtain ⟨h1, h2, h3⟩ := List.pairwise_append.1 hs
  obtain ⟨h4, h5⟩ := List.pairwise_cons.1 h2
  have fB : B.filter f = [] := List.filter_eq_nil_iff.2 fun x hx h => by
    have hlt := h4 x hx
    rcases (hf x (by simp [hx])).1 h with h6 | h6
    · rw [h6, aheadP_irr] at hlt; cases hlt
    · rw [aheadP_asym hlt] at h6; cases h6
  have gB : B.filter g = [] := List.filter_eq_nil_iff.2 fun x hx h => by
    have hlt := h4 x hx
    have h6 := (hg x (by simp [hx])).1 h
    rw [aheadP_asym hlt] at h6; cases h6
  have fe : f e = true := (hf e (by simp)).2 (Or.inl rfl)
  have ge : ¬ g e = true := fun h => by have := (hg e (by simp)).1 h; rw [aheadP_irr] at this; cases this
  have fA : A.filter f = A := List.filter_eq_self.2 fun x hx => (hf x (by simp [hx])).2 (Or.inr (h3 x hx e (by simp)))
  have gA : A.filter g = A := List.filter_eq_self.2 fun x hx => (hg x (by simp [hx])).2 (h3 x hx e (by simp))
  rw [List.filter_append, List.filter_append, fA, gA, List.filter_cons_of_pos fe, List.filter_cons_of_neg ge, fB, gB]
  simp
/-- the runes from a place on; those ahead of a place, the next one first -/
def remF (L : List (List Int)) (i j : Nat) : List (Pl × Int) := (runesP L).filter fun e => !aheadP e.1 (i, j)
def remB (L : List (List Int)) (i j : Nat) : List (Pl × Int) := ((runesP L).filter fun e => aheadP e.1 (i, j)).reverse
theorem ahead_false {p q : Pl} : (!aheadP p q) = true ↔ ¬ (p.1 < q.1 ∨ (p.1 = q.1 ∧ p.2 < q.2)) := by
  rw [Bool.not_eq_true', ← Bool.not_eq_true, aheadP_iff]
theorem pl_eq {p : Pl} {i j : Nat} : p = (i, j) ↔ p.1 = i ∧ p.2 = j := by
  obtain ⟨a, b⟩ := p
  simp
theorem remF_in {L : List (List Int)} {i j : Nat} (h : runeP L (i, j)) : remF L i j = ((i, j), (lnL L i).getD j 0) :: remF L i (j + 1) := by
  refine filter_head (runesP_sorted L) (runesP_mem.2 ⟨h, rfl⟩) (fun x _ => ?_) (fun x _ => ?_)
  · rw [ahead_false, aheadP_iff, pl_eq]; simp only; omega
  · rw [ahead_false, aheadP_iff]; simp only; omega
theorem remF_end {L : List (List Int)} {i j : Nat} (h : (lnL L i).length ≤ j) : remF L i j = remF L (i + 1) 0 := by
  refine List.filter_congr fun x hx => ?_
  have h1 := (runesP_mem.1 hx).1.2
  rw [Bool.eq_iff_iff, ahead_false, ahead_false]
  simp only
  by_cases e : x.1.1 = i
  · rw [e] at h1; omega
  · omega
theorem remF_out {L : List (List Int)} {i j : Nat} (h : L.length ≤ i) : remF L i j = [] := by
  refine List.filter_eq_nil_iff.2 fun x hx h2 => ?_
  have h1 := (runesP_mem.1 hx).1.1
  rw [ahead_false] at h2
  simp only at h2
  omega
theorem remB_in {L : List (List Int)} {i j : Nat} (h : runeP L (i, j)) : remB L i (j + 1) = ((i, j), (lnL L i).getD j 0) :: remB L i j := by
  unfold remB
  rw [filter_last (runesP_sorted L) (e := ((i, j), (lnL L i).getD j 0)) (g := fun e => aheadP e.1 (i, j)) (runesP_mem.2 ⟨h, rfl⟩) (fun x _ => ?_) (fun x _ => Iff.rfl), List.reverse_append]
  · rfl
  · rw [aheadP_iff, aheadP_iff, pl_eq]; simp only; omega
theorem remB_end {L : List (List Int)} {i : Nat} : remB L (i + 1) 0 = remB L i (lnL L i).length := by
  unfold remB
  congr 1
  refine List.filter_congr fun x hx => ?_
  have h1 := (runesP_mem.1 hx).1.2
  rw [Bool.eq_iff_iff, aheadP_iff, aheadP_iff]
  simp only
  by_cases e : x.1.1 = i
  · rw [e] at h1; omega
  · omega
theorem remB_out (L : List (List Int)) : remB L 0 0 = [] := by
  unfold remB
  rw [List.reverse_eq_nil_iff]
  refine List.filter_eq_nil_iff.2 fun x hx h2 => ?_
  rw [aheadP_iff] at h2
  simp only at h2
  omega
theorem from_rem (L : List (List Int)) (i j : Nat) : fromP L (i, j) = remF L i j := rfl
theorem upto_rem (L : List (List Int)) (i j : Nat) : uptoP L (i, j) = remB L i (j + 1) := by
  unfold uptoP remB
  congr 1
  refine List.filter_congr fun x hx => ?_
  rw [Bool.eq_iff_iff, ahead_false, aheadP_iff]
  simp only
  omega
theorem rowPl_lenB (i : Nat) (x : List Int) : (rowPl i x).length ≤ x.length + 1 := by
  unfold rowPl
  split
  · simp
  · simp
theorem plFrom_lenB : ∀ (L : List (List Int)) (i : Nat), (plFrom i L).length ≤ sizeN (lens L)
  | [], i => by simp [plFrom]
  | x :: L, i => by
    have h1 := rowPl_lenB i x
    have h2 := plFrom_lenB L (i + 1)
    have h3 : sizeN (lens (x :: L)) = x.length + 1 + sizeN (lens L) := by simp [lens, sizeN]
    rw [plFrom, List.length_append, h3]
    omega
theorem runesP_len (L : List (List Int)) : (runesP L).length ≤ sizeN (lens L) := by
  unfold runesP
  rw [List.length_map]
  exact Nat.le_trans (List.length_filter_le _ _) (plFrom_lenB L 0)
/-- where one stands on the way: to which side, at which place (perhaps outside), what is still to come -/
def Stand (L : List (List Int)) (s li ci : Int) (R : List (Pl × Int)) : Prop :=
  (s = 1 ∧ ∃ i j : Nat, li = (i : Int) ∧ ci = (j : Int) ∧ R = remF L i j) ∨
  (s = -1 ∧ ∃ i j : Nat, li = (i : Int) ∧ ci = (j : Int) - 1 ∧ i < L.length ∧ j ≤ (lnL L i).length ∧ R = remB L i j) ∨
  (s = -1 ∧ li = -1 ∧ ci = 0 ∧ R = [])
theorem Stand.side {L : List (List Int)} {s li ci : Int} {R : List (Pl × Int)} (h : Stand L s li ci R) : s = 1 ∨ s = -1 := by
  rcases h with ⟨h, -⟩ | ⟨h, -⟩ | ⟨h, -⟩
  · exact .inl h
  · exact .inr h
  · exact .inr h
/-- at a rune -/
theorem Stand.inside {L : List (List Int)} {s : Int} {i j : Nat} {R : List (Pl × Int)} (h : Stand L s (i : Int) (j : Int) R) (hi : i < L.length) (hj : j < (lnL L i).length) :
    ∃ R', R = ((i, j), (lnL L i).getD j 0) :: R' ∧ Stand L s (i : Int) ((j : Int) + s) R' := by
  rcases h with ⟨rfl, i', j', h1, h2, rfl⟩ | ⟨rfl, i', j', h1, h2, h3, h4, rfl⟩ | ⟨rfl, h1, h2, rfl⟩
  · obtain rfl : i = i' := by omega
    obtain rfl : j = j' := by omega
    exact ⟨_, remF_in ⟨hi, hj⟩, .inl ⟨rfl, i, j + 1, rfl, by omega, rfl⟩⟩
  · obtain rfl : i = i' := by omega
    obtain rfl : j + 1 = j' := by omega
    exact ⟨_, remB_in ⟨hi, hj⟩, .inr (.inl ⟨rfl, i, j, rfl, by omega, hi, by omega, rfl⟩)⟩
  · omega
/-- the column at which one comes into a line -/
def entC (L : List (List Int)) (s v : Int) : Int := if s < 0 ∧ 0 ≤ v then ((lnL L v.toNat).length : Int) - 1 else 0
/-- where a line ends -/
theorem Stand.leave {L : List (List Int)} {s ci : Int} {i : Nat} {R : List (Pl × Int)} (h : Stand L s (i : Int) ci R) (hi : i < L.length) (hj : ¬ (0 ≤ ci ∧ ci < ((lnL L i).length : Int))) :
    Stand L s ((i : Int) + s) (entC L s ((i : Int) + s)) R := by
  rcases h with ⟨rfl, i', j', h1, h2, rfl⟩ | ⟨rfl, i', j', h1, h2, h3, h4, rfl⟩ | ⟨rfl, h1, h2, rfl⟩
  · obtain rfl : i = i' := by omega
    refine .inl ⟨rfl, i + 1, 0, by omega, ?_, remF_end (by omega)⟩
    unfold entC
    rw [if_neg (by omega)]; rfl
  · obtain rfl : i = i' := by omega
    obtain rfl : j' = 0 := by omega
    by_cases h0 : i = 0
    · subst h0
      refine .inr (.inr ⟨rfl, by omega, ?_, remB_out L⟩)
      unfold entC
      rw [if_neg (by omega)]
    · obtain ⟨k, rfl⟩ : ∃ k, i = k + 1 := ⟨i - 1, by omega⟩
      refine .inr (.inl ⟨rfl, k, (lnL L k).length, by omega, ?_, by omega, Nat.le_refl _, remB_end⟩)
      unfold entC
      rw [if_pos (by omega), show (((k + 1 : Nat) : Int) + -1).toNat = k by omega]
  · omega
/-- where there is no such line -/
theorem Stand.out {L : List (List Int)} {s li ci : Int} {R : List (Pl × Int)} (h : Stand L s li ci R) (hi : ¬ (0 ≤ li ∧ li < (L.length : Int))) : R = [] := by
  rcases h with ⟨rfl, i', j', h1, h2, rfl⟩ | ⟨rfl, i', j', h1, h2, h3, h4, rfl⟩ | ⟨rfl, h1, h2, rfl⟩
  · exact remF_out (by omega)
  · omega
  · rfl
/-- the bounds of a place on the way -/
theorem Stand.low {L : List (List Int)} {s li ci : Int} {R : List (Pl × Int)} (h : Stand L s li ci R) : -1 ≤ li ∧ -1 ≤ ci := by
  rcases h with ⟨rfl, i', j', h1, h2, rfl⟩ | ⟨rfl, i', j', h1, h2, h3, h4, rfl⟩ | ⟨rfl, h1, h2, rfl⟩ <;> omega
/-- the first bracket of a line from a column on -/
theorem firstB_some {x : List Int} {q j : Nat} (hq : q ≤ j) (hj : j < x.length) (h : (pairR (x.getD j 0)).isSome = true) (hn : ∀ i, q ≤ i → i < j → pairR (x.getD i 0) = none) : firstB x q = some j := by
  cases hf : firstB x q with
  | none =>
    have := (List.find?_eq_none.1 hf) j (by simpa using hj)
    rw [List.getD_eq_getElem?_getD] at h
    simp [hq, h] at this
  | some i =>
    obtain ⟨h1, h2, h3⟩ := firstB_props hf
    rcases Nat.lt_trichotomy i j with h4 | h4 | h4
    · rw [hn i h2 h4] at h3; cases h3
    · rw [h4]
    · exfalso
      have h5 := List.find?_eq_some_iff_getElem.1 hf
      obtain ⟨-, k, hk, h6, h7⟩ := h5
      rw [List.getElem_range] at h6
      subst h6
      have := h7 j h4
      rw [List.getElem_range] at this
      rw [List.getD_eq_getElem?_getD] at h
      simp [hq, h] at this
theorem firstB_none {x : List Int} {q : Nat} (hn : ∀ i, q ≤ i → i < x.length → pairR (x.getD i 0) = none) : firstB x q = none := by
  cases hf : firstB x q with
  | none => rfl
  | some i =>
    obtain ⟨h1, h2, h3⟩ := firstB_props hf
    rw [hn i h2 h1] at h3; cases h3
end Go.Proofs.YthlhgkeodaifcaaDoor.U
