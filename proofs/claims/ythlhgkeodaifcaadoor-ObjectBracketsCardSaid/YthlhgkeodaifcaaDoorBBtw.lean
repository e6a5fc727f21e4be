/-
  The runes between two brackets that are a pair, one by one, and how many are open. No program here.
-/
import Derived.Test.YthlhgkeodaifcaaDoorBLaw
namespace Go.Proofs.YthlhgkeodaifcaaDoor.U
set_option linter.unusedVariables false
set_option linter.unusedSimpArgs false

def btwB (L : List (List Int)) (a b q : Pl) : Bool := decide (q.2 < (lnL L q.1).length) && !aheadP q a && !aheadP b q
/-- the runes from the i-th place on that are between a and b, both with them -/
def btwP (L : List (List Int)) (a b : Pl) (i : Nat) : List (Pl × Int) := (((places L).drop i).filter (btwB L a b)).map fun q => (q, (lnL L q.1).getD q.2 0)
theorem btw_step {L : List (List Int)} {a b q : Pl} {i : Nat} (h : (places L)[i]? = some q) : btwP L a b i = if btwB L a b q = true then (q, (lnL L q.1).getD q.2 0) :: btwP L a b (i + 1) else btwP L a b (i + 1) := by
  obtain ⟨hi, he⟩ := List.getElem?_eq_some_iff.1 h
  unfold btwP
  rw [List.drop_eq_getElem_cons hi, he]
  by_cases hc : btwB L a b q = true
  · rw [if_pos hc, List.filter_cons_of_pos hc]; rfl
  · rw [if_neg hc, List.filter_cons_of_neg hc]
theorem btw_end {L : List (List Int)} {a b : Pl} {i : Nat} (h : (places L).length ≤ i) : btwP L a b i = [] := by
  unfold btwP
  rw [List.drop_eq_nil_of_le h]; rfl
theorem filter_take {α : Type} {f : α → Bool} : ∀ (X : List α) (k : Nat), (∀ t x, X[t]? = some x → (f x = true ↔ t < k)) → X.filter f = X.take k
  | [], k, _ => by simp
  | x :: X, k, h => by
    have h0 := h 0 x rfl
    cases k with
    | zero =>
      rw [List.take_zero, List.filter_eq_nil_iff]
      intro y hy hf
      obtain ⟨t, ht, he⟩ := List.mem_iff_getElem.1 hy
      have := (h t y (List.getElem?_eq_some_iff.2 ⟨ht, he⟩)).1 hf
      omega
    | succ k =>
      rw [List.take_succ_cons, List.filter_cons_of_pos (h0.2 (by omega)), filter_take X k (fun t y hy => ?_)]
      have := h (t + 1) y (by simpa using hy)
      rw [this]
      omega
theorem btw_all {L : List (List Int)} {a b : Pl} {o c : Int} {s d : Nat} (hs : (runesP L)[s]? = some (a, o)) (he : (runesP L)[s + d]? = some (b, c)) : btwP L a b 0 = ((runesP L).drop s).take (d + 1) := by
  have h1 : btwP L a b 0 = (fromP L a).filter fun e => !aheadP b e.1 := by
    unfold btwP fromP runesP
    rw [List.drop_zero, List.filter_map, List.filter_map, List.filter_filter, List.filter_filter]
    congr 1
    refine List.filter_congr fun x _ => ?_
    unfold btwB
    simp only [Function.comp]
    cases decide (x.2 < (lnL L x.1).length) <;> cases aheadP x a <;> cases aheadP b x <;> rfl
  rw [h1, from_drop hs]
  refine filter_take _ _ fun t x hx => ?_
  rw [List.getElem?_drop] at hx
  rw [Bool.not_eq_true']
  constructor
  · intro hf
    by_cases hlt : t < d + 1
    · exact hlt
    · have := rn_lt he hx (by omega)
      simp only at this
      rw [hf] at this
      cases this
  · intro hlt
    by_cases hd : t = d
    · subst hd
      rw [he] at hx
      cases hx
      exact aheadP_irr b
    · exact aheadP_asym (rn_lt hx he (by omega))
/-- how many are open behind the i-th place -/
def BtI (L : List (List Int)) (a b : Pl) (o c : Int) (i : Nat) (n : Int) : Prop := ∃ (A : List (Pl × Int)) (d t : Nat), t ≤ d + 1 ∧ d < A.length ∧ btwP L a b i = (A.take (d + 1)).drop t ∧ n = SB o c A t ∧ A[d]? = some (b, c) ∧ SB o c A (d + 1) = 0 ∧ ∀ u, u < d → 1 ≤ SB o c A (u + 1)
theorem BtI.start {L : List (List Int)} {p a b : Pl} {o c : Int} (hoc : o ≠ c) (h : pairP L p o c = some (a, b)) : BtI L a b o c 0 0 := by
  obtain ⟨-, -, -, -, -, -, -, s, d, hs, hd, he, h0, h1⟩ := pairP_props hoc h
  refine ⟨(runesP L).drop s, d, 0, by omega, ?_, ?_, (SB_zero _ _ _).symm, ?_, h0, h1⟩
  · have := (List.getElem?_eq_some_iff.1 he).1
    rw [List.length_drop]; omega
  · rw [List.drop_zero]; exact btw_all hs he
  · rw [List.getElem?_drop]; exact he
theorem BtI.skip {L : List (List Int)} {a b q : Pl} {o c n : Int} {i : Nat} (h : BtI L a b o c i n) (hq : (places L)[i]? = some q) (hn : btwB L a b q = false) : BtI L a b o c (i + 1) n := by
  obtain ⟨A, d, t, h1, h2, h3, h4⟩ := h
  rw [btw_step hq, if_neg (by rw [hn]; decide)] at h3
  exact ⟨A, d, t, h1, h2, h3, h4⟩
theorem BtI.take {L : List (List Int)} {a b q : Pl} {o c n : Int} {i : Nat} (h : BtI L a b o c i n) (hq : (places L)[i]? = some q) (hn : btwB L a b q = true) :
    BtI L a b o c (i + 1) (n + wB o c ((lnL L q.1).getD q.2 0)) ∧ 0 ≤ n + wB o c ((lnL L q.1).getD q.2 0) ∧ (n + wB o c ((lnL L q.1).getD q.2 0) = 0 → q = b) := by
  obtain ⟨A, d, t, h1, h2, h3, h4, h5, h6, h7⟩ := h
  rw [btw_step hq, if_pos hn] at h3
  have hlt : t < d + 1 := by
    rcases Nat.lt_or_ge t (d + 1) with h | h
    · exact h
    · rw [List.drop_eq_nil_of_le (by rw [List.length_take]; omega)] at h3
      cases h3
  have hlen : t < (A.take (d + 1)).length := by rw [List.length_take]; omega
  rw [List.drop_eq_getElem_cons hlen] at h3
  injection h3 with e1 e2
  rw [List.getElem_take] at e1
  have hA : A[t]? = some (q, (lnL L q.1).getD q.2 0) := by rw [List.getElem?_eq_getElem (by omega), ← e1]
  have hS := SB_succ (o := o) (c := c) hA
  simp only at hS
  refine ⟨⟨A, d, t + 1, by omega, h2, e2, by rw [hS, h4], h5, h6, h7⟩, ?_, fun h0 => ?_⟩
  · rw [h4, ← hS]
    rcases Nat.lt_or_ge t d with h | h
    · have := h7 t h; omega
    · rw [show t = d by omega, h6]; omega
  · rw [h4, ← hS] at h0
    rcases Nat.lt_or_ge t d with h | h
    · have := h7 t h; omega
    · have : t = d := by omega
      subst this
      rw [h5] at hA
      cases hA
      rfl
theorem BtI.last {L : List (List Int)} {a b : Pl} {o c n : Int} {i : Nat} (h : BtI L a b o c i n) (hi : (places L).length ≤ i) : n = 0 := by
  obtain ⟨A, d, t, h1, h2, h3, h4, h5, h6, h7⟩ := h
  rw [btw_end hi] at h3
  have := congrArg List.length h3
  rw [List.length_drop, List.length_take, List.length_nil] at this
  have ht : t = d + 1 := by omega
  rw [h4, ht, h6]
theorem brk_keys {key o c : Int} (h : brk key = some (o, c)) : key ≠ 119 ∧ key ≠ 87 ∧ key ≠ 34 ∧ key ≠ 39 ∧ key ≠ 96 ∧ key ≠ 112 := by
  refine ⟨?_, ?_, ?_, ?_, ?_, ?_⟩
  · rintro rfl
    rw [show brk 119 = none by decide] at h
    cases h
  · rintro rfl
    rw [show brk 87 = none by decide] at h
    cases h
  · rintro rfl
    rw [show brk 34 = none by decide] at h
    cases h
  · rintro rfl
    rw [show brk 39 = none by decide] at h
    cases h
  · rintro rfl
    rw [show brk 96 = none by decide] at h
    cases h
  · rintro rfl
    rw [show brk 112 = none by decide] at h
    cases h
end Go.Proofs.YthlhgkeodaifcaaDoor.U
