/-
  The laws of layer 11 about what stands around a place. No program here.
-/
import Derived.Test.YthlhgkeodaifcaaDoorBPure
namespace Go.Proofs.YthlhgkeodaifcaaDoor.U
set_option linter.unusedVariables false
set_option linter.unusedSimpArgs false

-- words
theorem run_props {big : Bool} {x : List Int} {k : Nat} (hk : k < x.length) : (runC big x k).1 ≤ k ∧ k ≤ (runC big x k).2 ∧ (runC big x k).2 < x.length ∧ (∀ i, (runC big x k).1 ≤ i → i ≤ (runC big x k).2 → clsAt big x i = clsAt big x k) ∧
    ((runC big x k).1 = 0 ∨ clsAt big x ((runC big x k).1 - 1) ≠ clsAt big x k) ∧ ((runC big x k).2 + 1 = x.length ∨ clsAt big x ((runC big x k).2 + 1) ≠ clsAt big x k) := span_props _ hk
theorem words_inner {x : List Int} {col : Nat} {big : Bool} (hx : x ≠ []) : wordsP x col big false = some (runC big x col) := by
  unfold wordsP; rw [if_neg hx, if_pos rfl]
theorem words_none {col : Nat} {big around : Bool} : wordsP [] col big around = none := by unfold wordsP; rw [if_pos rfl]
theorem words_around {x : List Int} {col : Nat} {big : Bool} (hc : col < x.length) {r : Nat × Nat} (h : wordsP x col big true = some r) : r.1 ≤ (runC big x col).1 ∧ (runC big x col).2 ≤ r.2 ∧ r.2 < x.length := by
  obtain ⟨h1, h2, h3, -⟩ := run_props (big := big) hc
  have hx : x ≠ [] := by rintro rfl; simp at hc
  unfold wordsP at h
  rw [if_neg hx, if_neg (by decide)] at h
  by_cases c1 : (runC big x col).2 + 1 < x.length ∧ (clsAt big x col = 0 ∨ clsAt big x ((runC big x col).2 + 1) = 0)
  · rw [if_pos c1] at h
    cases h
    obtain ⟨k1, k2, k3, -⟩ := run_props (big := big) c1.1
    exact ⟨Nat.le_refl _, by simp only; omega, k3⟩
  rw [if_neg c1] at h
  by_cases c2 : clsAt big x col = 0
  · rw [if_pos c2] at h; cases h
  rw [if_neg c2] at h
  by_cases c3 : 0 < (runC big x col).1 ∧ clsAt big x ((runC big x col).1 - 1) = 0
  · rw [if_pos c3] at h
    cases h
    obtain ⟨k1, k2, k3, -⟩ := run_props (big := big) (x := x) (k := (runC big x col).1 - 1) (by omega)
    exact ⟨by simp only; omega, Nat.le_refl _, h3⟩
  · rw [if_neg c3] at h
    cases h
    exact ⟨Nat.le_refl _, Nat.le_refl _, h3⟩
-- blocks
theorem block_props {L : List (List Int)} {i : Nat} (hi : i < L.length) : (blockC L i).1 ≤ i ∧ i ≤ (blockC L i).2 ∧ (blockC L i).2 < L.length ∧ (∀ k, (blockC L i).1 ≤ k → k ≤ (blockC L i).2 → empL L k = empL L i) ∧
    ((blockC L i).1 = 0 ∨ empL L ((blockC L i).1 - 1) ≠ empL L i) ∧ ((blockC L i).2 + 1 = L.length ∨ empL L ((blockC L i).2 + 1) ≠ empL L i) := span_props _ hi
theorem blocks_around {L : List (List Int)} {i : Nat} (hi : i < L.length) {r : Nat × Nat} (h : blocksP L i true = some r) : r.1 ≤ (blockC L i).1 ∧ (blockC L i).2 ≤ r.2 ∧ r.2 < L.length := by
  obtain ⟨h1, h2, h3, -⟩ := block_props hi
  unfold blocksP at h
  rw [if_neg (by decide)] at h
  by_cases c1 : (blockC L i).2 + 1 < L.length
  · rw [if_pos c1] at h
    cases h
    obtain ⟨k1, k2, k3, -⟩ := block_props c1
    exact ⟨Nat.le_refl _, by simp only; omega, k3⟩
  rw [if_neg c1] at h
  by_cases c2 : empL L i = 1
  · rw [if_pos c2] at h; cases h
  rw [if_neg c2] at h
  by_cases c3 : 0 < (blockC L i).1
  · rw [if_pos c3] at h
    cases h
    obtain ⟨k1, k2, k3, -⟩ := block_props (L := L) (i := (blockC L i).1 - 1) (by omega)
    exact ⟨by simp only; omega, Nat.le_refl _, h3⟩
  · rw [if_neg c3] at h
    cases h
    exact ⟨Nat.le_refl _, Nat.le_refl _, h3⟩
-- quotes
theorem quoP_props {col : Nat} : ∀ {l : List Nat} {a b : Nat}, l.Pairwise (· < ·) → quoP col l = some (a, b) → a ∈ l ∧ b ∈ l ∧ a < b ∧ col ≤ b
  | [], _, _, _, h => by simp [quoP] at h
  | [_], _, _, _, h => by simp [quoP] at h
  | x :: y :: t, a, b, hs, h => by
    rw [quoP] at h
    split at h
    · rename_i hc
      cases h
      rw [List.pairwise_cons] at hs
      exact ⟨by simp, by simp, hs.1 _ (by simp), hc⟩
    · rw [List.pairwise_cons, List.pairwise_cons] at hs
      obtain ⟨h1, h2, h3, h4⟩ := quoP_props hs.2.2 h
      exact ⟨by simp [h1], by simp [h2], h3, h4⟩
theorem quotes_raw {x : List Int} {col : Nat} {key : Int} {a b : Nat} (h : quoP col ((List.range x.length).filter fun i => x.getD i 0 == key) = some (a, b)) : a < b ∧ b < x.length := by
  obtain ⟨-, h2, h3, -⟩ := quoP_props ((List.pairwise_lt_range (n := x.length)).sublist List.filter_sublist) h
  have := (List.mem_filter.1 h2).1
  exact ⟨h3, by simpa using this⟩
-- brackets
theorem scan_pos {A : List (Pl × Int)} {o c : Int} (hoc : o ≠ c) {s : Nat} {p q : Pl} (hs : A[s]? = some (p, o)) (h : scanB o c 0 (A.drop s) = some q) :
    ∃ d, 0 < d ∧ A[s + d]? = some (q, c) ∧ SB o c (A.drop s) (d + 1) = 0 ∧ ∀ u, u < d → 1 ≤ SB o c (A.drop s) (u + 1) := by
  obtain ⟨d, r, h1, h2, h3⟩ := scan_some.1 h
  have h0 : (A.drop s)[0]? = some (p, o) := by rw [List.getElem?_drop]; simpa using hs
  have ho : wB o c o = 1 := by unfold wB; rw [if_pos rfl, if_neg hoc]; rfl
  have hs1 : SB o c (A.drop s) 1 = 1 := by rw [show 1 = 0 + 1 from rfl, SB_succ h0, SB_zero, ho]; rfl
  have hd : 0 < d := by
    rcases Nat.eq_zero_or_pos d with e | e
    · subst e; rw [Nat.zero_add] at h2; omega
    · exact e
  have hlt := (List.getElem?_eq_some_iff.1 h1).1
  have hge : ∀ u, u < d → 1 ≤ SB o c (A.drop s) (u + 1) := by
    intro u
    induction u with
    | zero => intro _; rw [Nat.zero_add]; omega
    | succ u ih =>
      intro hu
      have i1 := ih (by omega)
      have hx : (A.drop s)[u + 1]? = some (A.drop s)[u + 1] := List.getElem?_eq_getElem (by omega)
      have i2 := SB_succ (o := o) (c := c) hx
      have i3 := h3 (u + 1) hu
      have i4 : -1 ≤ wB o c ((A.drop s)[u + 1]).2 := by unfold wB; split <;> split <;> omega
      omega
  have hlast := hge (d - 1) (by omega)
  rw [show d - 1 + 1 = d by omega] at hlast
  have hw := SB_succ (o := o) (c := c) h1
  have hr : r = c := by
    have : wB o c r ≤ -1 := by simp only at hw; omega
    unfold wB at this
    by_cases e : r = c
    · exact e
    · rw [if_neg e] at this; split at this <;> omega
  subst hr
  exact ⟨d, hd, by rw [← List.getElem?_drop]; exact h1, by omega, hge⟩
theorem brk_ne {key o c : Int} (h : brk key = some (o, c)) : o ≠ c := by
  unfold brk at h
  split at h
  · cases h; decide
  split at h
  · cases h; decide
  split at h
  · cases h; decide
  split at h
  · cases h; decide
  · cases h
/-- the pair: both are runes, p is between -/
theorem pairP_props {L : List (List Int)} {p : Pl} {o c : Int} (hoc : o ≠ c) {a b : Pl} (h : pairP L p o c = some (a, b)) :
    runeP L a ∧ runeP L b ∧ (lnL L a.1).getD a.2 0 = o ∧ (lnL L b.1).getD b.2 0 = c ∧ aheadP p a = false ∧ aheadP b p = false ∧ aheadP a b = true ∧
    ∃ s d, (runesP L)[s]? = some (a, o) ∧ 0 < d ∧ (runesP L)[s + d]? = some (b, c) ∧ SB o c ((runesP L).drop s) (d + 1) = 0 ∧ ∀ u, u < d → 1 ≤ SB o c ((runesP L).drop s) (u + 1) := by
  unfold pairP at h
  cases hf : (runesP L).reverse.find? (opensB L p o c) with
  | none => rw [hf] at h; cases h
  | some e =>
    obtain ⟨a', r⟩ := e
    rw [hf] at h
    have hm := List.mem_of_find?_eq_some hf
    have hp := List.find?_some hf
    rw [List.mem_reverse] at hm
    unfold opensB at hp
    simp only [Bool.and_eq_true, Bool.not_eq_true', beq_iff_eq] at hp
    obtain ⟨⟨p1, p2⟩, p3⟩ := hp
    cases hb : scanB o c 0 (fromP L a') with
    | none => rw [hb] at p3; cases p3
    | some b' =>
      rw [hb] at p3
      simp [hb] at h
      obtain ⟨rfl, rfl⟩ := h
      simp only [Bool.not_eq_true'] at p3
      obtain ⟨m1, m2⟩ := runesP_mem.1 hm
      simp only at m1 m2
      subst p2
      obtain ⟨s, hs1, hs2⟩ := List.mem_iff_getElem.1 hm
      have hs : (runesP L)[s]? = some (a', r) := List.getElem?_eq_some_iff.2 ⟨hs1, hs2⟩
      rw [from_drop hs] at hb
      obtain ⟨d, d1, d2, d3, d4⟩ := scan_pos hoc hs hb
      obtain ⟨n1, n2⟩ := runesP_mem.1 (List.mem_of_getElem? d2)
      simp only at n1 n2
      have := rn_lt hs d2 (by omega)
      exact ⟨m1, n1, m2.symm, n2.symm, p1, p3, this, s, d, hs, d1, d2, d3, d4⟩
theorem runeP_ok {L : List (List Int)} {p : Pl} (h : runeP L p) : okP L p := ⟨h.1, by have := h.2; omega⟩
/-- what is between: cursor's places, within -/
theorem brackets_inner {L : List (List Int)} {p : Pl} {o c : Int} (hoc : o ≠ c) {a b : Pl} (h : bracketsP L p o c false = some (a, b)) :
    ∃ a0 b0, pairP L p o c = some (a0, b0) ∧ okP L a ∧ okP L b ∧ aheadP b a = false ∧ aheadP a a0 = false ∧ aheadP b0 b = false := by
  unfold bracketsP at h
  cases hp : pairP L p o c with
  | none => rw [hp] at h; cases h
  | some ab =>
    obtain ⟨a0, b0⟩ := ab
    rw [hp] at h
    simp only at h
    obtain ⟨r1, r2, -, -, -, -, hlt, -⟩ := pairP_props hoc hp
    refine ⟨a0, b0, rfl, ?_⟩
    rw [if_neg (by decide)] at h
    by_cases c1 : b0.2 = 0 ∧ b0.1 = 0
    · rw [if_pos c1] at h; cases h
    rw [if_neg c1] at h
    obtain ⟨a', ha⟩ : ∃ a', (if a0.2 + 1 = (lnL L a0.1).length then ((a0.1 + 1, 0) : Pl) else (a0.1, a0.2 + 1)) = a' := ⟨_, rfl⟩
    obtain ⟨b', hb⟩ : ∃ b', (if b0.2 = 0 then ((b0.1 - 1, (lnL L (b0.1 - 1)).length - 1) : Pl) else (b0.1, b0.2 - 1)) = b' := ⟨_, rfl⟩
    rw [ha, hb] at h
    by_cases c2 : a'.1 ≥ L.length ∨ aheadP b' a' = true
    · rw [if_pos c2] at h; cases h
    rw [if_neg c2] at h
    cases h
    have c3 : a.1 < L.length := by
      rcases Nat.lt_or_ge a.1 L.length with h | h
      · exact h
      · exact absurd (Or.inl h) c2
    have c4 : aheadP b a = false := by
      cases e : aheadP b a with
      | false => rfl
      | true => exact absurd (Or.inr e) c2
    have q1 := r1.2
    have q2 := r2.2
    have q3 := r2.1
    refine ⟨⟨c3, ?_⟩, ?_, c4, ?_, ?_⟩
    · rw [← ha]
      split
      · simp
      · show a0.2 + 1 ≤ (lnL L a0.1).length - 1; omega
    · rw [← hb]
      split
      · rename_i h0
        exact ⟨by show b0.1 - 1 < _; omega, Nat.le_refl _⟩
      · exact ⟨q3, by show b0.2 - 1 ≤ (lnL L b0.1).length - 1; omega⟩
    · apply aheadP_asym
      rw [aheadP_iff, ← ha]
      split
      · left; show a0.1 < a0.1 + 1; omega
      · right; exact ⟨rfl, by show a0.2 < a0.2 + 1; omega⟩
    · apply aheadP_asym
      rw [aheadP_iff, ← hb]
      split
      · rename_i h0
        left; show b0.1 - 1 < b0.1; omega
      · rename_i h0
        right; exact ⟨rfl, by show b0.2 - 1 < b0.2; omega⟩
end Go.Proofs.YthlhgkeodaifcaaDoor.U
