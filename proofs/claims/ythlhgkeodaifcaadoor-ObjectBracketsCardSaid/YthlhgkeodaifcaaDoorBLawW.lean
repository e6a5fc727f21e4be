/-
  The inner object lies within the one around, at cursor's places. No program here.
-/
import Derived.Test.YthlhgkeodaifcaaDoorBLaw
namespace Go.Proofs.YthlhgkeodaifcaaDoor.U
set_option linter.unusedVariables false
set_option linter.unusedSimpArgs false

theorem ahead_line {i a b : Nat} (h : a ≤ b) : aheadP ((i, b) : Pl) (i, a) = false := by
  cases e : aheadP ((i, b) : Pl) (i, a) with
  | false => rfl
  | true => rw [aheadP_iff] at e; simp only at e; omega
theorem ahead_col {a b : Nat} (h : a ≤ b) : aheadP ((b, 0) : Pl) (a, 0) = false := by
  cases e : aheadP ((b, 0) : Pl) (a, 0) with
  | false => rfl
  | true => rw [aheadP_iff] at e; simp only at e; omega
/-- words: both kinds, in a line -/
theorem words_in {x : List Int} {col : Nat} {big around : Bool} (hc : col ≤ x.length - 1) {r : Nat × Nat} (h : wordsP x col big around = some r) : r.1 ≤ r.2 ∧ r.2 < x.length ∧ r.1 ≤ (runC big x col).1 ∧ (runC big x col).2 ≤ r.2 ∧ x ≠ [] := by
  have hx : x ≠ [] := by rintro rfl; rw [words_none] at h; cases h
  have hlen := List.length_pos_iff.2 hx
  obtain ⟨h1, h2, h3, -⟩ := run_props (big := big) (x := x) (k := col) (by omega)
  cases around with
  | false =>
    rw [words_inner hx] at h
    cases h
    exact ⟨by omega, h3, Nat.le_refl _, Nat.le_refl _, hx⟩
  | true =>
    obtain ⟨k1, k2, k3⟩ := words_around (by omega) h
    exact ⟨by omega, k3, k1, k2, hx⟩
theorem quotes_in {x : List Int} {col : Nat} {key : Int} {around : Bool} {r : Nat × Nat} (h : quotesP x col key around = some r) : r.1 ≤ r.2 ∧ r.2 < x.length ∧ ∃ a b, quoP col ((List.range x.length).filter fun i => x.getD i 0 == key) = some (a, b) ∧ a ≤ r.1 ∧ r.2 ≤ b ∧ (around = true → r = (a, b)) := by
  unfold quotesP at h
  cases hq : quoP col ((List.range x.length).filter fun i => x.getD i 0 == key) with
  | none => rw [hq] at h; cases h
  | some ab =>
    obtain ⟨a, b⟩ := ab
    rw [hq] at h
    simp only at h
    obtain ⟨h1, h2⟩ := quotes_raw hq
    cases around with
    | true =>
      rw [if_pos rfl] at h
      cases h
      exact ⟨by omega, h2, a, b, rfl, Nat.le_refl _, Nat.le_refl _, fun _ => rfl⟩
    | false =>
      rw [if_neg (by decide)] at h
      by_cases c : a + 1 < b
      · rw [if_pos c] at h
        cases h
        exact ⟨by simp only; omega, by simp only; omega, a, b, rfl, by simp only; omega, by simp only; omega, fun e => by cases e⟩
      · rw [if_neg c] at h; cases h
theorem blocks_in {L : List (List Int)} {i : Nat} {around : Bool} (hi : i < L.length) {r : Nat × Nat} (h : blocksP L i around = some r) : r.1 ≤ r.2 ∧ r.2 < L.length ∧ r.1 ≤ (blockC L i).1 ∧ (blockC L i).2 ≤ r.2 := by
  obtain ⟨h1, h2, h3, -⟩ := block_props hi
  cases around with
  | false =>
    unfold blocksP at h
    rw [if_pos rfl] at h
    cases h
    exact ⟨by omega, h3, Nat.le_refl _, Nat.le_refl _⟩
  | true =>
    obtain ⟨k1, k2, k3⟩ := blocks_around hi h
    exact ⟨by omega, k3, k1, k2⟩
theorem brackets_around (L : List (List Int)) (p : Pl) (o c : Int) : bracketsP L p o c true = pairP L p o c := by
  unfold bracketsP
  cases pairP L p o c with
  | none => rfl
  | some ab => rfl
/-- where from and to lie -/
theorem fd_ok {L : List (List Int)} {p a b : Pl} {key k : Int} {around : Bool} (hp : okP L p) (h : fdP L p key around = some (a, b, k)) : okP L a ∧ okP L b ∧ aheadP b a = false := by
  unfold fdP at h
  by_cases c1 : key = 119 ∨ key = 87
  · rw [if_pos c1] at h
    simp only [Option.map_eq_some_iff] at h
    obtain ⟨r, hr, e⟩ := h
    cases e
    obtain ⟨h1, h2, -⟩ := words_in hp.2 hr
    exact ⟨⟨hp.1, by show r.1 ≤ (lnL L p.1).length - 1; omega⟩, ⟨hp.1, by show r.2 ≤ (lnL L p.1).length - 1; omega⟩, ahead_line h1⟩
  rw [if_neg c1] at h
  by_cases c2 : key = 34 ∨ key = 39 ∨ key = 96
  · rw [if_pos c2] at h
    simp only [Option.map_eq_some_iff] at h
    obtain ⟨r, hr, e⟩ := h
    cases e
    obtain ⟨h1, h2, -⟩ := quotes_in hr
    exact ⟨⟨hp.1, by show r.1 ≤ (lnL L p.1).length - 1; omega⟩, ⟨hp.1, by show r.2 ≤ (lnL L p.1).length - 1; omega⟩, ahead_line h1⟩
  rw [if_neg c2] at h
  by_cases c3 : key = 112
  · rw [if_pos c3] at h
    simp only [Option.map_eq_some_iff] at h
    obtain ⟨r, hr, e⟩ := h
    cases e
    obtain ⟨h1, h2, -⟩ := blocks_in hp.1 hr
    exact ⟨⟨by show r.1 < L.length; omega, Nat.zero_le _⟩, ⟨h2, Nat.zero_le _⟩, ahead_col h1⟩
  rw [if_neg c3] at h
  cases hb : brk key with
  | none => rw [hb] at h; cases h
  | some oc =>
    obtain ⟨o, c⟩ := oc
    rw [hb] at h
    simp only [Option.map_eq_some_iff] at h
    obtain ⟨⟨a', b'⟩, hr, e⟩ := h
    cases e
    cases around with
    | true =>
      rw [brackets_around] at hr
      obtain ⟨r1, r2, -, -, -, -, hlt, -⟩ := pairP_props (brk_ne hb) hr
      exact ⟨runeP_ok r1, runeP_ok r2, aheadP_asym hlt⟩
    | false =>
      obtain ⟨_, _, -, h1, h2, h3, -⟩ := brackets_inner (brk_ne hb) hr
      exact ⟨h1, h2, h3⟩
theorem fd_within {L : List (List Int)} {p a b c d : Pl} {key k n : Int} (hp : okP L p) (h : fdP L p key false = some (a, b, k)) (h' : fdP L p key true = some (c, d, n)) : k = n ∧ aheadP a c = false ∧ aheadP d b = false := by
  unfold fdP at h h'
  by_cases c1 : key = 119 ∨ key = 87
  · rw [if_pos c1] at h h'
    simp only [Option.map_eq_some_iff] at h h'
    obtain ⟨r, hr, e⟩ := h
    obtain ⟨s, hs, e'⟩ := h'
    cases e
    cases e'
    obtain ⟨-, -, k3, k4, hx⟩ := words_in hp.2 hs
    rw [words_inner hx] at hr
    cases hr
    exact ⟨rfl, ahead_line k3, ahead_line k4⟩
  rw [if_neg c1] at h h'
  by_cases c2 : key = 34 ∨ key = 39 ∨ key = 96
  · rw [if_pos c2] at h h'
    simp only [Option.map_eq_some_iff] at h h'
    obtain ⟨r, hr, e⟩ := h
    obtain ⟨s, hs, e'⟩ := h'
    cases e
    cases e'
    obtain ⟨-, -, x, y, q1, q2, q3, -⟩ := quotes_in hr
    obtain ⟨-, -, x', y', q1', -, -, q4⟩ := quotes_in hs
    rw [q1] at q1'
    cases q1'
    have e := q4 rfl
    subst e
    exact ⟨rfl, ahead_line q2, ahead_line q3⟩
  rw [if_neg c2] at h h'
  by_cases c3 : key = 112
  · rw [if_pos c3] at h h'
    simp only [Option.map_eq_some_iff] at h h'
    obtain ⟨r, hr, e⟩ := h
    obtain ⟨s, hs, e'⟩ := h'
    cases e
    cases e'
    obtain ⟨-, -, k3, k4⟩ := blocks_in hp.1 hs
    unfold blocksP at hr
    rw [if_pos rfl] at hr
    cases hr
    exact ⟨rfl, ahead_col k3, ahead_col k4⟩
  rw [if_neg c3] at h h'
  cases hb : brk key with
  | none => rw [hb] at h; cases h
  | some oc =>
    obtain ⟨o, c⟩ := oc
    rw [hb] at h h'
    simp only [Option.map_eq_some_iff] at h h'
    obtain ⟨⟨a', b'⟩, hr, e⟩ := h
    obtain ⟨⟨c', d'⟩, hs, e'⟩ := h'
    cases e
    cases e'
    rw [brackets_around] at hs
    obtain ⟨a0, b0, q1, -, -, -, q2, q3⟩ := brackets_inner (brk_ne hb) hr
    rw [hs] at q1
    cases q1
    exact ⟨rfl, q2, q3⟩
end Go.Proofs.YthlhgkeodaifcaaDoor.U
