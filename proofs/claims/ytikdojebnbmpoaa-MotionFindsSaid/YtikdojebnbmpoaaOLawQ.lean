/-
  The laws of layer 10 about where motions lead. No program here.
-/
import Derived.Test.YtikdojebnbmpoaaOLawP
namespace Go.Proofs.Ytikdojebnbmpoaa.U
set_option linter.unusedVariables false
set_option linter.unusedSimpArgs false

/-- a cursor's place, or with an operator a line's length -/
def endP (L : List (List Int)) (op : Bool) (q : Pl) : Prop := okP L q ∨ (op = true ∧ q.1 < L.length ∧ q.2 = (lnL L q.1).length)
theorem stepK_ok {L : List (List Int)} {k : Int} {g : Pl → Pl} {h : Int} (hk : stepK L k = some (g, h)) (hL : L ≠ []) (p : Pl) : okP L (g p) := by
  unfold stepK at hk
  repeat' (split at hk)
  all_goals first | (cases hk; first | exact places_mem.1 (behindP_mem hL _ p) | exact places_mem.1 (beforeP_mem hL _ p)) | cases hk
theorem stepsP_ok {L : List (List Int)} {g : Pl → Pl} (hg : ∀ p, okP L p → okP L (g p)) : ∀ (n : Nat) (p q : Pl), okP L p → okP L q → okP L (stepsP g n p q).1 ∧ okP L (stepsP g n p q).2
  | 0, p, q, hp, hq => ⟨hp, hq⟩
  | n + 1, p, q, hp, hq => by
    rw [stepsP]
    split
    · exact ⟨hp, hq⟩
    · exact stepsP_ok hg n _ _ (hg p hp) hp
theorem brP_ok {L : List (List Int)} {p q : Pl} (h : brP L p = some q) : okP L q := by
  have key : ∀ {o c : Int} {B : List (Pl × Int)}, (∀ e ∈ B, okP L e.1) → scanB o c 0 B = some q → okP L q := fun hB hs => by
    obtain ⟨t, r, h1, _⟩ := scan_some.1 hs
    exact hB _ (List.mem_of_getElem? h1)
  have hr : ∀ e ∈ runesP L, okP L e.1 := fun e he => by
    obtain ⟨⟨h1, h2⟩, _⟩ := runesP_mem.1 he
    exact ⟨h1, by omega⟩
  unfold brP at h
  split at h
  · cases h
  · exact key (fun e he => hr e (List.mem_filter.1 he).1) h
  · exact key (fun e he => hr e (List.mem_filter.1 (List.mem_reverse.1 he)).1) h
theorem okP_first {L : List (List Int)} {i : Nat} (hi : i < L.length) : okP L (i, firstR (lnL L i)) := ⟨hi, firstR_le _⟩
theorem mvP_ok {L : List (List Int)} {p q : Pl} {m : Mo} {op : Bool} {h : Int} (hp : okP L p) (hm : mvP L p m op = some (q, h)) : endP L op q := by
  have hL : L ≠ [] := by rintro rfl; exact absurd hp.1 (by simp)
  have hL0 : 0 < L.length := List.length_pos_iff.2 hL
  have ht := tms_pos m.cnt
  obtain ⟨hp1, hp2⟩ := hp
  unfold mvP at hm
  by_cases k104 : m.key = 104
  · rw [if_pos k104] at hm
    by_cases hc : 0 < p.2
    · rw [if_pos hc] at hm
      cases hm
      exact Or.inl ⟨hp1, by show p.2 - tms m.cnt ≤ (lnL L p.1).length - 1; omega⟩
    · rw [if_neg hc] at hm; cases hm
  rw [if_neg k104] at hm
  by_cases k108 : m.key = 108
  · rw [if_pos k108] at hm
    by_cases hc : p.2 < (if op then (lnL L p.1).length else (lnL L p.1).length - 1)
    · rw [if_pos hc] at hm
      cases hm
      cases op with
      | true =>
        by_cases e : p.2 + tms m.cnt < (lnL L p.1).length
        · exact Or.inl ⟨hp1, by show min (p.2 + tms m.cnt) (lnL L p.1).length ≤ (lnL L p.1).length - 1; omega⟩
        · exact Or.inr ⟨rfl, hp1, by show min (p.2 + tms m.cnt) (lnL L p.1).length = (lnL L p.1).length; omega⟩
      | false => exact Or.inl ⟨hp1, by show min (p.2 + tms m.cnt) ((lnL L p.1).length - 1) ≤ (lnL L p.1).length - 1; omega⟩
    · rw [if_neg hc] at hm; cases hm
  rw [if_neg k108] at hm
  by_cases k106 : m.key = 106
  · rw [if_pos k106] at hm
    by_cases hc : p.1 + tms m.cnt < L.length
    · rw [if_pos hc] at hm
      cases hm
      exact Or.inl (clipP_ok hL _ _)
    · rw [if_neg hc] at hm; cases hm
  rw [if_neg k106] at hm
  by_cases k107 : m.key = 107
  · rw [if_pos k107] at hm
    by_cases hc : tms m.cnt ≤ p.1
    · rw [if_pos hc] at hm
      cases hm
      exact Or.inl (clipP_ok hL _ _)
    · rw [if_neg hc] at hm; cases hm
  rw [if_neg k107] at hm
  by_cases k43 : m.key = 43
  · rw [if_pos k43] at hm
    by_cases hc : p.1 + tms m.cnt < L.length
    · rw [if_pos hc] at hm
      cases hm
      exact Or.inl (okP_first hc)
    · rw [if_neg hc] at hm; cases hm
  rw [if_neg k43] at hm
  by_cases k45 : m.key = 45
  · rw [if_pos k45] at hm
    by_cases hc : tms m.cnt ≤ p.1
    · rw [if_pos hc] at hm
      cases hm
      exact Or.inl (okP_first (by omega))
    · rw [if_neg hc] at hm; cases hm
  rw [if_neg k45] at hm
  by_cases k95 : m.key = 95
  · rw [if_pos k95] at hm
    by_cases hc : p.1 + tms m.cnt - 1 < L.length
    · rw [if_pos hc] at hm
      cases hm
      exact Or.inl (okP_first hc)
    · rw [if_neg hc] at hm; cases hm
  rw [if_neg k95] at hm
  by_cases k71 : m.key = 71
  · rw [if_pos k71] at hm
    cases hm
    exact Or.inl (okP_first (by split <;> omega))
  rw [if_neg k71] at hm
  by_cases k103 : m.key = 103
  · rw [if_pos k103] at hm
    cases hm
    exact Or.inl (okP_first (by omega))
  rw [if_neg k103] at hm
  by_cases k48 : m.key = 48
  · rw [if_pos k48] at hm
    cases hm
    exact Or.inl ⟨hp1, by simp⟩
  rw [if_neg k48] at hm
  by_cases k94 : m.key = 94
  · rw [if_pos k94] at hm
    cases hm
    exact Or.inl ⟨hp1, firstR_le _⟩
  rw [if_neg k94] at hm
  by_cases k36 : m.key = 36
  · rw [if_pos k36] at hm
    by_cases hc : p.1 + tms m.cnt - 1 < L.length
    · rw [if_pos hc] at hm
      cases hm
      exact Or.inl ⟨hc, Nat.le_refl _⟩
    · rw [if_neg hc] at hm; cases hm
  rw [if_neg k36] at hm
  by_cases k124 : m.key = 124
  · rw [if_pos k124] at hm
    cases hm
    exact Or.inl ⟨hp1, by show min _ _ - 1 ≤ (lnL L p.1).length - 1; omega⟩
  rw [if_neg k124] at hm
  by_cases k102 : m.key = 102
  · rw [if_pos k102] at hm
    cases hn : nthF (lnL L p.1) m.arg p.2 (tms m.cnt) with
    | none => rw [hn] at hm; cases hm
    | some i =>
      rw [hn] at hm
      cases hm
      obtain ⟨e1, e2, -⟩ := nthF_props hn
      exact Or.inl ⟨hp1, by show i ≤ (lnL L p.1).length - 1; omega⟩
  rw [if_neg k102] at hm
  by_cases k70 : m.key = 70
  · rw [if_pos k70] at hm
    cases hn : nthB (lnL L p.1) m.arg p.2 (tms m.cnt) with
    | none => rw [hn] at hm; cases hm
    | some i =>
      rw [hn] at hm
      cases hm
      obtain ⟨e1, e2, -⟩ := nthB_props hn
      exact Or.inl ⟨hp1, by show i ≤ (lnL L p.1).length - 1; omega⟩
  rw [if_neg k70] at hm
  by_cases k116 : m.key = 116
  · rw [if_pos k116] at hm
    cases hn : nthF (lnL L p.1) m.arg p.2 (tms m.cnt) with
    | none => rw [hn] at hm; cases hm
    | some i =>
      rw [hn] at hm
      cases hm
      obtain ⟨e1, e2, -⟩ := nthF_props hn
      exact Or.inl ⟨hp1, by show i - 1 ≤ (lnL L p.1).length - 1; omega⟩
  rw [if_neg k116] at hm
  by_cases k84 : m.key = 84
  · rw [if_pos k84] at hm
    cases hn : nthB (lnL L p.1) m.arg p.2 (tms m.cnt) with
    | none => rw [hn] at hm; cases hm
    | some i =>
      rw [hn] at hm
      cases hm
      obtain ⟨e1, e2, -⟩ := nthB_props hn
      exact Or.inl ⟨hp1, by show i + 1 ≤ (lnL L p.1).length - 1; omega⟩
  rw [if_neg k84] at hm
  by_cases k37 : m.key = 37
  · rw [if_pos k37] at hm
    cases hn : firstB (lnL L p.1) p.2 with
    | none => rw [hn] at hm; cases hm
    | some i =>
      rw [hn] at hm
      cases hb : brP L (p.1, i) with
      | none => simp [hb] at hm
      | some a => simp [hb] at hm; rw [← hm.1]; exact Or.inl (brP_ok hb)
  rw [if_neg k37] at hm
  cases hk : stepK L m.key with
  | none => rw [hk] at hm; cases hm
  | some gh =>
    obtain ⟨g, h'⟩ := gh
    rw [hk] at hm
    simp only at hm
    have hgo := fun p (_ : okP L p) => stepK_ok hk hL p
    have hst := stepsP_ok hgo (tms m.cnt) p p ⟨hp1, hp2⟩ ⟨hp1, hp2⟩
    by_cases h1 : g p = p
    · rw [if_pos h1] at hm; cases hm
    rw [if_neg h1] at hm
    by_cases h2 : op = true ∧ (m.key = 119 ∨ m.key = 87) ∧ (stepsP g (tms m.cnt) p p).1.1 ≠ (stepsP g (tms m.cnt) p p).2.1
    · rw [if_pos h2] at hm
      cases hm
      exact Or.inr ⟨h2.1, hst.2.1, rfl⟩
    · rw [if_neg h2] at hm
      cases hm
      exact Or.inl hst.1
/-- the whole answer: a place that can be shown -/
theorem mvR_ok {L : List (List Int)} {p : Pl} (m : Mo) (op : Bool) (hp : okP L p) : ∃ q h k, mvR L p m op = (q, h, k) ∧ ((k = false ∧ q = p ∧ h = 0) ∨ (k = true ∧ endP L op q)) := by
  unfold mvR
  cases hm : mvP L p m op with
  | none => exact ⟨p, 0, false, rfl, Or.inl ⟨rfl, rfl, rfl⟩⟩
  | some e =>
    obtain ⟨q, h⟩ := e
    exact ⟨q, h, true, rfl, Or.inr ⟨rfl, mvP_ok hp hm⟩⟩

-- % there and back
theorem mvP_37 (L : List (List Int)) (p : Pl) (m : Mo) (op : Bool) (h : m.key = 37) : mvP L p m op = (firstB (lnL L p.1) p.2).bind fun i => (brP L (p.1, i)).map fun q => (q, 1) := by
  unfold mvP
  rw [h]
  rfl
theorem bracket_law {L : List (List Int)} {p a : Pl} {m : Mo} {h : Int} (hk : m.key = 37) (hp : okP L p) (hm : mvR L p m false = (a, h, true)) :
    h = 1 ∧ okP L a ∧ ∃ b, okP L b ∧ b ≠ a ∧ mvR L a m false = (b, 1, true) ∧ mvR L b m false = (a, 1, true) := by
  unfold mvR at hm ⊢
  rw [mvP_37 L p m false hk] at hm
  cases hf : firstB (lnL L p.1) p.2 with
  | none => rw [hf] at hm; cases hm
  | some i =>
    rw [hf] at hm
    cases hb : brP L (p.1, i) with
    | none => simp [hb] at hm
    | some a' =>
      simp [hb] at hm
      obtain ⟨rfl, rfl⟩ := hm
      obtain ⟨f1, f2, f3⟩ := firstB_props hf
      have hrb : runeP L (p.1, i) := ⟨hp.1, f1⟩
      obtain ⟨g1, g2, g3, g4⟩ := brP_back hrb hb
      refine ⟨rfl, brP_ok hb, (p.1, i), ⟨hp.1, by show i ≤ (lnL L p.1).length - 1; omega⟩, fun e => g2 e.symm, ?_, ?_⟩
      · rw [mvP_37 L a' m false hk, firstB_here g1.2 g4]
        show (match (brP L (a'.1, a'.2)).map (fun q => (q, (1 : Int))) with | none => _ | some (q, h) => _) = _
        rw [show ((a'.1, a'.2) : Pl) = a' from rfl, g3]
        rfl
      · rw [mvP_37 L (p.1, i) m false hk]
        simp only
        rw [firstB_here f1 f3]
        simp [hb]
end Go.Proofs.Ytikdojebnbmpoaa.U
