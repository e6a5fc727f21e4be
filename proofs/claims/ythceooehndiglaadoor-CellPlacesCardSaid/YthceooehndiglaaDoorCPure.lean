/-
  Plain mathematics of layer 2: how wide a rune is, what is shown of it, the units of a line. No program here.
-/
import Derived.WalkKit
import Derived.Lib.Hide
namespace Go.Proofs.YthceooehndiglaaDoor.U
set_option linter.unusedVariables false
set_option linter.unusedSimpArgs false

def validB (r : Int) : Bool := decide ((0 ≤ r ∧ r ≤ 55295) ∨ (57344 ≤ r ∧ r ≤ 1114111))
def zeroB (r : Int) : Bool := decide ((768 ≤ r ∧ r ≤ 879) ∨ (8203 ≤ r ∧ r ≤ 8207) ∨ (8400 ≤ r ∧ r ≤ 8447) ∨ (65024 ≤ r ∧ r ≤ 65039))
def wideB (r : Int) : Bool := decide ((4352 ≤ r ∧ r ≤ 4447) ∨ (11904 ≤ r ∧ r ≤ 12350) ∨ (12353 ≤ r ∧ r ≤ 19903) ∨ (19968 ≤ r ∧ r ≤ 42191) ∨ (44032 ≤ r ∧ r ≤ 55203) ∨ (63744 ≤ r ∧ r ≤ 64255) ∨
  (65072 ≤ r ∧ r ≤ 65135) ∨ (65280 ≤ r ∧ r ≤ 65376) ∨ (65504 ≤ r ∧ r ≤ 65510) ∨ (127744 ≤ r ∧ r ≤ 128591) ∨ (129280 ≤ r ∧ r ≤ 129535) ∨ (131072 ≤ r ∧ r ≤ 262141))
def ctlB (r : Int) : Bool := decide ((0 ≤ r ∧ r ≤ 31) ∨ r = 127)
def widthM (r : Int) : Nat := if zeroB r then 0 else if wideB r then 2 else if ctlB r then 2 else 1
def showM (r : Int) : List Int := if ctlB r then [94, if 64 ≤ r then r - 64 else r + 64] else if decide (128 ≤ r ∧ r ≤ 159) || !validB r then [65533] else [r]

theorem widthM_zero (r : Int) : (widthM r = 0) ↔ zeroB r = true := by unfold widthM; repeat' split <;> simp_all
theorem widthM_le (r : Int) : widthM r ≤ 2 := by
  unfold widthM
  by_cases h1 : zeroB r = true <;> by_cases h2 : wideB r = true <;> by_cases h3 : ctlB r = true <;> simp [h1, h2, h3]

/-- the table of ranges -/
def tabF : List Int := [768, 4352, 8203, 8400, 11904, 12353, 19968, 44032, 63744, 65024, 65072, 65280, 65504, 127744, 129280, 131072]
def tabL : List Int := [879, 4447, 8207, 8447, 12350, 19903, 42191, 55203, 64255, 65039, 65135, 65376, 65510, 128591, 129535, 262141]
def tabW : List Int := [0, 2, 0, 0, 2, 2, 2, 2, 2, 0, 2, 2, 2, 2, 2, 2]

theorem nat16 {i : Nat} (h : i < 16) : i = 0 ∨ i = 1 ∨ i = 2 ∨ i = 3 ∨ i = 4 ∨ i = 5 ∨ i = 6 ∨ i = 7 ∨ i = 8 ∨ i = 9 ∨ i = 10 ∨ i = 11 ∨ i = 12 ∨ i = 13 ∨ i = 14 ∨ i = 15 := by omega

theorem width_ctl {r : Int} (h : ctlB r = true) : widthM r = 2 := by
  unfold widthM
  rw [h]
  unfold ctlB at h
  simp only [decide_eq_true_eq] at h
  have hz : zeroB r = false := by unfold zeroB; simp only [decide_eq_false_iff_not]; omega
  rw [hz]; simp

/-- where the search stands: r lies above every range ahead of i -/
def above (r : Int) (i : Nat) : Prop := i = 0 ∨ tabL.getD (i - 1) 0 < r
theorem above_0 (r : Int) : above r 0 := .inl rfl
theorem above_succ {r : Int} {i : Nat} (h : tabL.getD i 0 < r) : above r (i + 1) := .inr h

theorem width_gap {r : Int} (hc : ctlB r = false) {i : Nat} (hi : i < 16) (ha : above r i) (hr : r < tabF.getD i 0) : widthM r = 1 := by
  unfold widthM
  rw [hc]
  have hz : zeroB r = false ∧ wideB r = false := by
    unfold zeroB wideB
    simp only [decide_eq_false_iff_not]
    unfold above at ha
    rcases nat16 hi with rfl | rfl | rfl | rfl | rfl | rfl | rfl | rfl | rfl | rfl | rfl | rfl | rfl | rfl | rfl | rfl <;> simp [tabF, tabL] at ha hr <;> omega
  rw [hz.1, hz.2]; simp
theorem width_hit {r : Int} (hc : ctlB r = false) {i : Nat} (hi : i < 16) (h1 : tabF.getD i 0 ≤ r) (h2 : r ≤ tabL.getD i 0) : (widthM r : Int) = tabW.getD i 0 := by
  unfold widthM
  rw [hc]
  rcases nat16 hi with rfl | rfl | rfl | rfl | rfl | rfl | rfl | rfl | rfl | rfl | rfl | rfl | rfl | rfl | rfl | rfl <;> simp [tabF, tabL] at h1 h2
  all_goals first
    | (have hz : zeroB r = true := by (unfold zeroB; simp only [decide_eq_true_eq]; omega)
       rw [hz]; simp [tabW])
    | (have hz : zeroB r = false := by (unfold zeroB; simp only [decide_eq_false_iff_not]; omega)
       have hw : wideB r = true := by (unfold wideB; simp only [decide_eq_true_eq]; omega)
       rw [hz, hw]; simp [tabW])
theorem width_end {r : Int} (hc : ctlB r = false) (ha : above r 16) : widthM r = 1 := by
  unfold widthM
  rw [hc]
  have hz : zeroB r = false ∧ wideB r = false := by
    unfold zeroB wideB
    simp only [decide_eq_false_iff_not]
    unfold above at ha
    simp [tabL] at ha
    omega
  rw [hz.1, hz.2]; simp

theorem show_len (r : Int) : (showM r).length = if ctlB r then 2 else 1 := by
  unfold showM; repeat' split <;> simp_all
theorem show_wf {r : Int} (h0 : -2147483648 ≤ r) (h1 : r ≤ 2147483647) : ∀ x ∈ showM r, -2147483648 ≤ x ∧ x ≤ 2147483647 := by
  unfold showM
  intro x hx
  split at hx
  · rename_i hc
    unfold ctlB at hc
    simp only [decide_eq_true_eq] at hc
    simp at hx
    rcases hx with rfl | rfl
    · omega
    · split <;> omega
  · split at hx <;> simp at hx <;> omega

/-! ### Units -/

/-- a unit of a line: from which rune to which, its first column, how many columns -/
structure Un where
  fr : Nat
  to : Nat
  col : Nat
  wd : Nat
deriving DecidableEq, Inhabited

def rn (line : List Int) (i : Nat) : Int := line.getD i 0
def zc (line : List Int) (i : Nat) : Nat := if zeroB (rn line i) then 1 else 0
theorem zc_le (line : List Int) (i : Nat) : zc line i ≤ 1 := by unfold zc; split <;> omega
def marksU (line : List Int) (u : Un) : Nat := (u.to - u.fr) + zc line u.fr
def openU (line : List Int) : List Un → Bool
  | us => match us.getLast? with
    | none => false
    | some u => (rn line u.fr != 9) && decide (marksU line u ≤ 2)
def joins (line : List Int) (us : List Un) (i : Nat) : Bool := zeroB (rn line i) && openU line us
def endCol (us : List Un) : Nat := match us.getLast? with | none => 0 | some u => u.col + u.wd
def width1 (line : List Int) (tab col i : Nat) : Nat := if rn line i = 9 then tab - col % tab else if zeroB (rn line i) then 1 else widthM (rn line i)
def newU (line : List Int) (tab : Nat) (us : List Un) (i : Nat) : Un := { fr := i, to := i + 1, col := endCol us, wd := width1 line tab (endCol us) i }
def stretch (us : List Un) (i : Nat) : List Un := match us.getLast? with
  | none => us
  | some u => us.dropLast ++ [{ u with to := i + 1 }]
def stepU (line : List Int) (tab : Nat) (us : List Un) (i : Nat) : List Un := if joins line us i then stretch us i else us ++ [newU line tab us i]
def unitsN (line : List Int) (tab : Nat) : Nat → List Un
  | 0 => []
  | i + 1 => stepU line tab (unitsN line tab i) i
def units (line : List Int) (tab : Nat) : List Un := unitsN line tab line.length

theorem unitsN_succ (line : List Int) (tab i : Nat) : unitsN line tab (i + 1) = stepU line tab (unitsN line tab i) i := rfl
theorem stretch_snoc (us : List Un) (u : Un) (i : Nat) : stretch (us ++ [u]) i = us ++ [{ u with to := i + 1 }] := by simp [stretch]
theorem endCol_nil : endCol [] = 0 := rfl
theorem endCol_snoc (us : List Un) (u : Un) : endCol (us ++ [u]) = u.col + u.wd := by simp [endCol]
theorem openU_nil (line : List Int) : openU line [] = false := rfl
theorem openU_snoc (line : List Int) (us : List Un) (u : Un) : openU line (us ++ [u]) = ((rn line u.fr != 9) && decide (marksU line u ≤ 2)) := by simp [openU]
theorem stepU_new {line : List Int} {tab : Nat} {us : List Un} {i : Nat} (h : joins line us i = false) : stepU line tab us i = us ++ [newU line tab us i] := by simp [stepU, h]
theorem stepU_join {line : List Int} {tab : Nat} {us : List Un} {u : Un} {i : Nat} (h : joins line (us ++ [u]) i = true) : stepU line tab (us ++ [u]) i = us ++ [{ u with to := i + 1 }] := by
  simp only [stepU, h, if_true]; exact stretch_snoc us u i

theorem stepU_ne (line : List Int) (tab : Nat) (us : List Un) (i : Nat) : stepU line tab us i ≠ [] := by
  unfold stepU
  split
  · rename_i h
    unfold stretch
    cases hl : us.getLast? with
    | none => simp [joins, openU, hl] at h
    | some u => simp
  · simp

/-- a list is empty, or ends with an element -/
theorem snoc_cases {α : Type} (l : List α) : l = [] ∨ ∃ p x, l = p ++ [x] := by
  rcases List.eq_nil_or_concat l with h | ⟨p, x, h⟩
  · exact .inl h
  · exact .inr ⟨p, x, by simpa using h⟩

theorem stepU_app {line : List Int} {tab : Nat} {A t : List Un} {i : Nat} (ht : t ≠ []) : ∃ t', t' ≠ [] ∧ stepU line tab (A ++ t) i = A ++ t' := by
  rcases snoc_cases t with rfl | ⟨p, x, rfl⟩
  · exact absurd rfl ht
  · rw [← List.append_assoc]
    by_cases hj : joins line (A ++ p ++ [x]) i = true
    · rw [stepU_join hj]
      exact ⟨p ++ [{ x with to := i + 1 }], by simp, by simp⟩
    · rw [stepU_new (by simpa using hj)]
      exact ⟨p ++ [x] ++ [newU line tab (A ++ p ++ [x]) i], by simp, by simp⟩

/-- units that are over stay -/
theorem unitsN_prefix {line : List Int} {tab i : Nat} (h : joins line (unitsN line tab i) i = false) : ∀ d, ∃ t, t ≠ [] ∧ unitsN line tab (i + 1 + d) = unitsN line tab i ++ t
  | 0 => ⟨[newU line tab (unitsN line tab i) i], by simp, by rw [Nat.add_zero, unitsN_succ, stepU_new h]⟩
  | d + 1 => by
    obtain ⟨t, ht, e⟩ := unitsN_prefix h d
    have e2 : i + 1 + (d + 1) = (i + 1 + d) + 1 := by omega
    rw [e2, unitsN_succ, e]
    exact stepU_app ht

theorem units_prefix {line : List Int} {tab i : Nat} (hi : i ≤ line.length) (h : i < line.length → joins line (unitsN line tab i) i = false) : unitsN line tab i <+: units line tab := by
  unfold units
  by_cases hlt : i < line.length
  · obtain ⟨t, _, e⟩ := unitsN_prefix (h hlt) (line.length - (i + 1))
    rw [show i + 1 + (line.length - (i + 1)) = line.length from by omega] at e
    rw [e]; exact List.prefix_append _ _
  · rw [show i = line.length from by omega]
    exact List.prefix_refl _

/-- what holds of the units as they are made -/
structure Good (line : List Int) (tab i : Nat) (us : List Un) : Prop where
  last : i ≠ 0 → ∃ p u, us = p ++ [u] ∧ u.to = i
  zero : i = 0 → us = []
  each : ∀ (p : List Un) (u : Un) (t : List Un), us = p ++ u :: t → u.col = endCol p ∧ u.fr = (match p.getLast? with | none => 0 | some q => q.to) ∧ u.fr < u.to ∧ u.to ≤ i ∧ u.wd = width1 line tab u.col u.fr ∧
    (rn line u.fr = 9 → u.to = u.fr + 1) ∧ (∀ j, u.fr < j → j < u.to → zeroB (rn line j) = true) ∧ marksU line u ≤ 3

theorem marks_le {line : List Int} {us : List Un} {u : Un} {i : Nat} (h : joins line (us ++ [u]) i = true) : zeroB (rn line i) = true ∧ rn line u.fr ≠ 9 ∧ marksU line u ≤ 2 := by
  unfold joins at h
  rw [openU_snoc] at h
  simpa using h

theorem good (line : List Int) (tab : Nat) : ∀ i, Good line tab i (unitsN line tab i)
  | 0 => ⟨fun h => absurd rfl h, fun _ => rfl, fun p u t h => by simp [unitsN] at h⟩
  | i + 1 => by
    have ih := good line tab i
    rw [unitsN_succ]
    obtain ⟨h1, h2, h3⟩ := ih
    generalize unitsN line tab i = us at *
    by_cases hj : joins line us i = true
    · rcases snoc_cases us with rfl | ⟨p, x, rfl⟩
      · simp [joins, openU_nil] at hj
      · rw [stepU_join hj]
        obtain ⟨m1, m2, m3⟩ := marks_le hj
        have hi : i ≠ 0 := fun h => by have := h2 h; simp at this
        obtain ⟨p', x', e, hto⟩ := h1 hi
        obtain ⟨rfl, e'⟩ := List.append_inj' e rfl
        obtain rfl : x = x' := by simpa using e'
        refine ⟨fun _ => ⟨p, _, rfl, rfl⟩, fun h => by omega, fun q u t he => ?_⟩
        rcases snoc_cases t with rfl | ⟨t', y, rfl⟩
        · obtain ⟨rfl, e'⟩ := List.append_inj' he rfl
          obtain rfl : { x with to := i + 1 } = u := by simpa using e'
          obtain ⟨a1, a2, a3, a4, a5, a6, a7, a8⟩ := h3 p x [] rfl
          refine ⟨a1, a2, by simp only; omega, Nat.le_refl _, a5, fun h9 => absurd h9 m2, fun j hj1 hj2 => ?_, ?_⟩
          · simp only at hj1 hj2
            by_cases hji : j = i
            · subst hji; exact m1
            · exact a7 j hj1 (by omega)
          · unfold marksU at m3 ⊢
            simp only
            omega
        · have he' : p ++ [{ x with to := i + 1 }] = (q ++ u :: t') ++ [y] := by simpa using he
          obtain ⟨rfl, _⟩ := List.append_inj' he' rfl
          obtain ⟨a1, a2, a3, a4, a5⟩ := h3 q u (t' ++ [x]) (by simp)
          exact ⟨a1, a2, a3, by omega, a5⟩
    · have hj' : joins line us i = false := by simpa using hj
      rw [stepU_new hj']
      refine ⟨fun _ => ⟨us, _, rfl, rfl⟩, fun h => by omega, fun q u t he => ?_⟩
      rcases snoc_cases t with rfl | ⟨t', y, rfl⟩
      · obtain ⟨rfl, e'⟩ := List.append_inj' he rfl
        obtain rfl : newU line tab us i = u := by simpa using e'
        refine ⟨rfl, ?_, by simp [newU], Nat.le_refl _, rfl, fun _ => rfl, fun j hj1 hj2 => ?_, ?_⟩
        · by_cases hi : i = 0
          · subst hi
            have := h2 rfl
            subst this
            rfl
          · obtain ⟨p', x', e, hto⟩ := h1 hi
            subst e
            simp [newU, hto]
        · simp only [newU] at hj1 hj2; omega
        · unfold marksU
          simp only [newU]
          have := zc_le line i
          omega
      · have he' : us ++ [newU line tab us i] = (q ++ u :: t') ++ [y] := by simpa using he
        obtain ⟨rfl, _⟩ := List.append_inj' he' rfl
        obtain ⟨a1, a2, a3, a4, a5⟩ := h3 q u t' rfl
        exact ⟨a1, a2, a3, by omega, a5⟩

/-- what is shown of a unit -/
def textM (line : List Int) (u : Un) : List Int :=
  if rn line u.fr = 9 then List.replicate u.wd 32
  else if zeroB (rn line u.fr) then 32 :: (line.take u.to).drop u.fr
  else showM (rn line u.fr) ++ (line.take u.to).drop (u.fr + 1)
end Go.Proofs.YthceooehndiglaaDoor.U
