/-
  Where motions lead, as plain mathematics. No program here.
-/
import Derived.Test.YthlhgkeodaifcaaDoorNStep
namespace Go.Proofs.YthlhgkeodaifcaaDoor.U
set_option linter.unusedVariables false
set_option linter.unusedSimpArgs false

/-- a motion: key, count, the rune that is sought, the wanted column -/
structure Mo where
  key : Int
  cnt : Int
  arg : Int
  want : Int
def tms (c : Int) : Nat := (max 1 c).toNat
theorem tms_pos (c : Int) : 1 ≤ tms c := by unfold tms; omega
/-- the first rune of a line that is not blank; the last one -/
def firstR (x : List Int) : Nat := (x.findIdx? fun c => cls false c != 0).getD (x.length - 1)
theorem firstR_le (x : List Int) : firstR x ≤ x.length - 1 := by
  unfold firstR
  cases h : x.findIdx? fun c => cls false c != 0 with
  | none => simp
  | some i =>
    have := (List.findIdx?_eq_some_iff_getElem.1 h).1
    simp; omega
/-- at most n steps, till one doesn't move; and where the last one that moved began -/
def stepsP (g : Pl → Pl) : Nat → Pl → Pl → Pl × Pl
  | 0, p, q => (p, q)
  | n + 1, p, q => if g p = p then (p, q) else stepsP g n (g p) p
theorem stepsP_still {g : Pl → Pl} {p : Pl} (h : g p = p) (n : Nat) (q : Pl) : stepsP g n p q = (p, q) := by
  cases n with
  | zero => rfl
  | succ n => rw [stepsP, if_pos h]
/-- one step more -/
theorem stepsP_succ (g : Pl → Pl) : ∀ (n : Nat) (p q : Pl), (stepsP g (n + 1) p q).1 = g (stepsP g n p q).1
  | 0, p, q => by
    by_cases h : g p = p <;> simp [stepsP, h]
  | n + 1, p, q => by
    rw [stepsP]
    by_cases h : g p = p
    · rw [if_pos h, stepsP_still h]; exact h.symm
    · rw [if_neg h, stepsP_succ g n, stepsP, if_neg h]
/-- which places a key seeks, and how it leads -/
def stepK (L : List (List Int)) (k : Int) : Option ((Pl → Pl) × Int) :=
  if k = 119 then some (behindP L 0, 0) else if k = 87 then some (behindP L 1, 0)
  else if k = 98 then some (beforeP L 0, 0) else if k = 66 then some (beforeP L 1, 0)
  else if k = 101 then some (behindP L 2, 1) else if k = 69 then some (behindP L 3, 1)
  else if k = 125 then some (behindP L 4, 0) else if k = 123 then some (beforeP L 5, 0)
  else if k = 41 then some (behindP L 6, 0) else if k = 40 then some (beforeP L 6, 0) else none
/-- how often a rune stands in a line from a column on, up to one -/
def cntR (x : List Int) (r : Int) (a b : Nat) : Nat := ((x.take b).drop a).count r
def nthF (x : List Int) (r : Int) (col n : Nat) : Option Nat := (List.range x.length).find? fun i => decide (col < i) && (x.getD i 0 == r) && (cntR x r (col + 1) (i + 1) == n)
def nthB (x : List Int) (r : Int) (col n : Nat) : Option Nat := (List.range x.length).find? fun i => decide (i < col) && (x.getD i 0 == r) && (cntR x r i col == n)
theorem cntR_nil (x : List Int) (r : Int) (a : Nat) : cntR x r a a = 0 := by
  unfold cntR
  rw [List.drop_eq_nil_of_le (by rw [List.length_take]; omega)]; rfl
theorem cntR_high {x : List Int} {r : Int} {a b : Nat} (hab : a ≤ b) (hb : b < x.length) : cntR x r a (b + 1) = cntR x r a b + if x.getD b 0 = r then 1 else 0 := by
  unfold cntR
  rw [List.take_succ_eq_append_getElem hb, List.drop_append_of_le_length (by rw [List.length_take]; omega), List.count_append, List.getD_eq_getElem?_getD, List.getElem?_eq_getElem hb]
  congr 1
  simp only [Option.getD_some]
  by_cases h : x[b] = r
  · rw [h, if_pos rfl]; simp
  · rw [if_neg h, List.count_singleton, if_neg (by simpa using h)]
theorem cntR_split (x : List Int) (r : Int) {a b c : Nat} (hab : a ≤ b) (hbc : b ≤ c) (hc : c ≤ x.length) : cntR x r a c = cntR x r a b + cntR x r b c := by
  obtain ⟨d, rfl⟩ := Nat.exists_eq_add_of_le hbc
  clear hbc
  induction d with
  | zero => rw [Nat.add_zero, cntR_nil]; omega
  | succ d ih =>
    rw [← Nat.add_assoc] at hc ⊢
    rw [cntR_high (by omega) (by omega), cntR_high (by omega) (by omega), ih (by omega)]; omega
theorem cntR_one {x : List Int} {r : Int} {a : Nat} (ha : a < x.length) : cntR x r a (a + 1) = if x.getD a 0 = r then 1 else 0 := by
  rw [cntR_high (Nat.le_refl _) ha, cntR_nil, Nat.zero_add]
theorem cntR_mono (x : List Int) (r : Int) {a b c : Nat} (hab : a ≤ b) (hbc : b ≤ c) (hc : c ≤ x.length) : cntR x r a b ≤ cntR x r a c := by
  rw [cntR_split x r hab hbc hc]; omega
theorem nthF_props {x : List Int} {r : Int} {col n i : Nat} (h : nthF x r col n = some i) : i < x.length ∧ col < i ∧ x.getD i 0 = r ∧ cntR x r (col + 1) (i + 1) = n := by
  have h1 := List.mem_of_find?_eq_some h
  have h2 := List.find?_some h
  simp only [Bool.and_eq_true, decide_eq_true_eq, beq_iff_eq] at h2
  exact ⟨by simpa using h1, h2.1.1, h2.1.2, h2.2⟩
theorem nthF_some {x : List Int} {r : Int} {col n i : Nat} (hi : i < x.length) (hc : col < i) (hr : x.getD i 0 = r) (hn : cntR x r (col + 1) (i + 1) = n) : nthF x r col n = some i := by
  cases h : nthF x r col n with
  | none =>
    have := (List.find?_eq_none.1 h) i (by simpa using hi)
    simp [hc, hn] at this
    rw [List.getD_eq_getElem?_getD] at hr
    exact absurd hr this
  | some j =>
    obtain ⟨h1, h2, h3, h4⟩ := nthF_props h
    congr 1
    rcases Nat.lt_trichotomy j i with h5 | h5 | h5
    · have e := cntR_high (x := x) (r := r) (a := col + 1) (b := i) (by omega) hi
      have e2 := cntR_mono x r (a := col + 1) (b := j + 1) (c := i) (by omega) (by omega) (by omega)
      rw [if_pos hr] at e; omega
    · exact h5
    · have e := cntR_high (x := x) (r := r) (a := col + 1) (b := j) (by omega) h1
      have e2 := cntR_mono x r (a := col + 1) (b := i + 1) (c := j) (by omega) (by omega) (by omega)
      rw [if_pos h3] at e; omega
theorem nthF_few {x : List Int} {r : Int} {col n : Nat} (h : cntR x r (col + 1) x.length < n) : nthF x r col n = none := by
  cases h2 : nthF x r col n with
  | none => rfl
  | some j =>
    obtain ⟨h1, h2, h3, h4⟩ := nthF_props h2
    have e2 := cntR_mono x r (a := col + 1) (b := j + 1) (c := x.length) (by omega) (by omega) (Nat.le_refl _)
    omega
/-- where there are as many, one of them is it -/
theorem cntR_hit (x : List Int) (r : Int) (a n : Nat) (hn : 1 ≤ n) : ∀ b, b ≤ x.length → n ≤ cntR x r a b → ∃ i, a ≤ i ∧ i < b ∧ x.getD i 0 = r ∧ cntR x r a (i + 1) = n
  | 0, _, h => by
    have : cntR x r a 0 = 0 := by unfold cntR; simp
    omega
  | b + 1, hb, h => by
    by_cases hab : a ≤ b
    · rw [cntR_high hab (by omega)] at h
      by_cases h1 : n ≤ cntR x r a b
      · obtain ⟨i, h2, h3, h4, h5⟩ := cntR_hit x r a n hn b (by omega) h1
        exact ⟨i, h2, by omega, h4, h5⟩
      · by_cases hr : x.getD b 0 = r
        · rw [if_pos hr] at h
          exact ⟨b, hab, by omega, hr, by rw [cntR_high hab (by omega), if_pos hr]; omega⟩
        · rw [if_neg hr] at h; omega
    · have : cntR x r a (b + 1) = 0 := by
        unfold cntR
        rw [List.drop_eq_nil_of_le (by rw [List.length_take]; omega)]; rfl
      omega
theorem nthF_none {x : List Int} {r : Int} {col n : Nat} (hn : 1 ≤ n) (h : nthF x r col n = none) : cntR x r (col + 1) x.length < n := by
  rcases Nat.lt_or_ge (cntR x r (col + 1) x.length) n with h1 | h1
  · exact h1
  · obtain ⟨i, h2, h3, h4, h5⟩ := cntR_hit x r (col + 1) n hn x.length (Nat.le_refl _) h1
    rw [nthF_some h3 (by omega) h4 h5] at h
    cases h
theorem nthB_props {x : List Int} {r : Int} {col n i : Nat} (h : nthB x r col n = some i) : i < x.length ∧ i < col ∧ x.getD i 0 = r ∧ cntR x r i col = n := by
  have h1 := List.mem_of_find?_eq_some h
  have h2 := List.find?_some h
  simp only [Bool.and_eq_true, decide_eq_true_eq, beq_iff_eq] at h2
  exact ⟨by simpa using h1, h2.1.1, h2.1.2, h2.2⟩
theorem nthB_some {x : List Int} {r : Int} {col n i : Nat} (hcl : col ≤ x.length) (hc : i < col) (hr : x.getD i 0 = r) (hn : cntR x r i col = n) : nthB x r col n = some i := by
  cases h : nthB x r col n with
  | none =>
    have := (List.find?_eq_none.1 h) i (by simp; omega)
    simp [hc, hn] at this
    rw [List.getD_eq_getElem?_getD] at hr
    exact absurd hr this
  | some j =>
    obtain ⟨h1, h2, h3, h4⟩ := nthB_props h
    congr 1
    rcases Nat.lt_trichotomy j i with h5 | h5 | h5
    · have e := cntR_split x r (a := j) (b := j + 1) (c := col) (by omega) (by omega) hcl
      have e1 := cntR_split x r (a := j + 1) (b := i) (c := col) (by omega) (by omega) hcl
      rw [cntR_one (by omega), if_pos h3] at e; omega
    · exact h5
    · have e := cntR_split x r (a := i) (b := i + 1) (c := col) (by omega) (by omega) hcl
      have e1 := cntR_split x r (a := i + 1) (b := j) (c := col) (by omega) (by omega) hcl
      rw [cntR_one (by omega), if_pos hr] at e; omega

-- brackets
def wB (o c r : Int) : Int := (if r = o then 1 else 0) - (if r = c then 1 else 0)
def scanB (o c : Int) : Int → List (Pl × Int) → Option Pl
  | _, [] => none
  | k, (p, r) :: t => if k + wB o c r = 0 then some p else scanB o c (k + wB o c r) t
/-- the other bracket, and whether it lies behind -/
def pairR (r : Int) : Option (Int × Bool) :=
  if r = 40 then some (41, true) else if r = 91 then some (93, true) else if r = 123 then some (125, true)
  else if r = 41 then some (40, false) else if r = 93 then some (91, false) else if r = 125 then some (123, false) else none
/-- the runes, each with its place -/
def runesP (L : List (List Int)) : List (Pl × Int) := ((places L).filter fun p => decide (p.2 < (lnL L p.1).length)).map fun p => (p, (lnL L p.1).getD p.2 0)
def fromP (L : List (List Int)) (p : Pl) : List (Pl × Int) := (runesP L).filter fun e => !aheadP e.1 p
def uptoP (L : List (List Int)) (p : Pl) : List (Pl × Int) := ((runesP L).filter fun e => !aheadP p e.1).reverse
def brP (L : List (List Int)) (p : Pl) : Option Pl :=
  match pairR ((lnL L p.1).getD p.2 0) with
  | none => none
  | some (o, true) => scanB ((lnL L p.1).getD p.2 0) o 0 (fromP L p)
  | some (o, false) => scanB ((lnL L p.1).getD p.2 0) o 0 (uptoP L p)
/-- the first bracket of a line from a column on -/
def firstB (x : List Int) (col : Nat) : Option Nat := (List.range x.length).find? fun i => decide (col ≤ i) && (pairR (x.getD i 0)).isSome

/-- where a motion leads from a cursor's place, and how -/
def mvP (L : List (List Int)) (p : Pl) (m : Mo) (op : Bool) : Option (Pl × Int) :=
  if m.key = 104 then if 0 < p.2 then some ((p.1, p.2 - tms m.cnt), 0) else none
  else if m.key = 108 then
    if p.2 < (if op then (lnL L p.1).length else (lnL L p.1).length - 1) then some ((p.1, min (p.2 + tms m.cnt) (if op then (lnL L p.1).length else (lnL L p.1).length - 1)), 0) else none
  else if m.key = 106 then if p.1 + tms m.cnt < L.length then some (clipP L ((p.1 + tms m.cnt : Nat) : Int) (if 0 ≤ m.want then m.want else (p.2 : Int)), 2) else none
  else if m.key = 107 then if tms m.cnt ≤ p.1 then some (clipP L ((p.1 - tms m.cnt : Nat) : Int) (if 0 ≤ m.want then m.want else (p.2 : Int)), 2) else none
  else if m.key = 43 then if p.1 + tms m.cnt < L.length then some ((p.1 + tms m.cnt, firstR (lnL L (p.1 + tms m.cnt))), 2) else none
  else if m.key = 45 then if tms m.cnt ≤ p.1 then some ((p.1 - tms m.cnt, firstR (lnL L (p.1 - tms m.cnt))), 2) else none
  else if m.key = 95 then if p.1 + tms m.cnt - 1 < L.length then some ((p.1 + tms m.cnt - 1, firstR (lnL L (p.1 + tms m.cnt - 1))), 2) else none
  else if m.key = 71 then some ((if m.cnt ≤ 0 then L.length - 1 else min (tms m.cnt) L.length - 1, firstR (lnL L (if m.cnt ≤ 0 then L.length - 1 else min (tms m.cnt) L.length - 1))), 2)
  else if m.key = 103 then some ((min (tms m.cnt) L.length - 1, firstR (lnL L (min (tms m.cnt) L.length - 1))), 2)
  else if m.key = 48 then some ((p.1, 0), 0)
  else if m.key = 94 then some ((p.1, firstR (lnL L p.1)), 0)
  else if m.key = 36 then if p.1 + tms m.cnt - 1 < L.length then some ((p.1 + tms m.cnt - 1, (lnL L (p.1 + tms m.cnt - 1)).length - 1), 1) else none
  else if m.key = 124 then some ((p.1, min (tms m.cnt) (lnL L p.1).length - 1), 0)
  else if m.key = 102 then (nthF (lnL L p.1) m.arg p.2 (tms m.cnt)).map fun i => ((p.1, i), 1)
  else if m.key = 70 then (nthB (lnL L p.1) m.arg p.2 (tms m.cnt)).map fun i => ((p.1, i), 0)
  else if m.key = 116 then (nthF (lnL L p.1) m.arg p.2 (tms m.cnt)).map fun i => ((p.1, i - 1), 1)
  else if m.key = 84 then (nthB (lnL L p.1) m.arg p.2 (tms m.cnt)).map fun i => ((p.1, i + 1), 0)
  else if m.key = 37 then (firstB (lnL L p.1) p.2).bind fun i => (brP L (p.1, i)).map fun q => (q, 1)
  else match stepK L m.key with
    | none => none
    | some (g, h) =>
      if g p = p then none
      else if op = true ∧ (m.key = 119 ∨ m.key = 87) ∧ (stepsP g (tms m.cnt) p p).1.1 ≠ (stepsP g (tms m.cnt) p p).2.1 then
        some (((stepsP g (tms m.cnt) p p).2.1, (lnL L (stepsP g (tms m.cnt) p p).2.1).length), h)
      else some ((stepsP g (tms m.cnt) p p).1, h)
def mvR (L : List (List Int)) (p : Pl) (m : Mo) (op : Bool) : Pl × Int × Bool := match mvP L p m op with
  | none => (p, 0, false)
  | some (q, h) => (q, h, true)

-- the chapter's examples
def ex10A : List (List Int) := [[97, 98, 99]]
def ex10B : List (List Int) := [[97, 40, 98, 41, 99]]
def ex10C : List (List Int) := [[97, 98], [99, 100]]
theorem ex10_1 : mvR ex10A (0, 0) ⟨108, 9, 0, 0⟩ false = ((0, 2), 0, true) := by decide
theorem ex10_2 : mvR ex10A (0, 0) ⟨108, 9, 0, 0⟩ true = ((0, 3), 0, true) := by decide
theorem ex10_3 : mvR ex10A (0, 0) ⟨102, 0, 99, 0⟩ false = ((0, 2), 1, true) := by decide
theorem ex10_4 : mvR ex10B (0, 0) ⟨37, 0, 0, 0⟩ false = ((0, 3), 1, true) := by decide
theorem ex10_5 : mvR ex10C (0, 0) ⟨119, 0, 0, 0⟩ true = ((0, 2), 0, true) := by decide
end Go.Proofs.YthlhgkeodaifcaaDoor.U
