/-
  Quoted runes, nested groups: how they are read. No program here.
-/
import Derived.Test.YtkjiobbkbhmijaaRPatT
import Derived.Test.YtkjiobbkbhmijaaRSameP
namespace Go.Proofs.Ytkjiobbkbhmijaa.U
set_option linter.unusedVariables false
set_option linter.unusedSimpArgs false
set_option maxRecDepth 100000

def special (c : Int) : Bool := c == 92 || c == 46 || c == 91 || c == 42 || c == 94 || c == 36
def quote : List Int → List Int
  | [] => []
  | c :: l => if special c then 92 :: c :: quote l else c :: quote l
theorem quote_append : ∀ (l m : List Int), quote (l ++ m) = quote l ++ quote m
  | [], m => rfl
  | c :: l, m => by
    rw [List.cons_append, quote, quote, quote_append l m]
    split <;> rfl
theorem quote_len : ∀ l : List Int, l.length ≤ (quote l).length ∧ (quote l).length ≤ 2 * l.length
  | [] => ⟨Nat.le_refl _, Nat.le_refl _⟩
  | c :: l => by
    have := quote_len l
    rw [quote]
    split <;> simp <;> omega
theorem special_iff (c : Int) : special c = true ↔ c = 92 ∨ c = 46 ∨ c = 91 ∨ c = 42 ∨ c = 94 ∨ c = 36 := by
  simp [special, or_assoc]
theorem quote_no (l : List Int) : pre [42] (quote l) = false ∧ pre [94] (quote l) = false ∧ (∀ d, special d = false → pre [92, d] (quote l) = false) := by
  cases l with
  | nil => exact ⟨rfl, rfl, fun d _ => rfl⟩
  | cons c l =>
    rw [quote]
    by_cases hs : special c = true
    · rw [if_pos hs]
      refine ⟨rfl, rfl, fun d hd => ?_⟩
      have : ¬ d = c := by rintro rfl; rw [hs] at hd; cases hd
      simp [pre, List.isPrefixOf, this]
    · rw [if_neg hs]
      rw [special_iff] at hs
      refine ⟨?_, ?_, fun d hd => ?_⟩
      · have : ¬ 42 = c := by omega
        simp [pre, List.isPrefixOf, this]
      · have : ¬ 94 = c := by omega
        simp [pre, List.isPrefixOf, this]
      · have : ¬ 92 = c := by omega
        simp [pre, List.isPrefixOf, this]
theorem pcs_quote (rec : Rec) (o : Nat) : ∀ (l : List Int) (f : Nat) (acc : List Re) (n : Nat), l.length < f → pcsR rec o f acc (quote l) n = .ok (acc ++ l.map Re.rune, [], n)
  | [], f + 1, acc, n, h => by rw [quote, pcs_end _ _ _ _ _ _ rfl]; simp
  | c :: l, f + 1, acc, n, h => by
    have hq := quote_no (c :: l)
    have hq2 := quote_no l
    have hen : ended (quote (c :: l)) = false := by
      unfold ended
      rw [hq.2.2 124 (by decide), hq.2.2 41 (by decide)]
      rw [quote]
      split <;> rfl
    have ha : atomR rec (quote (c :: l)) n o = .ok (Re.rune c, quote l, n) := by
      rw [quote]
      by_cases hs : special c = true
      · rw [if_pos hs]
        rw [special_iff] at hs
        show escR rec (c :: quote l) n o = _
        unfold escR
        have h1 : ¬ c = 40 := by omega
        have h2 : ¬ c = 60 := by omega
        have h3 : ¬ c = 62 := by omega
        have h4 : ¬ c = 123 := by omega
        have h5 : ¬ c = 125 := by omega
        simp only [if_neg h1, if_neg h2, if_neg h3, if_neg h4, if_neg h5]
      · rw [if_neg hs]
        rw [special_iff] at hs
        unfold atomR
        have h1 : ¬ c = 46 := by omega
        have h2 : ¬ c = 91 := by omega
        have h3 : ¬ c = 36 := by omega
        have h4 : ¬ c = 92 := by omega
        simp only [if_neg h1, if_neg h2, h3, false_and, if_false, if_neg h4]
    have hr : reps ((quote l).length + 1) (Re.rune c) (quote l) = .ok (Re.rune c, quote l) := reps_end _ _ _ hq2.1 (hq2.2.2 123 (by decide))
    rw [pcsR_succ rec o f acc (quote (c :: l)) n _ _ _ _ _ hen ha hr, pcs_quote rec o l f _ n (by simp at h; omega)]
    simp
theorem szs_runes : ∀ l : List Int, szs (l.map Re.rune) = l.length
  | [] => rfl
  | c :: l => by
    rw [List.map_cons, szs, szs_runes l]
    have : (Re.rune c).sz = 1 := rfl
    rw [this, List.length_cons]; omega
theorem parse_quote (l : List Int) (h : l.length ≤ 300) : parse (quote l) = .ok (joinR 8 (l.map Re.rune), 0) := by
  rw [parse_eq]
  have hp : pcs0 (alts 16) (quote l) 0 0 = .ok (l.map Re.rune, [], 0) := by
    unfold pcs0
    rw [(quote_no l).2.1, if_neg (by simp), pcs_quote _ _ l _ _ _ (by have := (quote_len l).1; omega)]
    simp
  have ha : alts 17 (quote l) 0 0 = .ok (joinR 8 (l.map Re.rune), [], 0) := by
    show altsR (alts 16) _ _ _ = _
    rw [altsR_eq]
    unfold alts0
    rw [altR_eq, hp]
    show altF 9 (altsL (alts 16) 0 (0 + 1) [joinR 8 (l.map Re.rune)] [] 0) = _
    rfl
  rw [ha, parseF_ok, if_neg]
  rw [joinR_sz 8 (by decide)]
  have := szs_runes l
  match hm : l.map Re.rune with
  | [] => simp
  | [x] => rw [hm] at this; simp [szs] at this; simp; omega
  | x :: y :: xs => rw [hm] at this; simp only; omega

-- nested groups
def opens : Nat → List Int
  | 0 => []
  | n + 1 => opens n ++ [92, 40]
def closes : Nat → List Int
  | 0 => []
  | n + 1 => closes n ++ [92, 41]
def nestP (n : Nat) : List Int := opens n ++ [97] ++ closes n
/-- k groups one within the other, from number i on -/
def nestR : Nat → Nat → Re
  | 0, _ => Re.rune 97
  | k + 1, i => (nestR k (i + 1)).grp i
def nestOk (n : Nat) : Bool :=
  (match parse (nestP n) with
   | .ok (y, _) => decide (n ≤ 16) && y.same (nestR n 1)
   | .error e => decide (16 < n) && (e == 12)) &&
  (match parse (nestP n ++ [92, 41]) with
   | .ok _ => false
   | .error e => decide (16 < n) || (e == 10))
theorem nest_tab : (List.range 21).all nestOk = true := by kernel_rfl
theorem nest_facts (n : Nat) (h : n ≤ 20) : (n ≤ 16 → ∃ g, parse (nestP n) = .ok (nestR n 1, g)) ∧ (16 < n → parse (nestP n) = .error 12) ∧ (n ≤ 16 → parse (nestP n ++ [92, 41]) = .error 10) := by
  have := nest_tab
  rw [List.all_eq_true] at this
  have := this n (by simp; omega)
  unfold nestOk at this
  rw [Bool.and_eq_true] at this
  obtain ⟨h1, h2⟩ := this
  refine ⟨fun hn => ?_, fun hn => ?_, fun hn => ?_⟩
  · cases hp : parse (nestP n) with
    | error e => rw [hp] at h1; simp at h1; omega
    | ok q =>
      obtain ⟨y, g⟩ := q
      rw [hp] at h1
      simp only [Bool.and_eq_true, decide_eq_true_eq] at h1
      rw [(Re.same_iff _ _).1 h1.2]
      exact ⟨g, rfl⟩
  · cases hp : parse (nestP n) with
    | error e => rw [hp] at h1; simp at h1; rw [h1.2]
    | ok q =>
      obtain ⟨y, g⟩ := q
      rw [hp] at h1
      simp only [Bool.and_eq_true, decide_eq_true_eq] at h1
      omega
  · cases hp : parse (nestP n ++ [92, 41]) with
    | error e => rw [hp] at h2; simp at h2; rcases h2 with h2 | h2; omega; rw [h2]
    | ok q => rw [hp] at h2; simp at h2
end Go.Proofs.Ytkjiobbkbhmijaa.U
