/-
  The object of a row, as plain mathematics. No program here.
-/
import Derived.Test.YthlhgkeodaifcaaDoorBLaw
namespace Go.Proofs.YthlhgkeodaifcaaDoor.U
set_option linter.unusedVariables false
set_option linter.unusedSimpArgs false

def partB (g : Nat → Int) (n : Nat) (v : Int) : Bool := decide (0 ≤ v) && decide (v < (n : Int)) && (g v.toNat == 0)
def objP (g : Nat → Int) (n i : Nat) (around : Bool) : Option (Nat × Nat) :=
  if around = false then some (spanC g n i)
  else if g i = 0 then (if (spanC g n i).2 + 1 = n then none else some ((spanC g n i).1, (spanC g n ((spanC g n i).2 + 1)).2))
  else if partB g n ((spanC g n i).2 + 1 : Nat) = true then some ((spanC g n i).1, (spanC g n ((spanC g n i).2 + 1)).2)
  else if partB g n (((spanC g n i).1 : Int) - 1) = true then some ((spanC g n ((spanC g n i).1 - 1)).1, (spanC g n i).2)
  else some (spanC g n i)
theorem part_nat {g : Nat → Int} {n k : Nat} : partB g n (k : Int) = true ↔ k < n ∧ g k = 0 := by
  unfold partB
  simp only [Bool.and_eq_true, decide_eq_true_eq, beq_iff_eq, Int.toNat_natCast]
  omega
theorem part_low {g : Nat → Int} {n k : Nat} : partB g n ((k : Int) - 1) = true ↔ 0 < k ∧ k - 1 < n ∧ g (k - 1) = 0 := by
  unfold partB
  simp only [Bool.and_eq_true, decide_eq_true_eq, beq_iff_eq]
  have : ((k : Int) - 1).toNat = k - 1 := by omega
  rw [this]
  omega
theorem words_obj {x : List Int} {col : Nat} {big around : Bool} (hc : col < x.length) : wordsP x col big around = objP (clsAt big x) x.length col around := by
  have hx : x ≠ [] := by rintro rfl; simp at hc
  obtain ⟨h1, h2, h3, -⟩ := run_props (big := big) hc
  have e : runC big x = spanC (clsAt big x) x.length := rfl
  unfold wordsP objP
  rw [if_neg hx, e]
  rw [e] at h1 h2 h3
  cases around with
  | false => rfl
  | true =>
    simp only [show (true = false) = False by simp, if_false]
    by_cases h0 : clsAt big x col = 0
    · by_cases hn : (spanC (clsAt big x) x.length col).2 + 1 = x.length
      · rw [if_neg (by omega)]
        simp only [if_pos h0, if_pos hn]
      · rw [if_pos ⟨by omega, .inl h0⟩]
        simp only [if_pos h0, if_neg hn]
    · by_cases hp : partB (clsAt big x) x.length ((spanC (clsAt big x) x.length col).2 + 1 : Nat) = true
      · obtain ⟨p1, p2⟩ := part_nat.1 hp
        rw [if_pos ⟨p1, .inr p2⟩]
        simp only [if_neg h0, if_pos hp]
      · have hp' := fun h => hp (part_nat.2 h)
        rw [if_neg (fun h => hp' ⟨h.1, h.2.resolve_left h0⟩)]
        simp only [if_neg h0, if_neg hp]
        by_cases hq : partB (clsAt big x) x.length (((spanC (clsAt big x) x.length col).1 : Int) - 1) = true
        · obtain ⟨q1, q2, q3⟩ := part_low.1 hq
          rw [if_pos ⟨q1, q3⟩]
          simp only [if_pos hq]
        · rw [if_neg (fun h => hq (part_low.2 ⟨h.1, by omega, h.2⟩))]
          simp only [if_neg hq]
/-- a line's class: 0, if it is empty -/
def clsL (L : List (List Int)) (k : Nat) : Int := if (lnL L k).length = 0 then 0 else 1
theorem clsL_emp (L : List (List Int)) (k : Nat) : empL L k = 1 - clsL L k := by
  unfold empL clsL
  split <;> rfl
theorem lowC_congr {f g : Nat → Bool} (h : ∀ k, f k = g k) : ∀ k, lowC f k = lowC g k
  | 0 => rfl
  | k + 1 => by rw [lowC, lowC, h k, lowC_congr h k]
theorem highC_congr {f g : Nat → Bool} (h : ∀ k, f k = g k) : ∀ d b, highC f d b = highC g d b
  | 0, b => rfl
  | d + 1, b => by rw [highC, highC, h (b + 1), highC_congr h d (b + 1)]
theorem block_span (L : List (List Int)) (i : Nat) : blockC L i = spanC (clsL L) L.length i := by
  have h : ∀ k, (empL L k == empL L i) = (clsL L k == clsL L i) := fun k => by
    rw [clsL_emp, clsL_emp, Bool.eq_iff_iff]
    simp only [beq_iff_eq]
    omega
  unfold blockC spanC
  rw [lowC_congr h, highC_congr h]
theorem clsL_two (L : List (List Int)) (k : Nat) : clsL L k = 0 ∨ clsL L k = 1 := by
  unfold clsL
  split
  · left; rfl
  · right; rfl
theorem blocks_obj {L : List (List Int)} {i : Nat} {around : Bool} (hi : i < L.length) : blocksP L i around = objP (clsL L) L.length i around := by
  obtain ⟨h1, h2, h3, -, h5, h6⟩ := block_props hi
  unfold blocksP objP
  have e : ∀ k, blockC L k = spanC (clsL L) L.length k := block_span L
  have em : ∀ k, empL L k = 1 - clsL L k := clsL_emp L
  have tw := clsL_two L
  rw [e] at h1 h2 h3 h5 h6
  simp only [em] at h5 h6
  simp only [e, em]
  cases around with
  | false => rfl
  | true =>
    simp only [show (true = false) = False by simp, if_false]
    obtain ⟨⟨fr, te⟩, hs⟩ : ∃ y, spanC (clsL L) L.length i = y := ⟨_, rfl⟩
    rw [hs] at h1 h2 h3 h5 h6 ⊢
    simp only at h1 h2 h3 h5 h6 ⊢
    have t1 := tw i
    have t2 := tw (te + 1)
    have t3 := tw (fr - 1)
    by_cases h0 : clsL L i = 0
    · by_cases hn : te + 1 = L.length
      · rw [if_neg (by omega), if_pos (by omega)]
        simp only [if_pos h0, if_pos hn]
      · rw [if_pos (by omega)]
        simp only [if_pos h0, if_neg hn]
    · by_cases hp : partB (clsL L) L.length (te + 1 : Nat) = true
      · obtain ⟨q1, q2⟩ := part_nat.1 hp
        rw [if_pos q1]
        simp only [if_neg h0, if_pos hp]
      · have hp' := fun h => hp (part_nat.2 h)
        have hlt : ¬ te + 1 < L.length := fun h => by
          rcases h6 with h6 | h6
          · omega
          · exact hp' ⟨h, by omega⟩
        rw [if_neg hlt, if_neg (by omega)]
        simp only [if_neg h0, if_neg hp]
        by_cases hq : partB (clsL L) L.length ((fr : Int) - 1) = true
        · obtain ⟨q1, q2, q3⟩ := part_low.1 hq
          rw [if_pos q1]
          simp only [if_pos hq]
        · rw [if_neg (fun h => hq (part_low.2 ⟨h, by omega, by
            rcases h5 with h5 | h5
            · omega
            · omega⟩))]
          simp only [if_neg hq]
/-- what object tells -/
def spP : Option (Nat × Nat) → Int × Int × Bool
  | none => (0, 0, false)
  | some (a, b) => ((a : Nat), ((b + 1 : Nat) : Int), true)
end Go.Proofs.YthlhgkeodaifcaaDoor.U
