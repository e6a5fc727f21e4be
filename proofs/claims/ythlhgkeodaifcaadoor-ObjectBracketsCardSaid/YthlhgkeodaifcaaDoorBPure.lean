/-
  What stands around a place, as plain mathematics. No program here.
-/
import Derived.Test.YthlhgkeodaifcaaDoorOLawP
namespace Go.Proofs.YthlhgkeodaifcaaDoor.U
set_option linter.unusedVariables false
set_option linter.unusedSimpArgs false

/-- down from k, as long as f holds of the one below -/
def lowC (f : Nat → Bool) : Nat → Nat
  | 0 => 0
  | k + 1 => if f k then lowC f k else k + 1
/-- up from b, d steps at most, as long as f holds of the one above -/
def highC (f : Nat → Bool) : Nat → Nat → Nat
  | 0, b => b
  | d + 1, b => if f (b + 1) then highC f d (b + 1) else b
/-- the longest piece around i of those from 0 on and below n of which f holds as it does of i -/
def spanC (g : Nat → Int) (n i : Nat) : Nat × Nat := (lowC (fun k => g k == g i) i, highC (fun k => g k == g i) (n - 1 - i) i)
/-- a rune's class in a line -/
def clsAt (big : Bool) (x : List Int) (k : Nat) : Int := cls big (x.getD k 0)
def runC (big : Bool) (x : List Int) (k : Nat) : Nat × Nat := spanC (clsAt big x) x.length k
def wordsP (x : List Int) (col : Nat) (big around : Bool) : Option (Nat × Nat) :=
  if x = [] then none
  else if around = false then some (runC big x col)
  else if (runC big x col).2 + 1 < x.length ∧ (clsAt big x col = 0 ∨ clsAt big x ((runC big x col).2 + 1) = 0) then some ((runC big x col).1, (runC big x ((runC big x col).2 + 1)).2)
  else if clsAt big x col = 0 then none
  else if 0 < (runC big x col).1 ∧ clsAt big x ((runC big x col).1 - 1) = 0 then some ((runC big x ((runC big x col).1 - 1)).1, (runC big x col).2)
  else some (runC big x col)
/-- is a line empty? -/
def empL (L : List (List Int)) (k : Nat) : Int := if (lnL L k).length = 0 then 1 else 0
def blockC (L : List (List Int)) (i : Nat) : Nat × Nat := spanC (empL L) L.length i
def blocksP (L : List (List Int)) (i : Nat) (around : Bool) : Option (Nat × Nat) :=
  if around = false then some (blockC L i)
  else if (blockC L i).2 + 1 < L.length then some ((blockC L i).1, (blockC L ((blockC L i).2 + 1)).2)
  else if empL L i = 1 then none
  else if 0 < (blockC L i).1 then some ((blockC L ((blockC L i).1 - 1)).1, (blockC L i).2)
  else some (blockC L i)
/-- the first pair whose second one is not ahead of a column -/
def quoP (col : Nat) : List Nat → Option (Nat × Nat)
  | a :: b :: t => if col ≤ b then some (a, b) else quoP col t
  | _ => none
def quotesP (x : List Int) (col : Nat) (key : Int) (around : Bool) : Option (Nat × Nat) :=
  match quoP col ((List.range x.length).filter fun i => x.getD i 0 == key) with
  | none => none
  | some (a, b) => if around = true then some (a, b) else if a + 1 < b then some (a + 1, b - 1) else none
/-- the brackets of a key -/
def brk (key : Int) : Option (Int × Int) :=
  if key = 40 ∨ key = 41 ∨ key = 98 then some (40, 41) else if key = 91 ∨ key = 93 then some (91, 93)
  else if key = 123 ∨ key = 125 ∨ key = 66 then some (123, 125) else if key = 60 ∨ key = 62 then some (60, 62) else none
/-- an opening bracket ahead of p or at it, whose closing one is not ahead of p -/
def opensB (L : List (List Int)) (p : Pl) (o c : Int) (e : Pl × Int) : Bool := !aheadP p e.1 && (e.2 == o) && (match scanB o c 0 (fromP L e.1) with | some q => !aheadP q p | none => false)
/-- the pair around a place -/
def pairP (L : List (List Int)) (p : Pl) (o c : Int) : Option (Pl × Pl) :=
  ((runesP L).reverse.find? (opensB L p o c)).bind fun e => (scanB o c 0 (fromP L e.1)).map fun q => (e.1, q)
def bracketsP (L : List (List Int)) (p : Pl) (o c : Int) (around : Bool) : Option (Pl × Pl) :=
  match pairP L p o c with
  | none => none
  | some (a, b) =>
    if around = true then some (a, b)
    else
      if b.2 = 0 ∧ b.1 = 0 then none
      else if (if a.2 + 1 = (lnL L a.1).length then ((a.1 + 1, 0) : Pl) else (a.1, a.2 + 1)).1 ≥ L.length ∨ aheadP (if b.2 = 0 then ((b.1 - 1, (lnL L (b.1 - 1)).length - 1) : Pl) else (b.1, b.2 - 1)) (if a.2 + 1 = (lnL L a.1).length then ((a.1 + 1, 0) : Pl) else (a.1, a.2 + 1)) = true then none
      else some (if a.2 + 1 = (lnL L a.1).length then ((a.1 + 1, 0) : Pl) else (a.1, a.2 + 1), if b.2 = 0 then ((b.1 - 1, (lnL L (b.1 - 1)).length - 1) : Pl) else (b.1, b.2 - 1))
/-- what stands around a cursor's place: from, to, the kind -/
def fdP (L : List (List Int)) (p : Pl) (key : Int) (around : Bool) : Option (Pl × Pl × Int) :=
  if key = 119 ∨ key = 87 then (wordsP (lnL L p.1) p.2 (key == 87) around).map fun r => ((p.1, r.1), (p.1, r.2), 0)
  else if key = 34 ∨ key = 39 ∨ key = 96 then (quotesP (lnL L p.1) p.2 key around).map fun r => ((p.1, r.1), (p.1, r.2), 0)
  else if key = 112 then (blocksP L p.1 around).map fun r => ((r.1, 0), (r.2, 0), 1)
  else match brk key with
    | none => none
    | some (o, c) => (bracketsP L p o c around).map fun r => (r.1, r.2, 0)
def fdR (L : List (List Int)) (p : Pl) (key : Int) (around : Bool) : Pl × Pl × Int × Bool :=
  if L = [] then ((0, 0), (0, 0), 0, false)
  else match fdP L p key around with
  | none => ((0, 0), (0, 0), 0, false)
  | some (a, b, k) => (a, b, k, true)

-- the chapter's examples
def ex11A : List (List Int) := [[97, 98, 32, 99, 100]]
def ex11B : List (List Int) := [[102, 40, 97, 32, 98, 41]]
def ex11C : List (List Int) := [[120, 32, 34, 121, 34, 32, 122]]
theorem ex11_0 : fdR ex11A (0, 1) 119 false = ((0, 0), (0, 1), 0, true) := by decide
theorem ex11_1 : fdR ex11A (0, 1) 119 true = ((0, 0), (0, 2), 0, true) := by decide
theorem ex11_2 : fdR ex11B (0, 3) 40 false = ((0, 2), (0, 4), 0, true) := by decide
theorem ex11_3 : fdR ex11B (0, 3) 40 true = ((0, 1), (0, 5), 0, true) := by decide
theorem ex11_4 : fdR ex11C (0, 0) 34 false = ((0, 3), (0, 3), 0, true) := by decide

-- pieces
theorem lowC_le (f : Nat → Bool) : ∀ k, lowC f k ≤ k
  | 0 => Nat.le_refl _
  | k + 1 => by
    rw [lowC]; split
    · have := lowC_le f k; omega
    · exact Nat.le_refl _
theorem lowC_all (f : Nat → Bool) : ∀ k i, lowC f k ≤ i → i < k → f i = true
  | 0, i, _, h => by omega
  | k + 1, i, h1, h2 => by
    rw [lowC] at h1
    split at h1
    · rename_i hf
      by_cases e : i = k
      · rw [e]; exact hf
      · exact lowC_all f k i h1 (by omega)
    · omega
theorem lowC_end (f : Nat → Bool) : ∀ k, lowC f k = 0 ∨ f (lowC f k - 1) = false
  | 0 => Or.inl rfl
  | k + 1 => by
    rw [lowC]
    split
    · exact lowC_end f k
    · rename_i hf
      right; simpa using hf
theorem highC_ge (f : Nat → Bool) : ∀ d b, b ≤ highC f d b ∧ highC f d b ≤ b + d
  | 0, b => ⟨Nat.le_refl _, Nat.le_refl _⟩
  | d + 1, b => by
    rw [highC]; split
    · have := highC_ge f d (b + 1); omega
    · omega
theorem highC_all (f : Nat → Bool) : ∀ d b i, b < i → i ≤ highC f d b → f i = true
  | 0, b, i, h1, h2 => by rw [highC] at h2; omega
  | d + 1, b, i, h1, h2 => by
    rw [highC] at h2
    split at h2
    · rename_i hf
      by_cases e : i = b + 1
      · rw [e]; exact hf
      · exact highC_all f d (b + 1) i (by omega) h2
    · omega
theorem highC_end (f : Nat → Bool) : ∀ d b, highC f d b = b + d ∨ f (highC f d b + 1) = false
  | 0, b => Or.inl rfl
  | d + 1, b => by
    rw [highC]
    split
    · rcases highC_end f d (b + 1) with h | h
      · left; omega
      · exact Or.inr h
    · rename_i hf
      right; simpa using hf
/-- a piece: all alike, and it can't be longer -/
theorem span_props (g : Nat → Int) {n i : Nat} (hi : i < n) : (spanC g n i).1 ≤ i ∧ i ≤ (spanC g n i).2 ∧ (spanC g n i).2 < n ∧ (∀ k, (spanC g n i).1 ≤ k → k ≤ (spanC g n i).2 → g k = g i) ∧
    ((spanC g n i).1 = 0 ∨ g ((spanC g n i).1 - 1) ≠ g i) ∧ ((spanC g n i).2 + 1 = n ∨ g ((spanC g n i).2 + 1) ≠ g i) := by
  unfold spanC
  simp only
  obtain ⟨h1, h2⟩ := highC_ge (fun k => g k == g i) (n - 1 - i) i
  have h0 := lowC_le (fun k => g k == g i) i
  refine ⟨h0, h1, by omega, fun k hk1 hk2 => ?_, ?_, ?_⟩
  · rcases Nat.lt_trichotomy k i with h | h | h
    · have := lowC_all (fun k => g k == g i) i k hk1 h; simpa using this
    · rw [h]
    · have := highC_all (fun k => g k == g i) (n - 1 - i) i k h hk2; simpa using this
  · rcases lowC_end (fun k => g k == g i) i with h | h
    · exact Or.inl h
    · right; simpa using h
  · rcases highC_end (fun k => g k == g i) (n - 1 - i) i with h | h
    · left; omega
    · right; simpa using h
end Go.Proofs.YthlhgkeodaifcaaDoor.U
