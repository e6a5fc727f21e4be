/-
  A swap of lines as a change that fits them.
-/
import Derived.Test.YtalhiedbhcklgaaVTree
namespace Go.Proofs.Ytalhiedbhcklgaa.U
set_option linter.unusedVariables false
set_option linter.unusedSimpArgs false

def fitK (l : List (List Int)) (p : Int) : Nat := (max 0 (min p l.length)).toNat
def fitN (l : List (List Int)) (p q : Int) : Nat := (max 0 (min q ((l.length : Int) - fitK l p))).toNat
def fitC (l : List (List Int)) (p q : Int) (M : List (List Int)) : Ch := ⟨(fitK l p : Nat), (l.drop (fitK l p)).take (fitN l p q), if l.length - fitN l p q + M.length = 0 then [[]] else M⟩
theorem fitK_le (l : List (List Int)) (p : Int) : fitK l p ≤ l.length := by unfold fitK; omega
theorem fitN_le (l : List (List Int)) (p q : Int) : fitK l p + fitN l p q ≤ l.length := by have := fitK_le l p; unfold fitN; omega
theorem fitC_old (l : List (List Int)) (p q : Int) (M : List (List Int)) : (fitC l p q M).old.length = fitN l p q := by
  have := fitN_le l p q
  unfold fitC
  simp only [List.length_take, List.length_drop]
  omega
/-- it fits, and leaves a line -/
theorem fit_ok (l : List (List Int)) (p q : Int) (M : List (List Int)) : ∃ r, doC l (fitC l p q M) = (r, 0) ∧ r ≠ [] := by
  have h1 := fitN_le l p q
  have h2 := fitC_old l p q M
  have hne : l.take (fitK l p) ++ ((fitC l p q M).now ++ l.drop (fitK l p + (fitC l p q M).old.length)) ≠ [] := by
    intro e
    have e2 := congrArg List.length e
    rw [h2] at e2
    simp only [List.length_append, List.length_take, List.length_drop, List.length_nil] at e2
    have e3 : (fitC l p q M).now.length = 0 := by omega
    unfold fitC at e3
    simp only at e3
    split at e3
    · simp at e3
    · next hn => apply hn; omega
  exact ⟨_, doC_mk (l := l) (c := fitC l p q M) (k := fitK l p) rfl (by rw [h2]; exact h1) (by rw [h2]; rfl) hne, hne⟩
end Go.Proofs.Ytalhiedbhcklgaa.U
