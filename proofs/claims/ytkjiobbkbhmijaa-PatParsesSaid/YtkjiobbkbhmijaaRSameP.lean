/-
  Are two parts the same? No program here.
-/
import Derived.Test.YtkjiobbkbhmijaaRPure
namespace Go.Proofs.Ytkjiobbkbhmijaa.U
set_option linter.unusedVariables false
set_option linter.unusedSimpArgs false

mutual
def Re.same : Re → Re → Bool
  | .mk k r st nt lo hi ps, .mk k' r' st' nt' lo' hi' ps' => k == k' && r == r' && nt == nt' && lo == lo' && hi == hi' && st == st' && sames ps ps'
def sames : List Re → List Re → Bool
  | [], [] => true
  | x :: xs, y :: ys => x.same y && sames xs ys
  | _, _ => false
end
mutual
theorem Re.same_iff : ∀ (x y : Re), x.same y = true ↔ x = y
  | .mk k r st nt lo hi ps, .mk k' r' st' nt' lo' hi' ps' => by
    unfold Re.same
    simp only [Bool.and_eq_true, beq_iff_eq, Re.mk.injEq, sames_iff ps ps']
    constructor
    · rintro ⟨⟨⟨⟨⟨⟨h1, h2⟩, h3⟩, h4⟩, h5⟩, h6⟩, h7⟩; exact ⟨h1, h2, h6, h3, h4, h5, h7⟩
    · rintro ⟨h1, h2, h6, h3, h4, h5, h7⟩; exact ⟨⟨⟨⟨⟨⟨h1, h2⟩, h3⟩, h4⟩, h5⟩, h6⟩, h7⟩
theorem sames_iff : ∀ (xs ys : List Re), sames xs ys = true ↔ xs = ys
  | [], [] => by simp [sames]
  | x :: xs, [] => by simp [sames]
  | [], y :: ys => by simp [sames]
  | x :: xs, y :: ys => by
    unfold sames
    simp only [Bool.and_eq_true, List.cons.injEq, Re.same_iff x y, sames_iff xs ys]
end
end Go.Proofs.Ytkjiobbkbhmijaa.U
