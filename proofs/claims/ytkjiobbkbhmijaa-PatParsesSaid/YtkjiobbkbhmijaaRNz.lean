/-
  A pattern that is not read has an error's number, never 0. No program here.
-/
import Derived.Test.YtkjiobbkbhmijaaRPure
namespace Go.Proofs.Ytkjiobbkbhmijaa.U
set_option linter.unusedVariables false
set_option linter.unusedSimpArgs false

theorem counts_nz (l : List Int) : counts l ≠ .error 0 := by
  unfold counts
  split
  · simp
  split
  · simp
  split <;> simp
theorem reps_nz : ∀ (f : Nat) (x : Re) (l : List Int), l.length < f → reps f x l ≠ .error 0
  | 0, x, l, h => by omega
  | f + 1, x, l, h => by
    unfold reps
    split
    · rename_i hp
      have := pre_len hp
      exact reps_nz f _ _ (by simp only [List.length_drop, List.length_cons, List.length_nil] at *; omega)
    split
    · rename_i hp
      have := pre_len hp
      split
      · rename_i e hc
        intro he
        simp only [Except.error.injEq] at he
        subst he
        exact counts_nz _ hc
      · rename_i hc
        have := (counts_suffix hc).length_le
        exact reps_nz f _ _ (by simp only [List.length_drop, List.length_cons, List.length_nil] at *; omega)
    · simp
theorem items_nz : ∀ (f : Nat) (acc : List (Int × Int)) (l : List Int), items f acc l ≠ .error 0
  | 0, acc, l => by simp [items]
  | f + 1, acc, l => by
    unfold items
    split
    · simp
    split
    · simp
    split
    · exact items_nz f _ _
    · exact items_nz f _ _
theorem setB_nz (b : Bool) (l : List Int) : setB b l ≠ .error 0 := by
  unfold setB
  split
  · rename_i e h
    intro he
    simp only [Except.error.injEq] at he
    subst he
    exact items_nz _ _ _ h
  · split <;> simp
theorem setN_nz (l : List Int) (n : Nat) : setN l n ≠ .error 0 := by
  unfold setN setR
  split
  · rename_i e h
    intro he
    simp only [Except.error.injEq] at he
    subst he
    split at h
    · exact setB_nz _ _ h
    · exact setB_nz _ _ h
  · simp
def RecNZ (rec : Rec) (o : Nat) : Prop := ∀ l n, rec l n o ≠ .error 0
theorem grpR_nz {rec : Rec} {o : Nat} (hr : o ≠ 16 → RecNZ rec (o + 1)) (l : List Int) (n : Nat) : grpR rec l n o ≠ .error 0 := by
  unfold grpR
  split
  · simp
  · rename_i ho
    split
    · rename_i e h
      intro he
      simp only [Except.error.injEq] at he
      subst he
      exact hr ho _ _ h
    · split <;> simp
theorem escR_nz {rec : Rec} {o : Nat} (hr : o ≠ 16 → RecNZ rec (o + 1)) (l : List Int) (n : Nat) : escR rec l n o ≠ .error 0 := by
  unfold escR
  split
  · simp
  · split
    · exact grpR_nz hr _ _
    repeat' split
    all_goals simp
theorem atomR_nz {rec : Rec} {o : Nat} (hr : o ≠ 16 → RecNZ rec (o + 1)) (l : List Int) (n : Nat) (hl : l ≠ []) : atomR rec l n o ≠ .error 0 := by
  cases l with
  | nil => exact absurd rfl hl
  | cons c l =>
    unfold atomR
    simp only
    split
    · simp
    split
    · exact setN_nz _ _
    split
    · simp
    split
    · exact escR_nz hr _ _
    · simp
theorem pcsR_nz {rec : Rec} (hs : RecS rec) {o : Nat} (hr : o ≠ 16 → RecNZ rec (o + 1)) : ∀ (f : Nat) (acc : List Re) (l : List Int) (n : Nat), l.length < f → pcsR rec o f acc l n ≠ .error 0
  | 0, acc, l, n, h => by omega
  | f + 1, acc, l, n, h => by
    unfold pcsR
    split
    · simp
    rename_i he
    have hl : l ≠ [] := by rintro rfl; exact he rfl
    split
    · rename_i e h1
      intro he
      simp only [Except.error.injEq] at he
      subst he
      exact atomR_nz hr _ _ hl h1
    · rename_i x l1 n1 h1
      have h2 := (atomR_suffix hs h1).2
      split
      · rename_i e h3
        intro he
        simp only [Except.error.injEq] at he
        subst he
        exact reps_nz _ _ _ (by omega) h3
      · rename_i y l2 h3
        have := (reps_suffix _ _ _ h3).length_le
        exact pcsR_nz hs hr f _ _ _ (by omega)
theorem altR_nz {rec : Rec} (hs : RecS rec) {o : Nat} (hr : o ≠ 16 → RecNZ rec (o + 1)) (l : List Int) (n : Nat) : altR rec l n o ≠ .error 0 := by
  unfold altR
  split
  · rename_i e h1
    intro he
    simp only [Except.error.injEq] at he
    subst he
    unfold pcs0 at h1
    split at h1
    · exact pcsR_nz hs hr _ _ _ _ (by simp only [List.length_drop]; omega) h1
    · exact pcsR_nz hs hr _ _ _ _ (by omega) h1
  · simp
theorem altsL_nz {rec : Rec} (hs : RecS rec) {o : Nat} (hr : o ≠ 16 → RecNZ rec (o + 1)) : ∀ (f : Nat) (acc : List Re) (l : List Int) (n : Nat), l.length < f → altsL rec o f acc l n ≠ .error 0
  | 0, acc, l, n, h => by omega
  | f + 1, acc, l, n, h => by
    unfold altsL
    split
    · rename_i hp
      have := pre_len hp
      split
      · rename_i e h1
        intro he
        simp only [Except.error.injEq] at he
        subst he
        exact altR_nz hs hr _ _ h1
      · rename_i x l1 n1 h1
        have := (altR_suffix hs h1).length_le
        exact altsL_nz hs hr f _ _ _ (by simp only [List.length_drop, List.length_cons, List.length_nil] at *; omega)
    · simp
theorem altsR_nz {rec : Rec} (hs : RecS rec) {o : Nat} (hr : o ≠ 16 → RecNZ rec (o + 1)) : RecNZ (altsR rec) o := by
  intro l n
  unfold altsR
  split
  · rename_i e h1
    intro he
    simp only [Except.error.injEq] at he
    subst he
    unfold alts0 at h1
    split at h1
    · rename_i e h2
      simp only [Except.error.injEq] at h1
      subst h1
      exact altR_nz hs hr _ _ h2
    · exact altsL_nz hs hr _ _ _ _ (by omega) h1
  · simp
theorem alts_nz : ∀ (d o : Nat), d + o = 17 → o ≤ 16 → RecNZ (alts d) o
  | 0, o, h, ho => by omega
  | d + 1, o, h, ho => altsR_nz (alts_suffix d) (fun h16 => alts_nz d (o + 1) (by omega) (by omega))
theorem parse_nz {p : List Int} {c : Int} (h : parse p = .error c) : c ≠ 0 := by
  rintro rfl
  unfold parse at h
  split at h
  · rename_i e h1
    simp only [Except.error.injEq] at h
    subst h
    exact alts_nz 17 0 rfl (by omega) _ _ h1
  · split at h
    · cases h
    split at h
    · cases h
    · cases h
end Go.Proofs.Ytkjiobbkbhmijaa.U
