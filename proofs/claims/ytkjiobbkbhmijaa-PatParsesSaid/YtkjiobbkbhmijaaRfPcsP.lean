/-
  Pieces of an alternative, one step at a time. No program here.
-/
import Derived.Test.YtkjiobbkbhmijaaRfAtom
import Derived.Test.YtkjiobbkbhmijaaRSize
namespace Go.Proofs.Ytkjiobbkbhmijaa.U
set_option linter.unusedVariables false
set_option linter.unusedSimpArgs false

def atBeg (acc : List Re) (l : List Int) : Bool := acc.isEmpty && pre [94] l
def headF (rec : Rec) (o f : Nat) (acc : List Re) (l : List Int) (n : Nat) : Rs (List Re × List Int × Nat) := if atBeg acc l = true then pcsR rec o f [Re.one 4] (l.drop 1) n else pcsR rec o f acc l n
def pce (rec : Rec) (o : Nat) (acc : List Re) (l : List Int) (n : Nat) : Rs (Re × List Int × Nat) := if atBeg acc l = true then .ok (Re.one 4, l.drop 1, n) else atomR rec l n o
def rpX (x : Re) (l : List Int) : Rs (Re × List Int) := if x.kd = 4 then .ok (x, l) else reps (l.length + 1) x l
theorem pcs0_head (rec : Rec) (o : Nat) (l : List Int) (n : Nat) : pcs0 rec l n o = headF rec o (l.length + 1) [] l n := by
  unfold pcs0 headF atBeg
  rfl
theorem head_ne (rec : Rec) (o f : Nat) (acc : List Re) (x : Re) (l : List Int) (n : Nat) : headF rec o f (acc ++ [x]) l n = pcsR rec o f (acc ++ [x]) l n := by
  unfold headF atBeg
  rw [if_neg (by simp)]
theorem ended_beg {acc : List Re} {l : List Int} (h : ended l = true) : atBeg acc l = false := by
  unfold atBeg
  unfold ended at h
  match l, h with
  | [], h => simp [pre, List.isPrefixOf]
  | c :: l, h =>
    have : c = 92 := by
      simp only [List.isEmpty_cons, Bool.false_or, Bool.or_eq_true] at h
      rcases h with h | h
      · simp [pre, List.isPrefixOf] at h; omega
      · simp [pre, List.isPrefixOf] at h; omega
    subst this
    simp [pre, List.isPrefixOf]
theorem head_end (rec : Rec) (o f : Nat) (acc : List Re) (l : List Int) (n : Nat) (h : ended l = true) (hf : l.length < f) : headF rec o f acc l n = .ok (acc, l, n) := by
  obtain ⟨g, rfl⟩ : ∃ g, f = g + 1 := ⟨f - 1, by omega⟩
  unfold headF
  rw [ended_beg h]
  simp only [Bool.false_eq_true, if_false]
  rw [pcsR, if_pos h]
theorem head_err (rec : Rec) (o f : Nat) (acc : List Re) (l : List Int) (n : Nat) (h : ended l = false) (hf : l.length < f) (c : Int) (hp : pce rec o acc l n = .error c) : headF rec o f acc l n = .error c := by
  obtain ⟨g, rfl⟩ : ∃ g, f = g + 1 := ⟨f - 1, by omega⟩
  unfold pce at hp
  unfold headF
  split at hp
  · cases hp
  · rename_i hb
    rw [if_neg hb, pcsR, h, hp]
    rfl
theorem atomR_kd4 {rec : Rec} {l l' : List Int} {n n' o : Nat} {x : Re} (h : atomR rec l n o = .ok (x, l', n')) : x.kd ≠ 4 := by
  cases l with
  | nil => cases h
  | cons c l =>
    unfold atomR at h
    simp only at h
    split at h
    · simp only [Except.ok.injEq, Prod.mk.injEq] at h; rw [← h.1]; simp [Re.one, Re.kd]
    split at h
    · obtain ⟨⟨st, nt, rfl⟩, _⟩ := setN_kind h; simp [Re.kd]
    split at h
    · simp only [Except.ok.injEq, Prod.mk.injEq] at h; rw [← h.1]; simp [Re.one, Re.kd]
    split at h
    · cases l with
      | nil => cases h
      | cons d l =>
        unfold escR at h
        simp only at h
        split at h
        · unfold grpR at h
          split at h
          · cases h
          split at h
          · cases h
          split at h
          · simp only [Except.ok.injEq, Prod.mk.injEq] at h; rw [← h.1]; simp [Re.grp, Re.kd]
          · cases h
        repeat' (split at h)
        all_goals first
          | (cases h; done)
          | (simp only [Except.ok.injEq, Prod.mk.injEq] at h; rw [← h.1]; simp [Re.one, Re.rune, Re.kd])
    · simp only [Except.ok.injEq, Prod.mk.injEq] at h; rw [← h.1]; simp [Re.rune, Re.kd]
theorem head_go_err {rec : Rec} {o f : Nat} {acc : List Re} {l : List Int} {n : Nat} (h : ended l = false) (hf : l.length < f) {x : Re} {l2 : List Int} {n2 : Nat} (hp : pce rec o acc l n = .ok (x, l2, n2)) {c : Int} (hr : rpX x l2 = .error c) : headF rec o f acc l n = .error c := by
  obtain ⟨g, rfl⟩ : ∃ g, f = g + 1 := ⟨f - 1, by omega⟩
  unfold pce at hp
  unfold headF
  split at hp
  · simp only [Except.ok.injEq, Prod.mk.injEq] at hp
    obtain ⟨rfl, rfl, rfl⟩ := hp
    cases hr
  · rename_i hb
    unfold rpX at hr
    rw [if_neg (atomR_kd4 hp)] at hr
    rw [if_neg hb, pcsR, h, hp]
    simp only [Bool.false_eq_true, if_false]
    rw [hr]
theorem head_go_ok {rec : Rec} (hs : RecS rec) {o f : Nat} {acc : List Re} {l : List Int} {n : Nat} (h : ended l = false) (hf : l.length < f) {x : Re} {l2 : List Int} {n2 : Nat} (hp : pce rec o acc l n = .ok (x, l2, n2)) {y : Re} {l3 : List Int} (hr : rpX x l2 = .ok (y, l3)) :
    (∃ f', l3.length < f' ∧ headF rec o f acc l n = headF rec o f' (acc ++ [y]) l3 n2) ∧ l3.length < l.length := by
  obtain ⟨g, rfl⟩ : ∃ g, f = g + 1 := ⟨f - 1, by omega⟩
  unfold pce at hp
  split at hp
  · rename_i hb
    simp only [Except.ok.injEq, Prod.mk.injEq] at hp
    obtain ⟨rfl, rfl, rfl⟩ := hp
    have hr' : (Except.ok (Re.one 4, l.drop 1) : Rs (Re × List Int)) = .ok (y, l3) := hr
    simp only [Except.ok.injEq, Prod.mk.injEq] at hr'
    obtain ⟨rfl, rfl⟩ := hr'
    have hb2 := hb
    simp only [atBeg, Bool.and_eq_true] at hb2
    have hpl := pre_len hb2.2
    have ha : acc = [] := List.isEmpty_iff.1 hb2.1
    subst ha
    simp only [List.length_cons, List.length_nil] at hpl
    have hlen : (l.drop 1).length < l.length := by simp only [List.length_drop]; omega
    refine ⟨⟨g + 1, by omega, ?_⟩, hlen⟩
    rw [head_ne]
    unfold headF
    rw [if_pos hb]
    rfl
  · rename_i hb
    unfold rpX at hr
    rw [if_neg (atomR_kd4 hp)] at hr
    have h1 := (atomR_suffix hs hp).2
    have h2 := (reps_suffix _ _ _ hr).length_le
    refine ⟨⟨g, by omega, ?_⟩, by omega⟩
    rw [head_ne]
    unfold headF
    rw [if_neg hb, pcsR, h, hp]
    simp only [Bool.false_eq_true, if_false]
    rw [hr]
theorem pce_nz {rec : Rec} {o : Nat} (hr : o ≠ 16 → RecNZ rec (o + 1)) {acc : List Re} {l : List Int} {n : Nat} (h : ended l = false) {c : Int} (hp : pce rec o acc l n = .error c) : c ≠ 0 := by
  rintro rfl
  unfold pce at hp
  split at hp
  · cases hp
  · exact atomR_nz hr l n (by rintro rfl; cases h) hp
/-- a repetition more -/
theorem reps_go (f : Nat) (x : Re) (l : List Int) (h : pre [42] l = true ∨ pre [92, 123] l = true) : reps (f + 1) x l = match rep1 x l with
    | .error e => .error e
    | .ok (y, l') => reps f y l' := by
  unfold rep1
  rw [reps]
  cases h42 : pre [42] l with
  | true => rfl
  | false =>
    have h123 := h.resolve_left (by rw [h42]; decide)
    simp only [Bool.false_eq_true, if_false]
    rw [if_pos h123]
    split <;> rename_i hc <;> rw [hc]
theorem reps_stop (f : Nat) (x : Re) (l : List Int) (h1 : pre [42] l = false) (h2 : pre [92, 123] l = false) : reps (f + 1) x l = .ok (x, l) := by
  rw [reps, h1, h2]; rfl
theorem rep1_ok {x y : Re} {l l' : List Int} (h : pre [42] l = true ∨ pre [92, 123] l = true) (hr : rep1 x l = .ok (y, l')) : y.kd ≠ 4 ∧ l'.length < l.length := by
  unfold rep1 at hr
  split at hr
  · rename_i h42
    simp only [Except.ok.injEq, Prod.mk.injEq] at hr
    obtain ⟨rfl, rfl⟩ := hr
    have := pre_len h42
    simp only [List.length_cons, List.length_nil] at this
    exact ⟨by simp [Re.star, Re.kd], by simp only [List.length_drop]; omega⟩
  · rename_i h42
    have h123 := h.resolve_left h42
    have := pre_len h123
    simp only [List.length_cons, List.length_nil] at this
    split at hr
    · cases hr
    · rename_i lo hi l1 hc
      simp only [Except.ok.injEq, Prod.mk.injEq] at hr
      obtain ⟨rfl, rfl⟩ := hr
      have h3 := (counts_suffix hc).length_le
      simp only [List.length_drop] at h3
      exact ⟨by simp [Re.star, Re.kd], by omega⟩
theorem rep1_nz {x : Re} {l : List Int} {c : Int} (hr : rep1 x l = .error c) : c ≠ 0 := by
  rintro rfl
  unfold rep1 at hr
  split at hr
  · cases hr
  · split at hr
    · rename_i e hc
      simp only [Except.error.injEq] at hr
      subst hr
      exact counts_nz _ hc
    · cases hr
end Go.Proofs.Ytkjiobbkbhmijaa.U
