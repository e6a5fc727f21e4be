/-
  Plain mathematics of the document's own answer of layer 1, continued: the whole scalar, bytes that could go on, all runes.
-/
import Derived.Test.YtcjngpgicegacaaUPureC
namespace Go.Proofs.Ytcjngpgicegacaa.U

/-- the whole scalar at the head: what the document's Whole tells -/
def wholeV (b : List Int) : Int × Int × Bool :=
  match nextV b with
  | (_, _, true) => (0, 0, false)
  | (R, N, false) => if R = 65533 ∧ N = 1 then (0, 0, false) else (R, N, true)

theorem encB_bad (r : Int) : ¬ (r = 65533 ∧ ((encB r).length : Int) = 1) := by
  rintro ⟨rfl, h⟩
  revert h; decide
theorem whole_hit {b : List Int} {n : Nat} (hn : n ≤ b.length) (h : hit b n) : wholeV b = (valueV b n, (n : Int), true) := by
  unfold wholeV
  rw [hit_next h]
  simp only
  rw [if_neg (encB_bad _), hit_len hn h]
theorem whole_miss {b : List Int} (hb : ∀ x ∈ b, 0 ≤ x ∧ x ≤ 255) (h : ∀ n, 1 ≤ n → n ≤ 4 → n ≤ b.length → ¬ hit b n) : wholeV b = (0, 0, false) := by
  unfold wholeV
  rcases hq : nextV b with ⟨R, N, m⟩
  cases m with
  | true => rfl
  | false =>
    rcases next_inv hq hb with hbad | ⟨hv, rest, he, hN⟩
    · simp only; rw [if_pos hbad]
    · exfalso
      have hl := encB_len R
      refine h (encB R).length hl.1 hl.2 (by rw [he]; simp) ?_
      have h2 := hit_enc R hv rest
      rwa [← he] at h2
theorem whole_next {b : List Int} {R N : Int} (h : wholeV b = (R, N, true)) : nextV b = (R, N, false) := by
  unfold wholeV at h
  rcases hq : nextV b with ⟨R', N', m⟩
  rw [hq] at h
  cases m with
  | true => simp at h
  | false =>
    simp only at h
    split at h
    · simp at h
    · simp only [Prod.mk.injEq] at h
      obtain ⟨rfl, rfl, _⟩ := h
      rfl
theorem whole_not {b : List Int} {R N : Int} (h : wholeV b = (R, N, false)) : R = 0 ∧ N = 0 ∧ ((nextV b = (0, 0, true)) ∨ nextV b = (65533, 1, false)) := by
  unfold wholeV at h
  rcases hq : nextV b with ⟨R', N', m⟩
  rw [hq] at h
  cases m with
  | true =>
    have := (nextV_out hq).1 rfl
    simp only [Prod.mk.injEq] at h
    obtain ⟨rfl, rfl, _⟩ := h
    rw [this.2.1, this.2.2]
    simp
  | false =>
    simp only at h
    split at h
    · rename_i hb
      simp only [Prod.mk.injEq] at h
      obtain ⟨rfl, rfl, _⟩ := h
      rw [hb.1, hb.2]
      simp
    · simp at h
theorem whole_out {b : List Int} {R N : Int} {M : Bool} (h : wholeV b = (R, N, M)) : (M = true → 1 ≤ N ∧ N ≤ b.length) := by
  rintro rfl
  have := (nextV_out (whole_next h)).2 rfl
  omega

/-- what is not whole yet goes on -/
theorem nextGo_ext (l : List Int) (k : Nat) (r lo hi n R N : Int) (h : nextGo l k r lo hi n = (R, N, true)) (x : Int) (hx : if l = [] then lo ≤ x ∧ x ≤ hi else 128 ≤ x ∧ x ≤ 191) :
    (l.length + 1 < k → nextGo (l ++ [x]) k r lo hi n = (0, 0, true)) ∧ (l.length + 1 = k → ∃ R', nextGo (l ++ [x]) k r lo hi n = (R', n, false)) := by
  induction k generalizing l r lo hi with
  | zero => rw [nextGo_zero] at h; simp at h
  | succ k ih =>
    cases l with
    | nil =>
      simp only [↓reduceIte] at hx
      simp only [List.nil_append]
      rw [nextGo_cons hx.1 hx.2]
      constructor
      · intro hk
        cases k with
        | zero => simp at hk
        | succ k => rfl
      · intro hk
        have : k = 0 := by simpa using hk.symm
        subst this
        exact ⟨_, nextGo_zero _ _ _ _ _⟩
    | cons c cs =>
      simp only [nextGo] at h
      split at h
      · simp at h
      · rename_i hc
        simp only [reduceCtorEq, ↓reduceIte] at hx
        have := ih cs _ _ _ h (by split; exact hx; exact hx)
        simp only [List.cons_append]
        rw [nextGo_cons (by omega) (by omega)]
        refine ⟨fun hk => this.1 (by simp at hk; omega), fun hk => this.2 (by simp at hk; omega)⟩
theorem nextGo_pre (l s : List Int) (k : Nat) (r lo hi n R N : Int) (h : nextGo (l ++ s) k r lo hi n = (R, N, false)) (hg : ¬ (R = 65533 ∧ N = 1)) (hl : l.length < k) : nextGo l k r lo hi n = (0, 0, true) := by
  induction k generalizing l r lo hi with
  | zero => omega
  | succ k ih =>
    cases l with
    | nil => rfl
    | cons c cs =>
      simp only [List.cons_append, nextGo] at h ⊢
      split at h
      · simp only [Prod.mk.injEq] at h; exfalso; exact hg ⟨h.1.symm, h.2.1.symm⟩
      · rename_i hc
        rw [if_neg hc]
        exact ih cs _ _ _ h (by simp at hl; omega)

theorem next_pre {r : Int} (hv : validB r = true) {p s : List Int} (h : encB r = p ++ s) (hp : p ≠ []) (hs : s ≠ []) : nextV p = (0, 0, true) := by
  have hn := nextV_enc r hv []
  rw [List.append_nil, h] at hn
  have hbad : ¬ (r = 65533 ∧ (((p ++ s).length : Nat) : Int) = 1) := by rw [← h]; exact encB_bad r
  have hsl : 0 < s.length := List.length_pos_iff.2 hs
  cases p with
  | nil => exact absurd rfl hp
  | cons c cs =>
    simp only [List.cons_append, nextV] at hn ⊢
    split at hn
    · simp only [Prod.mk.injEq] at hn; simp at hn; omega
    rename_i e0
    split at hn
    · simp only [Prod.mk.injEq] at hn; simp at hn; omega
    rename_i e1
    rw [if_neg e0, if_neg e1]
    have ho := (nextGo_out _ _ _ _ _ _ _ _ _ hn).2 rfl
    refine nextGo_pre cs s _ _ _ _ _ _ _ hn hbad ?_
    have hl := leadN_in c
    simp at ho hsl ⊢
    omega

def beginsS : List Int := [128, 143, 144, 159, 160, 191]
/-- could more bytes make a scalar's of all of b? by fuel -/
def beginsV : Nat → List Int → Bool
  | 0, _ => false
  | f + 1, b => if 4 ≤ b.length then false else beginsS.any fun x => ((wholeV (b ++ [x])).2.2 && decide ((wholeV (b ++ [x])).2.1 = b.length + 1)) || (decide (b.length + 1 < 4) && beginsV f (b ++ [x]))

theorem beginsS_bytes : ∀ x ∈ beginsS, 0 ≤ x ∧ x ≤ 255 := by decide

theorem begins_sound (f : Nat) : ∀ (b : List Int), (∀ x ∈ b, 0 ≤ x ∧ x ≤ 255) → beginsV f b = true → ∃ e r, e ≠ [] ∧ validB r = true ∧ b ++ e = encB r := by
  induction f with
  | zero => intro b _ h; simp [beginsV] at h
  | succ f ih =>
    intro b hb h
    simp only [beginsV] at h
    split at h
    · simp at h
    · rw [List.any_eq_true] at h
      obtain ⟨x, hx, h⟩ := h
      have hbx : ∀ y ∈ b ++ [x], 0 ≤ y ∧ y ≤ 255 := by
        intro y hy
        rcases List.mem_append.1 hy with hy | hy
        · exact hb y hy
        · simp only [List.mem_singleton] at hy; subst hy; exact beginsS_bytes _ hx
      rw [Bool.or_eq_true, Bool.and_eq_true, Bool.and_eq_true] at h
      rcases h with ⟨h1, h2⟩ | ⟨_, h2⟩
      · rcases hw : wholeV (b ++ [x]) with ⟨R, N, m⟩
        rw [hw] at h1 h2
        simp only at h1 h2
        subst h1
        simp only [decide_eq_true_eq] at h2
        have hn := whole_next hw
        rcases next_inv hn hbx with hbad | ⟨hv, rest, he, hN⟩
        · exfalso
          unfold wholeV at hw
          rw [hn] at hw
          simp only at hw
          rw [if_pos hbad] at hw
          simp at hw
        · refine ⟨[x], R, by simp, hv, ?_⟩
          have hlen : (b ++ [x]).length = (encB R ++ rest).length := by rw [← he]
          have : rest = [] := by
            apply List.eq_nil_of_length_eq_zero
            simp at hlen
            omega
          rw [he, this, List.append_nil]
      · obtain ⟨e, r, h3, h4, h5⟩ := ih _ hbx h2
        exact ⟨x :: e, r, by simp, h4, by rw [← h5]; simp⟩

theorem lead_range {c : Int} (e0 : ¬ leadN c = 0) (e1 : ¬ leadN c = 1) : 194 ≤ c ∧ c ≤ 244 := by
  by_cases h1 : c ≤ 127
  · exact absurd (by unfold leadN; rw [if_pos h1]) e1
  by_cases h2 : c < 194
  · exact absurd (by unfold leadN; rw [if_neg h1, if_pos h2]) e0
  by_cases h3 : c ≤ 244
  · omega
  · exact absurd (by unfold leadN; rw [if_neg h1, if_neg h2, if_neg (by omega), if_neg (by omega), if_neg h3]) e0
theorem leadL_is {c : Int} (h : 194 ≤ c ∧ c ≤ 244) : leadL c = 128 ∨ leadL c = 144 ∨ leadL c = 160 := by
  unfold leadL; repeat' split
  all_goals omega
theorem leadLM {c : Int} (h : 194 ≤ c ∧ c ≤ 244) : leadL c ≤ leadM c ∧ leadM c ≤ 191 := by
  refine ⟨?_, by unfold leadM; repeat' split <;> omega⟩
  have h1 : leadL c = 160 → 191 ≤ leadM c := by
    intro e
    by_cases h2 : c = 224
    · subst h2; decide
    · exfalso; revert e; unfold leadL; repeat' split
      all_goals omega
  have h2 : leadL c ≤ 144 → 143 ≤ leadM c := by intro _; unfold leadM; repeat' split <;> omega
  have h3 : leadL c = 144 → 191 ≤ leadM c := by
    intro e
    by_cases h2 : c = 240
    · subst h2; decide
    · exfalso; revert e; unfold leadL; repeat' split
      all_goals omega
  have := leadL_is h
  omega

theorem begins_complete (f : Nat) : ∀ (b : List Int), b ≠ [] → nextV b = (0, 0, true) → 4 ≤ b.length + f → beginsV f b = true := by
  induction f with
  | zero =>
    intro b _ h h4
    have := (nextV_out h).1 rfl
    omega
  | succ f ih =>
    intro b hb h h4
    have h3 := ((nextV_out h).1 rfl).1
    cases b with
    | nil => exact absurd rfl hb
    | cons c cs =>
      simp only [nextV] at h
      split at h
      · simp at h
      rename_i e0
      split at h
      · simp at h
      rename_i e1
      have hl := leadN_in c
      have hlt := (nextGo_out _ _ _ _ _ _ _ _ _ h).1 rfl
      obtain ⟨x, hx, hr⟩ : ∃ x, x ∈ beginsS ∧ (if cs = [] then leadL c ≤ x ∧ x ≤ leadM c else 128 ≤ x ∧ x ≤ 191) := by
        by_cases hcs : cs = []
        · simp only [hcs, ↓reduceIte]
          refine ⟨leadL c, ?_, Int.le_refl _, ?_⟩
          · have : leadL c = 128 ∨ leadL c = 144 ∨ leadL c = 160 := leadL_is (lead_range e0 e1)
            rcases this with h | h | h <;> rw [h] <;> decide
          · exact (leadLM (lead_range e0 e1)).1
        · simp only [hcs, ↓reduceIte]
          exact ⟨128, by decide, by omega, by omega⟩
      have hext := nextGo_ext _ _ _ _ _ _ _ _ h x hr
      have hne : ∀ q, nextGo (cs ++ [x]) ((leadN c).toNat - 1) (firstBits c (leadN c)) (leadL c) (leadM c) (leadN c) = q → nextV (c :: cs ++ [x]) = q := by
        intro q hq
        simp only [List.cons_append, nextV]
        rw [if_neg e0, if_neg e1, hq]
      simp only [beginsV]
      rw [if_neg (by omega), List.any_eq_true]
      refine ⟨x, hx, ?_⟩
      rw [Bool.or_eq_true, Bool.and_eq_true, Bool.and_eq_true]
      by_cases hk : cs.length + 1 = (leadN c).toNat - 1
      · obtain ⟨R', hR⟩ := hext.2 hk
        have hn := hne _ hR
        left
        have hw : wholeV (c :: cs ++ [x]) = (R', leadN c, true) := by
          unfold wholeV
          rw [hn]
          simp only
          rw [if_neg (by omega)]
        rw [hw]
        refine ⟨rfl, decide_eq_true ?_⟩
        simp
        omega
      · right
        have hn := hne _ (hext.1 (by omega))
        have h3' := ((nextV_out hn).1 rfl).1
        refine ⟨by simp at h3' ⊢; omega, ih _ (by simp) hn (by simp at h4 ⊢; omega)⟩

theorem begins_next {f : Nat} {b : List Int} (hb : ∀ x ∈ b, 0 ≤ x ∧ x ≤ 255) (hne : b ≠ []) (h4 : 4 ≤ b.length + f) : beginsV f b = (nextV b).2.2 := by
  cases hq : beginsV f b with
  | true =>
    obtain ⟨e, r, he, hv, h⟩ := begins_sound f b hb hq
    rw [next_pre hv h.symm hne he]
  | false =>
    cases hm : (nextV b).2.2 with
    | false => rfl
    | true =>
      rcases hn : nextV b with ⟨R, N, m⟩
      rw [hn] at hm
      simp only at hm
      subst hm
      obtain ⟨_, rfl, rfl⟩ := (nextV_out hn).1 rfl
      rw [begins_complete f b hne hn h4] at hq
      simp at hq

/-- all runes, as the document decodes; by fuel -/
def refDecN : Nat → List Int → List Int
  | 0, _ => []
  | f + 1, b => match b with
    | [] => []
    | c :: cs => match wholeV (c :: cs) with
      | (R, N, true) => R :: refDecN f ((c :: cs).drop N.toNat)
      | (_, _, false) => 65533 :: refDecN f cs

theorem nextGo_conts (l : List Int) (k : Nat) (r lo hi n R N : Int) (h : nextGo l k r lo hi n = (R, N, true)) (h1 : 128 ≤ lo) (h2 : hi ≤ 191) : ∀ x ∈ l, 128 ≤ x ∧ x ≤ 191 := by
  induction k generalizing l r lo hi with
  | zero => rw [nextGo_zero] at h; simp at h
  | succ k ih =>
    cases l with
    | nil => intro x hx; simp at hx
    | cons c cs =>
      simp only [nextGo] at h
      split at h
      · simp at h
      · intro x hx
        simp only [List.mem_cons] at hx
        rcases hx with rfl | hx
        · omega
        · exact ih cs _ _ _ h (by omega) (by omega) x hx
theorem refDec_conts (f : Nat) : ∀ (l : List Int), l.length ≤ f → (∀ x ∈ l, 128 ≤ x ∧ x ≤ 191) → refDecN f l = List.replicate l.length 65533 := by
  induction f with
  | zero => intro l hl _; have : l = [] := List.eq_nil_of_length_eq_zero (by omega); subst this; rfl
  | succ f ih =>
    intro l hl h
    cases l with
    | nil => rfl
    | cons c cs =>
      have hc := h c (by simp)
      have hn : leadN c = 0 := by unfold leadN; rw [if_neg (by omega), if_pos (by omega)]
      have hnx : nextV (c :: cs) = (65533, 1, false) := by simp only [nextV]; rw [if_pos hn]
      have hw : wholeV (c :: cs) = (0, 0, false) := by unfold wholeV; rw [hnx]; simp
      simp only [refDecN, hw]
      rw [ih cs (by simp at hl; omega) (fun x hx => h x (by simp [hx]))]
      rfl
theorem refDec_eq (f : Nat) : ∀ (b : List Int), b.length ≤ f → refDecN f b = decV b := by
  induction f with
  | zero => intro b hb; have : b = [] := List.eq_nil_of_length_eq_zero (by omega); subst this; exact decV_nil.symm
  | succ f ih =>
    intro b hb
    cases b with
    | nil => exact decV_nil.symm
    | cons c cs =>
      rcases hq : nextV (c :: cs) with ⟨R, N, m⟩
      cases m with
      | true =>
        have hw : wholeV (c :: cs) = (0, 0, false) := by unfold wholeV; rw [hq]
        simp only [refDecN, hw]
        have hd : decV (c :: cs) = List.replicate (c :: cs).length 65533 := by unfold decV; rw [feedV_more hq]; rfl
        rw [hd]
        have hcs : ∀ x ∈ cs, 128 ≤ x ∧ x ≤ 191 := by
          simp only [nextV] at hq
          split at hq
          · simp at hq
          rename_i e0
          split at hq
          · simp at hq
          rename_i e1
          refine nextGo_conts _ _ _ _ _ _ _ _ hq ?_ (leadLM (lead_range e0 e1)).2
          have := leadL_is (lead_range e0 e1)
          omega
        rw [refDec_conts f cs (by simp at hb; omega) hcs]
        rfl
      | false =>
        have ho := (nextV_out hq).2 rfl
        have hd : decV (c :: cs) = R :: decV ((c :: cs).drop N.toNat) := by unfold decV; rw [feedV_step hq]; rfl
        rw [hd]
        by_cases hbad : R = 65533 ∧ N = 1
        · have hw : wholeV (c :: cs) = (0, 0, false) := by unfold wholeV; rw [hq]; simp only; rw [if_pos hbad]
          simp only [refDecN, hw]
          rw [ih cs (by simp at hb; omega), hbad.1, hbad.2]
          rfl
        · have hw : wholeV (c :: cs) = (R, N, true) := by unfold wholeV; rw [hq]; simp only; rw [if_neg hbad]
          simp only [refDecN, hw]
          rw [ih _ (by simp at hb ho ⊢; omega)]

end Go.Proofs.Ytcjngpgicegacaa.U
