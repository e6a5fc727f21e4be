/-
  What follows of where motions lead. No program here.
-/
import Derived.Test.YthlhgkeodaifcaaDoorOPure
namespace Go.Proofs.YthlhgkeodaifcaaDoor.U
set_option linter.unusedVariables false
set_option linter.unusedSimpArgs false

-- brackets
def SB (o c : Int) (B : List (Pl × Int)) (i : Nat) : Int := ((B.take i).map fun e => wB o c e.2).sum
theorem SB_zero (o c : Int) (B : List (Pl × Int)) : SB o c B 0 = 0 := by simp [SB]
theorem SB_cons (o c : Int) (e : Pl × Int) (B : List (Pl × Int)) (i : Nat) : SB o c (e :: B) (i + 1) = wB o c e.2 + SB o c B i := by simp [SB]
theorem SB_succ {o c : Int} {B : List (Pl × Int)} {i : Nat} {e : Pl × Int} (h : B[i]? = some e) : SB o c B (i + 1) = SB o c B i + wB o c e.2 := by
  obtain ⟨h1, h2⟩ := List.getElem?_eq_some_iff.1 h
  unfold SB
  rw [List.take_succ_eq_append_getElem h1, h2]
  simp
theorem SB_drop (o c : Int) (A : List (Pl × Int)) (s i : Nat) : SB o c A (s + i) = SB o c A s + SB o c (A.drop s) i := by
  unfold SB
  rw [List.take_add, List.map_append, List.sum_append]
theorem wB_swap (o c r : Int) : wB c o r = - wB o c r := by unfold wB; omega
theorem SB_swap (o c : Int) (B : List (Pl × Int)) : ∀ i, SB c o B i = - SB o c B i := by
  intro i
  unfold SB
  generalize B.take i = T
  induction T with
  | nil => simp
  | cons e T ih => simp only [List.map_cons, List.sum_cons, ih, wB_swap o c e.2]; omega
theorem scan_some {o c : Int} : ∀ {B : List (Pl × Int)} {k : Int} {q : Pl}, scanB o c k B = some q ↔ ∃ t r, B[t]? = some (q, r) ∧ k + SB o c B (t + 1) = 0 ∧ ∀ u, u < t → k + SB o c B (u + 1) ≠ 0
  | [], k, q => by simp [scanB]
  | (p, r) :: B, k, q => by
    rw [scanB]
    by_cases h : k + wB o c r = 0
    · rw [if_pos h]
      constructor
      · intro e
        cases e
        exact ⟨0, r, rfl, by rw [SB_cons, SB_zero]; simpa using h, fun u hu => by omega⟩
      · rintro ⟨t, r', h1, h2, h3⟩
        cases t with
        | zero => simp at h1; rw [h1.1]
        | succ t =>
          have := h3 0 (by omega)
          rw [SB_cons, SB_zero] at this
          exact absurd (by simpa using h) this
    · rw [if_neg h, scan_some (B := B)]
      constructor
      · rintro ⟨t, r', h1, h2, h3⟩
        refine ⟨t + 1, r', by simpa using h1, by rw [SB_cons]; show k + (wB o c r + _) = 0; omega, fun u hu => ?_⟩
        cases u with
        | zero => rw [SB_cons, SB_zero]; show k + (wB o c r + 0) ≠ 0; omega
        | succ u =>
          have := h3 u (by omega)
          rw [SB_cons]; show k + (wB o c r + _) ≠ 0; omega
      · rintro ⟨t, r', h1, h2, h3⟩
        cases t with
        | zero =>
          rw [SB_cons, SB_zero] at h2
          exact absurd (by simpa using h2) h
        | succ t =>
          refine ⟨t, r', by simpa using h1, ?_, fun u hu => ?_⟩
          · rw [SB_cons] at h2
            have h2 : k + (wB o c r + SB o c B (t + 1)) = 0 := h2
            omega
          · have := h3 (u + 1) (by omega)
            rw [SB_cons] at this
            have this : k + (wB o c r + SB o c B (u + 1)) ≠ 0 := this
            omega
theorem scan_pair {A : List (Pl × Int)} {o c : Int} (hoc : o ≠ c) {s : Nat} {p q : Pl} (hs : A[s]? = some (p, o)) (h : scanB o c 0 (A.drop s) = some q) :
    ∃ t, s < t ∧ A[t]? = some (q, c) ∧ scanB c o 0 (A.take (t + 1)).reverse = some p := by
  obtain ⟨d, r, h1, h2, h3⟩ := scan_some.1 h
  rw [List.getElem?_drop] at h1
  have e1 := SB_drop o c A s (d + 1)
  have hz : ∀ u, SB o c A (s + u) = SB o c A s + SB o c (A.drop s) u := fun u => SB_drop o c A s u
  have h2' : SB o c A (s + d + 1) = SB o c A s := by have := hz (d + 1); rw [← Nat.add_assoc] at this; omega
  have h3' : ∀ u, u < d → SB o c A (s + u + 1) ≠ SB o c A s := fun u hu => by
    have := hz (u + 1); rw [← Nat.add_assoc] at this; have := h3 u hu; omega
  have ho : wB o c o = 1 := by unfold wB; rw [if_pos rfl, if_neg hoc]; rfl
  have hs1 : SB o c A (s + 1) = SB o c A s + 1 := by rw [SB_succ hs, ho]
  have hd : 0 < d := by
    rcases Nat.eq_zero_or_pos d with e | e
    · subst e; rw [Nat.add_zero] at h2'; omega
    · exact e
  have hlt := (List.getElem?_eq_some_iff.1 h1).1
  have hge : ∀ u, u < d → SB o c A s + 1 ≤ SB o c A (s + u + 1) := by
    intro u
    induction u with
    | zero => intro _; rw [Nat.add_zero]; omega
    | succ u ih =>
      intro hu
      have i1 := ih (by omega)
      have hx : A[s + u + 1]? = some A[s + u + 1] := List.getElem?_eq_getElem (by omega)
      have i2 := SB_succ (o := o) (c := c) hx
      have i3 := h3' (u + 1) hu
      rw [← Nat.add_assoc] at i3 ⊢
      have i4 : -1 ≤ wB o c (A[s + u + 1]).2 := by unfold wB; split <;> split <;> omega
      omega
  have hlast := hge (d - 1) (by omega)
  rw [show s + (d - 1) + 1 = s + d by omega] at hlast
  have hw := SB_succ (o := o) (c := c) h1
  have hr : r = c := by
    have : wB o c r ≤ -1 := by simp only at hw; omega
    unfold wB at this
    by_cases e : r = c
    · exact e
    · rw [if_neg e] at this; split at this <;> omega
  subst hr
  refine ⟨s + d, by omega, h1, ?_⟩
  rw [scan_some]
  have hlen : (A.take (s + d + 1)).length = s + d + 1 := by rw [List.length_take]; omega
  have hrev : ∀ j, j ≤ s + d + 1 → SB r o (A.take (s + d + 1)).reverse j = SB o r A (s + d + 1 - j) - SB o r A (s + d + 1) := by
    intro j
    induction j with
    | zero => intro _; rw [SB_zero]; simp
    | succ j ih =>
      intro hj
      have hjx : s + d - j < A.length := by omega
      have e1 : (A.take (s + d + 1)).reverse[j]? = some A[s + d - j] := by
        rw [List.getElem?_reverse (by omega), hlen, List.getElem?_take_of_lt (by omega), show s + d + 1 - 1 - j = s + d - j by omega, List.getElem?_eq_getElem hjx]
      have e2 := SB_succ (o := o) (c := r) (List.getElem?_eq_getElem hjx)
      rw [SB_succ e1, ih (by omega), wB_swap o r]
      rw [show s + d + 1 - j = s + d - j + 1 by omega, show s + d + 1 - (j + 1) = s + d - j by omega]
      omega
  refine ⟨d, o, ?_, ?_, ?_⟩
  · rw [List.getElem?_reverse (by omega), hlen, List.getElem?_take_of_lt (by omega), show s + d + 1 - 1 - d = s by omega]; exact hs
  · rw [hrev (d + 1) (by omega), show s + d + 1 - (d + 1) = s by omega]; omega
  · intro u hu
    rw [hrev (u + 1) (by omega), show s + d + 1 - (u + 1) = s + (d - u - 1) + 1 by omega]
    have := h3' (d - u - 1) (by omega)
    omega
theorem scan_back {A : List (Pl × Int)} {o c : Int} (hoc : o ≠ c) {s : Nat} {p q : Pl} (hs : A[s]? = some (p, o)) (h : scanB o c 0 (A.take (s + 1)).reverse = some q) :
    ∃ t, t < s ∧ A[t]? = some (q, c) ∧ scanB c o 0 (A.drop t) = some p := by
  have hlt := (List.getElem?_eq_some_iff.1 hs).1
  have e0 : A.reverse.drop (A.length - 1 - s) = (A.take (s + 1)).reverse := by
    rw [List.drop_reverse]; congr 2; omega
  have e1 : A.reverse[A.length - 1 - s]? = some (p, o) := by
    rw [List.getElem?_reverse (by omega), show A.length - 1 - (A.length - 1 - s) = s by omega]; exact hs
  rw [← e0] at h
  obtain ⟨t, h1, h2, h3⟩ := scan_pair hoc e1 h
  have htl := (List.getElem?_eq_some_iff.1 h2).1
  rw [List.length_reverse] at htl
  refine ⟨A.length - 1 - t, by omega, ?_, ?_⟩
  · rw [List.getElem?_reverse htl] at h2; exact h2
  · rw [List.take_reverse, List.reverse_reverse, show A.length - (t + 1) = A.length - 1 - t by omega] at h3; exact h3
/-- the place of a rune -/
def runeP (L : List (List Int)) (p : Pl) : Prop := p.1 < L.length ∧ p.2 < (lnL L p.1).length
theorem runesP_mem {L : List (List Int)} {e : Pl × Int} : e ∈ runesP L ↔ runeP L e.1 ∧ e.2 = (lnL L e.1.1).getD e.1.2 0 := by
  unfold runesP
  simp only [List.mem_map, List.mem_filter, decide_eq_true_eq, places_mem]
  constructor
  · rintro ⟨p, ⟨h1, h2⟩, rfl⟩
    exact ⟨⟨h1.1, h2⟩, rfl⟩
  · rintro ⟨⟨h1, h2⟩, h3⟩
    exact ⟨e.1, ⟨⟨h1, by omega⟩, h2⟩, Prod.ext rfl h3.symm⟩
theorem runesP_sorted (L : List (List Int)) : (runesP L).Pairwise fun a b => aheadP a.1 b.1 = true := by
  unfold runesP
  rw [List.pairwise_map]
  exact (places_sorted L).sublist List.filter_sublist
theorem rn_lt {L : List (List Int)} {i j : Nat} {a b : Pl × Int} (hi : (runesP L)[i]? = some a) (hj : (runesP L)[j]? = some b) (h : i < j) : aheadP a.1 b.1 = true := by
  obtain ⟨hi1, hi2⟩ := List.getElem?_eq_some_iff.1 hi
  obtain ⟨hj1, hj2⟩ := List.getElem?_eq_some_iff.1 hj
  have := List.pairwise_iff_getElem.1 (runesP_sorted L) i j hi1 hj1 h
  rwa [hi2, hj2] at this
theorem from_drop {L : List (List Int)} {s : Nat} {p : Pl} {r : Int} (hs : (runesP L)[s]? = some (p, r)) : fromP L p = (runesP L).drop s := by
  obtain ⟨hs1, hs2⟩ := List.getElem?_eq_some_iff.1 hs
  unfold fromP
  conv => lhs; rw [← List.take_append_drop s (runesP L)]
  rw [List.filter_append]
  have h1 : ((runesP L).take s).filter (fun e => !aheadP e.1 p) = [] := by
    rw [List.filter_eq_nil_iff]
    intro e he
    obtain ⟨k, hk1, hk2⟩ := List.mem_iff_getElem.1 he
    rw [List.length_take] at hk1
    have hk : (runesP L)[k]? = some e := by rw [List.getElem?_eq_getElem (by omega)]; rw [List.getElem_take] at hk2; rw [hk2]
    have := rn_lt hk hs (by omega)
    simp only at this
    rw [this]; simp
  have h2 : ((runesP L).drop s).filter (fun e => !aheadP e.1 p) = (runesP L).drop s := by
    rw [List.filter_eq_self]
    intro e he
    obtain ⟨k, hk1, hk2⟩ := List.mem_iff_getElem.1 he
    rw [List.length_drop] at hk1
    have hk : (runesP L)[s + k]? = some e := by rw [List.getElem?_eq_getElem (by omega)]; rw [List.getElem_drop] at hk2; rw [hk2]
    rcases Nat.eq_zero_or_pos k with h0 | h0
    · subst h0
      rw [Nat.add_zero, hs] at hk
      cases hk
      rw [aheadP_irr]; rfl
    · have := rn_lt hs hk (by omega)
      simp only at this
      rw [aheadP_asym this]; rfl
  rw [h1, h2, List.nil_append]
theorem upto_take {L : List (List Int)} {s : Nat} {p : Pl} {r : Int} (hs : (runesP L)[s]? = some (p, r)) : uptoP L p = ((runesP L).take (s + 1)).reverse := by
  obtain ⟨hs1, hs2⟩ := List.getElem?_eq_some_iff.1 hs
  unfold uptoP
  congr 1
  conv => lhs; rw [← List.take_append_drop (s + 1) (runesP L)]
  rw [List.filter_append]
  have h1 : ((runesP L).take (s + 1)).filter (fun e => !aheadP p e.1) = (runesP L).take (s + 1) := by
    rw [List.filter_eq_self]
    intro e he
    obtain ⟨k, hk1, hk2⟩ := List.mem_iff_getElem.1 he
    rw [List.length_take] at hk1
    have hk : (runesP L)[k]? = some e := by rw [List.getElem?_eq_getElem (by omega)]; rw [List.getElem_take] at hk2; rw [hk2]
    by_cases h0 : k = s
    · subst h0
      rw [hs] at hk
      cases hk
      rw [aheadP_irr]; rfl
    · have := rn_lt hk hs (by omega)
      simp only at this
      rw [aheadP_asym this]; rfl
  have h2 : ((runesP L).drop (s + 1)).filter (fun e => !aheadP p e.1) = [] := by
    rw [List.filter_eq_nil_iff]
    intro e he
    obtain ⟨k, hk1, hk2⟩ := List.mem_iff_getElem.1 he
    rw [List.length_drop] at hk1
    have hk : (runesP L)[s + 1 + k]? = some e := by rw [List.getElem?_eq_getElem (by omega)]; rw [List.getElem_drop] at hk2; rw [hk2]
    have := rn_lt hs hk (by omega)
    simp only at this
    rw [this]; simp
  rw [h1, h2, List.append_nil]
theorem pair_fwd {r c : Int} (h : pairR r = some (c, true)) : pairR c = some (r, false) ∧ r ≠ c := by
  unfold pairR at h
  split at h
  · rename_i e; subst e; cases h; decide
  split at h
  · rename_i e; subst e; cases h; decide
  split at h
  · rename_i e; subst e; cases h; decide
  split at h
  · cases h
  split at h
  · cases h
  split at h
  · cases h
  · cases h
theorem pair_bwd {r c : Int} (h : pairR r = some (c, false)) : pairR c = some (r, true) ∧ r ≠ c := by
  unfold pairR at h
  split at h
  · cases h
  split at h
  · cases h
  split at h
  · cases h
  split at h
  · rename_i e; subst e; cases h; decide
  split at h
  · rename_i e; subst e; cases h; decide
  split at h
  · rename_i e; subst e; cases h; decide
  · cases h
theorem brP_back {L : List (List Int)} {b a : Pl} (hb : runeP L b) (h : brP L b = some a) : runeP L a ∧ a ≠ b ∧ brP L a = some b ∧ (pairR ((lnL L a.1).getD a.2 0)).isSome = true := by
  have hm : ((b, (lnL L b.1).getD b.2 0) : Pl × Int) ∈ runesP L := runesP_mem.2 ⟨hb, rfl⟩
  obtain ⟨s, hs1, hs2⟩ := List.mem_iff_getElem.1 hm
  have hs : (runesP L)[s]? = some (b, (lnL L b.1).getD b.2 0) := List.getElem?_eq_some_iff.2 ⟨hs1, hs2⟩
  unfold brP at h
  cases hp : pairR ((lnL L b.1).getD b.2 0) with
  | none => rw [hp] at h; cases h
  | some e =>
    obtain ⟨c, f⟩ := e
    rw [hp] at h
    have ne : ∀ {t : Nat}, s ≠ t → (runesP L)[t]? = some (a, c) → a ≠ b := fun {t} hst ht e => by
      rcases Nat.lt_or_gt_of_ne hst with h1 | h1
      · have := rn_lt hs ht h1; simp only at this; rw [e, aheadP_irr] at this; cases this
      · have := rn_lt ht hs h1; simp only at this; rw [e, aheadP_irr] at this; cases this
    cases f with
    | true =>
      simp only at h
      rw [from_drop hs] at h
      obtain ⟨h1, h2⟩ := pair_fwd hp
      obtain ⟨t, t1, t2, t3⟩ := scan_pair h2 hs h
      have hma := runesP_mem.1 (List.mem_of_getElem? t2)
      simp only at hma
      refine ⟨hma.1, ne (by omega) t2, ?_, by rw [← hma.2, h1]; rfl⟩
      unfold brP
      rw [← hma.2, h1]
      simp only
      rw [upto_take t2]; exact t3
    | false =>
      simp only at h
      rw [upto_take hs] at h
      obtain ⟨h1, h2⟩ := pair_bwd hp
      obtain ⟨t, t1, t2, t3⟩ := scan_back h2 hs h
      have hma := runesP_mem.1 (List.mem_of_getElem? t2)
      simp only at hma
      refine ⟨hma.1, ne (by omega) t2, ?_, by rw [← hma.2, h1]; rfl⟩
      unfold brP
      rw [← hma.2, h1]
      simp only
      rw [from_drop t2]; exact t3
theorem firstB_props {x : List Int} {col i : Nat} (h : firstB x col = some i) : i < x.length ∧ col ≤ i ∧ (pairR (x.getD i 0)).isSome = true := by
  have h1 := List.mem_of_find?_eq_some h
  have h2 := List.find?_some h
  simp only [Bool.and_eq_true, decide_eq_true_eq] at h2
  exact ⟨by simpa using h1, h2.1, h2.2⟩
theorem firstB_here {x : List Int} {i : Nat} (hi : i < x.length) (h : (pairR (x.getD i 0)).isSome = true) : firstB x i = some i := by
  unfold firstB
  have e : List.range x.length = List.range i ++ i :: (List.range (x.length - i - 1)).map (i + 1 + ·) := by
    rw [show x.length = i + (1 + (x.length - i - 1)) by omega, List.range_add, List.range_add]
    simp [Function.comp_def, Nat.add_assoc]
  rw [e, List.find?_append, List.find?_eq_none.2 (fun y hy => by simp at hy; simp; intro h; omega)]
  simp only [Option.none_or, List.find?_cons]
  rw [h]
  simp
end Go.Proofs.YthlhgkeodaifcaaDoor.U
