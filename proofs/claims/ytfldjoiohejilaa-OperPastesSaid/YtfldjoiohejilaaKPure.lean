/-
  What the program of layer 13 reckons, as plain mathematics: blanks ahead, a region's part of a line as a piece of it.
-/
import Derived.Test.YtfldjoiohejilaaJPure
namespace Go.Proofs.Ytfldjoiohejilaa.U
open Go.RowKit
set_option linter.unusedVariables false
set_option linter.unusedSimpArgs false
set_option maxRecDepth 100000

/-- how many blanks and tabs stand at a line's beginning -/
def blkN (x : List Int) : Nat := (x.takeWhile blankR).length
theorem blkN_le (x : List Int) : blkN x ≤ x.length := by
  have := congrArg List.length (List.takeWhile_append_dropWhile (p := blankR) (l := x))
  rw [List.length_append] at this
  unfold blkN; omega
theorem joinY_drop (x : List Int) : joinY x = x.drop (blkN x) := by
  unfold joinY blkN
  induction x with
  | nil => rfl
  | cons c x ih =>
    rw [List.dropWhile_cons, List.takeWhile_cons]
    split
    · simpa using ih
    · rfl
theorem blk_lt {x : List Int} {i : Nat} (h : i < blkN x) : ∃ z, x[i]? = some z ∧ blankR z = true := by
  induction x generalizing i with
  | nil => simp [blkN] at h
  | cons c x ih =>
    unfold blkN at h
    rw [List.takeWhile_cons] at h
    split at h
    · rename_i hc
      cases i with
      | zero => exact ⟨c, rfl, hc⟩
      | succ i => simpa using ih (i := i) (by unfold blkN; simpa using h)
    · simp at h
theorem blk_end {x : List Int} {z : Int} (h : x[blkN x]? = some z) : blankR z = false := by
  induction x with
  | nil => simp [blkN] at h
  | cons c x ih =>
    unfold blkN at h
    rw [List.takeWhile_cons] at h
    split at h
    · rename_i hc
      exact ih (by unfold blkN; simpa using h)
    · rename_i hc
      simp at h
      subst h
      simpa using hc
theorem first_blk (x : List Int) : firstR x = min (blkN x) (x.length - 1) := by
  have hle := blkN_le x
  rcases Nat.lt_or_ge (blkN x) x.length with hlt | hge
  · have hz := blk_end (List.getElem?_eq_getElem hlt)
    unfold firstR
    have : x.findIdx? (fun c => cls false c != 0) = some (blkN x) := by
      rw [List.findIdx?_eq_some_iff_getElem]
      refine ⟨hlt, by unfold blankR at hz; simpa [bne] using hz, fun j hj => ?_⟩
      obtain ⟨z, e1, e2⟩ := blk_lt hj
      have e3 := (List.getElem?_eq_some_iff.1 e1).2
      rw [e3]
      unfold blankR at e2
      simpa [bne] using e2
    rw [this]
    simp; omega
  · have he : blkN x = x.length := by omega
    unfold firstR
    have : x.findIdx? (fun c => cls false c != 0) = none := by
      rw [List.findIdx?_eq_none_iff]
      intro y hy
      obtain ⟨j, hj⟩ := List.mem_iff_getElem?.1 hy
      have hjl := (List.getElem?_eq_some_iff.1 hj).1
      obtain ⟨z, e1, e2⟩ := blk_lt (x := x) (i := j) (by omega)
      rw [hj] at e1
      cases e1
      unfold blankR at e2
      simp [bne, e2]
    rw [this]
    simp; omega
theorem clipN_first (x : List Int) : clipN x.length (blkN x : Int) = firstR x := by
  rw [first_blk]
  unfold clipN
  have := blkN_le x
  omega
/-- the first rune's place of a line that is there -/
theorem clip_first {L : List (List Int)} {i : Nat} (hi : i < L.length) : clipP L (i : Int) (blkN (lnL L i) : Int) = (i, firstR (lnL L i)) := by
  have hL : L ≠ [] := by rintro rfl; simp at hi
  unfold clipP
  rw [if_neg hL, clipN_id (by omega), clipN_first]
theorem dropB_drop : ∀ (n : Nat) (x : List Int), dropB n x = x.drop (min n (blkN x))
  | n, [] => by cases n <;> simp [dropB, blkN]
  | 0, c :: x => by simp [dropB]
  | n + 1, c :: x => by
    unfold dropB
    by_cases h : blankR c = true
    · rw [if_pos h, dropB_drop n x]
      have : blkN (c :: x) = blkN x + 1 := by simp [blkN, List.takeWhile_cons, h]
      rw [this, show min (n + 1) (blkN x + 1) = min n (blkN x) + 1 by omega, List.drop_succ_cons]
    · rw [if_neg h]
      have : blkN (c :: x) = 0 := by simp [blkN, List.takeWhile_cons, h]
      rw [this]; simp

/-- where a region's part of line i begins, and ends, in a line of m runes -/
def ofF (k : Int) (p q : Pl) (i m : Nat) : Nat := if k = 0 then (if i = (endsR p q).1.1 then (endsR p q).1.2 else 0) else if k = 2 then min m (min p.2 q.2) else 0
def ofT (k : Int) (p q : Pl) (i m : Nat) : Nat := if k = 0 then (if i = (endsR p q).2.1 then min m ((endsR p q).2.2 + 1) else m) else if k = 2 then min m (max p.2 q.2 + 1) else m
theorem endsR_ord (p q : Pl) (h : (endsR p q).1.1 = (endsR p q).2.1) : (endsR p q).1.2 ≤ (endsR p q).2.2 := by
  obtain ⟨a, b⟩ := p
  obtain ⟨c, d⟩ := q
  unfold endsR aheadP at h ⊢
  by_cases h1 : c < a
  · simp [h1] at h; omega
  · by_cases h2 : c = a
    · subst h2
      by_cases h3 : d < b <;> simp [h3] at h ⊢ <;> omega
    · simp [h1, h2] at h
      omega
theorem of_le {L : List (List Int)} {k : Int} {p q : Pl} (hp : okP L p) (hq : okP L q) (i : Nat) : ofF k p q i (lnL L i).length ≤ ofT k p q i (lnL L i).length ∧ ofT k p q i (lnL L i).length ≤ (lnL L i).length := by
  obtain ⟨hA, hB⟩ := endsR_ok hp hq
  have ho := endsR_ord p q
  unfold ofF ofT
  by_cases h0 : k = 0
  · rw [if_pos h0, if_pos h0]
    by_cases h1 : i = (endsR p q).1.1
    · rw [if_pos h1]
      subst h1
      have h3 := hA.2
      split
      · rename_i e
        have := ho e
        have hb2 := hB.2
        rw [← e] at hb2
        omega
      · omega
    · rw [if_neg h1]
      split <;> omega
  · rw [if_neg h0, if_neg h0]
    by_cases h2 : k = 2
    · rw [if_pos h2, if_pos h2]; omega
    · rw [if_neg h2, if_neg h2]; omega
theorem range_filter_map (x : List Int) (f t : Nat) (P : Nat → Bool) (h : f ≤ t) : ∀ m, t ≤ m → m ≤ x.length → (∀ c, c < m → P c = (decide (f ≤ c) && decide (c < t))) →
    ((List.range m).filter P).map (fun c => x.getD c 0) = (x.take t).drop f := by
  have key : ∀ m, m ≤ x.length → (∀ c, c < m → P c = (decide (f ≤ c) && decide (c < t))) → ((List.range m).filter P).map (fun c => x.getD c 0) = (x.take (min m t)).drop f := by
    intro m
    induction m with
    | zero => intro _ _; simp
    | succ m ih =>
      intro hm hP
      rw [List.range_succ, List.filter_append, List.map_append, ih (by omega) (fun c hc => hP c (by omega))]
      have hPm := hP m (by omega)
      by_cases h1 : m < t
      · rw [show min (m + 1) t = m + 1 by omega, show min m t = m by omega, List.take_succ_eq_append_getElem (by omega)]
        by_cases h2 : f ≤ m
        · rw [List.drop_append_of_le_length (by simp; omega)]
          simp [hPm, h1, h2, List.getD_eq_getElem?_getD, List.getElem?_eq_getElem (show m < x.length by omega)]
        · rw [List.drop_of_length_le (by simp; omega), List.drop_of_length_le (by simp; omega)]
          simp [hPm, h2]
      · rw [show min (m + 1) t = t by omega, show min m t = t by omega]
        simp [hPm, h1]
  intro m htm hm hP
  rw [key m hm hP, show min m t = t by omega]
theorem range_filter_not (x : List Int) (f t : Nat) (P : Nat → Bool) (h : f ≤ t) (ht : t ≤ x.length) (hP : ∀ c, c < x.length → P c = !(decide (f ≤ c) && decide (c < t))) :
    ((List.range x.length).filter P).map (fun c => x.getD c 0) = x.take f ++ x.drop t := by
  have hget : ∀ (a n : Nat), a + n ≤ x.length → (List.range' a n).map (fun c => x.getD c 0) = (x.drop a).take n := by
    intro a n
    induction n with
    | zero => intro _; simp
    | succ n ih =>
      intro hn
      rw [List.range'_concat, List.map_append, ih (by omega), List.take_succ_eq_append_getElem (by simp; omega)]
      simp [List.getD_eq_getElem?_getD, List.getElem?_eq_getElem (show a + n < x.length by omega)]
  have e1 : List.range x.length = List.range' 0 f ++ (List.range' f (t - f) ++ List.range' t (x.length - t)) := by
    rw [List.range_eq_range', show x.length = f + ((t - f) + (x.length - t)) by omega, ← List.range'_append_1, ← List.range'_append_1]
    simp only [Nat.zero_add]
    rw [show f + (t - f) = t by omega, show f + (t - f + (x.length - t)) - t = x.length - t by omega]
  rw [e1, List.filter_append, List.filter_append, List.map_append, List.map_append]
  have f1 : (List.range' 0 f).filter P = List.range' 0 f := by
    rw [List.filter_eq_self]
    intro c hc
    rw [List.mem_range'_1] at hc
    rw [hP c (by omega)]
    simp; omega
  have f2 : (List.range' f (t - f)).filter P = [] := by
    rw [List.filter_eq_nil_iff]
    intro c hc
    rw [List.mem_range'_1] at hc
    rw [hP c (by omega)]
    simp; omega
  have f3 : (List.range' t (x.length - t)).filter P = List.range' t (x.length - t) := by
    rw [List.filter_eq_self]
    intro c hc
    rw [List.mem_range'_1] at hc
    rw [hP c (by omega)]
    simp; omega
  rw [f1, f2, f3, hget 0 f (by omega), hget t _ (by omega)]
  rw [List.take_of_length_le (l := x.drop t) (by simp)]
  simp
theorem has_of {L : List (List Int)} {k : Int} {p q : Pl} (hp : okP L p) (hq : okP L q) (hk : 0 ≤ k) (hk2 : k ≤ 2) {i : Nat} (h1 : (endsR p q).1.1 ≤ i) (h2 : i ≤ (endsR p q).2.1) {c : Nat} (hc : c < (lnL L i).length) :
    regHas k p q (i, c) = (decide (ofF k p q i (lnL L i).length ≤ c) && decide (c < ofT k p q i (lnL L i).length)) := by
  unfold regHas ofF ofT
  generalize endsR p q = E at *
  obtain ⟨⟨a1, a2⟩, ⟨b1, b2⟩⟩ := E
  simp only at h1 h2 ⊢
  by_cases h0 : k = 0
  · rw [if_pos h0, if_pos h0, if_pos h0]
    unfold aheadP
    simp only
    rw [Bool.eq_iff_iff]
    simp only [Bool.and_eq_true, Bool.not_eq_true', Bool.or_eq_false_iff, Bool.and_eq_false_iff, decide_eq_true_eq, decide_eq_false_iff_not]
    split <;> split <;> omega
  · rw [if_neg h0, if_neg h0, if_neg h0]
    by_cases hk1 : k = 1
    · rw [if_pos hk1, if_neg (by omega), if_neg (by omega)]
      simp [h1, h2, hc]
    · rw [if_neg hk1, if_pos (by omega), if_pos (by omega)]
      rw [Bool.eq_iff_iff]
      simp [h1, h2]
      omega
/-- a region's part of a line is a piece of it; what is left is what stands around the piece -/
theorem in_of {L : List (List Int)} {k : Int} {p q : Pl} (hp : okP L p) (hq : okP L q) (hk : 0 ≤ k) (hk2 : k ≤ 2) {i : Nat} (h1 : (endsR p q).1.1 ≤ i) (h2 : i ≤ (endsR p q).2.1) :
    inL L k p q i = ((lnL L i).take (ofT k p q i (lnL L i).length)).drop (ofF k p q i (lnL L i).length) := by
  unfold inL partIn
  obtain ⟨a, b⟩ := of_le (k := k) hp hq i
  exact range_filter_map _ _ _ _ a _ b (Nat.le_refl _) (fun c hc => has_of hp hq hk hk2 h1 h2 hc)
theorem out_of {L : List (List Int)} {k : Int} {p q : Pl} (hp : okP L p) (hq : okP L q) (hk : 0 ≤ k) (hk2 : k ≤ 2) {i : Nat} (h1 : (endsR p q).1.1 ≤ i) (h2 : i ≤ (endsR p q).2.1) :
    outL L k p q i = (lnL L i).take (ofF k p q i (lnL L i).length) ++ (lnL L i).drop (ofT k p q i (lnL L i).length) := by
  unfold outL partOut
  obtain ⟨a, b⟩ := of_le (k := k) hp hq i
  exact range_filter_not _ _ _ _ a b (fun c hc => by rw [has_of hp hq hk hk2 h1 h2 hc])
end Go.Proofs.Ytfldjoiohejilaa.U
