/-
  What is put in at a place and taken out again: plain lists alone.
-/
import Derived.Test.YtndlebopfojjeaaTTurns
namespace Go.Proofs.Ytndlebopfojjeaa.U
set_option linter.unusedVariables false
set_option linter.unusedSimpArgs false
set_option maxRecDepth 100000

theorem findP_grow (h : Nat) (t : List Nat) (n : Nat) : findP ((h + 1) :: t) (n + 1) = if n ≤ h then (0, n + 1) else findP (h :: t) n := by
  by_cases hn : n ≤ h
  · rw [if_pos hn]
    unfold findP
    rw [if_pos (by omega)]
  · rw [if_neg hn]
    unfold findP
    rw [if_neg (by omega), if_neg hn, show n + 1 - (h + 1 + 1) = n - (h + 1) from by omega]
theorem findP_hd {h : Nat} {t : List Nat} {n : Nat} : n ≤ h ↔ (findP (h :: t) n).1 = 0 := by
  by_cases hn : n ≤ h
  · simp [findP, hn]
  · simp [findP, hn]
/-- a place is what is ahead of it -/
theorem findP_pre (Y : List Int) : ∀ (x : List Int), findP (lens (splitL (x ++ Y))) x.length = findP (lens (splitL x)) x.length
  | [] => by simp only [List.nil_append, List.length_nil, findP_zero]
  | a :: r => by
    have ih := findP_pre Y r
    by_cases ha : a = 10
    · subst ha
      rw [List.cons_append, splitL_10, splitL_10, List.length_cons]
      have e : ∀ M : List (List Int), findP (lens ([] :: M)) (r.length + 1) = ((findP (lens M) r.length).1 + 1, (findP (lens M) r.length).2) := by
        intro M
        show findP (0 :: lens M) (r.length + 1) = _
        conv => lhs; unfold findP
        rw [if_neg (by omega), show r.length + 1 - (0 + 1) = r.length from by omega]
      rw [e, e, ih]
    · rw [List.cons_append, splitL_c ha, splitL_c ha, List.length_cons]
      obtain ⟨h1, t1, e1⟩ := splitL_hd (r ++ Y)
      obtain ⟨h2, t2, e2⟩ := splitL_hd r
      rw [e1, e2] at ih ⊢
      have q : ∀ (h : List Int) (t : List (List Int)), lens ((a :: (h :: t).headD []) :: (h :: t).tail) = (h.length + 1) :: lens t := by intro h t; simp [lens]
      have q' : ∀ (h : List Int) (t : List (List Int)), lens (h :: t) = h.length :: lens t := by intro h t; simp [lens]
      rw [q, q, findP_grow, findP_grow]
      rw [q', q'] at ih
      by_cases hn : r.length ≤ h1.length
      · have : r.length ≤ h2.length := by rw [findP_hd (t := lens t2), ← ih]; exact findP_hd.1 hn
        rw [if_pos hn, if_pos this]
      · have : ¬ r.length ≤ h2.length := by rw [findP_hd (t := lens t2), ← ih]; exact fun e => hn (findP_hd.2 e)
        rw [if_neg hn, if_neg this, ih]

/-- a number of runes as a place -/
theorem place_has {M : List (List Int)} (hM : M ≠ []) {k : Nat} (hk : k ≤ (joinL M).length) : ∃ x, M[(findP (lens M) k).1]? = some x ∧ (findP (lens M) k).2 ≤ x.length ∧ offN M (findP (lens M) k).1 (findP (lens M) k).2 = k := by
  have hj := joinL_len hM
  obtain ⟨q1, q2, q3⟩ := findP_spec (lens M) k (by omega)
  rw [lens_len] at q1
  have hx : M[(findP (lens M) k).1]? = some M[(findP (lens M) k).1] := List.getElem?_eq_getElem q1
  refine ⟨_, hx, ?_, q2⟩
  rw [List.getD_eq_getElem?_getD, lens_at hx, Option.getD_some] at q3
  exact q3
theorem place_hasP {M : List (List Int)} (hM : M ≠ []) {k : Nat} (hk : k ≤ (joinL M).length) : hasP M ((findP (lens M) k).1 : Nat) ((findP (lens M) k).2 : Nat) = true := by
  obtain ⟨x, h1, h2, _⟩ := place_has hM hk
  exact hasP_iff.2 ⟨_, _, x, rfl, rfl, h1, h2⟩
def putL (M : List (List Int)) (k : Nat) (l : List Int) : List (List Int) := splitL ((joinL M).take k ++ (l ++ (joinL M).drop k))
theorem put_ins {M : List (List Int)} (hM : M ≠ []) {k : Nat} (hk : k ≤ (joinL M).length) (l : List Int) (hroom : (joinL M).length + l.length ≤ 65536) :
    insT M ((findP (lens M) k).1 : Nat) ((findP (lens M) k).2 : Nat) l = (putL M k l, 0) := by
  obtain ⟨x, h1, h2, h3⟩ := place_has hM hk
  unfold insT
  rw [if_pos (place_hasP hM hk), if_neg (by omega), Int.toNat_natCast, Int.toNat_natCast, h3]
  rfl
theorem put_join (M : List (List Int)) (k : Nat) (l : List Int) : joinL (putL M k l) = (joinL M).take k ++ (l ++ (joinL M).drop k) := joinL_split _
theorem put_same {M : List (List Int)} (hM : M ≠ []) (hp : plainL M) {k : Nat} (hk : k ≤ (joinL M).length) (l : List Int) : findP (lens (putL M k l)) k = findP (lens M) k := by
  have h1 := findP_pre (l ++ (joinL M).drop k) ((joinL M).take k)
  have h2 := findP_pre ((joinL M).drop k) ((joinL M).take k)
  rw [List.take_append_drop, split_join hp hM] at h2
  rw [List.length_take, Nat.min_eq_left hk] at h1 h2
  unfold putL
  rw [h1, h2]
theorem put_ne (M : List (List Int)) (k : Nat) (l : List Int) : putL M k l ≠ [] := splitL_ne _
theorem put_len {M : List (List Int)} {k : Nat} (hk : k ≤ (joinL M).length) (l : List Int) : (joinL (putL M k l)).length = (joinL M).length + l.length := by
  rw [put_join]
  simp only [List.length_append, List.length_take, List.length_drop]
  omega
theorem put_bet {M : List (List Int)} (hM : M ≠ []) (hp : plainL M) {k : Nat} (hk : k ≤ (joinL M).length) (l : List Int) :
    betR (putL M k l) ((findP (lens M) k).1 : Nat) ((findP (lens M) k).2 : Nat) ((findP (lens (putL M k l)) (k + l.length)).1 : Nat) ((findP (lens (putL M k l)) (k + l.length)).2 : Nat) = ((k : Int), (l.length : Int), 0) ∧
    offN (putL M k l) (findP (lens M) k).1 (findP (lens M) k).2 = k ∧ offN (putL M k l) (findP (lens (putL M k l)) (k + l.length)).1 (findP (lens (putL M k l)) (k + l.length)).2 = k + l.length := by
  have hlen := put_len hk l
  have hs := put_same hM hp hk l
  obtain ⟨x, h1, h2, h3⟩ := place_has (put_ne M k l) (k := k) (by omega)
  obtain ⟨y, h4, h5, h6⟩ := place_has (put_ne M k l) (k := k + l.length) (by omega)
  have a1 := place_hasP (put_ne M k l) (k := k) (by omega)
  have a2 := place_hasP (put_ne M k l) (k := k + l.length) (by omega)
  rw [hs] at h3 a1
  refine ⟨?_, h3, h6⟩
  unfold betR
  rw [a1, a2, Bool.and_self, if_pos rfl]
  simp only [Int.toNat_natCast]
  rw [h3, h6, if_neg (by omega)]
  simp only [Prod.mk.injEq, true_and, and_true]
  omega
theorem put_sli {M : List (List Int)} (hM : M ≠ []) (hp : plainL M) {k : Nat} (hk : k ≤ (joinL M).length) (l : List Int) :
    sliT (putL M k l) ((findP (lens M) k).1 : Nat) ((findP (lens M) k).2 : Nat) ((findP (lens (putL M k l)) (k + l.length)).1 : Nat) ((findP (lens (putL M k l)) (k + l.length)).2 : Nat) = (l, 0) := by
  obtain ⟨h1, h2, h3⟩ := put_bet hM hp hk l
  have hkl : ((joinL M).take k).length = k := by rw [List.length_take, Nat.min_eq_left hk]
  unfold sliT
  rw [h1, if_pos rfl]
  simp only [Int.toNat_natCast]
  rw [h2, h3, put_join, List.drop_left' hkl, show k + l.length - k = l.length from by omega, List.take_left' rfl]
theorem put_del {M : List (List Int)} (hM : M ≠ []) (hp : plainL M) {k : Nat} (hk : k ≤ (joinL M).length) (l : List Int) :
    delT (putL M k l) ((findP (lens M) k).1 : Nat) ((findP (lens M) k).2 : Nat) ((findP (lens (putL M k l)) (k + l.length)).1 : Nat) ((findP (lens (putL M k l)) (k + l.length)).2 : Nat) = (M, 0) := by
  obtain ⟨h1, h2, h3⟩ := put_bet hM hp hk l
  have hkl : ((joinL M).take k).length = k := by rw [List.length_take, Nat.min_eq_left hk]
  unfold delT
  rw [h1, if_pos rfl]
  simp only [Int.toNat_natCast]
  rw [h2, h3, put_join, List.take_left' hkl, ← List.append_assoc, List.drop_left' (by rw [List.length_append, hkl]), List.take_append_drop, split_join hp hM]
end Go.Proofs.Ytndlebopfojjeaa.U
