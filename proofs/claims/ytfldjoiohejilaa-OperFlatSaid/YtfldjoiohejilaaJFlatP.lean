/-
  A text without a region of characters, as one row: plain mathematics.
-/
import Derived.Test.YtfldjoiohejilaaJBackP
import Derived.Test.YtfldjoiohejilaaJOff
namespace Go.Proofs.Ytfldjoiohejilaa.U
open Go.RowKit
set_option linter.unusedVariables false
set_option linter.unusedSimpArgs false
set_option maxRecDepth 100000

theorem take_app_len {α : Type} (A B : List α) (n : Nat) : (A ++ B).take (A.length + n) = A ++ B.take n := by
  rw [List.take_append, List.take_of_length_le (by omega)]
  simp
theorem drop_app_len {α : Type} (A B : List α) (n : Nat) : (A ++ B).drop (A.length + n) = B.drop n := by
  rw [List.drop_append]
  simp
def tlE (S : List (List Int)) : List Int := if S = [] then [] else 10 :: joinL S
theorem joinL_mid (P : List (List Int)) (x : List Int) (S : List (List Int)) : joinL (P ++ [x] ++ S) = joinE P ++ x ++ tlE S := by
  apply joinL_of
  rw [joinE_append, joinE_append, joinE_one]
  unfold tlE
  by_cases h : S = []
  · subst h; simp [joinE]
  · rw [if_neg h, joinE_joinL h]
    simp
theorem joinL_two (P : List (List Int)) (x : List Int) (M : List (List Int)) (y : List Int) (S : List (List Int)) : joinL (P ++ [x] ++ M ++ [y] ++ S) = joinE P ++ x ++ 10 :: joinE M ++ y ++ tlE S := by
  rw [joinL_mid, joinE_append, joinE_append, joinE_one]
  simp
theorem joinL_xy (x : List Int) (M : List (List Int)) (y : List Int) : joinL (x :: M ++ [y]) = x ++ 10 :: joinE M ++ y := by
  have := joinL_two [] x M y []
  simpa [joinE, tlE] using this
theorem joinL_x (x : List Int) : joinL [x] = x := by
  have := joinL_mid [] x []
  simpa [joinE, tlE] using this
/-- where a line's runes end that a region has -/
theorem end_min {x : List Int} {d : Nat} (h : d ≤ x.length - 1) : min x.length (d + 1) = d + (if x = [] then 0 else 1) := by
  by_cases e : x = []
  · subst e; simp at h ⊢; omega
  · have := List.length_pos_iff.2 e
    rw [if_neg e]
    omega
def endN (L : List (List Int)) (p : Pl) : Nat := offN L p.1 p.2 + (if lnL L p.1 = [] then 0 else 1)
theorem off_take {L : List (List Int)} (k d : Nat) : offN L k d = (joinE (L.take k)).length + d := by unfold offN; rw [joinE_len, lens_take]
theorem list_three (L : List (List Int)) {a : Nat} (h : a < L.length) : L = L.take a ++ [lnL L a] ++ L.drop (a + 1) := by
  have h1 : L.drop a = lnL L a :: L.drop (a + 1) := by
    rw [List.drop_eq_getElem_cons h]
    congr 1
    have := lnL_get h
    rw [List.getElem?_eq_getElem h] at this
    exact Option.some.inj this
  have h2 := (List.take_append_drop a L).symm
  rw [h1] at h2
  simpa using h2
theorem list_five (L : List (List Int)) {a b : Nat} (h : a < b) (hb : b < L.length) : L = L.take a ++ [lnL L a] ++ (L.drop (a + 1)).take (b - a - 1) ++ [lnL L b] ++ L.drop (b + 1) := by
  have h1 := list_three L (show a < L.length by omega)
  have h2 := list_three (L.drop (a + 1)) (a := b - a - 1) (by simp; omega)
  have e1 : lnL (L.drop (a + 1)) (b - a - 1) = lnL L b := by
    unfold lnL
    rw [List.getD_eq_getElem?_getD, List.getD_eq_getElem?_getD, List.getElem?_drop]
    congr 2
    omega
  have e2 : (L.drop (a + 1)).drop (b - a - 1 + 1) = L.drop (b + 1) := by rw [List.drop_drop]; congr 1; omega
  rw [e1, e2] at h2
  have h3 : L.take a ++ [lnL L a] ++ L.drop (a + 1) = L.take a ++ [lnL L a] ++ ((L.drop (a + 1)).take (b - a - 1) ++ [lnL L b] ++ L.drop (b + 1)) := by rw [← h2]
  rw [← h1] at h3
  simpa [List.append_assoc] using h3
theorem take_mid (L : List (List Int)) {a b : Nat} (h : a < b) (hb : b < L.length) : L.take b = L.take a ++ [lnL L a] ++ (L.drop (a + 1)).take (b - a - 1) := by
  have h1 := congrArg (List.take b) (list_five L h hb)
  rw [h1]
  have hl : (L.take a ++ [lnL L a] ++ (L.drop (a + 1)).take (b - a - 1)).length = b := by simp; omega
  rw [List.append_assoc (L.take a ++ [lnL L a] ++ (L.drop (a + 1)).take (b - a - 1))]
  have h2 := take_app_len (L.take a ++ [lnL L a] ++ (L.drop (a + 1)).take (b - a - 1)) ([lnL L b] ++ L.drop (b + 1)) 0
  rw [hl] at h2
  simpa using h2
theorem flat_both {L : List (List Int)} {p q : Pl} (hp : okP L p) (hq : okP L q) :
    joinL (takeL L p q 0) = ((joinL L).take (endN L (endsR p q).2)).drop (offN L (endsR p q).1.1 (endsR p q).1.2) ∧
    joinL (cutL L p q 0) = (joinL L).take (offN L (endsR p q).1.1 (endsR p q).1.2) ++ (joinL L).drop (endN L (endsR p q).2) := by
  obtain ⟨hA, hB⟩ := endsR_ok hp hq
  have hle := endsR_le p q
  have hord := endsR_ord p q
  have hin : ∀ i, (endsR p q).1.1 ≤ i → i ≤ (endsR p q).2.1 → _ := fun i h1 h2 => in_of (k := 0) hp hq (by decide) (by decide) h1 h2
  have hout : ∀ i, (endsR p q).1.1 ≤ i → i ≤ (endsR p q).2.1 → _ := fun i h1 h2 => out_of (k := 0) hp hq (by decide) (by decide) h1 h2
  unfold takeL cutL insL outsL overN
  unfold ofT ofF at hin hout
  obtain ⟨⟨⟨a1, a2⟩, ⟨b1, b2⟩⟩, hE⟩ : ∃ E, endsR p q = E := ⟨_, rfl⟩
  rw [hE] at hA hB hle hord hin hout ⊢
  simp only at hA hB hle hord hin hout ⊢
  obtain ⟨hA1, hA2⟩ := hA
  obtain ⟨hB1, hB2⟩ := hB
  simp only at hA1 hA2 hB1 hB2
  simp only [if_true] at hin hout
  rw [if_neg (by decide), if_pos trivial]
  unfold endN
  simp only
  obtain ⟨t, ht⟩ : ∃ t, b2 + (if lnL L b1 = [] then 0 else 1) = t := ⟨_, rfl⟩
  have hmin : min (lnL L b1).length (b2 + 1) = t := by rw [← ht]; exact end_min hB2
  have htl : t ≤ (lnL L b1).length := by omega
  have hend : offN L b1 b2 + (if lnL L b1 = [] then 0 else 1) = (joinE (L.take b1)).length + t := by rw [off_take]; omega
  rw [hend, off_take]
  by_cases hab : a1 = b1
  · subst hab
    have hat : a2 ≤ t := by have := hord rfl; omega
    have e1 : a1 + 1 - a1 = 1 := by omega
    have hi := hin a1 (Nat.le_refl _) (Nat.le_refl _)
    have ho := hout a1 (Nat.le_refl _) (Nat.le_refl _)
    simp only [if_true] at hi ho
    rw [hmin] at hi ho
    have hJ : joinL L = joinE (L.take a1) ++ (lnL L a1 ++ tlE (L.drop (a1 + 1))) := by
      have h1 := congrArg joinL (list_three L hA1)
      rw [joinL_mid] at h1
      rw [h1, List.append_assoc]
    constructor
    · rw [e1]
      simp only [List.range_one, List.map_cons, List.map_nil, Nat.add_zero]
      rw [hi, joinL_x, hJ, take_app_len, drop_app_len, List.take_append_of_le_length htl]
    · rw [e1]
      simp only [List.range_one, List.map_cons, List.map_nil, Nat.add_zero, List.flatten_cons, List.flatten_nil, List.append_nil]
      rw [ho, joinL_mid, hJ, take_app_len, drop_app_len, List.take_append_of_le_length (by omega), List.drop_append_of_le_length htl]
      simp [List.append_assoc]
  · have hlt : a1 < b1 := by omega
    obtain ⟨k, hk⟩ : ∃ k, b1 - a1 - 1 = k := ⟨_, rfl⟩
    have e1 : b1 + 1 - a1 = k + 1 + 1 := by omega
    have hx : a2 ≤ (lnL L a1).length := by omega
    have hia := hin a1 (Nat.le_refl _) hle
    have hoa := hout a1 (Nat.le_refl _) hle
    have hib := hin b1 hle (Nat.le_refl _)
    have hob := hout b1 hle (Nat.le_refl _)
    rw [if_pos rfl, if_neg hab] at hia hoa
    rw [if_neg (fun e => hab e.symm), if_pos rfl, hmin] at hib hob
    have him : ∀ j, j < k → inL L 0 p q (a1 + 1 + j) = lnL L (a1 + 1 + j) := by
      intro j hj
      have h1 := hin (a1 + 1 + j) (by omega) (by omega)
      rw [if_neg (by omega), if_neg (by omega)] at h1
      rw [h1]
      simp
    have hom : ∀ j, j < k → outL L 0 p q (a1 + 1 + j) = [] := by
      intro j hj
      have h1 := hout (a1 + 1 + j) (by omega) (by omega)
      rw [if_neg (by omega), if_neg (by omega)] at h1
      rw [h1]
      simp
    rw [List.take_length] at hia
    rw [List.drop_length, List.append_nil] at hoa
    rw [List.drop_zero] at hib
    rw [List.take_zero, List.nil_append] at hob
    have hlist : ∀ (f : Nat → List Int), (List.range (k + 1 + 1)).map (fun j => f (a1 + j)) = f a1 :: (List.range k).map (fun j => f (a1 + 1 + j)) ++ [f b1] := by
      intro f
      rw [List.range_succ, List.map_append, List.range_succ_eq_map]
      simp only [List.map_cons, List.map_map, List.map_nil, Nat.add_zero]
      congr 2
      · apply List.map_congr_left
        intro j _
        show f (a1 + (j + 1)) = _
        congr 1
        omega
      · congr 2
        omega
    have hmid : (List.range k).map (fun j => inL L 0 p q (a1 + 1 + j)) = (L.drop (a1 + 1)).take k := by
      rw [← range_lines L (a1 + 1) k (by omega)]
      exact List.map_congr_left (fun j hj => him j (List.mem_range.1 hj))
    have hmido : ((List.range k).map (fun j => outL L 0 p q (a1 + 1 + j))).flatten = [] := by
      rw [List.flatten_eq_nil_iff]
      intro l hl
      obtain ⟨j, hj, rfl⟩ := List.mem_map.1 hl
      exact hom j (List.mem_range.1 hj)
    have hL5 := list_five L hlt hB1
    have hT := take_mid L hlt hB1
    rw [hk] at hL5 hT
    obtain ⟨Mid, hMid⟩ : ∃ Mid, (L.drop (a1 + 1)).take k = Mid := ⟨_, rfl⟩
    rw [hMid] at hL5 hT hmid
    have hJ : joinL L = joinE (L.take a1) ++ (lnL L a1 ++ 10 :: joinE Mid ++ (lnL L b1 ++ tlE (L.drop (b1 + 1)))) := by
      have h1 := congrArg joinL hL5
      rw [joinL_two] at h1
      rw [h1]
      simp [List.append_assoc]
    have hJb : (joinE (L.take b1)).length = (joinE (L.take a1)).length + (lnL L a1 ++ 10 :: joinE Mid).length := by
      rw [hT, joinE_append, joinE_append, joinE_one]
      simp only [List.length_append, List.length_cons, List.length_nil]
      omega
    have htake : (joinL L).take ((joinE (L.take b1)).length + t) = joinE (L.take a1) ++ (lnL L a1 ++ 10 :: joinE Mid ++ (lnL L b1).take t) := by
      rw [hJb, hJ, Nat.add_assoc, take_app_len, take_app_len, List.take_append_of_le_length htl]
    have hdrop : (joinL L).drop ((joinE (L.take b1)).length + t) = (lnL L b1).drop t ++ tlE (L.drop (b1 + 1)) := by
      rw [hJb, hJ, Nat.add_assoc, drop_app_len, drop_app_len, List.drop_append_of_le_length htl]
    constructor
    · rw [e1, hlist (inL L 0 p q), hmid, hia, hib, joinL_xy, htake, drop_app_len]
      simp only [List.append_assoc, List.drop_append_of_le_length hx]
    · rw [e1, hlist (outL L 0 p q), hdrop]
      have hfl : (outL L 0 p q a1 :: (List.range k).map (fun j => outL L 0 p q (a1 + 1 + j)) ++ [outL L 0 p q b1]).flatten = (lnL L a1).take a2 ++ (lnL L b1).drop t := by
        rw [List.flatten_append, List.flatten_cons, hmido, hoa, hob]
        simp
      rw [hfl, joinL_mid, hJ, take_app_len]
      simp only [List.append_assoc, List.take_append_of_le_length hx]
end Go.Proofs.Ytfldjoiohejilaa.U
