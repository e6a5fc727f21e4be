/-
  Lines that are cut and put back; a text without a region, as one row: as plain mathematics.
-/
import Derived.Test.YtfldjoiohejilaaKPasP
import Derived.Test.YtfldjoiohejilaaJTake
namespace Go.Proofs.Ytfldjoiohejilaa.U
open Go.RowKit
set_option linter.unusedVariables false
set_option linter.unusedSimpArgs false
set_option maxRecDepth 100000

theorem lnL_get {L : List (List Int)} {i : Nat} (h : i < L.length) : L[i]? = some (lnL L i) := by
  unfold lnL; rw [List.getD_eq_getElem?_getD, List.getElem?_eq_getElem h]; rfl
/-- lines from a on, m of them -/
theorem range_lines (L : List (List Int)) (a m : Nat) (h : a + m ≤ L.length) : (List.range m).map (fun j => lnL L (a + j)) = (L.drop a).take m := by
  apply List.ext_getElem?
  intro i
  by_cases hi : i < m
  · rw [List.getElem?_map, List.getElem?_range hi, List.getElem?_take, if_pos hi, List.getElem?_drop, lnL_get (by omega)]
    rfl
  · rw [List.getElem?_eq_none (by simp; omega), List.getElem?_take, if_neg hi]
theorem ends_lines {a b : Nat} (h : a ≤ b) : endsR (a, 0) (b, 0) = ((a, 0), (b, 0)) := by
  unfold endsR aheadP
  rw [if_neg (by simp; omega)]
theorem okP_zero {L : List (List Int)} {a : Nat} (h : a < L.length) : okP L (a, 0) := ⟨h, Nat.zero_le _⟩
def lnRgn (a b : Nat) : Rgn := ⟨⟨(a : Int), 0⟩, ⟨(b : Int), 0⟩, 1⟩
theorem there_lines {L : List (List Int)} {a b : Nat} (h : a ≤ b) (hb : b < L.length) : thereR L (lnRgn a b) = 0 ∧ clipZ L (lnRgn a b).f = (a, 0) ∧ clipZ L (lnRgn a b).t = (b, 0) :=
  there_up (p := (a, 0)) (q := (b, 0)) (okP_zero (by omega)) (okP_zero hb) (by decide) (by decide)
theorem takeL_lines {L : List (List Int)} {a b : Nat} (h : a ≤ b) (hb : b < L.length) : takeL L (a, 0) (b, 0) 1 = (L.drop a).take (b + 1 - a) := by
  have he := ends_lines h
  unfold takeL insL overN
  rw [he, ← range_lines L a (b + 1 - a) (by omega)]
  apply List.map_congr_left
  intro j hj
  rw [List.mem_range] at hj
  simp only at hj
  rw [in_of (okP_zero (by omega)) (okP_zero hb) (by decide) (by decide) (by rw [he]; simp) (by rw [he]; simp; omega)]
  simp [ofF, ofT]
theorem take_lines {L : List (List Int)} {a b : Nat} (h : a ≤ b) (hb : b < L.length) : takeR L (lnRgn a b) = ((1, (L.drop a).take (b + 1 - a)), 0) := by
  obtain ⟨h1, h2, h3⟩ := there_lines h hb
  unfold takeR
  rw [if_pos h1, h2, h3]
  show ((1, takeL L (a, 0) (b, 0) 1), 0) = _
  rw [takeL_lines h hb]
theorem cutL_lines {L : List (List Int)} {a b : Nat} (h : a ≤ b) : cutL L (a, 0) (b, 0) 1 = L.take a ++ L.drop (b + 1) := by
  unfold cutL
  rw [ends_lines h]
  simp
/-- what is left, and where one is -/
theorem cut_lines {L : List (List Int)} {a b : Nat} (h : a ≤ b) (hb : b < L.length) (hne : b + 1 - a ≠ L.length) :
    cutR L (lnRgn a b) = (L.take a ++ L.drop (b + 1), (min a ((L.take a ++ L.drop (b + 1)).length - 1), firstR (lnL (L.take a ++ L.drop (b + 1)) (min a ((L.take a ++ L.drop (b + 1)).length - 1)))), 0) := by
  obtain ⟨h1, h2, h3⟩ := there_lines h hb
  unfold cutR
  rw [if_pos h1, h2, h3]
  have hM : cutM L (a, 0) (b, 0) (lnRgn a b).k = L.take a ++ L.drop (b + 1) := by
    unfold cutM
    show (if (1 : Int) = 1 ∧ cutL L (a, 0) (b, 0) 1 = [] then [[]] else cutL L (a, 0) (b, 0) 1) = _
    rw [cutL_lines h, if_neg]
    rintro ⟨-, e⟩
    have := congrArg List.length e
    rw [List.length_append, List.length_take, List.length_drop, List.length_nil] at this
    omega
  rw [hM]
  unfold cutQ
  rw [ends_lines h]
  rfl
theorem cut_all {L : List (List Int)} {a b : Nat} (h : a ≤ b) (hb : b < L.length) (he : b + 1 - a = L.length) : (cutR L (lnRgn a b)).1 = [[]] ∧ (cutR L (lnRgn a b)).2.2 = 0 := by
  obtain ⟨h1, h2, h3⟩ := there_lines h hb
  unfold cutR
  rw [if_pos h1, h2, h3]
  refine ⟨?_, rfl⟩
  show (if (1 : Int) = 1 ∧ cutL L (a, 0) (b, 0) 1 = [] then [[]] else cutL L (a, 0) (b, 0) 1) = _
  rw [cutL_lines h, if_pos]
  refine ⟨rfl, ?_⟩
  obtain rfl : a = 0 := by omega
  simp
  omega
theorem firstR_le (x : List Int) : firstR x ≤ x.length - 1 := by rw [first_blk]; omega
/-- put back ahead of where one is, or behind the last line -/
theorem paste_back {L : List (List Int)} {a b : Nat} (h : a ≤ b) (hb : b < L.length) (hne : b + 1 - a ≠ L.length) (hs : sizeN (lens L) ≤ 65536) (hpl : plainL L) :
    (pasteR (cutR L (lnRgn a b)).1 (upP (cutR L (lnRgn a b)).2.1) 1 ((L.drop a).take (b + 1 - a)) (decide (b = L.length - 1)) 1).1 = L ∧
    (pasteR (cutR L (lnRgn a b)).1 (upP (cutR L (lnRgn a b)).2.1) 1 ((L.drop a).take (b + 1 - a)) (decide (b = L.length - 1)) 1).2.2 = 0 := by
  rw [cut_lines h hb hne]
  simp only
  obtain ⟨M, hM⟩ : ∃ M, L.take a ++ L.drop (b + 1) = M := ⟨_, rfl⟩
  obtain ⟨G, hG⟩ : ∃ G, (L.drop a).take (b + 1 - a) = G := ⟨_, rfl⟩
  rw [hM, hG]
  have hparts : L.take a ++ G ++ L.drop (b + 1) = L := by
    rw [← hG, List.append_assoc]
    have e : L.drop (b + 1) = (L.drop a).drop (b + 1 - a) := by rw [List.drop_drop]; congr 1; omega
    rw [e, List.take_append_drop, List.take_append_drop]
  have hMl : M.length = a + (L.length - (b + 1)) := by rw [← hM]; simp; omega
  have hGl : G.length = b + 1 - a := by rw [← hG]; simp; omega
  have hMne : M ≠ [] := by intro e; rw [e] at hMl; simp at hMl; omega
  have hGne : G ≠ [] := by intro e; rw [e] at hGl; simp at hGl; omega
  have hok : okP M (min a (M.length - 1), firstR (lnL M (min a (M.length - 1)))) := ⟨by have := List.length_pos_iff.2 hMne; simp only; omega, firstR_le _⟩
  have hc : clipZ M (upP (min a (M.length - 1), firstR (lnL M (min a (M.length - 1))))) = (min a (M.length - 1), firstR (lnL M (min a (M.length - 1)))) := clipP_id hok
  have hGp : plainL G := fun x hx => hpl x (List.mem_of_mem_drop (List.mem_of_mem_take (by rw [hG]; exact hx)))
  have hE : eachR 1 G = sizeN (lens G) := by rw [← runesR_size hGne]; rfl
  have hsz : sizeN (lens L) = sizeN (lens M) + sizeN (lens G) := by
    rw [← hparts, ← hM, lens_append, lens_append, lens_append, sizeN_append, sizeN_append, sizeN_append]
    omega
  have hGc := size_count G
  have hT : timesN 1 G 1 = 1 := by unfold timesN; split <;> rfl
  rw [pasteR_ok hMne hGne hGp (by decide) (by decide) (by rw [hE, hT]; unfold lackK; rw [if_neg (by decide)]; omega), hc, hT]
  refine ⟨?_, rfl⟩
  show wholeL M (if (decide (b = L.length - 1)) = true then min a (M.length - 1) + 1 else min a (M.length - 1)) G 1 = L
  have hr1 : repLL 1 G = G := by simp [repLL]
  unfold wholeL
  rw [hr1]
  have hat : (if (decide (b = L.length - 1)) = true then min a (M.length - 1) + 1 else min a (M.length - 1)) = a := by
    by_cases e : b = L.length - 1
    · rw [if_pos (by simpa using e)]
      omega
    · rw [if_neg (by simpa using e)]
      omega
  rw [hat, ← hM, List.take_append_of_le_length (by simp; omega), List.drop_append_of_le_length (by simp; omega)]
  rw [List.take_take, Nat.min_self, List.drop_take, Nat.sub_self, List.take_zero, List.nil_append]
  exact hparts
end Go.Proofs.Ytfldjoiohejilaa.U
