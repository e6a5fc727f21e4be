/-
  What deeds leave of the bounds of marks and jumps. Plain mathematics.
-/
import Derived.Test.YtbgbhlnidabhnaaMSt
namespace Go.Proofs.Ytbgbhlnidabhnaa.U
open Go.RowKit
set_option linter.unusedVariables false
set_option linter.unusedSimpArgs false
set_option maxRecDepth 100000

theorem okP.mono {B B' : Int} {p : Po} (h : okP B p) (hB : B ≤ B') : okP B' p := by
  obtain ⟨h1, h2, h3, h4⟩ := h
  exact ⟨h1, by omega, h3, h4⟩
theorem okP.fits {B : Int} {p : Po} (h : fitsP p = true) (hB : 0 ≤ B) : okP B p := by
  simp only [fitsP, decide_eq_true_eq] at h
  exact ⟨h.1, by omega, h.2.2.1, h.2.2.2⟩
theorem Ms.ok.mono {B B' : Int} {s : Ms} (h : s.ok B) (hB : B ≤ B') : s.ok B' := ⟨h.len, h.ix, h.sorted, h.names, fun x hx => (h.marks x hx).mono hB, fun p hp => (h.jumps p hp).mono hB⟩
theorem setM_ok {B : Int} {s : Ms} (h : s.ok B) (hB : 0 ≤ B) (r : Int) (p : Po) : (setM s r p).1.ok B := by
  unfold setM
  split
  · rename_i hc
    simp only [Bool.and_eq_true] at hc
    refine ⟨h.len, h.ix, setN_sorted h.sorted, fun x hx => ?_, fun x hx => ?_, h.jumps⟩
    · rcases (setN_mem h.sorted x).1 hx with ⟨h1, _⟩ | rfl
      · exact h.names x h1
      · exact hc.1
    · rcases (setN_mem h.sorted x).1 hx with ⟨h1, _⟩ | rfl
      · exact h.marks x h1
      · exact okP.fits hc.2 hB
  · exact h
theorem pushJ_le100 {js : List Po} {p : Po} (h : js.length ≤ 100) : (pushJ js p).length ≤ 100 := by
  have h1 : (notL p.l js).length ≤ js.length := List.length_filter_le _ _
  unfold pushJ
  split
  · rename_i hc
    rw [List.length_drop, List.length_append]
    simp
    omega
  · rename_i hc
    omega
theorem pushJ_mem {js : List Po} {p q : Po} (h : q ∈ pushJ js p) : q ∈ js ∨ q = p := by
  have h1 : q ∈ notL p.l js ++ [p] := by
    unfold pushJ at h
    split at h
    · exact List.mem_of_mem_drop h
    · exact h
  rcases List.mem_append.1 h1 with h2 | h2
  · exact .inl (List.mem_filter.1 h2).1
  · exact .inr (List.mem_singleton.1 h2)
theorem pushM_ok {B : Int} {s : Ms} (h : s.ok B) (hB : 0 ≤ B) (p : Po) : (pushM s p).ok B := by
  unfold pushM
  split
  · rename_i hc
    refine ⟨pushJ_le100 h.len, Nat.le_refl _, h.sorted, h.names, h.marks, fun q hq => ?_⟩
    rcases pushJ_mem hq with h1 | rfl
    · exact h.jumps q h1
    · exact okP.fits hc hB
  · exact h
theorem toEnd_ok {B : Int} {s : Ms} (h : s.ok B) (hB : 0 ≤ B) (p : Po) : (toEnd s p).ok B := by
  unfold toEnd
  split
  · have h1 := pushM_ok h hB p
    exact ⟨h1.len, Nat.sub_le _ _, h.sorted, h.names, h.marks, h1.jumps⟩
  · exact h
theorem toEnd_ns (s : Ms) (p : Po) : (toEnd s p).ns = s.ns := by
  unfold toEnd
  split <;> rfl
theorem backM_ok {B : Int} {s : Ms} (h : s.ok B) (hB : 0 ≤ B) (p : Po) : (backM s p).1.ok B := by
  have h1 := toEnd_ok h hB p
  unfold backM
  split
  · exact h1
  · have h2 := h1.ix
    exact ⟨h1.len, by simp only; omega, h.sorted, h.names, h.marks, h1.jumps⟩
theorem forthM_ok {B : Int} {s : Ms} (h : s.ok B) : (forthM s).1.ok B := by
  unfold forthM
  split
  · exact h
  · exact ⟨h.len, by simp only; omega, h.sorted, h.names, h.marks, h.jumps⟩
theorem moveP_ok {B : Int} {p q : Po} {c : Ch} (h : okP B p) (hp : 0 ≤ c.pos) (hn : c.now.length ≤ 1000) (hm : moveP p c = some q) : okP (B + 1000) q := by
  obtain ⟨h1, h2, h3, h4⟩ := h
  unfold moveP at hm
  split at hm
  · cases hm
    exact ⟨h1, by omega, h3, h4⟩
  · split at hm
    · cases hm
      exact ⟨by simp only; omega, by simp only; omega, h3, h4⟩
    · split at hm
      · cases hm
      · cases hm
        exact ⟨h1, by simp only; omega, by simp only; omega, by simp only; omega⟩
theorem adjM_ok {B : Int} {s : Ms} {c : Ch} (h : s.ok B) (hp : 0 ≤ c.pos) (hn : c.now.length ≤ 1000) : (adjM s c).ok (B + 1000) := by
  have hl : (adjJ s.js c).length + goneJ s.js c = s.js.length := by
    unfold adjJ goneJ
    generalize s.js = js
    induction js with
    | nil => rfl
    | cons x t ih =>
      rw [List.filterMap_cons, List.countP_cons]
      cases hm : moveP x c with
      | none => simp; omega
      | some q => simp; omega
  have hg : goneJ s.js c = goneJ (s.js.take s.ix) c + goneJ (s.js.drop s.ix) c := by
    unfold goneJ
    rw [← List.countP_append, List.take_append_drop]
  have hd : goneJ (s.js.drop s.ix) c ≤ s.js.length - s.ix := by
    have := List.countP_le_length (p := fun p => (moveP p c).isNone) (l := s.js.drop s.ix)
    rw [List.length_drop] at this
    exact this
  have hi := h.ix
  refine ⟨by have := h.len; show (adjJ s.js c).length ≤ 100; omega, by show s.ix - goneJ (s.js.take s.ix) c ≤ (adjJ s.js c).length; omega, ?_, fun x hx => ?_, fun x hx => ?_, fun p hx => ?_⟩
  · show (adjN s.ns c).Pairwise _
    unfold adjN
    rw [List.pairwise_filterMap]
    refine h.sorted.imp ?_
    intro a b hab x hx y hy
    cases hm : moveP a.2 c with
    | none => rw [hm] at hx; cases hx
    | some q =>
      cases hm2 : moveP b.2 c with
      | none => rw [hm2] at hy; cases hy
      | some q2 =>
        rw [hm] at hx
        rw [hm2] at hy
        cases hx
        cases hy
        exact hab
  · obtain ⟨y, hy, e⟩ := List.mem_filterMap.1 hx
    cases hm : moveP y.2 c with
    | none => rw [hm] at e; cases e
    | some q =>
      rw [hm] at e
      cases e
      exact h.names y hy
  · obtain ⟨y, hy, e⟩ := List.mem_filterMap.1 hx
    cases hm : moveP y.2 c with
    | none => rw [hm] at e; cases e
    | some q =>
      rw [hm] at e
      cases e
      exact moveP_ok (h.marks y hy) hp hn hm
  · obtain ⟨y, hy, e⟩ := List.mem_filterMap.1 hx
    exact moveP_ok (h.jumps y hy) hp hn e
end Go.Proofs.Ytbgbhlnidabhnaa.U
