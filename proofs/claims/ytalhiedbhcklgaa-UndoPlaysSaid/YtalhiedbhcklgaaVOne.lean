/-
  Lines that are written out; the law's one.
-/
import Derived.Test.YtalhiedbhcklgaaVTo
import Derived.Test.YtalhiedbhcklgaaVDo
import Derived.Test.YtalhiedbhcklgaaVAddW
namespace Go.Proofs.Ytalhiedbhcklgaa.U
open Go.RowKit
set_option linter.unusedVariables false
set_option linter.unusedSimpArgs false
set_option maxRecDepth 100000

/-- lines of one letter each -/
theorem fresh_lits {w : World} {lo hi g : Nat} (hs : List (Nat × Int)) (hg : w.heap[g]? = some (.cells ((hs.map (fun p => Value.slice (some ⟨p.1, 0, none⟩) 1 1)).toArray) 52 (0, 0)))
    (hr : ∀ p ∈ hs, w.heap[p.1]? = some (.cells #[.int .i32 p.2] 21 (0, 0)) ∧ lo ≤ p.1 ∧ p.1 < hi) (hnd : (hs.map Prod.fst).Nodup) (hlo : lo ≤ g) (hhi : g < hi) (hsm : hs.length ≤ 1048576) :
    FreshR lo hi w (some ⟨g, 0, none⟩) hs.length hs.length (hs.map (fun p => [p.2])) := by
  have hown := own_of (B := lo) (n := hs.length) (cap := hs.length) (size := 1) hg hlo (Nat.le_refl _) (by unfold maxLen; omega) (by simp)
  have e1 : ((hs.map (fun p => Value.slice (some ⟨p.1, 0, none⟩) 1 1)).toArray.toList.take (hs.length * 1)) = hs.map (fun p => Value.slice (some ⟨p.1, 0, none⟩) 1 1) := by simp [List.take_of_length_le]
  refine ⟨hs.map (fun p => Value.slice (some ⟨p.1, 0, none⟩) 1 1), by simpa [List.take_of_length_le] using hown, by simp, fun i x hx => ?_, fun i j vi vj hij h1 h2 k e1 e2 => ?_, fun k e => ?_⟩
  · rw [List.getElem?_map] at hx
    cases hc : hs[i]? with
    | none => rw [hc] at hx; cases hx
    | some p =>
      rw [hc] at hx
      simp at hx
      subst hx
      obtain ⟨q1, q2, q3⟩ := hr p (List.mem_of_getElem? hc)
      refine ⟨.slice (some ⟨p.1, 0, none⟩) 1 1, by rw [List.getElem?_map, hc]; rfl, ?_, fun k e => ?_⟩
      · have := own_of (B := lo) (n := 1) (cap := 1) (size := 1) q1 q2 (Nat.le_refl _) (by unfold maxLen; omega) rfl
        simpa [ints] using this
      · have : p.1 = k := by simpa [Value.ownBlock] using e
        omega
  · rw [List.getElem?_map] at h1 h2
    cases c1 : hs[i]? with
    | none => rw [c1] at h1; cases h1
    | some p =>
      cases c2 : hs[j]? with
      | none => rw [c2] at h2; cases h2
      | some q =>
        rw [c1] at h1
        rw [c2] at h2
        simp at h1 h2
        subst h1 h2
        simp [Value.ownBlock] at e1 e2
        have hpw := List.pairwise_iff_getElem.1 hnd i j (by simpa using (List.getElem?_eq_some_iff.1 c1).1) (by simpa using (List.getElem?_eq_some_iff.1 c2).1) hij
        have d1 := (List.getElem?_eq_some_iff.1 c1).2
        have d2 := (List.getElem?_eq_some_iff.1 c2).2
        simp only [List.getElem_map, d1, d2] at hpw
        omega
  · have : g = k := by simpa [Value.ownBlock] using e
    omega

def oneC (p x y : Int) : Ch := ⟨p, [[x]], [[y]]⟩
theorem one_any (p x y : Int) (w : World) : Calls Try.prog 38 #[.int .i64 p, .int .i32 x, .int .i32 y] w (CopP w (oneC p x y)) := by
  obtain ⟨W1, hW1⟩ : ∃ W1, w.alloc (.cells #[.int .i64 p, .slice (some ⟨w.heap.size + 1 + 1, 0, none⟩) 1 1, .slice (some ⟨w.heap.size + 1 + 1 + 1 + 1, 0, none⟩) 1 1] 24) = W1 := ⟨_, rfl⟩
  obtain ⟨W2, hW2⟩ : ∃ W2, W1.alloc (.cells #[.int .i32 x] 21) = W2 := ⟨_, rfl⟩
  obtain ⟨W3, hW3⟩ : ∃ W3, W2.alloc (.cells #[.slice (some ⟨w.heap.size + 1, 0, none⟩) 1 1] 52) = W3 := ⟨_, rfl⟩
  obtain ⟨W4, hW4⟩ : ∃ W4, W3.alloc (.cells #[.int .i32 y] 21) = W4 := ⟨_, rfl⟩
  obtain ⟨W5, hW5⟩ : ∃ W5, W4.alloc (.cells #[.slice (some ⟨w.heap.size + 1 + 1 + 1, 0, none⟩) 1 1] 52) = W5 := ⟨_, rfl⟩
  have s1 : W1.heap.size = w.heap.size + 1 := by rw [← hW1]; simp
  have s2 : W2.heap.size = w.heap.size + 2 := by rw [← hW2]; simp [s1]
  have s3 : W3.heap.size = w.heap.size + 3 := by rw [← hW3]; simp [s2]
  have s4 : W4.heap.size = w.heap.size + 4 := by rw [← hW4]; simp [s3]
  have s5 : W5.heap.size = w.heap.size + 5 := by rw [← hW5]; simp [s4]
  have b1 : Below w.heap.size w W1 := by rw [← hW1]; exact (Below.refl _ _).alloc (Nat.le_refl _) _
  have b2 : Below W1.heap.size W1 W2 := by rw [← hW2]; exact (Below.refl _ _).alloc (Nat.le_refl _) _
  have b3 : Below W2.heap.size W2 W3 := by rw [← hW3]; exact (Below.refl _ _).alloc (Nat.le_refl _) _
  have b4 : Below W3.heap.size W3 W4 := by rw [← hW4]; exact (Below.refl _ _).alloc (Nat.le_refl _) _
  have b5 : Below W4.heap.size W4 W5 := by rw [← hW5]; exact (Below.refl _ _).alloc (Nat.le_refl _) _
  have g0 : W5.heap[w.heap.size]? = some (.cells #[.int .i64 p, .slice (some ⟨w.heap.size + 1 + 1, 0, none⟩) 1 1, .slice (some ⟨w.heap.size + 1 + 1 + 1 + 1, 0, none⟩) 1 1] 24 (0, 0)) := by
    rw [b5.block _ (by omega), b4.block _ (by omega), b3.block _ (by omega), b2.block _ (by omega), ← hW1, heap_alloc_new]
  have g1 : W5.heap[w.heap.size + 1]? = some (.cells #[.int .i32 x] 21 (0, 0)) := by
    rw [b5.block _ (by omega), b4.block _ (by omega), b3.block _ (by omega), ← s1, ← hW2, heap_alloc_new]
  have g2 : W5.heap[w.heap.size + 2]? = some (.cells #[.slice (some ⟨w.heap.size + 1, 0, none⟩) 1 1] 52 (0, 0)) := by
    rw [b5.block _ (by omega), b4.block _ (by omega), ← s2, ← hW3, heap_alloc_new]
  have g3 : W5.heap[w.heap.size + 3]? = some (.cells #[.int .i32 y] 21 (0, 0)) := by
    rw [b5.block _ (by omega), ← s3, ← hW4, heap_alloc_new]
  have g4 : W5.heap[w.heap.size + 4]? = some (.cells #[.slice (some ⟨w.heap.size + 3, 0, none⟩) 1 1] 52 (0, 0)) := by
    rw [← s4, ← hW5, heap_alloc_new]
  have f1 := fresh_lits (lo := w.heap.size) (hi := W5.heap.size) [(w.heap.size + 1, x)] g2 (fun p hp => by simp at hp; subst hp; exact ⟨g1, by simp, by simp only; omega⟩) (by simp) (by omega) (by omega) (by simp)
  have f2 := fresh_lits (lo := w.heap.size) (hi := W5.heap.size) [(w.heap.size + 3, y)] g4 (fun p hp => by simp at hp; subst hp; exact ⟨g3, by simp, by simp only; omega⟩) (by simp) (by omega) (by omega) (by simp)
  have hb : Below w.heap.size w W5 := b1.trans ((b2.mono (by omega)).trans ((b3.mono (by omega)).trans ((b4.mono (by omega)).trans (b5.mono (by omega)))))
  have HF : Hid (CopP w (oneC p x y) (.returned (.agg #[.int .i64 p, .slice (some ⟨w.heap.size + 1 + 1, 0, none⟩) 1 1, .slice (some ⟨w.heap.size + 1 + 1 + 1 + 1, 0, none⟩) 1 1])) W5) := ⟨_, _, _, _, rfl, f1, f2, hb⟩
  have HW : Hid (((((w.alloc (.cells #[.int .i64 p, .slice (some ⟨w.heap.size + 1 + 1, 0, none⟩) 1 1, .slice (some ⟨w.heap.size + 1 + 1 + 1 + 1, 0, none⟩) 1 1] 24)).alloc (.cells #[.int .i32 x] 21)).alloc (.cells #[.slice (some ⟨w.heap.size + 1, 0, none⟩) 1 1] 52)).alloc (.cells #[.int .i32 y] 21)).alloc (.cells #[.slice (some ⟨w.heap.size + 1 + 1 + 1, 0, none⟩) 1 1] 52) = W5) := by rw [hW1, hW2, hW3, hW4, hW5]; rfl
  have c0 : W5.cell? ⟨w.heap.size, 0, none⟩ = some (.int .i64 p) := cell_row g0 0
  have c1 : W5.cell? ⟨w.heap.size, 1, none⟩ = some (.slice (some ⟨w.heap.size + 1 + 1, 0, none⟩) 1 1) := cell_row g0 1
  have c2 : W5.cell? ⟨w.heap.size, 2, none⟩ = some (.slice (some ⟨w.heap.size + 1 + 1 + 1 + 1, 0, none⟩) 1 1) := cell_row g0 2
  have l0 := heap_lt g0
  clear hW1 hW2 hW3 hW4 hW5 s1 s2 s3 s4 s5 b1 b2 b3 b4 b5 g0 g1 g2 g3 g4 f1 f2 hb
  go_enter Try.func38, Try.ntmps38
  go_wp2_with fail
  rw [HW.out]
  refine bodyPost_ret (v := .agg #[.int .i64 p, .slice (some ⟨w.heap.size + 1 + 1, 0, none⟩) 1 1, .slice (some ⟨w.heap.size + 1 + 1 + 1 + 1, 0, none⟩) 1 1]) ?_ rfl HF.out
  rw [results_cell1 rfl]
  go_simp
theorem one_ok (p x y : Int) (hp : i64b p) (hx : (Lit.int .i32 x).wf = true) (hy : (Lit.int .i32 y).wf = true) : OkC (oneC p x y) := by
  refine ⟨hp, fun r hr z hz => ?_, fun r hr z hz => ?_, ?_, ?_⟩
  · simp [oneC] at hr; subst hr; simp at hz; subst hz; exact hx
  · simp [oneC] at hr; subst hr; simp at hz; subst hz; exact hy
  · simp [oneC, sizeN, lens]
  · simp [oneC, sizeN, lens]
end Go.Proofs.Ytalhiedbhcklgaa.U
