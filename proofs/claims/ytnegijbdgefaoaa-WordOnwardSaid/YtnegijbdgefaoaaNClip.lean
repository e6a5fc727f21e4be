/-
  The document's Clip.
-/
import Derived.Test.YtnegijbdgefaoaaNLeaf
import Derived.Test.YtnegijbdgefaoaaNMem
namespace Go.Proofs.Ytnegijbdgefaoaa.U
open Go.RowKit
set_option linter.unusedVariables false
set_option linter.unusedSimpArgs false
set_option maxRecDepth 100000

theorem rclip_any (F : Nat → Prop) (a : Option Addr) (n c : Nat) (L : List (List Int)) (q : Po) (w : World) (h : RdL F w a n c L) (hq : i64p q) :
    Calls Try.prog 9 #[.slice a n c, q.v] w fun e w' => e = .returned (plV (clipP L q.l q.c)) ∧ Below w.heap.size w w' := by
  obtain ⟨u, v⟩ := q
  show Calls Try.prog 9 #[.slice a n c, .agg #[.int .i64 u, .int .i64 v]] w fun e w' => e = .returned (plV (clipP L u v)) ∧ Below w.heap.size w w'
  obtain ⟨⟨hu1, hu2⟩, hv1, hv2⟩ := hq
  simp only at hu1 hu2 hv1 hv2
  have hl := h.len
  have hsm := h.small
  by_cases h0 : n = 0
  · subst h0
    have hL : L = [] := List.eq_nil_of_length_eq_zero hl
    have hr : clipP L u v = (0, 0) := by rw [hL]; rfl
    rw [hr]
    clear h hl hL hr
    go_enter Try.func9, Try.ntmps9
    go_wp2
    refine bodyPost_ret (v := plV (0, 0)) ?_ rfl ⟨rfl, ?_⟩
    · rw [results_cell1 rfl]
      go_simp
      rfl
    · (repeat' (refine setCell_below ?_ _ _ _ ?_)) <;> first | exact ((Below.refl _ w).alloc (Nat.le_refl _) _).alloc (by simp) _ | omega
  · have hne : ((n : Int) == 0) = false := by simp; omega
    have hne2 : ¬ n = 0 := h0
    have hL : L ≠ [] := by rintro rfl; simp at hl; omega
    obtain ⟨k, hk⟩ : ∃ k, clipN n u = k := ⟨_, rfl⟩
    have hkn : k < n := by rw [← hk]; exact clipN_lt u (by omega)
    obtain ⟨x, hx⟩ : ∃ x, L[k]? = some x := ⟨L[k]'(by omega), List.getElem?_eq_getElem _⟩
    obtain ⟨b, off, ra, rc, rfl, hbl, hF, e0, hrd, -, -⟩ := h.get (Below.refl _ w) hx
    have hxs := hrd.small
    obtain ⟨m, hm⟩ : ∃ m, x.length = m := ⟨_, rfl⟩
    rw [hm] at e0 hxs
    have hr : clipP L u v = (k, clipN m v) := by
      unfold clipP
      rw [if_neg hL, hl, hk, ← hm]
      simp [lnL, List.getD_eq_getElem?_getD, hx]
    rw [hr]
    obtain ⟨j, hj⟩ : ∃ j, clipN m v = j := ⟨_, rfl⟩
    rw [hj]
    clear h hl hL hr hrd hx hm h0
    obtain ⟨w1, hw1⟩ : ∃ w1, (w.alloc (.cells #[.int .i64 u, .int .i64 v] 24)).alloc (.cells #[.int .i64 0, .int .i64 0] 24) = w1 := ⟨_, rfl⟩
    have hb1 : Below w.heap.size w w1 := by rw [← hw1]; exact ((Below.refl _ w).alloc (Nat.le_refl _) _).alloc (by simp) _
    have g1 : w1.heap[w.heap.size]? = some (.cells #[.int .i64 u, .int .i64 v] 24 (0, 0)) := by
      rw [← hw1, ((Below.refl _ (w.alloc _)).alloc (Nat.le_refl _) _).block _ (by simp)]
      exact heap_alloc_new w _
    have g2 : w1.heap[w.heap.size + 1]? = some (.cells #[.int .i64 0, .int .i64 0] 24 (0, 0)) := by
      rw [← hw1]
      have := heap_alloc_new (w.alloc (.cells #[.int .i64 u, .int .i64 v] 24)) (.cells #[.int .i64 0, .int .i64 0] 24)
      simpa using this
    have e1 := (hb1.cell (p := ⟨b, off + k, none⟩) hbl).trans e0
    obtain ⟨a0, a1, z0, z1⟩ := row2 g1
    obtain ⟨a2, a3, z2, z3⟩ := row2 g2
    have HW1 := Lib.hid hw1
    have G1 := Lib.hid g1
    have G2 := Lib.hid g2
    have HB1 := Lib.hid hb1
    have nb : ¬ b = w.heap.size := by omega
    have nb2 : ¬ b = w.heap.size + 1 := by omega
    have hcu : (max 0 (min u ((n : Int) - 1)) = (k : Int)) := by rw [← hk]; unfold clipN; omega
    have hcv : (max 0 (min v ((m : Int) - 1)) = (j : Int)) := by rw [← hj]; unfold clipN; omega
    clear g1 g2 hw1 hb1 e0 hk hj
    go_enter Try.func9, Try.ntmps9
    go_upto_region 1 with fail
    rw [HW1.out]
    go_upto_region 4 with fail
    obtain ⟨w2, hw2⟩ : ∃ w2, w1.setCell ⟨w.heap.size, 0, none⟩ (.int .i64 (k : Int)) = w2 := ⟨_, rfl⟩
    rw [hw2]
    have hb2 : Below w.heap.size w w2 := by rw [← hw2]; exact setCell_below HB1.out _ _ _ (Nat.le_refl _)
    have q0 : w2.heap[w.heap.size]? = some (.cells #[.int .i64 (k : Int), .int .i64 v] 24 (0, 0)) := by rw [← hw2]; exact heap_set G1.out 0 _
    have q1 : w2.heap[w.heap.size + 1]? = some (.cells #[.int .i64 0, .int .i64 0] 24 (0, 0)) := by rw [← hw2, Below.heap_setCell _ _ _ _ (by show ¬ _ = _; simp)]; exact G2.out
    have q2 : w2.cell? ⟨b, off + k, none⟩ = some (.slice ra m rc) := by rw [World.cell?_of_block (a := ⟨b, off + k, none⟩) (w := w1) (by rw [← hw2]; exact Below.heap_setCell _ _ _ _ (by show ¬ _ = _; exact nb))]; exact e1
    obtain ⟨b0, b1, y0, y1⟩ := row2 q0
    obtain ⟨b2, b3, y2, y3⟩ := row2 q1
    have HB2 := Lib.hid hb2
    clear q0 q1 hb2 hw2 a0 a1 a2 a3 z0 z1 z2 z3 e1 G1 G2 HW1 HB1 hcu
    go_region
    all_goals
      go_wp2
      refine bodyPost_ret (v := plV (k, j)) ?_ rfl ⟨rfl, ?_⟩
      · rw [results_cell1 rfl]
        go_simp
        rfl
      · have h2 := HB2.out
        (repeat' (first | exact h2 | omega | refine setCell_below ?_ _ _ _ ?_ | refine Below.drew ?_ | refine bdrewN ?_ _))
end Go.Proofs.Ytnegijbdgefaoaa.U
