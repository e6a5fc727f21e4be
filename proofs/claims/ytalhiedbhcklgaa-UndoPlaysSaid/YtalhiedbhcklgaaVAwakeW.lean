/-
  The walk of awake.
-/
import Derived.Test.YtalhiedbhcklgaaVAwake
import Derived.Deep.RegionHeld3
namespace Go.Proofs.Ytalhiedbhcklgaa.U
open Go.RowKit
set_option linter.unusedVariables false
set_option linter.unusedSimpArgs false
set_option maxRecDepth 100000

set_option maxHeartbeats 4000000 in
theorem awake_any (w : World) : Calls Try.prog 19 #[] w fun e w' => e = .returned (.bool true) ∧ Below w.heap.size w w' := by
  obtain ⟨W1, hW1⟩ : ∃ W1, w.alloc (.cells #[.int .i32 97] 21) = W1 := ⟨_, rfl⟩
  obtain ⟨W2, hW2⟩ : ∃ W2, W1.alloc (.cells #[.int .i32 98] 21) = W2 := ⟨_, rfl⟩
  obtain ⟨W3, hW3⟩ : ∃ W3, W2.alloc (.cells #[.slice (some ⟨w.heap.size, 0, none⟩) 1 1, .slice (some ⟨w.heap.size + 1, 0, none⟩) 1 1] 52) = W3 := ⟨_, rfl⟩
  obtain ⟨W4, hW4⟩ : ∃ W4, W3.alloc (.cells #[.int .i32 98] 21) = W4 := ⟨_, rfl⟩
  obtain ⟨W5, hW5⟩ : ∃ W5, W4.alloc (.cells #[.slice (some ⟨w.heap.size + 1 + 1 + 1, 0, none⟩) 1 1] 52) = W5 := ⟨_, rfl⟩
  obtain ⟨W6, hW6⟩ : ∃ W6, W5.alloc (.cells #[.int .i32 120] 21) = W6 := ⟨_, rfl⟩
  obtain ⟨W7, hW7⟩ : ∃ W7, W6.alloc (.cells #[.int .i32 121] 21) = W7 := ⟨_, rfl⟩
  obtain ⟨W8, hW8⟩ : ∃ W8, W7.alloc (.cells #[.slice (some ⟨w.heap.size + 1 + 1 + 1 + 1 + 1, 0, none⟩) 1 1, .slice (some ⟨w.heap.size + 1 + 1 + 1 + 1 + 1 + 1, 0, none⟩) 1 1] 52) = W8 := ⟨_, rfl⟩
  have s1 : W1.heap.size = w.heap.size + 1 := by rw [← hW1]; simp
  have s2 : W2.heap.size = w.heap.size + 2 := by rw [← hW2]; simp [s1]
  have s3 : W3.heap.size = w.heap.size + 3 := by rw [← hW3]; simp [s2]
  have s4 : W4.heap.size = w.heap.size + 4 := by rw [← hW4]; simp [s3]
  have s5 : W5.heap.size = w.heap.size + 5 := by rw [← hW5]; simp [s4]
  have s6 : W6.heap.size = w.heap.size + 6 := by rw [← hW6]; simp [s5]
  have s7 : W7.heap.size = w.heap.size + 7 := by rw [← hW7]; simp [s6]
  have s8 : W8.heap.size = w.heap.size + 8 := by rw [← hW8]; simp [s7]
  have b1 : Below w.heap.size w W1 := by rw [← hW1]; exact (Below.refl _ _).alloc (Nat.le_refl _) _
  have b2 : Below W1.heap.size W1 W2 := by rw [← hW2]; exact (Below.refl _ _).alloc (Nat.le_refl _) _
  have b3 : Below W2.heap.size W2 W3 := by rw [← hW3]; exact (Below.refl _ _).alloc (Nat.le_refl _) _
  have b4 : Below W3.heap.size W3 W4 := by rw [← hW4]; exact (Below.refl _ _).alloc (Nat.le_refl _) _
  have b5 : Below W4.heap.size W4 W5 := by rw [← hW5]; exact (Below.refl _ _).alloc (Nat.le_refl _) _
  have b6 : Below W5.heap.size W5 W6 := by rw [← hW6]; exact (Below.refl _ _).alloc (Nat.le_refl _) _
  have b7 : Below W6.heap.size W6 W7 := by rw [← hW7]; exact (Below.refl _ _).alloc (Nat.le_refl _) _
  have b8 : Below W7.heap.size W7 W8 := by rw [← hW8]; exact (Below.refl _ _).alloc (Nat.le_refl _) _
  have g0 : W8.heap[w.heap.size]? = some (.cells #[.int .i32 97] 21 (0, 0)) := by
    rw [b8.block _ (by omega), b7.block _ (by omega), b6.block _ (by omega), b5.block _ (by omega), b4.block _ (by omega), b3.block _ (by omega), b2.block _ (by omega), ← hW1, heap_alloc_new]
  have g1 : W8.heap[w.heap.size + 1]? = some (.cells #[.int .i32 98] 21 (0, 0)) := by
    rw [b8.block _ (by omega), b7.block _ (by omega), b6.block _ (by omega), b5.block _ (by omega), b4.block _ (by omega), b3.block _ (by omega), ← s1, ← hW2, heap_alloc_new]
  have g2 : W8.heap[w.heap.size + 2]? = some (.cells #[.slice (some ⟨w.heap.size, 0, none⟩) 1 1, .slice (some ⟨w.heap.size + 1, 0, none⟩) 1 1] 52 (0, 0)) := by
    rw [b8.block _ (by omega), b7.block _ (by omega), b6.block _ (by omega), b5.block _ (by omega), b4.block _ (by omega), ← s2, ← hW3, heap_alloc_new]
  have g3 : W8.heap[w.heap.size + 3]? = some (.cells #[.int .i32 98] 21 (0, 0)) := by
    rw [b8.block _ (by omega), b7.block _ (by omega), b6.block _ (by omega), b5.block _ (by omega), ← s3, ← hW4, heap_alloc_new]
  have g4 : W8.heap[w.heap.size + 4]? = some (.cells #[.slice (some ⟨w.heap.size + 3, 0, none⟩) 1 1] 52 (0, 0)) := by
    rw [b8.block _ (by omega), b7.block _ (by omega), b6.block _ (by omega), ← s4, ← hW5, heap_alloc_new]
  have g5 : W8.heap[w.heap.size + 5]? = some (.cells #[.int .i32 120] 21 (0, 0)) := by
    rw [b8.block _ (by omega), b7.block _ (by omega), ← s5, ← hW6, heap_alloc_new]
  have g6 : W8.heap[w.heap.size + 6]? = some (.cells #[.int .i32 121] 21 (0, 0)) := by
    rw [b8.block _ (by omega), ← s6, ← hW7, heap_alloc_new]
  have g7 : W8.heap[w.heap.size + 7]? = some (.cells #[.slice (some ⟨w.heap.size + 5, 0, none⟩) 1 1, .slice (some ⟨w.heap.size + 6, 0, none⟩) 1 1] 52 (0, 0)) := by
    rw [← s7, ← hW8, heap_alloc_new]
  have f1 := fresh_lits (lo := w.heap.size) (hi := W8.heap.size) [(w.heap.size, 97), (w.heap.size + 1, 98)] g2 (fun p hp => by
    simp only [List.mem_cons, List.not_mem_nil, or_false] at hp
    rcases hp with rfl | rfl
    · exact ⟨g0, by simp, by simp only; omega⟩
    · exact ⟨g1, by simp, by simp only; omega⟩) (by simp) (by omega) (by omega) (by simp)
  have f2 := fresh_lits (lo := w.heap.size) (hi := W8.heap.size) [(w.heap.size + 3, 98)] g4 (fun p hp => by
    simp only [List.mem_cons, List.not_mem_nil, or_false] at hp
    subst hp
    exact ⟨g3, by simp, by simp only; omega⟩) (by simp) (by omega) (by omega) (by simp)
  have f3 := fresh_lits (lo := w.heap.size) (hi := W8.heap.size) [(w.heap.size + 5, 120), (w.heap.size + 6, 121)] g7 (fun p hp => by
    simp only [List.mem_cons, List.not_mem_nil, or_false] at hp
    rcases hp with rfl | rfl
    · exact ⟨g5, by simp, by simp only; omega⟩
    · exact ⟨g6, by simp, by simp only; omega⟩) (by simp) (by omega) (by omega) (by simp)
  have r1 := FreshL.rdl2 (L := [[97], [98]]) f1.freshL (by intro x hx y hy; simp only [List.mem_cons, List.not_mem_nil, or_false] at hx; rcases hx with rfl | rfl <;> (simp only [List.mem_singleton] at hy; subst hy; rfl))
  have r2 := FreshL.rdl2 (L := [[98]]) f2.freshL (by intro x hx y hy; simp only [List.mem_cons, List.not_mem_nil, or_false] at hx; subst hx; simp only [List.mem_singleton] at hy; subst hy; rfl)
  have r3 := FreshL.rdl2 (L := [[120], [121]]) f3.freshL (by intro x hx y hy; simp only [List.mem_cons, List.not_mem_nil, or_false] at hx; rcases hx with rfl | rfl <;> (simp only [List.mem_singleton] at hy; subst hy; rfl))
  have hb08 : Below w.heap.size w W8 := b1.trans ((b2.mono (by omega)).trans ((b3.mono (by omega)).trans ((b4.mono (by omega)).trans ((b5.mono (by omega)).trans ((b6.mono (by omega)).trans ((b7.mono (by omega)).trans (b8.mono (by omega))))))))
  have HDO := Lib.hid (do_any _ _ _ _ _ _ _ _ _ [[97], [98]] ⟨1, [[98]], [[120], [121]]⟩ W8 r1 r2 (r3.mono (fun _ h => h)) (by unfold i64b; simp only; omega) (by simp [sizeN, lens]))
  rw [dA] at HDO
  have HW : Hid ((((((((w.alloc (.cells #[.int .i32 97] 21)).alloc (.cells #[.int .i32 98] 21)).alloc (.cells #[.slice (some ⟨w.heap.size, 0, none⟩) 1 1, .slice (some ⟨w.heap.size + 1, 0, none⟩) 1 1] 52)).alloc (.cells #[.int .i32 98] 21)).alloc (.cells #[.slice (some ⟨w.heap.size + 1 + 1 + 1, 0, none⟩) 1 1] 52)).alloc (.cells #[.int .i32 120] 21)).alloc (.cells #[.int .i32 121] 21)).alloc (.cells #[.slice (some ⟨w.heap.size + 1 + 1 + 1 + 1 + 1, 0, none⟩) 1 1, .slice (some ⟨w.heap.size + 1 + 1 + 1 + 1 + 1 + 1, 0, none⟩) 1 1] 52) = W8) := by rw [hW1, hW2, hW3, hW4, hW5, hW6, hW7, hW8]; rfl
  have HB08 := Lib.hid hb08
  clear hW1 hW2 hW3 hW4 hW5 hW6 hW7 hW8 s1 s2 s3 s4 s5 s6 s7 b1 b2 b3 b4 b5 b6 b7 b8 g0 g1 g2 g3 g4 g5 g6 g7 f1 f2 f3 r1 r2 r3 hb08
  go_enter Try.func19, Try.ntmps19
  go_wp2_with fail
  rw [HW.out]
  refine HDO.out.mono ?_
  rintro e w1 ⟨la, lc, rfl, -, hb1⟩
  have B1 : Hid (Below w.heap.size w w1) := HB08.out.trans (hb1.mono (by omega))
  clear hb1 HW HDO s8 HB08
  go_wp2_with fail
  refine (new_any w1).mono ?_
  rintro e w2 ⟨rfl, P0, F0, hT0, hf0, hP0⟩
  have s1 := B1.out.size
  have HB2 : Hid (Below w.heap.size w w2) := B1.out.trans (hf0.below0.mono s1)
  have HP2 : Hid (∀ k, P0 k → w.heap.size ≤ k) := fun k hk => by rcases hP0 k hk with h | h; exact h.elim; omega
  have HT2 := Lib.hid hT0
  obtain ⟨bt, hbt⟩ : ∃ bt, w1.heap.size + 1 = bt := ⟨_, rfl⟩
  rw [hbt] at HT2 ⊢
  clear hT0 hf0 hP0 hbt s1
  go_wp2_with fail
  refine (one_any 0 97 98 w2).mono ?_
  intro e w3 hc
  obtain ⟨oa, oc, na, nc, rfl, hadd⟩ := step_add HT2.out HB2.out HP2.out okA1 (by simp [Tr.zero]) hc
  rw [tA1] at hadd
  have HADD := Lib.hid hadd
  clear hadd hc
  go_wp2_with fail
  refine HADD.out.mono ?_
  rintro e w4 ⟨rfl, P4, F4, HT4, HB4, HP4, -, -⟩
  clear HADD HT2 HB2 HP2 B1
  go_wp2_with fail
  refine (one_any 0 98 99 w4).mono ?_
  intro e w5 hc
  obtain ⟨oa, oc, na, nc, rfl, hadd⟩ := step_add HT4.out HB4.out HP4.out okA2 (by simp) hc
  rw [← tA1, tA2] at hadd
  have HADD := Lib.hid hadd
  clear hadd hc
  go_wp2_with fail
  refine HADD.out.mono ?_
  rintro e w6 ⟨rfl, P6, F6, HT6, HB6, HP6, -, -⟩
  clear HADD HT4 HB4 HP4
  have HU := Lib.hid (undo_any HT6.out)
  rw [tA3] at HU
  go_wp2_with fail
  refine HU.out.mono ?_
  intro e w7 hm
  obtain ⟨a7, k7, P7, F7, B7, rfl, hfr7, hB7, hT7, hPB7, hf7, hP7⟩ : MovP P6 w6 bt ⟨[(0, [c1A]), (1, [c2A])], 1, false, []⟩ [oneC 0 99 98] e w7 := hm
  have s6 := HB6.out.size
  have s67 := hf7.size
  have HT7 := Lib.hid hT7
  have HB7 : Hid (Below w.heap.size w w7) := HB6.out.trans (hf7.below s6 HP6.out)
  have HP7 : Hid (∀ k, P7 k → w.heap.size ≤ k) := fun k hk => by rcases hP7 k hk with h | h; exact HP6.out k h; omega
  have HR7 := Lib.hid (hfr7.rd (fun x hx => by simp only [List.mem_singleton] at hx; subst hx; exact one_ok _ _ _ (by unfold i64b; omega) rfl rfl))
  have HPB7 := Lib.hid hPB7
  clear HU hfr7 hT7 hf7 hP7 HT6 HB6 HP6 s6 s67 hB7 hPB7
  go_wp2_with fail
  refine (one_any 0 98 100 w7).mono ?_
  intro e w8 hc
  obtain ⟨oa, oc, na, nc, rfl, hadd⟩ := step_add HT7.out HB7.out HP7.out okA3 (by simp) hc
  rw [tA4] at hadd
  have HADD := Lib.hid hadd
  clear hadd hc
  go_wp2_with fail
  refine HADD.out.mono ?_
  rintro e w9 ⟨rfl, P9, F9, HT9, HB9, HP9, HF9, HG9⟩
  clear HADD
  have HR9 : Hid (RdCs (fun k => B7 ≤ k ∧ k < w7.heap.size) w9 a7 1 k7 [oneC 0 99 98]) := HR7.out.frF HF9.out (fun k hk hp => by have := HPB7.out k hp; omega)
  have HQ9 : Hid (∀ k, P9 k → k < B7 ∨ w7.heap.size ≤ k) := fun k hk => by
    rcases HG9.out k hk with h | h
    · exact .inl (HPB7.out k h)
    · exact .inr h
  clear HR7 HPB7 HF9 HG9 HT7 HB7 HP7
  have HTO := Lib.hid (to_any HT9.out 2)
  rw [tA5] at HTO
  go_wp2_with fail
  refine HTO.out.mono ?_
  intro e wA hm
  obtain ⟨aA, kA, PA, FA, BA, rfl, hfrA, hBA, hTA, hPBA, hfA, hPA⟩ : MovP P9 w9 bt ⟨[(0, [c1A]), (1, [c2A]), (1, [c3A])], 2, false, []⟩ [oneC 0 100 98, oneC 0 98 99] e wA := hm
  have HTA := Lib.hid hTA
  have hs9 := HB9.out.size
  have HBA : Hid (Below w.heap.size w wA) := HB9.out.trans (hfA.below hs9 HP9.out)
  have HRA := Lib.hid (hfrA.rd (fun x hx => by
    simp only [List.mem_cons, List.not_mem_nil, or_false] at hx
    rcases hx with rfl | rfl <;> exact one_ok _ _ _ (by unfold i64b; omega) rfl rfl))
  have HR1 : Hid (RdCs (fun k => B7 ≤ k ∧ k < w7.heap.size) wA a7 1 k7 [oneC 0 99 98]) := HR9.out.frF hfA (fun k hk hp => by rcases HQ9.out k hp with h | h <;> omega)
  clear HTO hfrA hBA hTA hPBA hfA hPA hs9 HT9 HB9 HP9 HR9 HQ9
  go_wp2_with fail
  refine (one_any 0 99 98 wA).mono ?_
  intro e wB hc
  obtain ⟨oa1, oc1, na1, nc1, rfl, h1, h2, hbB⟩ := cop_rd (oa := none) (one_ok 0 99 98 (by unfold i64b; omega) rfl rfl) hc
  obtain ⟨wC, hwC⟩ : ∃ wC, wB.alloc (.cells #[.int .i64 (oneC 0 99 98).pos, .slice oa1 (oneC 0 99 98).old.length oc1, .slice na1 (oneC 0 99 98).now.length nc1] 24) = wC := ⟨_, rfl⟩
  have hbC : Below wB.heap.size wB wC := by rw [← hwC]; exact (Below.refl _ _).alloc (Nat.le_refl _) _
  have hbAC : Below wA.heap.size wA wC := hbB.trans (hbC.mono hbB.size)
  have hgC : wC.heap[wB.heap.size]? = some (.cells #[.int .i64 0, .slice oa1 1 oc1, .slice na1 1 nc1] 24 (0, 0)) := by rw [← hwC]; exact heap_alloc_new wB _
  have hrC := rdcs_lit (F := fun k => wA.heap.size ≤ k ∧ k < wB.heap.size) [(.int .i64 0, .slice oa1 1 oc1, .slice na1 1 nc1)] [oneC 0 99 98] hgC rfl (fun i u x e1 e2 => by
    cases i with
    | zero =>
      simp at e1 e2
      subst e1 e2
      exact ⟨oa1, oc1, na1, nc1, rfl, h1.below hbC, h2.below hbC⟩
    | succ i => simp at e1) (by simp)
  have HL1 := Lib.hid (rlist_any _ _ _ _ _ _ _ _ _ _ wC (HR1.out.below hbAC) hrC)
  have HWC := Lib.hid hwC
  have HBC := Lib.hid hbAC
  clear hc h1 h2 hbB hwC hbC hbAC hgC hrC
  go_wp2_with fail
  rw [HWC.out]
  refine HL1.out.mono ?_
  rintro e wD ⟨he, hbD⟩
  obtain rfl : e = .returned (.bool true) := by rw [he]; simp
  have HBD : Hid (Below wA.heap.size wA wD) := HBC.out.trans (hbD.mono HBC.out.size)
  clear he hbD HL1 HWC HBC HR1
  go_wp2_with fail
  refine (one_any 0 100 98 wD).mono ?_
  intro e wE hc
  obtain ⟨oa1, oc1, na1, nc1, rfl, h1, h2, hbE⟩ := cop_rd (oa := none) (one_ok 0 100 98 (by unfold i64b; omega) rfl rfl) hc
  have H1 := Lib.hid h1
  have H2 := Lib.hid h2
  have HBE := Lib.hid hbE
  clear hc h1 h2 hbE
  go_wp2_with fail
  refine (one_any 0 98 99 wE).mono ?_
  intro e wF hc
  obtain ⟨oa2, oc2, na2, nc2, rfl, h3, h4, hbF⟩ := cop_rd (oa := none) (one_ok 0 98 99 (by unfold i64b; omega) rfl rfl) hc
  obtain ⟨wG, hwG⟩ : ∃ wG, wF.alloc (.cells #[.int .i64 (oneC 0 100 98).pos, .slice oa1 (oneC 0 100 98).old.length oc1, .slice na1 (oneC 0 100 98).now.length nc1, .int .i64 (oneC 0 98 99).pos, .slice oa2 (oneC 0 98 99).old.length oc2, .slice na2 (oneC 0 98 99).now.length nc2] 24) = wG := ⟨_, rfl⟩
  have hbG : Below wF.heap.size wF wG := by rw [← hwG]; exact (Below.refl _ _).alloc (Nat.le_refl _) _
  have hbFG : Below wE.heap.size wE wG := hbF.trans (hbG.mono hbF.size)
  have hbDE := HBE.out
  have hbAG : Below wA.heap.size wA wG := HBD.out.trans ((hbDE.trans (hbFG.mono hbDE.size)).mono HBD.out.size)
  have hgG : wG.heap[wF.heap.size]? = some (.cells #[.int .i64 0, .slice oa1 1 oc1, .slice na1 1 nc1, .int .i64 0, .slice oa2 1 oc2, .slice na2 1 nc2] 24 (0, 0)) := by rw [← hwG]; exact heap_alloc_new wF _
  have hrG := rdcs_lit (F := fun k => (wD.heap.size ≤ k ∧ k < wE.heap.size) ∨ (wE.heap.size ≤ k ∧ k < wF.heap.size)) [(.int .i64 0, .slice oa1 1 oc1, .slice na1 1 nc1), (.int .i64 0, .slice oa2 1 oc2, .slice na2 1 nc2)] [oneC 0 100 98, oneC 0 98 99] hgG rfl (fun i u x e1 e2 => by
    match i, e1, e2 with
    | 0, e1, e2 =>
      simp at e1 e2
      subst e1 e2
      exact ⟨oa1, oc1, na1, nc1, rfl, (H1.out.below hbFG).mono (fun k hk => .inl hk), (H2.out.below hbFG).mono (fun k hk => .inl hk)⟩
    | 1, e1, e2 =>
      simp at e1 e2
      subst e1 e2
      exact ⟨oa2, oc2, na2, nc2, rfl, (h3.below hbG).mono (fun k hk => .inr hk), (h4.below hbG).mono (fun k hk => .inr hk)⟩
    | i + 2, e1, e2 => simp at e1) (by simp)
  have HL2 := Lib.hid (rlist_any _ _ _ _ _ _ _ _ _ _ wG (HRA.out.below hbAG) hrG)
  have HWG := Lib.hid hwG
  have HBG := Lib.hid hbAG
  clear hc h3 h4 hbF hwG hbG hbFG hbDE hbAG hgG hrG H1 H2 HBE HBD
  go_wp2_with fail
  rw [HWG.out]
  refine HL2.out.mono ?_
  rintro e wH ⟨he, hbH⟩
  obtain rfl : e = .returned (.bool true) := by rw [he]; simp
  have hbAH : Below wA.heap.size wA wH := HBG.out.trans (hbH.mono HBG.out.size)
  have HLEN := Lib.hid (lenT_any (HTA.out.below hbAH))
  have HAT := Lib.hid (at_any (HTA.out.below hbAH))
  have HEND : Hid (Below w.heap.size w wH) := HBA.out.trans (hbAH.mono HBA.out.size)
  clear he hbH hbAH HL2 HWG HBG HRA HTA HBA
  go_wp2_with fail
  refine HLEN.out.mono ?_
  rintro e wI ⟨rfl, rfl⟩
  go_wp2_with fail
  refine HAT.out.mono ?_
  rintro e wJ ⟨rfl, rfl⟩
  go_wp2_with fail
  go_ret
  exact ⟨rfl, HEND.out⟩
end Go.Proofs.Ytalhiedbhcklgaa.U
