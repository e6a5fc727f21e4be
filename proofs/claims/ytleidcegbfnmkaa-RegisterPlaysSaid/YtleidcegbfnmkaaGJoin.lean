/-
  The document's joined.
-/
import Derived.Test.YtleidcegbfnmkaaGExt
namespace Go.Proofs.Ytleidcegbfnmkaa.U
open Go.RowKit
set_option linter.unusedVariables false
set_option linter.unusedSimpArgs false
set_option maxRecDepth 100000

/-- two boxes with registers in them at b, a third one behind them -/
structure Nin (b : Nat) (v0 v1 u0 u1 : Value) (W : World) : Prop where
  c0 : W.cell? ⟨b, 0, none⟩ = some v0
  c1 : W.cell? ⟨b, 1, none⟩ = some v1
  d0 : W.cell? ⟨b + 1, 0, none⟩ = some u0
  d1 : W.cell? ⟨b + 1, 1, none⟩ = some u1
  f0 : W.cell? ⟨b + 2, 0, none⟩ = some (.int .i64 0)
  f1 : W.cell? ⟨b + 2, 1, none⟩ = some (.slice none 0 0)
  z0 : W.frozen? ⟨b + 2, 0, none⟩ = false
  z1 : W.frozen? ⟨b + 2, 1, none⟩ = false
  l0 : b < W.heap.size
  l1 : b + 1 < W.heap.size
  l2 : b + 2 < W.heap.size
theorem nin_new (w : World) (v0 v1 u0 u1 : Value) : ∀ W, Below (w.heap.size + 3) (((w.alloc (.cells #[v0, v1] 31)).alloc (.cells #[u0, u1] 31)).alloc (.cells #[.int .i64 0, .slice none 0 0] 31)) W → Nin w.heap.size v0 v1 u0 u1 W := by
  intro W hW
  obtain ⟨w2, hw2⟩ : ∃ w2, (w.alloc (.cells #[v0, v1] 31)).alloc (.cells #[u0, u1] 31) = w2 := ⟨_, rfl⟩
  have hsz : w2.heap.size = w.heap.size + 2 := by rw [← hw2]; simp
  rw [hw2] at hW
  have q1 : w2.heap[w.heap.size]? = some (.cells #[v0, v1] 31 (0, 0)) := by
    rw [← hw2, Below.heap_alloc _ _ _ (by simp), heap_alloc_new]
  have q2 : w2.heap[w.heap.size + 1]? = some (.cells #[u0, u1] 31 (0, 0)) := by
    have := heap_alloc_new (w.alloc (.cells #[v0, v1] 31)) (.cells #[u0, u1] 31)
    rw [hw2] at this
    simpa using this
  have q3 := heap_alloc_new w2 (.cells #[.int .i64 0, .slice none 0 0] 31)
  rw [hsz] at q3
  have h1 := (hW.block w.heap.size (by omega)).trans ((Below.heap_alloc _ _ _ (by omega)).trans q1)
  have h2 := (hW.block (w.heap.size + 1) (by omega)).trans ((Below.heap_alloc _ _ _ (by omega)).trans q2)
  have h3 := (hW.block (w.heap.size + 2) (by omega)).trans q3
  exact ⟨cell_row h1 0, cell_row h1 1, cell_row h2 0, cell_row h2 1, cell_row h3 0, cell_row h3 1, frozen_row h3 0, frozen_row h3 1, heap_lt h1, heap_lt h2, heap_lt h3⟩
/-- both copies, one behind the other: L's first -/
theorem both1 {wb w1 w2 : World} {a1 a2 : Option Addr} {n1 n2 c1 c2 : Nat} {L M : List (List Int)} (p1 : FreshL wb.heap.size w1 a1 n1 c1 L ∧ Below wb.heap.size wb w1) (p2 : FreshL w1.heap.size w2 a2 n2 c2 M ∧ Below w1.heap.size w1 w2) (hL : ∀ x ∈ L, ∀ y ∈ x, (Lit.int .i32 y).wf = true) (hM : ∀ x ∈ M, ∀ y ∈ x, (Lit.int .i32 y).wf = true) (hn : n1 + n2 ≤ 1099511627776) :
    ∃ a' c' w', (∀ ty, (Builtin.append_ #[29, 29] ty #[.slice a1 n1 c1, .slice a2 n2 c2]).run Try.prog w2 = .ok (.slice a' (n1 + n2) c') w') ∧ RdL (fun x => wb.heap.size ≤ x) w' a' (n1 + n2) c' (L ++ M) ∧ Below wb.heap.size wb w' := by
  have hs1 := p1.2.size
  have hlo : ∀ x, (Value.slice a1 n1 c1).ownBlock = some x → x < w1.heap.size := by
    obtain ⟨vs, h1, _⟩ := p1.1
    exact fun x e => (h1.lt x e).2
  obtain ⟨a', c', w', h1, h2, h3⟩ := app_rows w2 wb.heap.size a1 n1 c1 L a2 n2 c2 M (fun x => w1.heap.size ≤ x) (p1.1.below p2.2) hL (p2.1.rdl hM) (fun x e h => by have := hlo x e; omega) (fun x h => by omega) (by have := p2.2.size; omega) hn
  exact ⟨a', c', w', h1, h2, (p1.2.trans (p2.2.mono hs1)).trans h3⟩
/-- .. M's first -/
theorem both2 {wb w1 w2 : World} {a1 a2 : Option Addr} {n1 n2 c1 c2 : Nat} {L M : List (List Int)} (p2 : FreshL wb.heap.size w2 a2 n2 c2 M ∧ Below wb.heap.size wb w2) (p1 : FreshL w2.heap.size w1 a1 n1 c1 L ∧ Below w2.heap.size w2 w1) (hL : ∀ x ∈ L, ∀ y ∈ x, (Lit.int .i32 y).wf = true) (hM : ∀ x ∈ M, ∀ y ∈ x, (Lit.int .i32 y).wf = true) (hn : n1 + n2 ≤ 1099511627776) :
    ∃ a' c' w', (∀ ty, (Builtin.append_ #[29, 29] ty #[.slice a1 n1 c1, .slice a2 n2 c2]).run Try.prog w1 = .ok (.slice a' (n1 + n2) c') w') ∧ RdL (fun x => wb.heap.size ≤ x) w' a' (n1 + n2) c' (L ++ M) ∧ Below wb.heap.size wb w' := by
  have hs1 := p2.2.size
  have hlo : ∀ x, (Value.slice a1 n1 c1).ownBlock = some x → w2.heap.size ≤ x := by
    obtain ⟨vs, h1, _⟩ := p1.1
    exact fun x e => (h1.lt x e).1
  obtain ⟨a', c', w', h1, h2, h3⟩ := app_rows w1 wb.heap.size a1 n1 c1 L a2 n2 c2 M (fun x => wb.heap.size ≤ x ∧ x < w2.heap.size) (p1.1.mono hs1) hL (((p2.1.rdl hM).boundG).below p1.2) (fun x e h => by have := hlo x e; omega) (fun x h => h.1) (by have := p1.2.size; omega) hn
  exact ⟨a', c', w', h1, h2, (p2.2.trans (p1.2.mono hs1)).trans h3⟩
/-- the end: what is told was laid into the third box -/
theorem join_end {w wb W : World} {k : Int} {a : Option Addr} {n c : Nat} {L : List (List Int)} (hb : Below w.heap.size w wb) (hs : wb.heap.size = w.heap.size + 3) (h : RdL (fun x => wb.heap.size ≤ x) W a n c L) (hW : Below wb.heap.size wb W) (v0 v1 : Value) :
    RdL (fun x => w.heap.size ≤ x) ((W.setCell ⟨w.heap.size + 2, 0, none⟩ v0).setCell ⟨w.heap.size + 2, 1, none⟩ v1) a n c L ∧ Below w.heap.size w ((W.setCell ⟨w.heap.size + 2, 0, none⟩ v0).setCell ⟨w.heap.size + 2, 1, none⟩ v1) := by
  have hf : Fr (fun k => k = w.heap.size + 2) W ((W.setCell ⟨w.heap.size + 2, 0, none⟩ v0).setCell ⟨w.heap.size + 2, 1, none⟩ v1) := ((Fr.refl (fun k => k = w.heap.size + 2) W).setCell ⟨w.heap.size + 2, 0, none⟩ _ (fun _ => rfl)).setCell ⟨w.heap.size + 2, 1, none⟩ _ (fun _ => rfl)
  refine ⟨(h.frF hf (fun k h1 h2 => by omega)).mono (fun k hk => by omega), ?_⟩
  refine Below.setCell (Below.setCell (hb.trans (hW.mono (by omega))) ?_ _) ?_ _ <;> simp
set_option maxHeartbeats 4000000 in
theorem rjoinA_any (F G : Nat → Prop) (k1 k2 : Int) (a1 a2 : Option Addr) (n1 n2 c1 c2 : Nat) (L M : List (List Int)) (w : World) (h1 : RdL F w a1 n1 c1 L) (h2 : RdL G w a2 n2 c2 M) (s1 : sizeR L ≤ 65536) (s2 : sizeR M ≤ 65536) (hk : ¬ (k1 = 0 ∧ k2 = 0)) :
    Calls Try.prog 37 #[rgV k1 a1 n1 c1, rgV k2 a2 n2 c2] w fun e w' => ∃ a c, e = .returned (rgV 1 a (n1 + n2) c) ∧ RdL (fun x => w.heap.size ≤ x) w' a (n1 + n2) c (L ++ M) ∧ Below w.heap.size w w' := by
  unfold rgV
  have hn1 : n1 ≤ 65536 := by have := h1.len; have := size_count L; unfold sizeR at s1; omega
  have hn2 : n2 ≤ 65536 := by have := h2.len; have := size_count M; unfold sizeR at s2; omega
  have hw1 := lines_wfG h1
  have hw2 := lines_wfG h2
  obtain ⟨wb, hwb⟩ : ∃ wb, ((w.alloc (.cells #[.int .i64 k1, .slice a1 n1 c1] 31)).alloc (.cells #[.int .i64 k2, .slice a2 n2 c2] 31)).alloc (.cells #[.int .i64 0, .slice none 0 0] 31) = wb := ⟨_, rfl⟩
  have hnin := nin_new w (.int .i64 k1) (.slice a1 n1 c1) (.int .i64 k2) (.slice a2 n2 c2)
  rw [hwb] at hnin
  have hsz : wb.heap.size = w.heap.size + 3 := by rw [← hwb]; simp
  have hB : Below w.heap.size w wb := by rw [← hwb]; exact (((Below.refl _ _).alloc (Nat.le_refl _) _).alloc (by simp) _).alloc (by simp; omega) _
  rw [← hsz] at hnin
  have HA : Hid (∀ W, Hid (Below wb.heap.size wb W) → Calls Try.prog 28 #[.slice a1 n1 c1] W fun e w' => ∃ a' c', e = .returned (.slice a' n1 c') ∧ Nin w.heap.size (.int .i64 k1) (.slice a1 n1 c1) (.int .i64 k2) (.slice a2 n2 c2) w' ∧ Hid (FreshL wb.heap.size w' a' n1 c' L ∧ Below wb.heap.size wb w')) := by
    intro W hW
    refine (rtwin_any F a1 n1 c1 L W (h1.below (hB.trans (hW.out.mono (by omega)))) (by unfold sizeR at s1; omega)).mono ?_
    rintro e w' ⟨a', c', rfl, hf, hb⟩
    have hb2 := hW.out.trans (hb.mono hW.out.size)
    exact ⟨a', c', rfl, hnin w' hb2, hf.mono hW.out.size, hb2⟩
  have HM : Hid (∀ W, Hid (Below wb.heap.size wb W) → Calls Try.prog 28 #[.slice a2 n2 c2] W fun e w' => ∃ a' c', e = .returned (.slice a' n2 c') ∧ Nin w.heap.size (.int .i64 k1) (.slice a1 n1 c1) (.int .i64 k2) (.slice a2 n2 c2) w' ∧ Hid (FreshL wb.heap.size w' a' n2 c' M ∧ Below wb.heap.size wb w')) := by
    intro W hW
    refine (rtwin_any G a2 n2 c2 M W (h2.below (hB.trans (hW.out.mono (by omega)))) (by unfold sizeR at s2; omega)).mono ?_
    rintro e w' ⟨a', c', rfl, hf, hb⟩
    have hb2 := hW.out.trans (hb.mono hW.out.size)
    exact ⟨a', c', rfl, hnin w' hb2, hf.mono hW.out.size, hb2⟩
  have HA2 : Hid (∀ W ao co, Hid (FreshL wb.heap.size W ao n2 co M ∧ Below wb.heap.size wb W) → Calls Try.prog 28 #[.slice a1 n1 c1] W fun e w' => ∃ a' c' a3 c3 w3, e = .returned (.slice a' n1 c') ∧ Hid (∀ ty, (Builtin.append_ #[29, 29] ty #[.slice a' n1 c', .slice ao n2 co]).run Try.prog w' = .ok (.slice a3 (n1 + n2) c3) w3) ∧ Nin w.heap.size (.int .i64 k1) (.slice a1 n1 c1) (.int .i64 k2) (.slice a2 n2 c2) w' ∧ Nin w.heap.size (.int .i64 k1) (.slice a1 n1 c1) (.int .i64 k2) (.slice a2 n2 c2) w3 ∧ Hid (RdL (fun x => wb.heap.size ≤ x) w3 a3 (n1 + n2) c3 (L ++ M) ∧ Below wb.heap.size wb w3)) := by
    intro W ao co hW
    refine (rtwin_any F a1 n1 c1 L W (h1.below (hB.trans (hW.out.2.mono (by omega)))) (by unfold sizeR at s1; omega)).mono ?_
    rintro e w' ⟨a', c', rfl, hf, hb⟩
    have hb2 := hW.out.2.trans (hb.mono hW.out.2.size)
    obtain ⟨a3, c3, w3, hrun, hrd, hb3⟩ := both2 hW.out ⟨hf, hb⟩ hw1 hw2 (by omega)
    exact ⟨a', c', a3, c3, w3, rfl, hrun, hnin w' hb2, hnin w3 hb3, hrd, hb3⟩
  have HM2 : Hid (∀ W ao co, Hid (FreshL wb.heap.size W ao n1 co L ∧ Below wb.heap.size wb W) → Calls Try.prog 28 #[.slice a2 n2 c2] W fun e w' => ∃ a' c' a3 c3 w3, e = .returned (.slice a' n2 c') ∧ Hid (∀ ty, (Builtin.append_ #[29, 29] ty #[.slice ao n1 co, .slice a' n2 c']).run Try.prog w' = .ok (.slice a3 (n1 + n2) c3) w3) ∧ Nin w.heap.size (.int .i64 k1) (.slice a1 n1 c1) (.int .i64 k2) (.slice a2 n2 c2) w' ∧ Nin w.heap.size (.int .i64 k1) (.slice a1 n1 c1) (.int .i64 k2) (.slice a2 n2 c2) w3 ∧ Hid (RdL (fun x => wb.heap.size ≤ x) w3 a3 (n1 + n2) c3 (L ++ M) ∧ Below wb.heap.size wb w3)) := by
    intro W ao co hW
    refine (rtwin_any G a2 n2 c2 M W (h2.below (hB.trans (hW.out.2.mono (by omega)))) (by unfold sizeR at s2; omega)).mono ?_
    rintro e w' ⟨a', c', rfl, hf, hb⟩
    have hb2 := hW.out.2.trans (hb.mono hW.out.2.size)
    obtain ⟨a3, c3, w3, hrun, hrd, hb3⟩ := both1 hW.out ⟨hf, hb⟩ hw1 hw2 (by omega)
    exact ⟨a', c', a3, c3, w3, rfl, hrun, hnin w' hb2, hnin w3 hb3, hrd, hb3⟩
  have hx := hnin wb (Below.refl _ _)
  have hxd := hnin wb.drew (Below.refl _ _).drew
  have HR1 : Hid (Below wb.heap.size wb wb.drew) := (Below.refl _ _).drew
  have HB := Lib.hid (And.intro hB hsz)
  have HW := Lib.hid hwb
  clear h1 h2 hwb hB hnin hsz hw1 hw2 s1 s2
  obtain ⟨b, hbe⟩ : ∃ b, w.heap.size = b := ⟨_, rfl⟩
  have HBE := Lib.hid hbe
  rw [hbe] at hx hxd HA HM HA2 HM2
  clear hbe
  obtain ⟨x0, x1, y0, y1, f0, f1, z0, z1, l0, l1, l2⟩ := hx
  by_cases e1 : k1 = 0
  · have t1 : (k1 != 0) = false := by simp [e1]
    have t2 : (k2 != 0) = true := by simpa using fun e => hk ⟨e1, e⟩
    clear hk e1
    go_enter Try.func37, Try.ntmps37
    go_upto_region 1 with fail
    rw [HW.out, HBE.out]
    go_upto_region 2 with fail
    go_region_law (first
      | (refine step_append_run rfl (.tmp 17) (.tmp 20) _ _ rfl _ _ (by simp [Act.eval, Act.put]) (by simp [Act.eval, Act.put]) (HRUN.out _) ?_)
      | (go_simp; go_at_call 28; (with_reducible refine (HA2.out _ _ _ p2).mono ?_); rintro e w4 ⟨b3, m3, b4, m4, w5, rfl, HRUN, ⟨e0', e1', g0', g1', i0', i1', j0', j1', o0', o1', o2'⟩, ⟨r0, r1, r2, r3, r4, r5, r6, r7, r8, r9, r10⟩, HFIN⟩)
      | (go_simp; go_at_call 28; (with_reducible refine (HM2.out _ _ _ p1).mono ?_); rintro e w4 ⟨b3, m3, b4, m4, w5, rfl, HRUN, ⟨e0', e1', g0', g1', i0', i1', j0', j1', o0', o1', o2'⟩, ⟨r0, r1, r2, r3, r4, r5, r6, r7, r8, r9, r10⟩, HFIN⟩)
      | (go_simp; go_at_call 28; (with_reducible refine (HA.out _ HR1).mono ?_); rintro e w1 ⟨b1, m1, rfl, ⟨e0, e1, g0, g1, i0, i1, j0, j1, o0, o1, o2⟩, p1⟩)
      | (go_simp; go_at_call 28; (with_reducible refine (HM.out _ HR1).mono ?_); rintro e w2 ⟨b2, m2, rfl, ⟨e0, e1, g0, g1, i0, i1, j0, j1, o0, o1, o2⟩, p2⟩))
    all_goals
      go_wp2_with fail
      (try simp only [Exit.inBlock, Exit.then])
      refine bodyPost_ret (v := .agg #[.int .i64 1, .slice b4 (n1 + n2) m4]) ?_ rfl ⟨b4, m4, rfl, ?_⟩
      · rw [results_cell1 rfl]
        go_simp
      · rw [← HBE.out]
        exact join_end (k := 0) HB.out.1 HB.out.2 HFIN.out.1 HFIN.out.2 _ _
  · have t1 : (k1 != 0) = true := by simpa using e1
    clear hk e1
    go_enter Try.func37, Try.ntmps37
    go_upto_region 1 with fail
    rw [HW.out, HBE.out]
    go_upto_region 2 with fail
    go_region_law (first
      | (refine step_append_run rfl (.tmp 17) (.tmp 20) _ _ rfl _ _ (by simp [Act.eval, Act.put]) (by simp [Act.eval, Act.put]) (HRUN.out _) ?_)
      | (go_simp; go_at_call 28; (with_reducible refine (HA2.out _ _ _ p2).mono ?_); rintro e w4 ⟨b3, m3, b4, m4, w5, rfl, HRUN, ⟨e0', e1', g0', g1', i0', i1', j0', j1', o0', o1', o2'⟩, ⟨r0, r1, r2, r3, r4, r5, r6, r7, r8, r9, r10⟩, HFIN⟩)
      | (go_simp; go_at_call 28; (with_reducible refine (HM2.out _ _ _ p1).mono ?_); rintro e w4 ⟨b3, m3, b4, m4, w5, rfl, HRUN, ⟨e0', e1', g0', g1', i0', i1', j0', j1', o0', o1', o2'⟩, ⟨r0, r1, r2, r3, r4, r5, r6, r7, r8, r9, r10⟩, HFIN⟩)
      | (go_simp; go_at_call 28; (with_reducible refine (HA.out _ HR1).mono ?_); rintro e w1 ⟨b1, m1, rfl, ⟨e0, e1, g0, g1, i0, i1, j0, j1, o0, o1, o2⟩, p1⟩)
      | (go_simp; go_at_call 28; (with_reducible refine (HM.out _ HR1).mono ?_); rintro e w2 ⟨b2, m2, rfl, ⟨e0, e1, g0, g1, i0, i1, j0, j1, o0, o1, o2⟩, p2⟩))
    all_goals
      go_wp2_with fail
      (try simp only [Exit.inBlock, Exit.then])
      refine bodyPost_ret (v := .agg #[.int .i64 1, .slice b4 (n1 + n2) m4]) ?_ rfl ⟨b4, m4, rfl, ?_⟩
      · rw [results_cell1 rfl]
        go_simp
      · rw [← HBE.out]
        exact join_end (k := 0) HB.out.1 HB.out.2 HFIN.out.1 HFIN.out.2 _ _
end Go.Proofs.Ytleidcegbfnmkaa.U
