/-
  The document's joined: runes to runes; both forms together.
-/
import Derived.Test.YtleidcegbfnmkaaGJoin
namespace Go.Proofs.Ytleidcegbfnmkaa.U
open Go.RowKit
set_option linter.unusedVariables false
set_option linter.unusedSimpArgs false
set_option maxRecDepth 100000

set_option maxHeartbeats 4000000 in
theorem rjoinB_any (F G : Nat → Prop) (a1 a2 : Option Addr) (n1 n2 c1 c2 : Nat) (L M : List (List Int)) (w : World) (h1 : RdL F w a1 n1 c1 L) (h2 : RdL G w a2 n2 c2 M) (s1 : sizeR L ≤ 65536) (s2 : sizeR M ≤ 65536) (hL : L ≠ []) (hM : M ≠ []) :
    Calls Try.prog 37 #[rgV 0 a1 n1 c1, rgV 0 a2 n2 c2] w fun e w' => ∃ a c, e = .returned (rgV 0 a (n1 + (n2 - 1)) c) ∧ RdL (fun x => w.heap.size ≤ x) w' a (n1 + (n2 - 1)) c (L.dropLast ++ [L.getLastD [] ++ M.headD []] ++ M.tail) ∧ Below w.heap.size w w' := by
  unfold rgV
  have hl1 := h1.len
  have hl2 := h2.len
  have hn1 : n1 ≤ 65536 := by have := size_count L; unfold sizeR at s1; omega
  have hn2 : n2 ≤ 65536 := by have := size_count M; unfold sizeR at s2; omega
  have hw1 := lines_wfG h1
  have hw2 := lines_wfG h2
  obtain ⟨D, y, hD⟩ : ∃ D y, L = D ++ [y] := ⟨_, _, (List.dropLast_concat_getLast hL).symm⟩
  obtain ⟨z, M', hMz⟩ : ∃ z M', M = z :: M' := List.exists_cons_of_ne_nil hM
  obtain ⟨k, hk⟩ : ∃ k, D.length = k := ⟨_, rfl⟩
  obtain rfl : n1 = k + 1 := by rw [← hl1, hD]; simp [hk]
  have hyl : y.length ≤ 65536 := by
    have h : y.length ∈ lens L := by rw [hD]; simp [lens]
    have := sizeN_mem h
    unfold sizeR at s1
    omega
  have hzl : z.length ≤ 65536 := by
    have h : z.length ∈ lens M := by rw [hMz]; simp [lens]
    have := sizeN_mem h
    unfold sizeR at s2
    omega
  obtain ⟨wb, hwb⟩ : ∃ wb, ((w.alloc (.cells #[.int .i64 0, .slice a1 (k + 1) c1] 31)).alloc (.cells #[.int .i64 0, .slice a2 n2 c2] 31)).alloc (.cells #[.int .i64 0, .slice none 0 0] 31) = wb := ⟨_, rfl⟩
  have hnin := nin_new w (.int .i64 0) (.slice a1 (k + 1) c1) (.int .i64 0) (.slice a2 n2 c2)
  rw [hwb] at hnin
  have hsz : wb.heap.size = w.heap.size + 3 := by rw [← hwb]; simp
  have hB : Below w.heap.size w wb := by rw [← hwb]; exact (((Below.refl _ _).alloc (Nat.le_refl _) _).alloc (by simp) _).alloc (by simp; omega) _
  rw [← hsz] at hnin
  have HA : Hid (Calls Try.prog 28 #[.slice a1 (k + 1) c1] wb fun e w' => ∃ a' c', e = .returned (.slice a' (k + 1) c') ∧ Nin w.heap.size (.int .i64 0) (.slice a1 (k + 1) c1) (.int .i64 0) (.slice a2 n2 c2) w' ∧ Hid (FreshL wb.heap.size w' a' (k + 1) c' L ∧ Below wb.heap.size wb w')) := by
    refine (rtwin_any F a1 (k + 1) c1 L wb (h1.below hB) (by unfold sizeR at s1; omega)).mono ?_
    rintro e w' ⟨a', c', rfl, hf, hb⟩
    exact ⟨a', c', rfl, hnin w' hb, hf, hb⟩
  have HM : Hid (∀ w1 b1 m1, Hid (FreshL wb.heap.size w1 b1 (k + 1) m1 L ∧ Below wb.heap.size wb w1) → Calls Try.prog 28 #[.slice a2 n2 c2] w1 fun e w2 => ∃ gm m2 g ra rc a3 c3 w3 za zc, e = .returned (.slice (some ⟨gm, 0, none⟩) n2 m2) ∧ b1 = some ⟨g, 0, none⟩ ∧ w2.cell? ⟨g, k, none⟩ = some (.slice ra y.length rc) ∧ w2.cell? ⟨gm, 0, none⟩ = some (.slice za z.length zc) ∧
      Hid (∀ ty, (Builtin.append_ #[39, 39] ty #[.slice ra y.length rc, .slice za z.length zc]).run Try.prog w2.drew = .ok (.slice a3 (y.length + z.length) c3) w3) ∧ (∃ u, w3.cell? ⟨g, k, none⟩ = some u) ∧ w3.frozen? ⟨g, k, none⟩ = false ∧ g < w3.heap.size ∧ g < w2.heap.size ∧ gm < w2.heap.size ∧
      Hid (Nin w.heap.size (.int .i64 0) (.slice a1 (k + 1) c1) (.int .i64 0) (.slice a2 n2 c2) (w3.setCell ⟨g, k, none⟩ (.slice a3 (y.length + z.length) c3)) ∧ n2 ≤ m2 ∧ 0 < n2) ∧
      Hid (∃ a5 c5 w5, (∀ ty, (Builtin.append_ #[29, 29] ty #[.slice (some ⟨g, 0, none⟩) (k + 1) m1, .slice (if m2 = 1 then some ⟨gm, 0, none⟩ else some ⟨gm, 1, none⟩) (n2 - 1) (m2 - 1)]).run Try.prog (w3.setCell ⟨g, k, none⟩ (.slice a3 (y.length + z.length) c3)) = .ok (.slice a5 (k + 1 + (n2 - 1)) c5) w5) ∧ Nin w.heap.size (.int .i64 0) (.slice a1 (k + 1) c1) (.int .i64 0) (.slice a2 n2 c2) w5 ∧ RdL (fun x => wb.heap.size ≤ x) w5 a5 (k + 1 + (n2 - 1)) c5 (D ++ [y ++ z] ++ M') ∧ Below wb.heap.size wb w5)) := by
    intro w1 b1 m1 hW
    refine (rtwin_any G a2 n2 c2 M w1 (h2.below (hB.trans (hW.out.2.mono (by omega)))) (by unfold sizeR at s2; omega)).mono ?_
    rintro e w2 ⟨b2, m2, rfl, hf2, hb2⟩
    have hs1 := hW.out.2.size
    have hn20 : 0 < n2 := by rw [← hl2, hMz]; simp
    have hwd : Below w1.heap.size w1 w2.drew := hb2.drew
    have hfL := hW.out.1
    rw [hD] at hfL
    have hrd2 := hf2.rdl hw2
    obtain ⟨gm, off, zb, zc, e2, hgml, hgmF, hzc, hzr, -, -⟩ := hrd2.get (i := 0) (x := z) (W := w2.drew) ((Below.refl _ _).drew) (by rw [hMz]; rfl)
    obtain rfl : off = 0 := by
      obtain ⟨vs, q1, _⟩ := hf2
      obtain ⟨g', e3⟩ := own_some q1 hn20
      rw [e3] at e2
      cases e2
      rfl
    have hnm : n2 ≤ m2 := by obtain ⟨vs, q, _⟩ := hrd2; exact q.2.1
    subst e2
    obtain ⟨g, ra, rc, a3, c3, w3, e1, hg1, hgc, hrun, hu, hfz, hgl, hf3, hb3, hfr3⟩ := fresh_ext w1 w2.drew wb.heap.size k m1 b1 D y z zb z.length zc hfL hwd hs1 hzr (by omega)
    subst e1
    have hsw2 := hb2.size
    have hWW : Below wb.heap.size wb (w3.setCell ⟨g, k, none⟩ (.slice a3 (y.length + z.length) c3)) := (hW.out.2.trans (hwd.mono hs1)).trans hb3
    have hr5 := ((hf2.below (Below.refl _ _).drew).fr hfr3 (fun x h1 h2 => by omega)).rdl hw2
    have hdr := hr5.drop 1 (by omega)
    have hgo : ∀ x, (Value.slice (some ⟨g, 0, none⟩) (k + 1) m1).ownBlock = some x → ¬ w1.heap.size ≤ x := fun x e h => by
      simp only [Value.ownBlock, Option.some.injEq] at e
      omega
    have hwD : ∀ x ∈ D ++ [y ++ z], ∀ q ∈ x, (Lit.int .i32 q).wf = true := by
      intro x hx q hq
      rcases List.mem_append.1 hx with h | h
      · exact hw1 x (by rw [hD]; simp [h]) q hq
      · rw [List.mem_singleton] at h
        subst h
        rcases List.mem_append.1 hq with h | h
        · exact hw1 y (by rw [hD]; simp) q h
        · exact hw2 z (by rw [hMz]; simp) q h
    obtain ⟨a5, c5, w5, hrun5, hrd5, hb5⟩ := app_rows _ wb.heap.size (some ⟨g, 0, none⟩) (k + 1) m1 (D ++ [y ++ z]) _ (n2 - 1) (m2 - 1) (M.drop 1) (fun x => w1.heap.size ≤ x) hf3 hwD hdr hgo (fun x h => by omega) hWW.size (by omega)
    refine ⟨gm, m2, g, ra, rc, a3, c3, w3, zb, zc, rfl, rfl, hgc, hzc, hrun, hu, hfz, hgl, by omega, hgml, ⟨hnin _ hWW, hnm, hn20⟩, a5, c5, w5, ?_, hnin w5 (hWW.trans hb5), ?_, hWW.trans hb5⟩
    · simpa [Addr.add] using hrun5
    · rw [hMz] at hrd5
      exact hrd5
  have hx := hnin wb (Below.refl _ _)
  have HB := Lib.hid (And.intro hB hsz)
  have HW := Lib.hid hwb
  have HL : Hid (L.dropLast ++ [L.getLastD [] ++ M.headD []] ++ M.tail = D ++ [y ++ z] ++ M') := by
    show _ = _
    rw [hD, hMz]
    simp
  rw [HL.out]
  clear h1 h2 hwb hB hnin hsz hw1 hw2 s1 s2 hL hM hD hMz hk hl1 hl2
  obtain ⟨b, hbe⟩ : ∃ b, w.heap.size = b := ⟨_, rfl⟩
  have HBE := Lib.hid hbe
  rw [hbe] at hx HA HM
  clear hbe
  obtain ⟨x0, x1, y0, y1, f0, f1, z0, z1, l0, l1, l2⟩ := hx
  obtain ⟨my, hmy⟩ : ∃ my, y.length = my := ⟨_, rfl⟩
  obtain ⟨mz, hmz⟩ : ∃ mz, z.length = mz := ⟨_, rfl⟩
  rw [hmy, hmz] at HM
  rw [hmy] at hyl
  rw [hmz] at hzl
  clear hmy hmz
  have t1 : ((0 : Int) != 0) = false := rfl
  go_enter Try.func37, Try.ntmps37
  go_upto_region 1 with fail
  rw [HW.out, HBE.out]
  go_upto_region 5 with (first
    | (go_at_call 28; (with_reducible refine HA.out.mono ?_); rintro e w1 ⟨b1, m1, rfl, ⟨e0, e1, g0, g1, i0, i1, j0, j1, o0, o1, o2⟩, p1⟩)
    | (go_at_call 28; (with_reducible refine (HM.out _ _ _ p1).mono ?_); rintro e w2 ⟨gm, m2, g, ra, rc, a3, c3, w3, za, zc, rfl, rfl, q0, q1, HRUN, hu, q2, q3, q4, q5, HN3, HN5⟩))
  obtain ⟨u, hu⟩ := hu
  have y5 : IntKind.i64.wrap (k : Int) = (k : Int) := by rw [IntKind.wrap_i64]; omega
  have y6 : (k : Int) < (k : Int) + 1 := by omega
  have hn2p := HN3.out.2.2
  go_region_law (refine step_append_run rfl (.tmp 38) (.tmp 41) _ _ rfl _ _ (by simp [Act.eval, Act.put]) (by simp [Act.eval, Act.put]) (HRUN.out _) ?_)
  all_goals
    obtain ⟨r0, r1, r2, r3, r4, r5, r6, r7, r8, r9, r10⟩ := HN3.out.1
    have hnm := HN3.out.2.1
    obtain ⟨w7, hw7⟩ : ∃ w7, w3.setCell ⟨g, k, none⟩ (.slice a3 (my + mz) c3) = w7 := ⟨_, rfl⟩
    rw [hw7] at r0 r1 r2 r3 r4 r5 r6 r7 r8 r9 r10 HN5
    have HW7 := Lib.hid hw7
    rw [hw7]
    obtain ⟨a5, c5, w5, hrun5, ⟨v0, v1, v2, v3, v4, v5, v6, v7, v8, v9, v10⟩, hrd5, hb5⟩ := HN5.out
    have HFIN := Lib.hid (And.intro hrd5 hb5)
    clear hrd5 hb5 hw7
    by_cases hm2 : m2 = 1
    · rw [if_pos hm2] at hrun5
      subst hm2
      obtain rfl : n2 = 1 := by omega
      simp only [Nat.sub_self, Nat.add_zero] at hrun5
      have HRUN5 := Lib.hid hrun5
      clear hrun5
      go_wp2_with (at_builtin; go_must (with_reducible refine Lib.wpList_append_run _ rfl _ _ _ _ rfl _ _ rfl rfl _ _ (HRUN5.out _) ?_))
      (try simp only [Exit.inBlock, Exit.then])
      refine bodyPost_ret (v := .agg #[.int .i64 0, .slice a5 (k + 1) c5]) ?_ rfl ⟨a5, c5, rfl, ?_⟩
      · rw [results_cell1 rfl]
        go_simp
      · rw [← HBE.out]
        have hq := join_end (k := 0) HB.out.1 HB.out.2 HFIN.out.1 HFIN.out.2 (.int .i64 0) (.slice a5 (k + 1) c5)
        simpa using hq
    · rw [if_neg hm2] at hrun5
      have HRUN5 := Lib.hid hrun5
      clear hrun5
      go_wp2_with (at_builtin; go_must (with_reducible refine Lib.wpList_append_run _ rfl _ _ _ _ rfl _ _ rfl rfl _ _ (HRUN5.out _) ?_))
      (try simp only [Exit.inBlock, Exit.then])
      refine bodyPost_ret (v := .agg #[.int .i64 0, .slice a5 (k + 1 + (n2 - 1)) c5]) ?_ rfl ⟨a5, c5, rfl, ?_⟩
      · rw [results_cell1 rfl]
        go_simp
      · rw [← HBE.out]
        exact join_end (k := 0) HB.out.1 HB.out.2 HFIN.out.1 HFIN.out.2 _ _
/-- joined, in either form -/
theorem rjoin_any (F G : Nat → Prop) (g1 g2 : Rg) (a1 a2 : Option Addr) (n1 n2 c1 c2 : Nat) (w : World) (h1 : RdL F w a1 n1 c1 g1.L) (h2 : RdL G w a2 n2 c2 g2.L) (o1 : g1.ok) (o2 : g2.ok) :
    Calls Try.prog 37 #[rgV g1.k a1 n1 c1, rgV g2.k a2 n2 c2] w fun e w' => ∃ a c, e = .returned (rgV (joinR g1 g2).k a (joinR g1 g2).L.length c) ∧ RdL (fun x => w.heap.size ≤ x) w' a (joinR g1 g2).L.length c (joinR g1 g2).L ∧ Below w.heap.size w w' := by
  obtain ⟨k1, L⟩ := g1
  obtain ⟨k2, M⟩ := g2
  have hl1 := h1.len
  have hl2 := h2.len
  simp only at h1 h2 hl1 hl2
  have hLn : L ≠ [] := o1.2.2.1
  have hMn : M ≠ [] := o2.2.2.1
  by_cases hk : k1 = 0 ∧ k2 = 0
  · obtain ⟨rfl, rfl⟩ := hk
    have hJ : joinR ⟨0, L⟩ ⟨0, M⟩ = ⟨0, L.dropLast ++ [L.getLastD [] ++ M.headD []] ++ M.tail⟩ := by simp [joinR]
    have hJl : (joinR ⟨0, L⟩ ⟨0, M⟩).L.length = n1 + (n2 - 1) := by
      have := List.length_pos_iff.2 hLn
      rw [hJ]
      simp
      omega
    rw [hJl]
    refine (rjoinB_any F G a1 a2 n1 n2 c1 c2 L M w h1 h2 o1.2.2.2 o2.2.2.2 hLn hMn).mono ?_
    rintro e w' ⟨a, c, rfl, hr, hb⟩
    exact ⟨a, c, by rw [hJ], by rw [hJ]; exact hr, hb⟩
  · have hJ : joinR ⟨k1, L⟩ ⟨k2, M⟩ = ⟨1, L ++ M⟩ := by
      unfold joinR
      rw [if_neg hk]
    have hJl : (joinR ⟨k1, L⟩ ⟨k2, M⟩).L.length = n1 + n2 := by
      rw [hJ]
      simp [hl1, hl2]
    rw [hJl]
    refine (rjoinA_any F G k1 k2 a1 a2 n1 n2 c1 c2 L M w h1 h2 o1.2.2.2 o2.2.2.2 hk).mono ?_
    rintro e w' ⟨a, c, rfl, hr, hb⟩
    exact ⟨a, c, by rw [hJ], by rw [hJ]; exact hr, hb⟩
end Go.Proofs.Ytleidcegbfnmkaa.U
