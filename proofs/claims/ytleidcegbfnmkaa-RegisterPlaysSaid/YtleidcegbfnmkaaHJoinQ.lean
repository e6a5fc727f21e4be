/-
  The program's joined: runes to runes; every form together.
-/
import Derived.Test.YtleidcegbfnmkaaHJoinP
import Derived.Deep.CutBlock
namespace Go.Proofs.Ytleidcegbfnmkaa.U
open Go.RowKit
set_option linter.unusedVariables false
set_option linter.unusedSimpArgs false
set_option maxRecDepth 100000

set_option maxHeartbeats 4000000 in
theorem pjoinedB_any (G G2 : Nat → Prop) (a1 a2 : Option Addr) (n1 n2 c1 c2 : Nat) (L M : List (List Int)) (w : World) (h1 : OwnL G w a1 n1 c1 L) (h2 : OwnL G2 w a2 n2 c2 M) (hd : ∀ x, G x → ¬ G2 x) (hG : ∀ x, G x → x < w.heap.size) (hG2 : ∀ x, G2 x → x < w.heap.size) (s1 : sizeR L ≤ 65536) (s2 : sizeR M ≤ 65536) (hL : L ≠ []) (hM : M ≠ []) :
    Calls Try.prog 35 #[rgV 0 a1 n1 c1, rgV 0 a2 n2 c2] w fun e w' => ∃ a c, e = .returned (rgV 0 a (n1 + (n2 - 1)) c) ∧ OwnL (fun x => G x ∨ G2 x ∨ w.heap.size ≤ x) w' a (n1 + (n2 - 1)) c (L.dropLast ++ [L.getLastD [] ++ M.headD []] ++ M.tail) ∧ Fr G w w' := by
  unfold rgV
  have hl1 := h1.len
  have hl2 := h2.len
  have hn1 : n1 ≤ 65536 := by have := size_count L; unfold sizeR at s1; omega
  have hn2 : n2 ≤ 65536 := by have := size_count M; unfold sizeR at s2; omega
  obtain ⟨D, y, hD⟩ : ∃ D y, L = D ++ [y] := ⟨_, _, (List.dropLast_concat_getLast hL).symm⟩
  obtain ⟨z, M', hMz⟩ : ∃ z M', M = z :: M' := List.exists_cons_of_ne_nil hM
  obtain ⟨k, hk⟩ : ∃ k, D.length = k := ⟨_, rfl⟩
  obtain rfl : n1 = k + 1 := by rw [← hl1, hD]; simp [hk]
  have hn20 : 0 < n2 := by rw [← hl2, hMz]; simp
  have hyl : y.length ≤ 65536 := by
    have h : y.length ∈ lens L := by rw [hD]; simp [lens]
    have := sizeN_mem h
    unfold sizeR at s1
    omega
  have hzl : z.length ≤ 65536 := by
    have h : z.length ∈ lens M := by rw [hMz]; simp [lens]
    have := sizeN_mem h
    unfold sizeR at s2
    omega
  obtain ⟨g, rfl⟩ : ∃ g, a1 = some ⟨g, 0, none⟩ := by obtain ⟨vs, q1, _⟩ := h1; exact own_some q1 (by omega)
  obtain ⟨gm, rfl⟩ : ∃ g, a2 = some ⟨g, 0, none⟩ := by obtain ⟨vs, q1, _⟩ := h2; exact own_some q1 (by omega)
  obtain ⟨wb, hwb⟩ : ∃ wb, ((w.alloc (.cells #[.int .i64 0, .slice (some ⟨g, 0, none⟩) (k + 1) c1] 31)).alloc (.cells #[.int .i64 0, .slice (some ⟨gm, 0, none⟩) n2 c2] 31)).alloc (.cells #[.int .i64 0, .slice none 0 0] 31) = wb := ⟨_, rfl⟩
  have hnin := nin_fr w (.int .i64 0) (.slice (some ⟨g, 0, none⟩) (k + 1) c1) (.int .i64 0) (.slice (some ⟨gm, 0, none⟩) n2 c2)
  rw [hwb] at hnin
  have hsz : wb.heap.size = w.heap.size + 3 := by rw [← hwb]; simp
  have hB : Below w.heap.size w wb := by rw [← hwb]; exact (((Below.refl _ _).alloc (Nat.le_refl _) _).alloc (by simp) _).alloc (by simp; omega) _
  have HJ : Hid (Calls Try.prog 42 #[.agg #[.int .i64 0, .slice (some ⟨g, 0, none⟩) (k + 1) c1], .agg #[.int .i64 0, .slice (some ⟨gm, 0, none⟩) n2 c2]] wb fun e w1 => ∃ ra rc a3 c3 w3 za zc, e = .returned (.bool true) ∧ Nin w.heap.size (.int .i64 0) (.slice (some ⟨g, 0, none⟩) (k + 1) c1) (.int .i64 0) (.slice (some ⟨gm, 0, none⟩) n2 c2) w1 ∧
      w1.cell? ⟨g, k, none⟩ = some (.slice ra y.length rc) ∧ w1.cell? ⟨gm, 0, none⟩ = some (.slice za z.length zc) ∧ g < w1.heap.size ∧ gm < w1.heap.size ∧
      Hid (∀ ty, (Builtin.append_ #[39, 39] ty #[.slice ra y.length rc, .slice za z.length zc]).run Try.prog w1.drew = .ok (.slice a3 (y.length + z.length) c3) w3) ∧ (∃ u, w3.cell? ⟨g, k, none⟩ = some u) ∧ w3.frozen? ⟨g, k, none⟩ = false ∧ g < w3.heap.size ∧ Nin w.heap.size (.int .i64 0) (.slice (some ⟨g, 0, none⟩) (k + 1) c1) (.int .i64 0) (.slice (some ⟨gm, 0, none⟩) n2 c2) w3 ∧
      Hid (Nin w.heap.size (.int .i64 0) (.slice (some ⟨g, 0, none⟩) (k + 1) c1) (.int .i64 0) (.slice (some ⟨gm, 0, none⟩) n2 c2) (w3.setCell ⟨g, k, none⟩ (.slice a3 (y.length + z.length) c3)) ∧ n2 ≤ c2 ∧ 0 < n2) ∧
      Hid (∃ a5 c5 w5, (∀ ty, (Builtin.append_ #[29, 29] ty #[.slice (some ⟨g, 0, none⟩) (k + 1) c1, .slice (if c2 = 1 then some ⟨gm, 0, none⟩ else some ⟨gm, 1, none⟩) (n2 - 1) (c2 - 1)]).run Try.prog (w3.setCell ⟨g, k, none⟩ (.slice a3 (y.length + z.length) c3)).drew = .ok (.slice a5 (k + 1 + (n2 - 1)) c5) w5) ∧ Nin w.heap.size (.int .i64 0) (.slice (some ⟨g, 0, none⟩) (k + 1) c1) (.int .i64 0) (.slice (some ⟨gm, 0, none⟩) n2 c2) w5 ∧
        OwnL (fun x => G x ∨ G2 x ∨ w.heap.size + 3 ≤ x) w5 a5 (k + 1 + (n2 - 1)) c5 (D ++ [y ++ z] ++ M') ∧ Fr G w w5)) := by
    refine (pjoins_any 0 0 _ _ (k + 1) n2 c1 c2 wb (by omega)).mono ?_
    rintro e w1 ⟨rfl, hb1⟩
    have hs1 := hb1.size
    have hw1 : Below w.heap.size w w1 := hB.trans (hb1.mono (by omega))
    have hw1d : Below w.heap.size w w1.drew := hw1.drew
    have hfL := h1.below hw1d
    rw [hD] at hfL
    have hfM := h2.below hw1d
    have hrd2 := hfM.rdl
    obtain ⟨gm', off, zb, zc, e2, hgml, hgmF, hzc, hzr, -, -⟩ := hrd2.get (i := 0) (x := z) (W := w1.drew) (Below.refl _ _) (by rw [hMz]; rfl)
    cases e2
    have hzw : ∀ q ∈ z, (Lit.int .i32 q).wf = true := by
      obtain ⟨us, u1, u2, u3⟩ := hfM
      obtain ⟨v, t1, t2, t3, t4⟩ := u3.2.1 0 z (by rw [hMz]; rfl)
      exact t4
    have hnm : n2 ≤ c2 := by obtain ⟨vs, q, _⟩ := hrd2; exact q.2.1
    obtain ⟨g', ra, rc, a3, c3, w3, e1, hg1, hgc, hrun, hu, hfz, hgl, hfr3, hf3, hfr3'⟩ := own_ext w1.drew G k c1 _ D y z zb z.length zc hfL hzr hzw (by omega)
    cases e1
    have hbd : Below wb.heap.size wb w1.drew := hb1.drew
    have fb3 : Fr G wb w3 := (Fr.of_below G hbd).trans hfr3 (fun _ _ h => h)
    have fb7 : Fr G wb (w3.setCell ⟨g, k, none⟩ (.slice a3 (y.length + z.length) c3)) := (Fr.of_below G hbd).trans hfr3' (fun _ _ h => h)
    have hnG : ∀ q, w.heap.size ≤ q → q < w.heap.size + 3 → ¬ G q := fun q q1 q2 q3 => by have := hG q q3; omega
    have f7d : Fr G w1.drew (w3.setCell ⟨g, k, none⟩ (.slice a3 (y.length + z.length) c3)).drew := hfr3'.drew
    have hs7 : w1.heap.size ≤ (w3.setCell ⟨g, k, none⟩ (.slice a3 (y.length + z.length) c3)).heap.size := hfr3'.size
    obtain ⟨us, u1, u2, u3⟩ := hfM.fr f7d (fun x hx e => hd x e hx)
    have hdrop := (Rc.own u1).drop 1 (by omega)
    have h17 : OwnL (fun x => G x ∨ w1.heap.size ≤ x) (w3.setCell ⟨g, k, none⟩ (.slice a3 (y.length + z.length) c3)).drew (some ⟨g, 0, none⟩) (k + 1) c1 (D ++ [y ++ z]) := hf3.below (Below.refl _ _).drew
    obtain ⟨a5, c5, w5, hrun5, hown5, hfr5⟩ := own_app _ (fun x => G x ∨ w1.heap.size ≤ x) G2 (some ⟨g, 0, none⟩) (k + 1) c1 (D ++ [y ++ z]) _ (n2 - 1) (c2 - 1) (us.drop 1) (M.drop 1) h17 hdrop (u3.drop 1)
      (fun x q1 q2 => by
        rcases q1 with q | q
        · exact hd x q q2
        · have := hG2 x q2; have := hw1.size; omega) (by omega)
    have fw5 : Fr G w w5 := by
      refine ((Fr.of_below G hw1d).trans f7d (fun _ _ h => h)).trans (hfr5.mono (G := fun x => G x ∨ w1.heap.size ≤ x) (fun _ _ h => h)) (fun x hx q => ?_)
      rcases q with q | q
      · exact q
      · have := hw1.size; omega
    have fb5 : Fr (fun x => G x ∨ w1.heap.size ≤ x) wb w5 := ((Fr.of_below _ hbd).trans (f7d.mono (fun x _ h => .inl h)) (fun _ _ h => h)).trans hfr5 (fun _ _ h => h)
    refine ⟨ra, rc, a3, c3, w3, zb, zc, by simp [joinsB], hnin (fun _ => False) w1 (Fr.of_below _ hb1) (fun _ _ _ h => h), hgc, hzc, hg1, hgml, hrun, hu, hfz, hgl, hnin G w3 fb3 hnG, ⟨hnin G _ fb7 hnG, hnm, hn20⟩, a5, c5, w5, ?_, hnin _ w5 fb5 (fun q q1 q2 q3 => by rcases q3 with q3 | q3; exact hnG q q1 q2 q3; omega), ?_, fw5⟩
    · simpa [Addr.add] using hrun5
    · rw [hMz] at hown5
      refine hown5.mono (fun q _ q3 => ?_)
      rcases q3 with (q3 | q3) | q3 | q3
      · exact .inl q3
      · exact .inr (.inr (by omega))
      · exact .inr (.inl q3)
      · exact .inr (.inr (by
          have q4 : (w3.setCell ⟨g, k, none⟩ (.slice a3 (y.length + z.length) c3)).heap.size ≤ q := q3
          omega))
  have hx := hnin (fun _ => False) wb (Fr.refl _ _) (fun _ _ _ h => h)
  have HB := Lib.hid (And.intro hB (And.intro hG hG2))
  have HW := Lib.hid hwb
  have HL : Hid (L.dropLast ++ [L.getLastD [] ++ M.headD []] ++ M.tail = D ++ [y ++ z] ++ M') := by
    show _ = _
    rw [hD, hMz]
    simp
  rw [HL.out]
  clear h1 h2 hwb hB hnin hsz s1 s2 hL hM hD hMz hk hl1 hl2 hd hG hG2
  obtain ⟨b, hbe⟩ : ∃ b, w.heap.size = b := ⟨_, rfl⟩
  have HBE := Lib.hid hbe
  rw [hbe] at hx HJ
  clear hbe
  obtain ⟨x0, x1, y0, y1, f0, f1, z0, z1, l0, l1, l2⟩ := hx
  obtain ⟨my, hmy⟩ : ∃ my, y.length = my := ⟨_, rfl⟩
  obtain ⟨mz, hmz⟩ : ∃ mz, z.length = mz := ⟨_, rfl⟩
  rw [hmy, hmz] at HJ
  rw [hmy] at hyl
  rw [hmz] at hzl
  clear hmy hmz
  have y5 : IntKind.i64.wrap (k : Int) = (k : Int) := by rw [IntKind.wrap_i64]; omega
  have y6 : (k : Int) < (k : Int) + 1 := by omega
  go_enter Try.func35, Try.ntmps35
  go_upto_region 1 with fail
  rw [HW.out, HBE.out]
  go_upto_region 5 with (first
    | (go_at_call 42; (with_reducible refine HJ.out.mono ?_); rintro e w1 ⟨ra, rc, a3, c3, w3, za, zc, rfl, ⟨e0, e1, g0, g1, i0, i1, j0, j1, o0, o1, o2⟩, q0, q1, q2, q3, HRUN, hu, q4, q5, ⟨r0, r1, r2, r3, r4, r5, r6, r7, r8, r9, r10⟩, HN3, HN5⟩))
  obtain ⟨u, hu⟩ := hu
  clear x0 x1 y0 y1 f0 f1 z0 z1 l0 l1 l2 HJ
  go_cut [5] (fun v5 wx => wx = w3.setCell ⟨g, k, none⟩ (.slice a3 (my + mz) c3))
  case first =>
    clear HN3 HN5 HB HBE HL HW
    go_region_law (refine step_append_run rfl (.tmp 27) (.tmp 31) _ _ rfl _ _ (by simp [Act.eval, Act.put]) (by simp [Act.eval, Act.put]) (HRUN.out _) ?_)
    all_goals
      go_wp2_with fail
      go_meet
      rfl
  case rest =>
    obtain rfl := hcut
    clear e0 e1 g0 g1 i0 i1 j0 j1 o0 o1 o2 q0 q1 q2 q3 q4 q5 hu r0 r1 r2 r3 r4 r5 r6 r7 r8 r9 r10 HRUN
    obtain ⟨r0, r1, r2, r3, r4, r5, r6, r7, r8, r9, r10⟩ := HN3.out.1
    have hnm := HN3.out.2.1
    obtain ⟨w7, hw7⟩ : ∃ w7, w3.setCell ⟨g, k, none⟩ (.slice a3 (my + mz) c3) = w7 := ⟨_, rfl⟩
    rw [hw7] at r0 r1 r2 r3 r4 r5 r6 r7 r8 r9 r10 HN5
    have HW7 := Lib.hid hw7
    rw [hw7]
    obtain ⟨a5, c5, w5, hrun5, ⟨v0, v1, v2, v3, v4, v5, v6, v7, v8, v9, v10⟩, hown5, hfr5⟩ := HN5.out
    have HFIN : Hid (∀ u0 u1, OwnL (fun x => G x ∨ G2 x ∨ w.heap.size ≤ x) ((w5.setCell ⟨b + 2, 0, none⟩ u0).setCell ⟨b + 2, 1, none⟩ u1) a5 (k + 1 + (n2 - 1)) c5 (D ++ [y ++ z] ++ M') ∧ Fr G w ((w5.setCell ⟨b + 2, 0, none⟩ u0).setCell ⟨b + 2, 1, none⟩ u1)) := by
      intro u0 u1
      have he := HBE.out
      refine ⟨(own_end hown5 (fun q => ?_) _ _).mono (fun q _ q3 => ?_), fr_end hfr5 (by omega) _ _⟩
      · rcases q with q | q | q
        · have := HB.out.2.1 _ q; omega
        · have := HB.out.2.2 _ q; omega
        · omega
      · rcases q3 with q3 | q3 | q3
        · exact .inl q3
        · exact .inr (.inl q3)
        · exact .inr (.inr (by omega))
    clear hown5 hfr5 hw7 HN3 HN5 HW7 HW
    by_cases hm2 : c2 = 1
    · rw [if_pos hm2] at hrun5
      subst hm2
      obtain rfl : n2 = 1 := by omega
      simp only [Nat.sub_self, Nat.add_zero] at hrun5 HFIN ⊢
      have HRUN5 := Lib.hid hrun5
      clear hrun5
      go_upto_region 6 with fail
      go_region_law (refine step_append_run rfl (.tmp 35) (.tmp 38) _ _ rfl _ _ (by simp [Act.eval, Act.put]) (by simp [Act.eval, Act.put]) (HRUN5.out _) ?_)
      all_goals
        go_wp2_with fail
        (try simp only [Exit.inBlock, Exit.then])
        refine bodyPost_ret (v := .agg #[.int .i64 0, .slice a5 (k + 1) c5]) ?_ rfl ⟨a5, c5, rfl, ?_⟩
        · rw [results_cell1 rfl]
          go_simp
        · exact HFIN.out _ _
    · have hn21 : (1 : Int) ≤ (n2 : Int) := by omega
      have hn22 : 1 ≤ n2 := by omega
      have hn23 : (n2 : Int) ≤ (c2 : Int) := by omega
      rw [if_neg hm2] at hrun5
      have HRUN5 := Lib.hid hrun5
      clear hrun5
      go_upto_region 6 with fail
      go_region_law (refine step_append_run rfl (.tmp 35) (.tmp 38) _ _ rfl _ _ (by simp [Act.eval, Act.put]) (by simp [Act.eval, Act.put]) (HRUN5.out _) ?_)
      all_goals
        go_wp2_with fail
        (try simp only [Exit.inBlock, Exit.then])
        refine bodyPost_ret (v := .agg #[.int .i64 0, .slice a5 (k + 1 + (n2 - 1)) c5]) ?_ rfl ⟨a5, c5, rfl, ?_⟩
        · rw [results_cell1 rfl]
          go_simp
        · exact HFIN.out _ _
/-- joined, in every form -/
theorem pjoined_any (G G2 : Nat → Prop) (g1 g2 : Rg) (a1 a2 : Option Addr) (c1 c2 : Nat) (w : World) (h1 : OwnL G w a1 g1.L.length c1 g1.L) (h2 : OwnL G2 w a2 g2.L.length c2 g2.L) (hd : ∀ x, G x → ¬ G2 x) (hG : ∀ x, G x → x < w.heap.size) (hG2 : ∀ x, G2 x → x < w.heap.size) (o1 : g1.L = [] ∨ g1.ok) (o2 : g2.ok) :
    Calls Try.prog 35 #[rgV g1.k a1 g1.L.length c1, rgV g2.k a2 g2.L.length c2] w fun e w' => ∃ a c, e = .returned (rgV (jnR g1 g2).k a (jnR g1 g2).L.length c) ∧ OwnL (fun x => G x ∨ G2 x ∨ w.heap.size ≤ x) w' a (jnR g1 g2).L.length c (jnR g1 g2).L ∧ Fr G w w' := by
  obtain ⟨k1, L⟩ := g1
  obtain ⟨k2, M⟩ := g2
  simp only at h1 h2 o1 o2
  unfold jnR
  simp only
  by_cases hL : L = []
  · subst hL
    simp only [if_true]
    refine (pjoinedA_any k1 k2 a1 a2 M.length c1 c2 w).mono ?_
    rintro e w' ⟨rfl, hb⟩
    exact ⟨a2, c2, rfl, (h2.below hb).mono (fun x _ h => .inr (.inl h)), Fr.of_below _ hb⟩
  · simp only [if_neg hL]
    have o1 := o1.resolve_left hL
    have s1 : sizeR L ≤ 65536 := o1.2.2.2
    have s2 : sizeR M ≤ 65536 := o2.2.2.2
    have hM : M ≠ [] := o2.2.2.1
    have q1 := size_count L
    have q2 := size_count M
    unfold sizeR at s1 s2
    by_cases hk : k1 = 0 ∧ k2 = 0
    · obtain ⟨rfl, rfl⟩ := hk
      refine (pjoinedB_any G G2 a1 a2 L.length M.length c1 c2 L M w h1 h2 hd hG hG2 s1 s2 hL hM).mono ?_
      rintro e w' ⟨a, c, rfl, ho, hf⟩
      have hj : joinR ⟨0, L⟩ ⟨0, M⟩ = ⟨0, L.dropLast ++ [L.getLastD [] ++ M.headD []] ++ M.tail⟩ := by unfold joinR; rw [if_pos ⟨rfl, rfl⟩]
      rw [hj]
      have hlen : (L.dropLast ++ [L.getLastD [] ++ M.headD []] ++ M.tail).length = L.length + (M.length - 1) := by
        have : 0 < L.length := List.length_pos_iff.2 hL
        simp
        omega
      refine ⟨a, c, ?_, ?_, hf⟩
      · simp only
        rw [hlen]
      · simp only
        rw [hlen]
        exact ho
    · have hn0 : 0 < L.length := List.length_pos_iff.2 hL
      refine (pjoinedC_any G G2 k1 k2 a1 a2 L.length M.length c1 c2 L M w h1 h2 hd hG hG2 hn0 (by omega) (by omega) hk).mono ?_
      rintro e w' ⟨a, c, rfl, ho, hf⟩
      have hj : joinR ⟨k1, L⟩ ⟨k2, M⟩ = ⟨1, L ++ M⟩ := by unfold joinR; rw [if_neg hk]
      rw [hj]
      refine ⟨a, c, ?_, ?_, hf⟩
      · simp only
        rw [List.length_append]
      · simp only
        rw [List.length_append]
        exact ho
end Go.Proofs.Ytleidcegbfnmkaa.U
