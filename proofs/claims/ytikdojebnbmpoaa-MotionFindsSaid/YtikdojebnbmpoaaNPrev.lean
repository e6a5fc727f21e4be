/-
  The program's next, prev, over each closure that they are given. (MADE by wip/tools/gen_next.py.)
-/
import Derived.Test.YtikdojebnbmpoaaNNext
namespace Go.Proofs.Ytikdojebnbmpoaa.U
open Go.RowKit Go.Shelf
set_option linter.unusedVariables false
set_option linter.unusedSimpArgs false
set_option maxRecDepth 100000
attribute [local go_sem] Oper.semAt_some

set_option maxHeartbeats 1000000 in
theorem prev_word (F : Nat → Prop) (a : Option Addr) (n c : Nat) (L : List (List Int)) (u v : Int) (cp : Pl) (f : Pl → Bool) (Lb Bb : Nat) (w : World) (hcp : clipP L u v = cp) (h : RdL F w a n c L) (hq : i64p ⟨u, v⟩)
    (his : ∀ (x : Pl) (W : World), okP L x → aheadP x cp = true → Below w.heap.size w W → Calls Try.prog 68 #[plV x, .pointer (some ⟨Lb, 0, none⟩), .pointer (some ⟨Bb, 0, none⟩)] W fun e W' => e = .returned (.bool (f x)) ∧ Below W.heap.size W W') :
    Calls Try.prog 67 #[.slice a n c, .agg #[.int .i64 u, .int .i64 v], .func (.func 68) #[] #[.pointer (some ⟨Lb, 0, none⟩), .pointer (some ⟨Bb, 0, none⟩)]] w fun e w' => e = .returned (plV (((befL L cp).find? f).getD ((0, 0)))) ∧ Below w.heap.size w w' := by
  have HC := Lib.hid (fun W => aheadC_any a n c u v W)
  have HIS : Hid (∀ (x : Pl) (W : World), x ∈ befL L cp → Below w.heap.size w W → Calls Try.prog 68 #[plV x, .pointer (some ⟨Lb, 0, none⟩), .pointer (some ⟨Bb, 0, none⟩)] W fun e W' => e = .returned (.bool (f x)) ∧ Below W.heap.size W W') := fun x W hx hW => his x W (bef_mem hx).1 (bef_mem hx).2 hW
  obtain ⟨dp, hdp⟩ : ∃ dp : Pl, ((0, 0) : Pl) = dp := ⟨_, rfl⟩
  skip
  rw [hdp]
  obtain ⟨us, hus⟩ : ∃ us, befL L cp = us := ⟨_, rfl⟩
  rw [hus] at HIS ⊢
  clear his
  have HH := Lib.hid h
  have HDP := Lib.hid hdp
  have HUS := Lib.hid hus
  have HCP := Lib.hid hcp
  have HQ := Lib.hid hq
  clear h hdp hus hcp hq
  refine (callsIn_wide (n := 5)).1 ?_
  refine callsIn_of_wp_marks Try.func67 rfl trivial ?_ rfl
  simp only [Try.ntmps67, List.size_toArray, List.length_cons, List.length_nil, Nat.reduceAdd, Nat.reduceSub, Array.replicate_succ, Array.replicate_zero, List.push_toArray, List.append_toArray, List.nil_append, List.cons_append]
  gi_wp2
  refine ⟨trivial, ?_⟩
  refine (callsIn_wide.2 (HC.out _)).mono ?_
  rintro e w2 ⟨rfl, rfl⟩
  gi_wp2
  obtain ⟨hsz, t2, t3, t4, t5, hB0⟩ := five w (.cells #[.int .i64 u, .int .i64 v] 24) (.cells #[.func (.func 68) #[] #[.pointer (some ⟨Lb, 0, none⟩), .pointer (some ⟨Bb, 0, none⟩)]] 69) (.cells #[.int .i64 0, .int .i64 0] 24) (.cells #[.slice a n c] 22) (.cells #[.int .i64 u, .int .i64 v] 24)
  obtain ⟨w1, hw1⟩ : ∃ w1, (((((w.alloc (.cells #[.int .i64 u, .int .i64 v] 24)).alloc (.cells #[.func (.func 68) #[] #[.pointer (some ⟨Lb, 0, none⟩), .pointer (some ⟨Bb, 0, none⟩)]] 69)).alloc (.cells #[.int .i64 0, .int .i64 0] 24)).alloc (.cells #[.slice a n c] 22)).alloc (.cells #[.int .i64 u, .int .i64 v] 24)) = w1 := ⟨_, rfl⟩
  rw [hw1] at hsz t2 t3 t4 t5 hB0 ⊢
  have bIs : w1.heap[w.heap.size + 1]? = some (.cells #[.func (.func 68) #[] #[.pointer (some ⟨Lb, 0, none⟩), .pointer (some ⟨Bb, 0, none⟩)]] 69 (0, 0)) := t2
  have bRes : At w1 (w.heap.size + 1 + 1) (0, 0) := t3
  have bL : w1.cell? ⟨w.heap.size + 1 + 1 + 1, 0, none⟩ = some (.slice a n c) := by rw [cell_row t4]; rfl
  obtain ⟨bP0, bP1, -, -⟩ := row2 t5
  obtain ⟨B1, e1⟩ : ∃ B, w.heap.size + 1 = B := ⟨_, rfl⟩
  rw [e1] at bIs bRes bL bP0 bP1 ⊢
  obtain ⟨B2, e2⟩ : ∃ B, B1 + 1 = B := ⟨_, rfl⟩
  rw [e2] at bRes bL bP0 bP1 ⊢
  obtain ⟨B3, e3⟩ : ∃ B, B2 + 1 = B := ⟨_, rfl⟩
  rw [e3] at bL bP0 bP1 ⊢
  obtain ⟨B4, e4⟩ : ∃ B, B3 + 1 = B := ⟨_, rfl⟩
  rw [e4] at bP0 bP1 ⊢
  clear hw1 t2 t3 t4 t5
  refine range_free (w := w1) rfl (by omega) (gf := 87) (lb := #[.pointer (some ⟨B3, 0, none⟩), .pointer (some ⟨B4, 0, none⟩)]) rfl trivial (enters_of Try.func87 (by kernel_rfl) rfl)
    (encs := fun x : Pl => #[plV x]) (us := us) (E := (· = B2)) (fun k e => by omega) (fun _ => rfl)
    (fun o => by rw [← HUS.out]; exact ahead_iter _ F a n c L u v cp HCP.out B3 B4 w _ HH.out HQ.out ((hB0.alloc (by omega) _).alloc (by simp; omega) _) _ (fun k e => by constructor; omega; simp; omega) ((((Below.refl w1.heap.size w1).alloc (Nat.le_refl _) _ |>.alloc (by simp) _).cell (p := ⟨B3, 0, none⟩) (by simp only; omega)).trans bL) ((((Below.refl w1.heap.size w1).alloc (Nat.le_refl _) _ |>.alloc (by simp) _).cell (p := ⟨B4, 0, none⟩) (by simp only; omega)).trans bP0) ((((Below.refl w1.heap.size w1).alloc (Nat.le_refl _) _ |>.alloc (by simp) _).cell (p := ⟨B4, 1, none⟩) (by simp only; omega)).trans bP1) (by omega) (by omega))
    (fun pre W => Hid (∀ y ∈ pre, f y = false) ∧ W.heap[B1]? = some (.cells #[.func (.func 68) #[] #[.pointer (some ⟨Lb, 0, none⟩), .pointer (some ⟨Bb, 0, none⟩)]] 69 (0, 0)) ∧ At W B2 (0, 0) ∧ Below w.heap.size w W)
    (fun j pre W => j = .ret ∧ At W B2 (((us).find? f).getD dp) ∧ Below w.heap.size w W)
    ?hI ?hIx ⟨by intro y hy; simp at hy, bIs, bRes, hB0⟩
    (fun pre x a' W => ∃ Bx, w1.heap.size < Bx ∧ At W Bx x ∧ (Hid (∀ y ∈ pre, f y = false) ∧ W.heap[B1]? = some (.cells #[.func (.func 68) #[] #[.pointer (some ⟨Lb, 0, none⟩), .pointer (some ⟨Bb, 0, none⟩)]] 69 (0, 0)) ∧ At W B2 (0, 0) ∧ Below w.heap.size w W) ∧
      a' = { tmps := #[.slice a n c, .agg #[.int .i64 u, .int .i64 v], .func (.func 68) #[] #[.pointer (some ⟨Lb, 0, none⟩), .pointer (some ⟨Bb, 0, none⟩)], undef, .pointer (some ⟨w.heap.size, 0, none⟩), .pointer (some ⟨B1, 0, none⟩), .pointer (some ⟨B2, 0, none⟩), .pointer (some ⟨Bx, 0, none⟩), .slice a n c, .agg #[.int .i64 u, .int .i64 v],
        .func (.func 87) #[] #[.pointer (some ⟨B3, 0, none⟩), .pointer (some ⟨B4, 0, none⟩)], plV x, undef, undef, undef, undef, undef], defers := [] })
    ?hAx ?assign ?body ?done ?stop
  case hI =>
    rintro s W W' ⟨h0, h1, h2, h5⟩ hb
    exact ⟨h0, (hb.block _ (by omega)).trans h1, h2.keep (hb.block _ (by omega)), h5.trans (hb.mono (by omega))⟩
  case hIx =>
    rintro j s W W' ⟨h0, h2, h5⟩ hb
    exact ⟨h0, h2.keep (hb.block _ (by omega)), h5.trans (hb.mono (by omega))⟩
  case hAx =>
    rintro pre x a' W W' ⟨Bx, hx, hu, ⟨h0, h1, h2, h5⟩, rfl⟩ hb hk
    exact ⟨Bx, hx, hu.keep (hk _ _ _ _ hu), ⟨h0, (hk _ _ _ _ h1).trans h1, h2.keep (hk _ _ _ _ h2), h5.trans (hb.below h5.size (fun k hk e => by omega))⟩, rfl⟩
  case assign =>
    rintro l pre x W K hlt ⟨h0, h1, h2, h5⟩ hpre hK
    obtain ⟨x1, x2⟩ := x
    unfold plV at hK ⊢
    gi_wp2
    have hx := heap_alloc_new W (.cells #[.int .i64 (x1 : Nat), .int .i64 (x2 : Nat)] 24)
    refine hK _ _ ?_ ⟨W.heap.size, by omega, hx, ⟨h0, (Below.heap_alloc _ _ _ (Array.getElem?_eq_some_iff.1 h1).1).trans h1, h2.keep (Below.heap_alloc _ _ _ h2.lt), h5.alloc h5.size _⟩, rfl⟩
    exact (But.refl _ _ W).alloc (Nat.le_refl _) _
  case body =>
    rintro l pre x a' W hlt ⟨Bx, hx, hu, ⟨h0, h1, h2, h5⟩, rfl⟩ hpre
    have hmem : x ∈ us := hpre.subset (by simp)
    have HP := Lib.hid hpre
    have hcl := HIS.out x W hmem h5
    obtain ⟨x1, x2⟩ := x
    obtain ⟨u0, u1, -, -⟩ := row2 hu
    simp only at u0 u1
    have c1 : W.cell? ⟨B1, 0, none⟩ = some (.func (.func 68) #[] #[.pointer (some ⟨Lb, 0, none⟩), .pointer (some ⟨Bb, 0, none⟩)]) := by rw [cell_row h1]; rfl
    have H0 := Lib.hid h0
    have H1 := Lib.hid h1
    have H2 := Lib.hid h2
    have H5 := Lib.hid h5
    have HU := Lib.hid hu
    have HCL := Lib.hid hcl
    clear h0 h1 h2 h5 hu hcl hpre hmem
    unfold plV at HCL ⊢
    gi_wp2_with fail
    refine ⟨trivial, ?_⟩
    refine (callsIn_wide.2 HCL.out).mono ?_
    rintro e W2 ⟨rfl, hb2⟩
    have hb2w : Below w.heap.size w W2 := btrW H5.out hb2
    have h12 := (hb2.block _ (Array.getElem?_eq_some_iff.1 H1.out).1).trans H1.out
    have h22 := H2.out.keep (hb2.block _ H2.out.lt)
    have hu2 := HU.out.keep (hb2.block _ HU.out.lt)
    obtain ⟨d0, d1, -, -⟩ := row2 hu2
    obtain ⟨r0, r1, f0, f1⟩ := row2 h22
    simp only [show ((0 : Nat) : Int) = 0 from rfl] at d0 d1 r0 r1
    cases hf : f (x1, x2) with
    | true =>
      have HR : Hid (((us).find? f).getD dp = (x1, x2)) := by
        show _ = _
        rw [find_none_pre HP.out H0.out hf]; rfl
      have HB2 := Lib.hid hb2
      have HB3 := Lib.hid hb2w
      have H22 := Lib.hid h22
      clear hf h12 h22 hu2 hb2 hb2w
      gi_wp2_with fail
      refine ⟨?_, rfl, ?_, ?_⟩
      · exact ((But.of_below HB2.out).setE (E := fun x => x = B2) B2 0 rfl _).setE (E := fun x => x = B2) B2 1 rfl _
      · rw [HR.out]; exact heap_set (heap_set H22.out 0 _) 1 _
      · exact setCell_below (setCell_below HB3.out _ _ _ (by omega)) _ _ _ (by omega)
    | false =>
      have HF : Hid (∀ y ∈ pre ++ [(x1, x2)], f y = false) := by
        intro y hy
        rcases List.mem_append.1 hy with hy | hy
        · exact H0.out y hy
        · simp only [List.mem_singleton] at hy; subst hy; exact hf
      have HB2 := Lib.hid hb2
      have HB3 := Lib.hid hb2w
      have H12 := Lib.hid h12
      have H22 := Lib.hid h22
      clear hf h12 h22 hu2 hb2 hb2w
      gi_wp2_with fail
      exact ⟨But.of_below HB2.out, HF, H12.out, H22.out, HB3.out⟩
  case done =>
    rintro W ⟨h0, h1, h2, h5⟩ hK
    have hq1 : ¬ w1.heap.size = B2 := by omega
    have hq2 : ¬ B2 = w1.heap.size := by omega
    have hq3 : w.heap.size ≤ B2 := by omega
    have hq4 : w.heap.size ≤ w1.heap.size := by omega
    clear hsz bIs bRes bL bP0 bP1
    have HNO : Hid (((us).find? f).getD dp = dp) := by
      show _ = _
      rw [List.find?_eq_none.2 (fun y hy => by simp [h0.out y hy])]; rfl
    have HRES := Lib.hid h2
    have H5 := Lib.hid h5
    have HD := Lib.hid hK
    clear h0 h1 h2 h5 hK
    have hat2 := HRES.out
    obtain ⟨b0, b1, f0, f1⟩ := row2 hat2
    simp only [show ((0 : Nat) : Int) = 0 from rfl] at b0 b1
    have hD2 : W.heap[w1.heap.size]? = some (.deferred (some [])) := HD.out
    have hB2 := H5.out
    obtain ⟨d1, d2⟩ := dp
    try unfold plV
    have HB2 := Lib.hid hB2
    have HD2 := Lib.hid hD2
    have HAT := Lib.hid hat2
    clear hB2 hD2 hat2
    gi_wp2_with fail
    obtain ⟨W3, hW3⟩ : ∃ W3, (W.setCell ⟨B2, 0, none⟩ (.int .i64 0)).setCell ⟨B2, 1, none⟩ (.int .i64 0) = W3 := ⟨_, rfl⟩
    have ha3 : At W3 B2 (0, 0) := by rw [← hW3]; exact heap_set (heap_set HAT.out 0 _) 1 _
    have hD3 : W3.heap[w1.heap.size]? = some (.deferred (some [])) := by
      rw [← hW3]
      exact ((Below.heap_setCell _ _ _ _ (by first | exact hq1 | exact hq2)).trans (Below.heap_setCell _ _ _ _ (by first | exact hq1 | exact hq2))).trans HD2.out
    have hb3 : Below w.heap.size w W3 := by rw [← hW3]; exact setCell_below (setCell_below HB2.out _ _ _ (by omega)) _ _ _ (by omega)
    rw [hW3]
    refine ⟨by simp, .inl ⟨_, _, rfl, run_takeDeferred hD3, ?_⟩⟩
    have k1 : At (W3.putObj w1.heap.size (.deferred none)) B2 (0, 0) := (World.putObj_heap_other (by first | exact hq1 | exact hq2)).trans ha3
    obtain ⟨l1, l2, -, -⟩ := row2 k1
    refine ⟨plV (0, 0), ?_, by rw [HNO.out]; rw [← HDP.out], hb3.grown (grownBy_putObj' W3 _ _) hb3.size (fun k e => by cases e; omega)⟩
    rw [results_cell1 rfl]
    clear k1
    generalize W3.putObj w1.heap.size (.deferred none) = W4 at l1 l2 ⊢
    go_simp
    rfl
  case stop =>
    rintro j pre W hpre ⟨rfl, h1, h5⟩ hK
    gi_wp2
    refine ⟨by simp, .inl ⟨_, _, rfl, run_takeDeferred hK, ?_⟩⟩
    have k1 : At (W.putObj w1.heap.size (.deferred none)) B2 ((us.find? f).getD dp) := (World.putObj_heap_other (by omega)).trans h1
    obtain ⟨l1, l2, -, -⟩ := row2 k1
    refine ⟨plV ((us.find? f).getD dp), ?_, rfl, h5.grown (grownBy_putObj' W _ _) h5.size (fun k e => by cases e; omega)⟩
    obtain ⟨⟨y1, y2⟩, hy⟩ : ∃ y, (us.find? f).getD dp = y := ⟨_, rfl⟩
    rw [hy] at l1 l2 ⊢
    simp only at l1 l2
    rw [results_cell1 rfl]
    clear k1
    generalize W.putObj w1.heap.size (.deferred none) = W3 at l1 l2 ⊢
    go_simp
    rfl
set_option maxHeartbeats 1000000 in
theorem prev_para (F : Nat → Prop) (a : Option Addr) (n c : Nat) (L : List (List Int)) (u v : Int) (cp : Pl) (f : Pl → Bool) (Lb : Nat) (w : World) (hcp : clipP L u v = cp) (h : RdL F w a n c L) (hq : i64p ⟨u, v⟩)
    (his : ∀ (x : Pl) (W : World), okP L x → aheadP x cp = true → Below w.heap.size w W → Calls Try.prog 74 #[plV x, .pointer (some ⟨Lb, 0, none⟩)] W fun e W' => e = .returned (.bool (f x)) ∧ Below W.heap.size W W') :
    Calls Try.prog 67 #[.slice a n c, .agg #[.int .i64 u, .int .i64 v], .func (.func 74) #[] #[.pointer (some ⟨Lb, 0, none⟩)]] w fun e w' => e = .returned (plV (((befL L cp).find? f).getD ((0, 0)))) ∧ Below w.heap.size w w' := by
  have HC := Lib.hid (fun W => aheadC_any a n c u v W)
  have HIS : Hid (∀ (x : Pl) (W : World), x ∈ befL L cp → Below w.heap.size w W → Calls Try.prog 74 #[plV x, .pointer (some ⟨Lb, 0, none⟩)] W fun e W' => e = .returned (.bool (f x)) ∧ Below W.heap.size W W') := fun x W hx hW => his x W (bef_mem hx).1 (bef_mem hx).2 hW
  obtain ⟨dp, hdp⟩ : ∃ dp : Pl, ((0, 0) : Pl) = dp := ⟨_, rfl⟩
  skip
  rw [hdp]
  obtain ⟨us, hus⟩ : ∃ us, befL L cp = us := ⟨_, rfl⟩
  rw [hus] at HIS ⊢
  clear his
  have HH := Lib.hid h
  have HDP := Lib.hid hdp
  have HUS := Lib.hid hus
  have HCP := Lib.hid hcp
  have HQ := Lib.hid hq
  clear h hdp hus hcp hq
  refine (callsIn_wide (n := 5)).1 ?_
  refine callsIn_of_wp_marks Try.func67 rfl trivial ?_ rfl
  simp only [Try.ntmps67, List.size_toArray, List.length_cons, List.length_nil, Nat.reduceAdd, Nat.reduceSub, Array.replicate_succ, Array.replicate_zero, List.push_toArray, List.append_toArray, List.nil_append, List.cons_append]
  gi_wp2
  refine ⟨trivial, ?_⟩
  refine (callsIn_wide.2 (HC.out _)).mono ?_
  rintro e w2 ⟨rfl, rfl⟩
  gi_wp2
  obtain ⟨hsz, t2, t3, t4, t5, hB0⟩ := five w (.cells #[.int .i64 u, .int .i64 v] 24) (.cells #[.func (.func 74) #[] #[.pointer (some ⟨Lb, 0, none⟩)]] 69) (.cells #[.int .i64 0, .int .i64 0] 24) (.cells #[.slice a n c] 22) (.cells #[.int .i64 u, .int .i64 v] 24)
  obtain ⟨w1, hw1⟩ : ∃ w1, (((((w.alloc (.cells #[.int .i64 u, .int .i64 v] 24)).alloc (.cells #[.func (.func 74) #[] #[.pointer (some ⟨Lb, 0, none⟩)]] 69)).alloc (.cells #[.int .i64 0, .int .i64 0] 24)).alloc (.cells #[.slice a n c] 22)).alloc (.cells #[.int .i64 u, .int .i64 v] 24)) = w1 := ⟨_, rfl⟩
  rw [hw1] at hsz t2 t3 t4 t5 hB0 ⊢
  have bIs : w1.heap[w.heap.size + 1]? = some (.cells #[.func (.func 74) #[] #[.pointer (some ⟨Lb, 0, none⟩)]] 69 (0, 0)) := t2
  have bRes : At w1 (w.heap.size + 1 + 1) (0, 0) := t3
  have bL : w1.cell? ⟨w.heap.size + 1 + 1 + 1, 0, none⟩ = some (.slice a n c) := by rw [cell_row t4]; rfl
  obtain ⟨bP0, bP1, -, -⟩ := row2 t5
  obtain ⟨B1, e1⟩ : ∃ B, w.heap.size + 1 = B := ⟨_, rfl⟩
  rw [e1] at bIs bRes bL bP0 bP1 ⊢
  obtain ⟨B2, e2⟩ : ∃ B, B1 + 1 = B := ⟨_, rfl⟩
  rw [e2] at bRes bL bP0 bP1 ⊢
  obtain ⟨B3, e3⟩ : ∃ B, B2 + 1 = B := ⟨_, rfl⟩
  rw [e3] at bL bP0 bP1 ⊢
  obtain ⟨B4, e4⟩ : ∃ B, B3 + 1 = B := ⟨_, rfl⟩
  rw [e4] at bP0 bP1 ⊢
  clear hw1 t2 t3 t4 t5
  refine range_free (w := w1) rfl (by omega) (gf := 87) (lb := #[.pointer (some ⟨B3, 0, none⟩), .pointer (some ⟨B4, 0, none⟩)]) rfl trivial (enters_of Try.func87 (by kernel_rfl) rfl)
    (encs := fun x : Pl => #[plV x]) (us := us) (E := (· = B2)) (fun k e => by omega) (fun _ => rfl)
    (fun o => by rw [← HUS.out]; exact ahead_iter _ F a n c L u v cp HCP.out B3 B4 w _ HH.out HQ.out ((hB0.alloc (by omega) _).alloc (by simp; omega) _) _ (fun k e => by constructor; omega; simp; omega) ((((Below.refl w1.heap.size w1).alloc (Nat.le_refl _) _ |>.alloc (by simp) _).cell (p := ⟨B3, 0, none⟩) (by simp only; omega)).trans bL) ((((Below.refl w1.heap.size w1).alloc (Nat.le_refl _) _ |>.alloc (by simp) _).cell (p := ⟨B4, 0, none⟩) (by simp only; omega)).trans bP0) ((((Below.refl w1.heap.size w1).alloc (Nat.le_refl _) _ |>.alloc (by simp) _).cell (p := ⟨B4, 1, none⟩) (by simp only; omega)).trans bP1) (by omega) (by omega))
    (fun pre W => Hid (∀ y ∈ pre, f y = false) ∧ W.heap[B1]? = some (.cells #[.func (.func 74) #[] #[.pointer (some ⟨Lb, 0, none⟩)]] 69 (0, 0)) ∧ At W B2 (0, 0) ∧ Below w.heap.size w W)
    (fun j pre W => j = .ret ∧ At W B2 (((us).find? f).getD dp) ∧ Below w.heap.size w W)
    ?hI ?hIx ⟨by intro y hy; simp at hy, bIs, bRes, hB0⟩
    (fun pre x a' W => ∃ Bx, w1.heap.size < Bx ∧ At W Bx x ∧ (Hid (∀ y ∈ pre, f y = false) ∧ W.heap[B1]? = some (.cells #[.func (.func 74) #[] #[.pointer (some ⟨Lb, 0, none⟩)]] 69 (0, 0)) ∧ At W B2 (0, 0) ∧ Below w.heap.size w W) ∧
      a' = { tmps := #[.slice a n c, .agg #[.int .i64 u, .int .i64 v], .func (.func 74) #[] #[.pointer (some ⟨Lb, 0, none⟩)], undef, .pointer (some ⟨w.heap.size, 0, none⟩), .pointer (some ⟨B1, 0, none⟩), .pointer (some ⟨B2, 0, none⟩), .pointer (some ⟨Bx, 0, none⟩), .slice a n c, .agg #[.int .i64 u, .int .i64 v],
        .func (.func 87) #[] #[.pointer (some ⟨B3, 0, none⟩), .pointer (some ⟨B4, 0, none⟩)], plV x, undef, undef, undef, undef, undef], defers := [] })
    ?hAx ?assign ?body ?done ?stop
  case hI =>
    rintro s W W' ⟨h0, h1, h2, h5⟩ hb
    exact ⟨h0, (hb.block _ (by omega)).trans h1, h2.keep (hb.block _ (by omega)), h5.trans (hb.mono (by omega))⟩
  case hIx =>
    rintro j s W W' ⟨h0, h2, h5⟩ hb
    exact ⟨h0, h2.keep (hb.block _ (by omega)), h5.trans (hb.mono (by omega))⟩
  case hAx =>
    rintro pre x a' W W' ⟨Bx, hx, hu, ⟨h0, h1, h2, h5⟩, rfl⟩ hb hk
    exact ⟨Bx, hx, hu.keep (hk _ _ _ _ hu), ⟨h0, (hk _ _ _ _ h1).trans h1, h2.keep (hk _ _ _ _ h2), h5.trans (hb.below h5.size (fun k hk e => by omega))⟩, rfl⟩
  case assign =>
    rintro l pre x W K hlt ⟨h0, h1, h2, h5⟩ hpre hK
    obtain ⟨x1, x2⟩ := x
    unfold plV at hK ⊢
    gi_wp2
    have hx := heap_alloc_new W (.cells #[.int .i64 (x1 : Nat), .int .i64 (x2 : Nat)] 24)
    refine hK _ _ ?_ ⟨W.heap.size, by omega, hx, ⟨h0, (Below.heap_alloc _ _ _ (Array.getElem?_eq_some_iff.1 h1).1).trans h1, h2.keep (Below.heap_alloc _ _ _ h2.lt), h5.alloc h5.size _⟩, rfl⟩
    exact (But.refl _ _ W).alloc (Nat.le_refl _) _
  case body =>
    rintro l pre x a' W hlt ⟨Bx, hx, hu, ⟨h0, h1, h2, h5⟩, rfl⟩ hpre
    have hmem : x ∈ us := hpre.subset (by simp)
    have HP := Lib.hid hpre
    have hcl := HIS.out x W hmem h5
    obtain ⟨x1, x2⟩ := x
    obtain ⟨u0, u1, -, -⟩ := row2 hu
    simp only at u0 u1
    have c1 : W.cell? ⟨B1, 0, none⟩ = some (.func (.func 74) #[] #[.pointer (some ⟨Lb, 0, none⟩)]) := by rw [cell_row h1]; rfl
    have H0 := Lib.hid h0
    have H1 := Lib.hid h1
    have H2 := Lib.hid h2
    have H5 := Lib.hid h5
    have HU := Lib.hid hu
    have HCL := Lib.hid hcl
    clear h0 h1 h2 h5 hu hcl hpre hmem
    unfold plV at HCL ⊢
    gi_wp2_with fail
    refine ⟨trivial, ?_⟩
    refine (callsIn_wide.2 HCL.out).mono ?_
    rintro e W2 ⟨rfl, hb2⟩
    have hb2w : Below w.heap.size w W2 := btrW H5.out hb2
    have h12 := (hb2.block _ (Array.getElem?_eq_some_iff.1 H1.out).1).trans H1.out
    have h22 := H2.out.keep (hb2.block _ H2.out.lt)
    have hu2 := HU.out.keep (hb2.block _ HU.out.lt)
    obtain ⟨d0, d1, -, -⟩ := row2 hu2
    obtain ⟨r0, r1, f0, f1⟩ := row2 h22
    simp only [show ((0 : Nat) : Int) = 0 from rfl] at d0 d1 r0 r1
    cases hf : f (x1, x2) with
    | true =>
      have HR : Hid (((us).find? f).getD dp = (x1, x2)) := by
        show _ = _
        rw [find_none_pre HP.out H0.out hf]; rfl
      have HB2 := Lib.hid hb2
      have HB3 := Lib.hid hb2w
      have H22 := Lib.hid h22
      clear hf h12 h22 hu2 hb2 hb2w
      gi_wp2_with fail
      refine ⟨?_, rfl, ?_, ?_⟩
      · exact ((But.of_below HB2.out).setE (E := fun x => x = B2) B2 0 rfl _).setE (E := fun x => x = B2) B2 1 rfl _
      · rw [HR.out]; exact heap_set (heap_set H22.out 0 _) 1 _
      · exact setCell_below (setCell_below HB3.out _ _ _ (by omega)) _ _ _ (by omega)
    | false =>
      have HF : Hid (∀ y ∈ pre ++ [(x1, x2)], f y = false) := by
        intro y hy
        rcases List.mem_append.1 hy with hy | hy
        · exact H0.out y hy
        · simp only [List.mem_singleton] at hy; subst hy; exact hf
      have HB2 := Lib.hid hb2
      have HB3 := Lib.hid hb2w
      have H12 := Lib.hid h12
      have H22 := Lib.hid h22
      clear hf h12 h22 hu2 hb2 hb2w
      gi_wp2_with fail
      exact ⟨But.of_below HB2.out, HF, H12.out, H22.out, HB3.out⟩
  case done =>
    rintro W ⟨h0, h1, h2, h5⟩ hK
    have hq1 : ¬ w1.heap.size = B2 := by omega
    have hq2 : ¬ B2 = w1.heap.size := by omega
    have hq3 : w.heap.size ≤ B2 := by omega
    have hq4 : w.heap.size ≤ w1.heap.size := by omega
    clear hsz bIs bRes bL bP0 bP1
    have HNO : Hid (((us).find? f).getD dp = dp) := by
      show _ = _
      rw [List.find?_eq_none.2 (fun y hy => by simp [h0.out y hy])]; rfl
    have HRES := Lib.hid h2
    have H5 := Lib.hid h5
    have HD := Lib.hid hK
    clear h0 h1 h2 h5 hK
    have hat2 := HRES.out
    obtain ⟨b0, b1, f0, f1⟩ := row2 hat2
    simp only [show ((0 : Nat) : Int) = 0 from rfl] at b0 b1
    have hD2 : W.heap[w1.heap.size]? = some (.deferred (some [])) := HD.out
    have hB2 := H5.out
    obtain ⟨d1, d2⟩ := dp
    try unfold plV
    have HB2 := Lib.hid hB2
    have HD2 := Lib.hid hD2
    have HAT := Lib.hid hat2
    clear hB2 hD2 hat2
    gi_wp2_with fail
    obtain ⟨W3, hW3⟩ : ∃ W3, (W.setCell ⟨B2, 0, none⟩ (.int .i64 0)).setCell ⟨B2, 1, none⟩ (.int .i64 0) = W3 := ⟨_, rfl⟩
    have ha3 : At W3 B2 (0, 0) := by rw [← hW3]; exact heap_set (heap_set HAT.out 0 _) 1 _
    have hD3 : W3.heap[w1.heap.size]? = some (.deferred (some [])) := by
      rw [← hW3]
      exact ((Below.heap_setCell _ _ _ _ (by first | exact hq1 | exact hq2)).trans (Below.heap_setCell _ _ _ _ (by first | exact hq1 | exact hq2))).trans HD2.out
    have hb3 : Below w.heap.size w W3 := by rw [← hW3]; exact setCell_below (setCell_below HB2.out _ _ _ (by omega)) _ _ _ (by omega)
    rw [hW3]
    refine ⟨by simp, .inl ⟨_, _, rfl, run_takeDeferred hD3, ?_⟩⟩
    have k1 : At (W3.putObj w1.heap.size (.deferred none)) B2 (0, 0) := (World.putObj_heap_other (by first | exact hq1 | exact hq2)).trans ha3
    obtain ⟨l1, l2, -, -⟩ := row2 k1
    refine ⟨plV (0, 0), ?_, by rw [HNO.out]; rw [← HDP.out], hb3.grown (grownBy_putObj' W3 _ _) hb3.size (fun k e => by cases e; omega)⟩
    rw [results_cell1 rfl]
    clear k1
    generalize W3.putObj w1.heap.size (.deferred none) = W4 at l1 l2 ⊢
    go_simp
    rfl
  case stop =>
    rintro j pre W hpre ⟨rfl, h1, h5⟩ hK
    gi_wp2
    refine ⟨by simp, .inl ⟨_, _, rfl, run_takeDeferred hK, ?_⟩⟩
    have k1 : At (W.putObj w1.heap.size (.deferred none)) B2 ((us.find? f).getD dp) := (World.putObj_heap_other (by omega)).trans h1
    obtain ⟨l1, l2, -, -⟩ := row2 k1
    refine ⟨plV ((us.find? f).getD dp), ?_, rfl, h5.grown (grownBy_putObj' W _ _) h5.size (fun k e => by cases e; omega)⟩
    obtain ⟨⟨y1, y2⟩, hy⟩ : ∃ y, (us.find? f).getD dp = y := ⟨_, rfl⟩
    rw [hy] at l1 l2 ⊢
    simp only at l1 l2
    rw [results_cell1 rfl]
    clear k1
    generalize W.putObj w1.heap.size (.deferred none) = W3 at l1 l2 ⊢
    go_simp
    rfl
set_option maxHeartbeats 1000000 in
theorem prev_sent (F : Nat → Prop) (a : Option Addr) (n c : Nat) (L : List (List Int)) (u v : Int) (cp : Pl) (f : Pl → Bool) (Lb : Nat) (w : World) (hcp : clipP L u v = cp) (h : RdL F w a n c L) (hq : i64p ⟨u, v⟩)
    (his : ∀ (x : Pl) (W : World), okP L x → aheadP x cp = true → Below w.heap.size w W → Calls Try.prog 77 #[plV x, .pointer (some ⟨Lb, 0, none⟩)] W fun e W' => e = .returned (.bool (f x)) ∧ Below W.heap.size W W') :
    Calls Try.prog 67 #[.slice a n c, .agg #[.int .i64 u, .int .i64 v], .func (.func 77) #[] #[.pointer (some ⟨Lb, 0, none⟩)]] w fun e w' => e = .returned (plV (((befL L cp).find? f).getD ((0, 0)))) ∧ Below w.heap.size w w' := by
  have HC := Lib.hid (fun W => aheadC_any a n c u v W)
  have HIS : Hid (∀ (x : Pl) (W : World), x ∈ befL L cp → Below w.heap.size w W → Calls Try.prog 77 #[plV x, .pointer (some ⟨Lb, 0, none⟩)] W fun e W' => e = .returned (.bool (f x)) ∧ Below W.heap.size W W') := fun x W hx hW => his x W (bef_mem hx).1 (bef_mem hx).2 hW
  obtain ⟨dp, hdp⟩ : ∃ dp : Pl, ((0, 0) : Pl) = dp := ⟨_, rfl⟩
  skip
  rw [hdp]
  obtain ⟨us, hus⟩ : ∃ us, befL L cp = us := ⟨_, rfl⟩
  rw [hus] at HIS ⊢
  clear his
  have HH := Lib.hid h
  have HDP := Lib.hid hdp
  have HUS := Lib.hid hus
  have HCP := Lib.hid hcp
  have HQ := Lib.hid hq
  clear h hdp hus hcp hq
  refine (callsIn_wide (n := 5)).1 ?_
  refine callsIn_of_wp_marks Try.func67 rfl trivial ?_ rfl
  simp only [Try.ntmps67, List.size_toArray, List.length_cons, List.length_nil, Nat.reduceAdd, Nat.reduceSub, Array.replicate_succ, Array.replicate_zero, List.push_toArray, List.append_toArray, List.nil_append, List.cons_append]
  gi_wp2
  refine ⟨trivial, ?_⟩
  refine (callsIn_wide.2 (HC.out _)).mono ?_
  rintro e w2 ⟨rfl, rfl⟩
  gi_wp2
  obtain ⟨hsz, t2, t3, t4, t5, hB0⟩ := five w (.cells #[.int .i64 u, .int .i64 v] 24) (.cells #[.func (.func 77) #[] #[.pointer (some ⟨Lb, 0, none⟩)]] 69) (.cells #[.int .i64 0, .int .i64 0] 24) (.cells #[.slice a n c] 22) (.cells #[.int .i64 u, .int .i64 v] 24)
  obtain ⟨w1, hw1⟩ : ∃ w1, (((((w.alloc (.cells #[.int .i64 u, .int .i64 v] 24)).alloc (.cells #[.func (.func 77) #[] #[.pointer (some ⟨Lb, 0, none⟩)]] 69)).alloc (.cells #[.int .i64 0, .int .i64 0] 24)).alloc (.cells #[.slice a n c] 22)).alloc (.cells #[.int .i64 u, .int .i64 v] 24)) = w1 := ⟨_, rfl⟩
  rw [hw1] at hsz t2 t3 t4 t5 hB0 ⊢
  have bIs : w1.heap[w.heap.size + 1]? = some (.cells #[.func (.func 77) #[] #[.pointer (some ⟨Lb, 0, none⟩)]] 69 (0, 0)) := t2
  have bRes : At w1 (w.heap.size + 1 + 1) (0, 0) := t3
  have bL : w1.cell? ⟨w.heap.size + 1 + 1 + 1, 0, none⟩ = some (.slice a n c) := by rw [cell_row t4]; rfl
  obtain ⟨bP0, bP1, -, -⟩ := row2 t5
  obtain ⟨B1, e1⟩ : ∃ B, w.heap.size + 1 = B := ⟨_, rfl⟩
  rw [e1] at bIs bRes bL bP0 bP1 ⊢
  obtain ⟨B2, e2⟩ : ∃ B, B1 + 1 = B := ⟨_, rfl⟩
  rw [e2] at bRes bL bP0 bP1 ⊢
  obtain ⟨B3, e3⟩ : ∃ B, B2 + 1 = B := ⟨_, rfl⟩
  rw [e3] at bL bP0 bP1 ⊢
  obtain ⟨B4, e4⟩ : ∃ B, B3 + 1 = B := ⟨_, rfl⟩
  rw [e4] at bP0 bP1 ⊢
  clear hw1 t2 t3 t4 t5
  refine range_free (w := w1) rfl (by omega) (gf := 87) (lb := #[.pointer (some ⟨B3, 0, none⟩), .pointer (some ⟨B4, 0, none⟩)]) rfl trivial (enters_of Try.func87 (by kernel_rfl) rfl)
    (encs := fun x : Pl => #[plV x]) (us := us) (E := (· = B2)) (fun k e => by omega) (fun _ => rfl)
    (fun o => by rw [← HUS.out]; exact ahead_iter _ F a n c L u v cp HCP.out B3 B4 w _ HH.out HQ.out ((hB0.alloc (by omega) _).alloc (by simp; omega) _) _ (fun k e => by constructor; omega; simp; omega) ((((Below.refl w1.heap.size w1).alloc (Nat.le_refl _) _ |>.alloc (by simp) _).cell (p := ⟨B3, 0, none⟩) (by simp only; omega)).trans bL) ((((Below.refl w1.heap.size w1).alloc (Nat.le_refl _) _ |>.alloc (by simp) _).cell (p := ⟨B4, 0, none⟩) (by simp only; omega)).trans bP0) ((((Below.refl w1.heap.size w1).alloc (Nat.le_refl _) _ |>.alloc (by simp) _).cell (p := ⟨B4, 1, none⟩) (by simp only; omega)).trans bP1) (by omega) (by omega))
    (fun pre W => Hid (∀ y ∈ pre, f y = false) ∧ W.heap[B1]? = some (.cells #[.func (.func 77) #[] #[.pointer (some ⟨Lb, 0, none⟩)]] 69 (0, 0)) ∧ At W B2 (0, 0) ∧ Below w.heap.size w W)
    (fun j pre W => j = .ret ∧ At W B2 (((us).find? f).getD dp) ∧ Below w.heap.size w W)
    ?hI ?hIx ⟨by intro y hy; simp at hy, bIs, bRes, hB0⟩
    (fun pre x a' W => ∃ Bx, w1.heap.size < Bx ∧ At W Bx x ∧ (Hid (∀ y ∈ pre, f y = false) ∧ W.heap[B1]? = some (.cells #[.func (.func 77) #[] #[.pointer (some ⟨Lb, 0, none⟩)]] 69 (0, 0)) ∧ At W B2 (0, 0) ∧ Below w.heap.size w W) ∧
      a' = { tmps := #[.slice a n c, .agg #[.int .i64 u, .int .i64 v], .func (.func 77) #[] #[.pointer (some ⟨Lb, 0, none⟩)], undef, .pointer (some ⟨w.heap.size, 0, none⟩), .pointer (some ⟨B1, 0, none⟩), .pointer (some ⟨B2, 0, none⟩), .pointer (some ⟨Bx, 0, none⟩), .slice a n c, .agg #[.int .i64 u, .int .i64 v],
        .func (.func 87) #[] #[.pointer (some ⟨B3, 0, none⟩), .pointer (some ⟨B4, 0, none⟩)], plV x, undef, undef, undef, undef, undef], defers := [] })
    ?hAx ?assign ?body ?done ?stop
  case hI =>
    rintro s W W' ⟨h0, h1, h2, h5⟩ hb
    exact ⟨h0, (hb.block _ (by omega)).trans h1, h2.keep (hb.block _ (by omega)), h5.trans (hb.mono (by omega))⟩
  case hIx =>
    rintro j s W W' ⟨h0, h2, h5⟩ hb
    exact ⟨h0, h2.keep (hb.block _ (by omega)), h5.trans (hb.mono (by omega))⟩
  case hAx =>
    rintro pre x a' W W' ⟨Bx, hx, hu, ⟨h0, h1, h2, h5⟩, rfl⟩ hb hk
    exact ⟨Bx, hx, hu.keep (hk _ _ _ _ hu), ⟨h0, (hk _ _ _ _ h1).trans h1, h2.keep (hk _ _ _ _ h2), h5.trans (hb.below h5.size (fun k hk e => by omega))⟩, rfl⟩
  case assign =>
    rintro l pre x W K hlt ⟨h0, h1, h2, h5⟩ hpre hK
    obtain ⟨x1, x2⟩ := x
    unfold plV at hK ⊢
    gi_wp2
    have hx := heap_alloc_new W (.cells #[.int .i64 (x1 : Nat), .int .i64 (x2 : Nat)] 24)
    refine hK _ _ ?_ ⟨W.heap.size, by omega, hx, ⟨h0, (Below.heap_alloc _ _ _ (Array.getElem?_eq_some_iff.1 h1).1).trans h1, h2.keep (Below.heap_alloc _ _ _ h2.lt), h5.alloc h5.size _⟩, rfl⟩
    exact (But.refl _ _ W).alloc (Nat.le_refl _) _
  case body =>
    rintro l pre x a' W hlt ⟨Bx, hx, hu, ⟨h0, h1, h2, h5⟩, rfl⟩ hpre
    have hmem : x ∈ us := hpre.subset (by simp)
    have HP := Lib.hid hpre
    have hcl := HIS.out x W hmem h5
    obtain ⟨x1, x2⟩ := x
    obtain ⟨u0, u1, -, -⟩ := row2 hu
    simp only at u0 u1
    have c1 : W.cell? ⟨B1, 0, none⟩ = some (.func (.func 77) #[] #[.pointer (some ⟨Lb, 0, none⟩)]) := by rw [cell_row h1]; rfl
    have H0 := Lib.hid h0
    have H1 := Lib.hid h1
    have H2 := Lib.hid h2
    have H5 := Lib.hid h5
    have HU := Lib.hid hu
    have HCL := Lib.hid hcl
    clear h0 h1 h2 h5 hu hcl hpre hmem
    unfold plV at HCL ⊢
    gi_wp2_with fail
    refine ⟨trivial, ?_⟩
    refine (callsIn_wide.2 HCL.out).mono ?_
    rintro e W2 ⟨rfl, hb2⟩
    have hb2w : Below w.heap.size w W2 := btrW H5.out hb2
    have h12 := (hb2.block _ (Array.getElem?_eq_some_iff.1 H1.out).1).trans H1.out
    have h22 := H2.out.keep (hb2.block _ H2.out.lt)
    have hu2 := HU.out.keep (hb2.block _ HU.out.lt)
    obtain ⟨d0, d1, -, -⟩ := row2 hu2
    obtain ⟨r0, r1, f0, f1⟩ := row2 h22
    simp only [show ((0 : Nat) : Int) = 0 from rfl] at d0 d1 r0 r1
    cases hf : f (x1, x2) with
    | true =>
      have HR : Hid (((us).find? f).getD dp = (x1, x2)) := by
        show _ = _
        rw [find_none_pre HP.out H0.out hf]; rfl
      have HB2 := Lib.hid hb2
      have HB3 := Lib.hid hb2w
      have H22 := Lib.hid h22
      clear hf h12 h22 hu2 hb2 hb2w
      gi_wp2_with fail
      refine ⟨?_, rfl, ?_, ?_⟩
      · exact ((But.of_below HB2.out).setE (E := fun x => x = B2) B2 0 rfl _).setE (E := fun x => x = B2) B2 1 rfl _
      · rw [HR.out]; exact heap_set (heap_set H22.out 0 _) 1 _
      · exact setCell_below (setCell_below HB3.out _ _ _ (by omega)) _ _ _ (by omega)
    | false =>
      have HF : Hid (∀ y ∈ pre ++ [(x1, x2)], f y = false) := by
        intro y hy
        rcases List.mem_append.1 hy with hy | hy
        · exact H0.out y hy
        · simp only [List.mem_singleton] at hy; subst hy; exact hf
      have HB2 := Lib.hid hb2
      have HB3 := Lib.hid hb2w
      have H12 := Lib.hid h12
      have H22 := Lib.hid h22
      clear hf h12 h22 hu2 hb2 hb2w
      gi_wp2_with fail
      exact ⟨But.of_below HB2.out, HF, H12.out, H22.out, HB3.out⟩
  case done =>
    rintro W ⟨h0, h1, h2, h5⟩ hK
    have hq1 : ¬ w1.heap.size = B2 := by omega
    have hq2 : ¬ B2 = w1.heap.size := by omega
    have hq3 : w.heap.size ≤ B2 := by omega
    have hq4 : w.heap.size ≤ w1.heap.size := by omega
    clear hsz bIs bRes bL bP0 bP1
    have HNO : Hid (((us).find? f).getD dp = dp) := by
      show _ = _
      rw [List.find?_eq_none.2 (fun y hy => by simp [h0.out y hy])]; rfl
    have HRES := Lib.hid h2
    have H5 := Lib.hid h5
    have HD := Lib.hid hK
    clear h0 h1 h2 h5 hK
    have hat2 := HRES.out
    obtain ⟨b0, b1, f0, f1⟩ := row2 hat2
    simp only [show ((0 : Nat) : Int) = 0 from rfl] at b0 b1
    have hD2 : W.heap[w1.heap.size]? = some (.deferred (some [])) := HD.out
    have hB2 := H5.out
    obtain ⟨d1, d2⟩ := dp
    try unfold plV
    have HB2 := Lib.hid hB2
    have HD2 := Lib.hid hD2
    have HAT := Lib.hid hat2
    clear hB2 hD2 hat2
    gi_wp2_with fail
    obtain ⟨W3, hW3⟩ : ∃ W3, (W.setCell ⟨B2, 0, none⟩ (.int .i64 0)).setCell ⟨B2, 1, none⟩ (.int .i64 0) = W3 := ⟨_, rfl⟩
    have ha3 : At W3 B2 (0, 0) := by rw [← hW3]; exact heap_set (heap_set HAT.out 0 _) 1 _
    have hD3 : W3.heap[w1.heap.size]? = some (.deferred (some [])) := by
      rw [← hW3]
      exact ((Below.heap_setCell _ _ _ _ (by first | exact hq1 | exact hq2)).trans (Below.heap_setCell _ _ _ _ (by first | exact hq1 | exact hq2))).trans HD2.out
    have hb3 : Below w.heap.size w W3 := by rw [← hW3]; exact setCell_below (setCell_below HB2.out _ _ _ (by omega)) _ _ _ (by omega)
    rw [hW3]
    refine ⟨by simp, .inl ⟨_, _, rfl, run_takeDeferred hD3, ?_⟩⟩
    have k1 : At (W3.putObj w1.heap.size (.deferred none)) B2 (0, 0) := (World.putObj_heap_other (by first | exact hq1 | exact hq2)).trans ha3
    obtain ⟨l1, l2, -, -⟩ := row2 k1
    refine ⟨plV (0, 0), ?_, by rw [HNO.out]; rw [← HDP.out], hb3.grown (grownBy_putObj' W3 _ _) hb3.size (fun k e => by cases e; omega)⟩
    rw [results_cell1 rfl]
    clear k1
    generalize W3.putObj w1.heap.size (.deferred none) = W4 at l1 l2 ⊢
    go_simp
    rfl
  case stop =>
    rintro j pre W hpre ⟨rfl, h1, h5⟩ hK
    gi_wp2
    refine ⟨by simp, .inl ⟨_, _, rfl, run_takeDeferred hK, ?_⟩⟩
    have k1 : At (W.putObj w1.heap.size (.deferred none)) B2 ((us.find? f).getD dp) := (World.putObj_heap_other (by omega)).trans h1
    obtain ⟨l1, l2, -, -⟩ := row2 k1
    refine ⟨plV ((us.find? f).getD dp), ?_, rfl, h5.grown (grownBy_putObj' W _ _) h5.size (fun k e => by cases e; omega)⟩
    obtain ⟨⟨y1, y2⟩, hy⟩ : ∃ y, (us.find? f).getD dp = y := ⟨_, rfl⟩
    rw [hy] at l1 l2 ⊢
    simp only at l1 l2
    rw [results_cell1 rfl]
    clear k1
    generalize W.putObj w1.heap.size (.deferred none) = W3 at l1 l2 ⊢
    go_simp
    rfl
end Go.Proofs.Ytikdojebnbmpoaa.U
