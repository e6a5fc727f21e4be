/-
  The walk of OperLines. (MADE by wip/tools/gen_jlawsl.py.)
-/
import Derived.Test.YtfldjoiohejilaaJLawsO
import Derived.Test.YtfldjoiohejilaaKShift
import Derived.Test.YtfldjoiohejilaaKJoinC
namespace Go.Proofs.Ytfldjoiohejilaa.U
open Go.RowKit
set_option linter.unusedVariables false
set_option linter.unusedSimpArgs false
set_option maxRecDepth 100000

set_option maxHeartbeats 8000000 in
theorem operLines_wideP (HP : PasteK 22) (HD : ShiftK 27) (a : Option Addr) (n c : Nat) (L : List (List Int)) (x y m : Int) (w : World) (h : RdL (fun k => k < w.heap.size) w a n c L) (hw : WideL L) (hx : (Lit.int .i64 x).wf = true) (hy : (Lit.int .i64 y).wf = true) (hm0 : (Lit.int .i64 m).wf = true) :
    Calls Try.prog 7 #[.slice a n c, .agg #[.int .i64 x, .int .i64 y], .int .i64 m] w fun e w' => e = .returned (.bool true) ∧ Below w.heap.size w w' := by
  have hxi := wf_i64b hx
  have hyi := wf_i64b hy
  have hm := wf_i64b hm0
  obtain ⟨wb, hwb⟩ : ∃ wb, w.alloc (.cells #[.int .i64 x, .int .i64 y] 49) = wb := ⟨_, rfl⟩
  have g1 : wb.heap[w.heap.size]? = some (.cells #[.int .i64 x, .int .i64 y] 49 (0, 0)) := by rw [← hwb]; exact heap_alloc_new w _
  have hB : Below w.heap.size w wb := by rw [← hwb]; exact bal _ _
  obtain ⟨b, hbe⟩ : ∃ b, w.heap.size = b := ⟨_, rfl⟩
  rw [hbe] at g1
  have hfit := fit_any _ a n c L wb (h.below hB) hw
  have HB := Lib.hid hB
  have HW := Lib.hid hwb
  have HBE := Lib.hid hbe
  have HH := Lib.hid h
  have HPP := Lib.hid HP
  have KS : Hid (∀ W, Below wb.heap.size wb W → (W.cell? ⟨b, 0, none⟩ = some (.int .i64 x) ∧ W.cell? ⟨b, 1, none⟩ = some (.int .i64 y))) := fun W hW => ⟨cell_row (hbox g1 hW) 0, cell_row (hbox g1 hW) 1⟩
  have hbl := heap_lt g1
  obtain ⟨c0, c1⟩ := KS.out wb (Below.refl _ _)
  by_cases hF : fitL L = true
  · rw [hF] at hfit
    have HFIT : Hid (∀ W, W = wb → Calls Try.prog 11 #[.slice a n c] W fun e w' => e = .returned (.bool true) ∧ W = w') := by
      rintro W rfl
      exact hfit.mono fun e w' h => ⟨h.1, h.2.symm⟩
    obtain ⟨hs, hpl⟩ := fit_small hF
    obtain ⟨⟨S0, S3⟩, hS⟩ : ∃ R, shiftR13 L x y m = R := ⟨_, rfl⟩
    obtain ⟨⟨R0, ⟨R1, R2⟩, R3⟩, hR⟩ : ∃ R, joinR13 L x m = R := ⟨_, rfl⟩
    have hwf := lines_wf (rdl_wf h)
    have HTW : Hid (∀ w0 W, Hid (Below wb.heap.size wb w0) → Hid (Below w0.heap.size w0 W) → Calls Try.prog 12 #[.slice a n c] W fun e w' => ∃ ma mc, e = .returned (.slice ma n mc) ∧ Hid (Below w0.heap.size w0 w') ∧ Hid (HdT 0 w' ma n mc L) ∧ Hid (∀ g, ZrP W g → ZrP w' g)) := by
      intro w0 W h0 hW
      refine (rtwin_any _ a n c L W (h.below (btr hB (btr h0.out hW.out))) (by omega)).mono ?_
      rintro e w' ⟨ma, mc, rfl, hf, hb⟩
      exact ⟨ma, mc, rfl, btr hW.out hb, hdt_my (hf.my (Nat.zero_le _)) hwf, fun g hg => hg.below hb⟩
    have HS1 : Hid (∀ w1 ma mc W, Hid (Below wb.heap.size wb w1) → Hid (HdT 0 w1 ma n mc L) → Hid (Below w1.heap.size w1 W) → Calls Try.prog 26 #[.slice ma n mc, .int .i64 x, .int .i64 y, .int .i64 m] W fun e w' => ∃ ra rm rc, e = .returned (.tuple #[.slice ra rm rc, .int .i64 S3]) ∧ Hid (Below wb.heap.size wb w' ∧ ∃ F, RdL F w' ra rm rc S0)) := by
      intro w1 ma mc W h1 h2 hW
      have hm2 := h2.out.below hW.out
      refine (kshiftK _ ma n mc L x y m W hm2.rdl hs hxi hyi hm).mono ?_
      rintro e w' ⟨ra, rm, rc, rfl, hf, hb⟩
      rw [hS] at hf ⊢
      exact ⟨ra, rm, rc, rfl, btr h1.out (btr hW.out hb), _, hf⟩
    have HS2 : Hid (∀ W ra rm rc, Hid (Below wb.heap.size wb W ∧ ∃ F, RdL F W ra rm rc S0) → Calls Try.prog 27 #[.slice a n c, .int .i64 x, .int .i64 y, .int .i64 m] W fun e w' => ∃ qa qm qc, e = .returned (.tuple #[.slice qa qm qc, .int .i64 S3]) ∧ Hid (Below wb.heap.size wb w' ∧ (∃ F, RdL F w' ra rm rc S0) ∧ (∃ F, RdL F w' qa qm qc S0))) := by
      intro W ra rm rc hW
      obtain ⟨hbW, ⟨G, hg⟩⟩ := hW.out
      refine (HD _ a n c L x y m W (HH.out.below (btr hB hbW)) hs hxi hyi hm).mono ?_
      rintro e w' ⟨qa, qm, qc, rfl, hf, hb⟩
      rw [hS] at hf ⊢
      exact ⟨qa, qm, qc, rfl, btr hbW hb, ⟨_, hg.below hb⟩, ⟨_, hf⟩⟩
    have HJ1 : Hid (∀ w0 w1 ma mc W, Hid (Below w0.heap.size w0 w1) → Hid (HdT 0 w1 ma n mc L) → Hid (Below w1.heap.size w1 W) → Calls Try.prog 28 #[.slice ma n mc, .int .i64 x, .int .i64 m] W fun e w' => ∃ ra rm rc, e = .returned (.tuple #[.slice ra rm rc, .agg #[.int .i64 (R1 : Nat), .int .i64 (R2 : Nat)], .int .i64 R3]) ∧ Hid (Below w0.heap.size w0 w') ∧ Hid (HdT 0 w' ma n mc L ∧ ∃ F, RdL F w' ra rm rc R0) ∧ Hid (∀ g, ZrP W g → ZrP w' g ∧ ∃ F, RdL F w' ra rm rc R0 ∧ ¬ F g)) := by
      intro w0 w1 ma mc W h1 h2 hW
      have hm2 := h2.out.below hW.out
      refine (kjoinK _ ma n mc L x m W hm2.rdl hs hxi hm).mono ?_
      rintro e w' ⟨ra, rm, rc, rfl, hf, hb⟩
      rw [hR] at hf ⊢
      exact ⟨ra, rm, rc, rfl, btr h1.out (btr hW.out hb), ⟨hm2.below hb, _, hf⟩, fun g hg => ⟨hg.below hb, _, hf, by have := heap_lt hg; omega⟩⟩
    have HJ2 : Hid (∀ w0 W ja jm jc pb, Hid (Below wb.heap.size wb w0) → Hid (Below w0.heap.size w0 W ∧ (∃ F, RdL F W ja jm jc R0) ∧ W.heap[pb]? = some (.cells #[.int .i64 (R1 : Nat), .int .i64 (R2 : Nat)] 24 (0, 0))) → Calls Try.prog 29 #[.slice a n c, .int .i64 x, .int .i64 m] W fun e w' => ∃ qa qm qc, e = .returned (.tuple #[.slice qa qm qc, .agg #[.int .i64 (R1 : Nat), .int .i64 (R2 : Nat)], .int .i64 R3]) ∧ ∃ w3 qb, w'.alloc (.cells #[.int .i64 (R1 : Nat), .int .i64 (R2 : Nat)] 24) = w3 ∧ w'.heap.size = qb ∧ PsC pb (R1 : Nat) (R2 : Nat) w3 ∧ PsC qb (R1 : Nat) (R2 : Nat) w3 ∧ Hid (Below w0.heap.size w0 w3 ∧ (∃ F, RdL F w3 ja jm jc R0) ∧ (∃ F, RdL F w3 qa qm qc R0))) := by
      rintro w0 W ja jm jc pb h0 hW
      obtain ⟨hbW, ⟨G, hg⟩, hpb⟩ := hW.out
      refine (rjoinK _ a n c L x m W (HH.out.below (btr hB (btr h0.out hbW))) hs hxi hm).mono ?_
      rintro e w' ⟨qa, qm, qc, rfl, hf, hb⟩
      rw [hR] at hf ⊢
      have hb2 := btr hb (bal w' (.cells #[.int .i64 (R1 : Nat), .int .i64 (R2 : Nat)] 24))
      exact ⟨qa, qm, qc, rfl, _, _, rfl, rfl, psC_of (hbox hpb hb2), psC_of (heap_alloc_new _ _), btr hbW hb2, ⟨_, hg.below hb2⟩, ⟨_, hf.below (bal _ _)⟩⟩
    have HQ1 : Hid (∀ w0 W ra rm rc qa qm qc ja jm jc ka km kc, Hid (Below wb.heap.size wb w0 ∧ (∃ F, RdL F w0 ra rm rc S0) ∧ (∃ F, RdL F w0 qa qm qc S0)) → Hid (Below w0.heap.size w0 W ∧ (∃ F, RdL F W ja jm jc R0) ∧ (∃ F, RdL F W ka km kc R0)) → Calls Try.prog 16 #[.slice ra rm rc, .slice qa qm qc] W fun e w' => e = .returned (.bool true) ∧ Hid (Below w.heap.size w w' ∧ (∃ F, RdL F w' ja jm jc R0) ∧ (∃ F, RdL F w' ka km kc R0))) := by
      rintro w0 W ra rm rc qa qm qc ja jm jc ka km kc h0 hW
      obtain ⟨hb0, ⟨G, hg⟩, ⟨G2, hg2⟩⟩ := h0.out
      obtain ⟨hbW, ⟨G3, hg3⟩, ⟨G4, hg4⟩⟩ := hW.out
      refine (rsame_any G G2 ra qa rm qm rc qc _ _ W (hg.below hbW) (hg2.below hbW)).mono ?_
      rintro e w' ⟨rfl, hb⟩
      exact ⟨by simp, btr hB (btr hb0 (btr hbW hb)), ⟨_, hg3.below hb⟩, ⟨_, hg4.below hb⟩⟩
    have HQ2 : Hid (∀ W ra rm rc qa qm qc, Hid (Below w.heap.size w W ∧ (∃ F, RdL F W ra rm rc R0) ∧ (∃ F, RdL F W qa qm qc R0)) → Calls Try.prog 16 #[.slice ra rm rc, .slice qa qm qc] W fun e w' => e = .returned (.bool true) ∧ Hid (Below w.heap.size w w')) := by
      rintro W ra rm rc qa qm qc hW
      obtain ⟨hbW, ⟨G, hg⟩, ⟨G2, hg2⟩⟩ := hW.out
      refine (rsame_any G G2 ra qa rm qm rc qc _ _ W hg hg2).mono ?_
      rintro e w' ⟨rfl, hb⟩
      exact ⟨by simp, btr hbW hb⟩
    have HAW : Hid (∀ W, Hid (Below w.heap.size w W) → Calls Try.prog 17 #[] W fun e w' => e = .returned (.bool true) ∧ Hid (Below w.heap.size w w')) := by
      intro W hW
      refine (awake_any HPP.out W).mono ?_
      rintro e w' ⟨rfl, hb⟩
      exact ⟨rfl, btr hW.out hb⟩
    clear hR hS hs hpl hF hfit h hw hx hy hm hm0 hxi hyi hB hwb hbe HP HD g1 hwf
    go_enter Try.func7, Try.ntmps7
    go_upto_region 1 with fail
    rw [HW.out, HBE.out]
    go_upto_region 3 with (go_at_call 11; (with_reducible refine (HFIT.out _ rfl).mono ?_); rintro e wq ⟨rfl, hwq⟩; subst hwq)
    clear c0 c1
    have HR0 : Hid (Below wb.heap.size wb wb) := Below.refl _ _
    go_cut [7, 8] (fun v7 v8 W => ∃ ra rm rc, v7 = .slice ra rm rc ∧ v8 = .int .i64 S3 ∧ Hid (Below wb.heap.size wb W ∧ ∃ F, RdL F W ra rm rc S0))
    case first =>
      go_region_held3 (fun W => W.cell? ⟨b, 0, none⟩ = some (.int .i64 x) ∧ W.cell? ⟨b, 1, none⟩ = some (.int .i64 y))
        (first
          | exact KS.out _ (Below.refl _ _) | exact KS.out _ (Below.refl _ _).drew | exact KS.out _ D1.out | exact KS.out _ D1.out.drew | exact KS.out _ D2.out.1)
        (first
          | (go_at_call 26; (first | (with_reducible refine (HS1.out _ _ _ _ D1 T1 (Lib.hid (Below.refl _ _))).mono ?_) | (refine (HS1.out _ _ _ _ D1 T1 (Lib.hid (Below.refl _ _).drew)).mono ?_)); rintro e w2 ⟨ra, rm, rc, rfl, D2⟩)
          | (go_at_call 12; (first | (with_reducible refine (HTW.out _ _ HR0 HR0).mono ?_) | (refine (HTW.out _ _ HR0 (Lib.hid (Below.refl _ _).drew)).mono ?_)); rintro e w1 ⟨ma, mc, rfl, D1, T1, P1⟩))
      all_goals
        go_wp2_with fail
        go_meet
        exact ⟨ra, rm, rc, rfl, rfl, D2⟩
    case rest =>
      obtain ⟨ra, rm, rc, rfl, rfl, H3⟩ := hcut
      obtain ⟨w3, hw3⟩ : ∃ w3, w3 = wc := ⟨_, rfl⟩
      subst hw3
      obtain ⟨c0, c1⟩ := KS.out w3 H3.out.1
      go_upto_region 5 with (go_at_call 27; (with_reducible refine (HS2.out _ _ _ _ H3).mono ?_); rintro e w5 ⟨qa, qm, qc, rfl, H5⟩)
      clear c0 c1
      have HB5 : Hid (Below wb.heap.size wb w5) := H5.out.1
      have KS5 : Hid (∀ W, Below w5.heap.size w5 W → (W.cell? ⟨b, 0, none⟩ = some (.int .i64 x) ∧ W.cell? ⟨b, 1, none⟩ = some (.int .i64 y))) := fun W hW => KS.out W (btr HB5.out hW)
      have HR5 : Hid (Below w5.heap.size w5 w5) := Below.refl _ _
      go_cut [11, 12, 13] (fun v11 v12 v13 W => ∃ ja jm jc pb, v11 = .slice ja jm jc ∧ v12 = .pointer (some ⟨pb, 0, none⟩) ∧ v13 = .int .i64 R3 ∧ Hid (Below w5.heap.size w5 W ∧ (∃ F, RdL F W ja jm jc R0) ∧ W.heap[pb]? = some (.cells #[.int .i64 (R1 : Nat), .int .i64 (R2 : Nat)] 24 (0, 0))))
      case first =>
        go_region_held3 (fun W => W.cell? ⟨b, 0, none⟩ = some (.int .i64 x) ∧ W.cell? ⟨b, 1, none⟩ = some (.int .i64 y))
          (first
            | exact KS5.out _ (Below.refl _ _) | exact KS5.out _ (Below.refl _ _).drew | exact KS5.out _ D1.out | exact KS5.out _ D2.out
            | exact KS5.out _ ((Below.refl _ _).alloc (Nat.le_refl _) _) | exact KS5.out _ ((Below.refl _ _).alloc (Nat.le_refl _) _).drew | exact KS5.out _ ((Below.refl _ _).drew.alloc (Below.refl _ _).drew.size _)
            | exact KS5.out _ (D1.out.alloc D1.out.size _) | exact KS5.out _ (D2.out.alloc D2.out.size _)
            | (refine KS5.out _ (Below.setCell (Below.setCell D2.out ?_ _) ?_ _) <;> first | exact Nat.le_refl _ | exact D1.out.size | exact D2.out.size))
          (first
            | (go_at_call 28; (first | (with_reducible refine (HJ1.out _ _ _ _ _ D1 T1 (Lib.hid (Below.refl _ _))).mono ?_) | (refine (HJ1.out _ _ _ _ _ D1 T1 (Lib.hid (bal _ _))).mono ?_) | (refine (HJ1.out _ _ _ _ _ D1 T1 (Lib.hid (Below.refl _ _).drew)).mono ?_) | (refine (HJ1.out _ _ _ _ _ D1 T1 (Lib.hid (bal _ _).drew)).mono ?_)); rintro e w2 ⟨ja, jm, jc, rfl, D2, T2, P2⟩; (try (have hz2 := (by first | with_reducible exact P2.out _ (zrp_new _) | with_reducible exact P2.out _ (zrp_new _).drew | with_reducible exact P2.out _ hz1 | with_reducible exact P2.out _ hz1.drew : ZrP w2 _ ∧ ∃ F, RdL F w2 ja jm jc R0 ∧ ¬ F _); obtain ⟨z10, z11, z12, z13, z14⟩ := hz2.1.facts)))
            | (go_at_call 12; (first | (with_reducible refine (HTW.out _ _ HB5 HR5).mono ?_) | (refine (HTW.out _ _ HB5 (Lib.hid (Below.refl _ _).drew)).mono ?_) | (refine (HTW.out _ _ HB5 (Lib.hid (bal _ _))).mono ?_) | (refine (HTW.out _ _ HB5 (Lib.hid (bal _ _).drew)).mono ?_) | (refine (HTW.out _ _ HB5 (Lib.hid ((Below.refl _ _).drew.alloc (Below.refl _ _).drew.size _))).mono ?_)); rintro e w1 ⟨ma, mc, rfl, D1, T1, P1⟩; (try (have hz1 : ZrP w1 _ := (by first | with_reducible exact P1.out _ (zrp_new _) | with_reducible exact P1.out _ (zrp_new _).drew); obtain ⟨y10, y11, y12, y13, y14⟩ := hz1.facts))))
        all_goals
          go_wp2_with fail
          go_meet
          first
            | exact ⟨ja, jm, jc, _, rfl, rfl, rfl, btr D2.out (bal w2 _), (by obtain ⟨F, hF⟩ := T2.out.2; exact ⟨F, hF.below (bal w2 _)⟩), heap_alloc_new w2 _⟩
            | exact ⟨ja, jm, jc, _, rfl, rfl, rfl, setCell_below (setCell_below D2.out _ _ _ (by first | exact Nat.le_refl _ | exact D1.out.size)) _ _ _ (by first | exact Nat.le_refl _ | exact D1.out.size), rdl_setG hz2.2 _ _, heap_set (heap_set hz2.1 0 _) 1 _⟩
      case rest =>
        obtain ⟨ja, jm, jc, pb, rfl, rfl, rfl, H6⟩ := hcut
        obtain ⟨w6, hw6⟩ : ∃ w6, w6 = wc := ⟨_, rfl⟩
        subst hw6
        obtain ⟨c0, c1⟩ := KS5.out w6 H6.out.1
        clear HTW HJ1 HS1 HS2
        unfold PsC at HJ2
        go_wp2_with (first
          | (go_at_call 29; (with_reducible refine (HJ2.out _ _ _ _ _ _ HB5 H6).mono ?_); rintro e w7' ⟨ka, km, kc, rfl, w7, qb, hw7, hqb, ⟨d0, d1⟩, ⟨e0, e1⟩, H7⟩)
          | (go_at_call 16; (with_reducible refine (HQ1.out _ _ _ _ _ _ _ _ _ _ _ _ _ _ H5 H7).mono ?_); rintro e w8 ⟨rfl, H8⟩)
          | (go_at_call 16; (with_reducible refine (HQ2.out _ _ _ _ _ _ _ H8).mono ?_); rintro e w9 ⟨rfl, H9⟩)
          | (go_at_call 17; (with_reducible refine (HAW.out _ H9).mono ?_); rintro e w10 ⟨rfl, H10⟩))
        go_ret
        exact ⟨rfl, H10.out⟩
  · have hF2 : fitL L = false := by simpa using hF
    rw [hF2] at hfit
    have HFIT : Hid (∀ W, W = wb → Calls Try.prog 11 #[.slice a n c] W fun e w' => e = .returned (.bool false) ∧ W = w') := by
      rintro W rfl
      exact hfit.mono fun e w' h => ⟨h.1, h.2.symm⟩
    clear hF hF2 hfit h hw hx hy hm hm0 hxi hyi g1 hB hwb hbe HP HD
    go_enter Try.func7, Try.ntmps7
    go_upto_region 1 with fail
    rw [HW.out, HBE.out]
    go_wp2_with (go_at_call 11; (with_reducible refine (HFIT.out _ rfl).mono ?_); rintro e wq ⟨rfl, hwq⟩; subst hwq)
    go_ret
    exact ⟨rfl, HB.out⟩
end Go.Proofs.Ytfldjoiohejilaa.U
