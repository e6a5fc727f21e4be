/-
  The walks of OperTurns and OperTakes.
-/
import Derived.Test.YtfldjoiohejilaaJLaws1
namespace Go.Proofs.Ytfldjoiohejilaa.U
open Go.RowKit
set_option linter.unusedVariables false
set_option linter.unusedSimpArgs false
set_option maxRecDepth 100000

set_option maxHeartbeats 8000000 in
theorem operTurns_wideP (HP : PasteK 22) (a : Option Addr) (n c : Nat) (L : List (List Int)) (r : Rgn) (how : Int) (w : World) (h : RdL (fun k => k < w.heap.size) w a n c L) (hw : WideL L) (hr : i64r r) (hz : (Lit.int .i32 how).wf = true) :
    Calls Try.prog 6 #[.slice a n c, r.v, .int .i32 how] w fun e w' => e = .returned (.bool true) ∧ Below w.heap.size w w' := by
  obtain ⟨wb, hwb⟩ : ∃ wb, w.alloc (.cells #[.int .i64 r.f.l, .int .i64 r.f.c, .int .i64 r.t.l, .int .i64 r.t.c, .int .i64 r.k] 26) = wb := ⟨_, rfl⟩
  have hrow : wb.heap[w.heap.size]? = some (.cells #[.int .i64 r.f.l, .int .i64 r.f.c, .int .i64 r.t.l, .int .i64 r.t.c, .int .i64 r.k] 26 (0, 0)) := by rw [← hwb]; exact heap_alloc_new w _
  have hB : Below w.heap.size w wb := by rw [← hwb]; exact bal _ _
  obtain ⟨b, hbe⟩ : ∃ b, w.heap.size = b := ⟨_, rfl⟩
  rw [hbe] at hrow
  have hfit := fit_any _ a n c L wb (h.below hB) hw
  have HB := Lib.hid hB
  have HW := Lib.hid hwb
  have HBE := Lib.hid hbe
  have KS : Hid (∀ W, Below wb.heap.size wb W → RgC b r W) := fun W hW => rgC_of (hbox hrow hW)
  have HH := Lib.hid h
  have HPP := Lib.hid HP
  show Calls Try.prog _ #[_, .agg #[.int .i64 r.f.l, .int .i64 r.f.c, .int .i64 r.t.l, .int .i64 r.t.c, .int .i64 r.k], _] w _
  obtain ⟨c0, c1, c2, c3, c4⟩ := KS.out wb (Below.refl _ _)
  by_cases hF : fitL L = true
  · rw [hF] at hfit
    have HFIT : Hid (∀ W, W = wb → Calls Try.prog 11 #[.slice a n c] W fun e w' => e = .returned (.bool true) ∧ W = w') := by
      rintro W rfl
      exact hfit.mono fun e w' h => ⟨h.1, h.2.symm⟩
    obtain ⟨hs, hpl⟩ := fit_small hF
    obtain ⟨⟨R0, R3⟩, hR⟩ : ∃ R, turnR L r how = R := ⟨_, rfl⟩
    have HTW : Hid (∀ W, (W = wb ∨ W = wb.drew) → Calls Try.prog 12 #[.slice a n c] W fun e w' => ∃ ma mc, e = .returned (.slice ma n mc) ∧ RgC b r w' ∧ RgC b r w'.drew ∧ Hid ((∃ F, RdL F w' ma n mc L) ∧ Below wb.heap.size wb w') ∧ Hid ((∃ F, RdL F w'.drew ma n mc L) ∧ Below wb.heap.size wb w'.drew)) := by
      intro W hW
      have hbW : Below wb.heap.size wb W := by rcases hW with rfl | rfl; exact Below.refl _ _; exact (Below.refl _ _).drew
      refine (rtwin_any _ a n c L W (h.below (btr hB hbW)) (by omega)).mono ?_
      rintro e w' ⟨ma, mc, rfl, hf, hb⟩
      have hr1 := hf.rdl (lines_wf (rdl_wf h))
      exact ⟨ma, mc, rfl, KS.out _ (btr hbW hb), KS.out _ (btr hbW hb).drew, ⟨⟨_, hr1⟩, btr hbW hb⟩, ⟨_, hr1.below (Below.refl _ _).drew⟩, (btr hbW hb).drew⟩
    have HC1 : Hid (∀ W ma mc, Hid ((∃ F, RdL F W ma n mc L) ∧ Below wb.heap.size wb W) → Calls Try.prog 24 #[.slice ma n mc, .agg #[.int .i64 r.f.l, .int .i64 r.f.c, .int .i64 r.t.l, .int .i64 r.t.c, .int .i64 r.k], .int .i32 how] W fun e w' => ∃ ra rm rc, e = .returned (.tuple #[.slice ra rm rc, .int .i64 R3]) ∧ RgC b r w' ∧ Hid (Below wb.heap.size wb w' ∧ (∃ F, RdL F w' ra rm rc R0))) := by
      rintro W ma mc hW
      obtain ⟨⟨F, hm⟩, hbW⟩ := hW.out
      refine (kturnK F ma n mc L r how W hm hs hr).mono ?_
      rintro e w' ⟨ra, rm, rc, rfl, hf, hb⟩
      rw [hR] at hf ⊢
      exact ⟨ra, rm, rc, rfl, KS.out _ (btr hbW hb), btr hbW hb, ⟨_, hf⟩⟩
    have HC2 : Hid (∀ W ra rm rc, Hid (Below wb.heap.size wb W ∧ (∃ F, RdL F W ra rm rc R0)) → Calls Try.prog 25 #[.slice a n c, .agg #[.int .i64 r.f.l, .int .i64 r.f.c, .int .i64 r.t.l, .int .i64 r.t.c, .int .i64 r.k], .int .i32 how] W fun e w' => ∃ qa qm qc, e = .returned (.tuple #[.slice qa qm qc, .int .i64 R3]) ∧ Hid (Below wb.heap.size wb w' ∧ (∃ F, RdL F w' ra rm rc R0) ∧ (∃ F, RdL F w' qa qm qc R0))) := by
      rintro W ra rm rc hW
      obtain ⟨hbW, ⟨G, hg⟩⟩ := hW.out
      refine (rturnK _ a n c L r how W (HH.out.below (btr hB hbW)) hs hr).mono ?_
      rintro e w' ⟨qa, qm, qc, rfl, hf, hb⟩
      rw [hR] at hf ⊢
      exact ⟨qa, qm, qc, rfl, btr hbW hb, ⟨_, hg.below hb⟩, ⟨_, hf⟩⟩
    have HS1 : Hid (∀ W ra rm rc qa qm qc, Hid (Below wb.heap.size wb W ∧ (∃ F, RdL F W ra rm rc R0) ∧ (∃ F, RdL F W qa qm qc R0)) → Calls Try.prog 16 #[.slice ra rm rc, .slice qa qm qc] W fun e w' => e = .returned (.bool true) ∧ Hid (Below w.heap.size w w')) := by
      rintro W ra rm rc qa qm qc hW
      obtain ⟨hbW, ⟨G, hg⟩, ⟨G2, hg2⟩⟩ := hW.out
      refine (rsame_any G G2 ra qa rm qm rc qc _ _ W hg hg2).mono ?_
      rintro e w' ⟨rfl, hb⟩
      exact ⟨by simp, btr hB (btr hbW hb)⟩
    have HAW : Hid (∀ W, Hid (Below w.heap.size w W) → Calls Try.prog 17 #[] W fun e w' => e = .returned (.bool true) ∧ Hid (Below w.heap.size w w')) := by
      intro W hW
      refine (awake_any HPP.out W).mono ?_
      rintro e w' ⟨rfl, hb⟩
      exact ⟨rfl, btr hW.out hb⟩
    clear hR hs hpl hF hfit h hw hr hrow hB hwb hbe HP
    go_enter Try.func6, Try.ntmps6
    go_upto_region 1 with fail
    rw [HW.out, HBE.out]
    go_upto_region 3 with (go_at_call 11; (with_reducible refine (HFIT.out _ rfl).mono ?_); rintro e wq ⟨rfl, hwq⟩; subst hwq)
    have k0 := KS.out wb (Below.refl _ _)
    clear c0 c1 c2 c3 c4
    go_cut [7, 8] (fun v7 v8 W => ∃ ra rm rc, v7 = .slice ra rm rc ∧ v8 = .int .i64 R3 ∧ RgC b r W ∧ Hid (Below wb.heap.size wb W ∧ (∃ F, RdL F W ra rm rc R0)))
    case first =>
      unfold RgC at k0 HTW HC1 KS
      go_region_held3 (fun W => W.cell? ⟨b, 0, none⟩ = some (.int .i64 r.f.l) ∧ W.cell? ⟨b, 1, none⟩ = some (.int .i64 r.f.c) ∧ W.cell? ⟨b, 2, none⟩ = some (.int .i64 r.t.l) ∧ W.cell? ⟨b, 3, none⟩ = some (.int .i64 r.t.c) ∧ W.cell? ⟨b, 4, none⟩ = some (.int .i64 r.k))
        (first | exact k0 | exact KA | exact KC | exact KS.out _ (Below.refl _ _).drew)
        (first
          | (go_at_call 12; (first | refine (HTW.out _ (Or.inl rfl)).mono ?_ | refine (HTW.out _ (Or.inr rfl)).mono ?_); rintro e w1 ⟨ma, mc, rfl, KA, KB, H1, H1D⟩)
          | (go_at_call 24; (with_reducible first | refine (HC1.out _ _ _ H1).mono ?_ | refine (HC1.out _ _ _ H1D).mono ?_); rintro e w2 ⟨ra, rm, rc, rfl, KC, H3⟩))
      all_goals
        go_wp2_with fail
        go_meet
        exact ⟨ra, rm, rc, rfl, rfl, (by unfold RgC; exact KC), H3⟩
    case rest =>
      obtain ⟨ra, rm, rc, rfl, rfl, ⟨c0, c1, c2, c3, c4⟩, H3⟩ := hcut
      go_wp2_with (first
        | (go_at_call 25; (with_reducible refine (HC2.out _ _ _ _ H3).mono ?_); rintro e w4 ⟨qa, qm, qc, rfl, H5⟩)
        | (go_at_call 16; (with_reducible refine (HS1.out _ _ _ _ _ _ _ H5).mono ?_); rintro e w6 ⟨rfl, H7⟩)
        | (go_at_call 17; (with_reducible refine (HAW.out _ H7).mono ?_); rintro e w8 ⟨rfl, H8⟩))
      go_ret
      exact ⟨rfl, H8.out⟩
  · have hF2 : fitL L = false := by simpa using hF
    rw [hF2] at hfit
    have HFIT : Hid (∀ W, W = wb → Calls Try.prog 11 #[.slice a n c] W fun e w' => e = .returned (.bool false) ∧ W = w') := by
      rintro W rfl
      exact hfit.mono fun e w' h => ⟨h.1, h.2.symm⟩
    clear hF hF2 hfit h hw hr hrow hB hwb hbe HP
    go_enter Try.func6, Try.ntmps6
    go_upto_region 1 with fail
    rw [HW.out, HBE.out]
    go_wp2_with (go_at_call 11; (with_reducible refine (HFIT.out _ rfl).mono ?_); rintro e wq ⟨rfl, hwq⟩; subst hwq)
    go_ret
    exact ⟨rfl, HB.out⟩
end Go.Proofs.Ytfldjoiohejilaa.U
