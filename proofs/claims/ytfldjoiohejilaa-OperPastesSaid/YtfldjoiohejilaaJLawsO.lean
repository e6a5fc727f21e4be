/-
  The walk of OperOvers.
-/
import Derived.Test.YtfldjoiohejilaaJLaws1
import Derived.Test.YtfldjoiohejilaaJHdT
import Derived.Test.YtfldjoiohejilaaKOver
namespace Go.Proofs.Ytfldjoiohejilaa.U
open Go.RowKit
set_option linter.unusedVariables false
set_option linter.unusedSimpArgs false
set_option maxRecDepth 100000

/-- a zeroed place -/
def ZrP (W : World) (g : Nat) : Prop := W.heap[g]? = some (.cells #[.int .i64 0, .int .i64 0] 24 (0, 0))
theorem ZrP.below {W W' : World} {g : Nat} (h : ZrP W g) (hb : Below W.heap.size W W') : ZrP W' g := hbox h hb
theorem zrp_new (W : World) : ZrP (W.alloc (.cells #[.int .i64 0, .int .i64 0] 24)) W.heap.size := heap_alloc_new W _
theorem ZrP.drew {W : World} {g : Nat} (h : ZrP W g) : ZrP W.drew g := h
theorem ZrP.facts {W : World} {g : Nat} (h : ZrP W g) : ArP g W := ArP.of h
theorem HdT.setPos {B qb : Nat} {w : World} {a : Option Addr} {n c : Nat} {L : List (List Int)} (h : HdT B w a n c L) {cs : Array Value} (hq : w.heap[qb]? = some (.cells cs 24 (0, 0))) (u v : Value) : HdT B ((w.setCell ⟨qb, 0, none⟩ u).setCell ⟨qb, 1, none⟩ v) a n c L := by
  have hf : Fr (fun k => k = qb) w ((w.setCell ⟨qb, 0, none⟩ u).setCell ⟨qb, 1, none⟩ v) := ((Fr.refl (fun k => k = qb) w).setCell ⟨qb, 0, none⟩ _ (fun _ => rfl)).setCell ⟨qb, 1, none⟩ _ (fun _ => rfl)
  obtain ⟨vs, h1, h2⟩ := h
  refine ⟨vs, own_fr h1 hf (fun k e => row_block_apart h1 hq (by decide) e), h2.1, fun i x hx => ?_⟩
  obtain ⟨ra, m, rc, e1, e2⟩ := h2.2 i x hx
  refine ⟨ra, m, rc, e1, e2.fr hf (fun k hk cur hc => ?_)⟩
  subst hk
  rw [hq] at hc
  injection hc with hc
  injection hc with _ hc
  exact absurd hc (by decide)
theorem rdl_setG {w : World} {g : Nat} {ra : Option Addr} {rm rc : Nat} {R : List (List Int)} (h : ∃ F, RdL F w ra rm rc R ∧ ¬ F g) (u v : Value) : ∃ F, RdL F ((w.setCell ⟨g, 0, none⟩ u).setCell ⟨g, 1, none⟩ v) ra rm rc R := by
  obtain ⟨F, h1, h2⟩ := h
  have hf : Fr (fun k => k = g) w ((w.setCell ⟨g, 0, none⟩ u).setCell ⟨g, 1, none⟩ v) := ((Fr.refl (fun k => k = g) w).setCell ⟨g, 0, none⟩ _ (fun _ => rfl)).setCell ⟨g, 1, none⟩ _ (fun _ => rfl)
  exact ⟨F, h1.frF hf (fun k hk e => h2 (e ▸ hk))⟩
set_option maxHeartbeats 8000000 in
theorem operOvers_wideP (HP : PasteK 22) (HD : OverK 31) (a : Option Addr) (n c : Nat) (L : List (List Int)) (p : Po) (z m : Int) (w : World) (h : RdL (fun k => k < w.heap.size) w a n c L) (hw : WideL L) (hp : i64p p) (hz : (Lit.int .i32 z).wf = true) (hm : i64b m) :
    Calls Try.prog 8 #[.slice a n c, p.v, .agg #[.int .i32 z, .int .i64 m]] w fun e w' => e = .returned (.bool true) ∧ Below w.heap.size w w' := by
  obtain ⟨wb, hwb⟩ : ∃ wb, (w.alloc (.cells #[.int .i64 p.l, .int .i64 p.c] 24)).alloc (.cells #[.int .i32 z, .int .i64 m] 54) = wb := ⟨_, rfl⟩
  obtain ⟨g1, g2⟩ := two_new w #[.int .i64 p.l, .int .i64 p.c] #[.int .i32 z, .int .i64 m] 24 54 _ (Below.refl _ _)
  rw [hwb] at g1 g2
  have hB : Below w.heap.size w wb := by rw [← hwb]; exact ((Below.refl _ _).alloc (Nat.le_refl _) _).alloc (by simp) _
  obtain ⟨b, hbe⟩ : ∃ b, w.heap.size = b := ⟨_, rfl⟩
  obtain ⟨b1, hb1⟩ : ∃ b1, b + 1 = b1 := ⟨_, rfl⟩
  rw [hbe] at g1 g2
  rw [hb1] at g2
  have hfit := fit_any _ a n c L wb (h.below hB) hw
  have HB := Lib.hid hB
  have HW := Lib.hid hwb
  have HBE := Lib.hid hbe
  have HB1 := Lib.hid hb1
  have HH := Lib.hid h
  have HPP := Lib.hid HP
  have KS : Hid (∀ W, Below wb.heap.size wb W → (W.cell? ⟨b, 0, none⟩ = some (.int .i64 p.l) ∧ W.cell? ⟨b, 1, none⟩ = some (.int .i64 p.c) ∧ W.cell? ⟨b1, 0, none⟩ = some (.int .i32 z) ∧ W.cell? ⟨b1, 1, none⟩ = some (.int .i64 m))) := fun W hW => ⟨cell_row (hbox g1 hW) 0, cell_row (hbox g1 hW) 1, cell_row (hbox g2 hW) 0, cell_row (hbox g2 hW) 1⟩
  show Calls Try.prog _ #[_, .agg #[.int .i64 p.l, .int .i64 p.c], _] w _
  obtain ⟨c0, c1, c2, c3⟩ := KS.out wb (Below.refl _ _)
  by_cases hF : fitL L = true
  · rw [hF] at hfit
    have HFIT : Hid (∀ W, W = wb → Calls Try.prog 11 #[.slice a n c] W fun e w' => e = .returned (.bool true) ∧ W = w') := by
      rintro W rfl
      exact hfit.mono fun e w' h => ⟨h.1, h.2.symm⟩
    obtain ⟨hs, hpl⟩ := fit_small hF
    obtain ⟨⟨R0, ⟨R1, R2⟩, R3⟩, hR⟩ : ∃ R, overR L p z m = R := ⟨_, rfl⟩
    have hwf := lines_wf (rdl_wf h)
    have HTW : Hid (∀ W, Hid (Below wb.heap.size wb W) → Calls Try.prog 12 #[.slice a n c] W fun e w' => ∃ ma mc, e = .returned (.slice ma n mc) ∧ Hid (Below wb.heap.size wb w') ∧ Hid (HdT 0 w' ma n mc L) ∧ Hid (∀ g, ZrP W g → ZrP w' g)) := by
      intro W hW
      refine (rtwin_any _ a n c L W (h.below (btr hB hW.out)) (by omega)).mono ?_
      rintro e w' ⟨ma, mc, rfl, hf, hb⟩
      exact ⟨ma, mc, rfl, btr hW.out hb, hdt_my (hf.my (Nat.zero_le _)) hwf, fun g hg => hg.below hb⟩
    have HC1 : Hid (∀ w1 ma mc W, Hid (Below wb.heap.size wb w1) → Hid (HdT 0 w1 ma n mc L) → Hid (Below w1.heap.size w1 W) → Calls Try.prog 30 #[.slice ma n mc, .agg #[.int .i64 p.l, .int .i64 p.c], .int .i32 z, .int .i64 m] W fun e w' => ∃ ra rm rc, e = .returned (.tuple #[.slice ra rm rc, .agg #[.int .i64 (R1 : Nat), .int .i64 (R2 : Nat)], .int .i64 R3]) ∧ Hid (Below wb.heap.size wb w') ∧ Hid (HdT 0 w' ma n mc L ∧ ∃ F, RdL F w' ra rm rc R0) ∧ Hid (∀ g, ZrP W g → ZrP w' g ∧ ∃ F, RdL F w' ra rm rc R0 ∧ ¬ F g)) := by
      intro w1 ma mc W h1 h2 hW
      have hm2 := h2.out.below hW.out
      refine (koverK _ ma n mc L p z m W hm2.rdl hs hp hz hm).mono ?_
      rintro e w' ⟨ra, rm, rc, rfl, hf, hb⟩
      rw [hR] at hf ⊢
      exact ⟨ra, rm, rc, rfl, btr h1.out (btr hW.out hb), ⟨hm2.below hb, _, hf⟩, fun g hg => ⟨hg.below hb, _, hf, by have := heap_lt hg; omega⟩⟩
    have HC2 : Hid (∀ W ma mc ra rm rc pb, Hid (HdT 0 W ma n mc L ∧ Below wb.heap.size wb W ∧ (∃ F, RdL F W ra rm rc R0) ∧ W.heap[pb]? = some (.cells #[.int .i64 (R1 : Nat), .int .i64 (R2 : Nat)] 24 (0, 0))) → Calls Try.prog 31 #[.slice a n c, .agg #[.int .i64 p.l, .int .i64 p.c], .int .i32 z, .int .i64 m] W fun e w' => ∃ qa qm qc, e = .returned (.tuple #[.slice qa qm qc, .agg #[.int .i64 (R1 : Nat), .int .i64 (R2 : Nat)], .int .i64 R3]) ∧ ∃ w3 qb, w'.alloc (.cells #[.int .i64 (R1 : Nat), .int .i64 (R2 : Nat)] 24) = w3 ∧ w'.heap.size = qb ∧ PsC pb (R1 : Nat) (R2 : Nat) w3 ∧ PsC qb (R1 : Nat) (R2 : Nat) w3 ∧ Hid (Below wb.heap.size wb w3 ∧ (∃ F, RdL F w3 ra rm rc R0) ∧ (∃ F, RdL F w3 qa qm qc R0))) := by
      rintro W ma mc ra rm rc pb hW
      obtain ⟨-, hbW, ⟨G, hg⟩, hpb⟩ := hW.out
      refine (HD _ a n c L p z m W (HH.out.below (btr hB hbW)) hs hp hz hm).mono ?_
      rintro e w' ⟨qa, qm, qc, rfl, hf, hb⟩
      rw [hR] at hf ⊢
      have hb2 := btr hb (bal w' (.cells #[.int .i64 (R1 : Nat), .int .i64 (R2 : Nat)] 24))
      exact ⟨qa, qm, qc, rfl, _, _, rfl, rfl, psC_of (hbox hpb hb2), psC_of (heap_alloc_new _ _), btr hbW hb2, ⟨_, hg.below hb2⟩, ⟨_, hf.below (bal _ _)⟩⟩
    have HS1 : Hid (∀ W ra rm rc qa qm qc, Hid (Below wb.heap.size wb W ∧ (∃ F, RdL F W ra rm rc R0) ∧ (∃ F, RdL F W qa qm qc R0)) → Calls Try.prog 16 #[.slice ra rm rc, .slice qa qm qc] W fun e w' => e = .returned (.bool true) ∧ Hid (Below w.heap.size w w')) := by
      rintro W ra rm rc qa qm qc hW
      obtain ⟨hbW, ⟨G, hg⟩, ⟨G2, hg2⟩⟩ := hW.out
      refine (rsame_any G G2 ra qa rm qm rc qc _ _ W hg hg2).mono ?_
      rintro e w' ⟨rfl, hb⟩
      exact ⟨by simp, btr hB (btr hbW hb)⟩
    have HAW : Hid (∀ W, Hid (Below w.heap.size w W) → Calls Try.prog 17 #[] W fun e w' => e = .returned (.bool true) ∧ Hid (Below w.heap.size w w')) := by
      intro W hW
      refine (awake_any HPP.out W).mono ?_
      rintro e w' ⟨rfl, hb⟩
      exact ⟨rfl, btr hW.out hb⟩
    clear hR hs hpl hF hfit h hw hp hz hm hB hwb hbe hb1 HP HD g1 g2 hwf
    go_enter Try.func8, Try.ntmps8
    go_upto_region 1 with fail
    rw [HW.out, HBE.out, HB1.out]
    go_upto_region 3 with (go_at_call 11; (with_reducible refine (HFIT.out _ rfl).mono ?_); rintro e wq ⟨rfl, hwq⟩; subst hwq)
    clear c0 c1 c2 c3
    have HR0 : Hid (Below wb.heap.size wb wb) := Below.refl _ _
    go_cut [7, 8, 9] (fun v7 v8 v9 W => ∃ ra rm rc pb, v7 = .slice ra rm rc ∧ v8 = .pointer (some ⟨pb, 0, none⟩) ∧ v9 = .int .i64 R3 ∧ Hid (∃ ma mc, HdT 0 W ma n mc L ∧ Below wb.heap.size wb W ∧ (∃ F, RdL F W ra rm rc R0) ∧ W.heap[pb]? = some (.cells #[.int .i64 (R1 : Nat), .int .i64 (R2 : Nat)] 24 (0, 0))))
    case first =>
      go_region_held3 (fun W => W.cell? ⟨b, 0, none⟩ = some (.int .i64 p.l) ∧ W.cell? ⟨b, 1, none⟩ = some (.int .i64 p.c) ∧ W.cell? ⟨b1, 0, none⟩ = some (.int .i32 z) ∧ W.cell? ⟨b1, 1, none⟩ = some (.int .i64 m))
        (first
          | exact KS.out _ (Below.refl _ _) | exact KS.out _ (Below.refl _ _).drew | exact KS.out _ D1.out | exact KS.out _ D2.out
          | exact KS.out _ ((Below.refl _ _).alloc (Nat.le_refl _) _) | exact KS.out _ ((Below.refl _ _).alloc (Nat.le_refl _) _).drew | exact KS.out _ ((Below.refl _ _).drew.alloc (Below.refl _ _).drew.size _)
          | exact KS.out _ (D1.out.alloc D1.out.size _) | exact KS.out _ (D2.out.alloc D2.out.size _)
          | (refine KS.out _ (Below.setCell (Below.setCell D2.out ?_ _) ?_ _) <;> first | exact Nat.le_refl _ | exact D1.out.size | exact D2.out.size))
        (first
          | (go_at_call 30; (first | (with_reducible refine (HC1.out _ _ _ _ D1 T1 (Lib.hid (Below.refl _ _))).mono ?_) | (refine (HC1.out _ _ _ _ D1 T1 (Lib.hid (bal _ _))).mono ?_) | (refine (HC1.out _ _ _ _ D1 T1 (Lib.hid (Below.refl _ _).drew)).mono ?_) | (refine (HC1.out _ _ _ _ D1 T1 (Lib.hid (bal _ _).drew)).mono ?_)); rintro e w2 ⟨ra, rm, rc, rfl, D2, T2, P2⟩; (try (have hz2 := (by first | with_reducible exact P2.out _ (zrp_new _) | with_reducible exact P2.out _ (zrp_new _).drew | with_reducible exact P2.out _ hz1 | with_reducible exact P2.out _ hz1.drew : ZrP w2 _ ∧ ∃ F, RdL F w2 ra rm rc R0 ∧ ¬ F _); obtain ⟨z10, z11, z12, z13, z14⟩ := hz2.1.facts)))
          | (go_at_call 12; (first | (with_reducible refine (HTW.out _ HR0).mono ?_) | (refine (HTW.out _ (Lib.hid (Below.refl _ _).drew)).mono ?_) | (refine (HTW.out _ (Lib.hid (bal _ _))).mono ?_) | (refine (HTW.out _ (Lib.hid (bal _ _).drew)).mono ?_) | (refine (HTW.out _ (Lib.hid ((Below.refl _ _).drew.alloc (Below.refl _ _).drew.size _))).mono ?_)); rintro e w1 ⟨ma, mc, rfl, D1, T1, P1⟩; (try (have hz1 : ZrP w1 _ := (by first | with_reducible exact P1.out _ (zrp_new _) | with_reducible exact P1.out _ (zrp_new _).drew); obtain ⟨y10, y11, y12, y13, y14⟩ := hz1.facts))))
      all_goals
        go_wp2_with fail
        go_meet
        first
          | exact ⟨ra, rm, rc, _, rfl, rfl, rfl, ma, mc, T2.out.1.below (bal w2 _), btr D2.out (bal w2 _), (by obtain ⟨F, hF⟩ := T2.out.2; exact ⟨F, hF.below (bal w2 _)⟩), heap_alloc_new w2 _⟩
          | exact ⟨ra, rm, rc, _, rfl, rfl, rfl, ma, mc, T2.out.1.setPos hz2.1 _ _, setCell_below (setCell_below D2.out _ _ _ (by first | exact Nat.le_refl _ | exact D1.out.size)) _ _ _ (by first | exact Nat.le_refl _ | exact D1.out.size), rdl_setG hz2.2 _ _, heap_set (heap_set hz2.1 0 _) 1 _⟩
    case rest =>
      obtain ⟨ra, rm, rc, pb, rfl, rfl, rfl, H4⟩ := hcut
      obtain ⟨w4, hw4⟩ : ∃ w4, w4 = wc := ⟨_, rfl⟩
      subst hw4
      obtain ⟨ma, mc, h1, h2, h3, h4⟩ := H4.out
      have H5 : Hid (HdT 0 w4 ma n mc L ∧ Below wb.heap.size wb w4 ∧ (∃ F, RdL F w4 ra rm rc R0) ∧ w4.heap[pb]? = some (.cells #[.int .i64 (R1 : Nat), .int .i64 (R2 : Nat)] 24 (0, 0))) := ⟨h1, h2, h3, h4⟩
      obtain ⟨c0, c1, c2, c3⟩ := KS.out w4 h2
      clear h1 h2 h3 h4 H4 HTW HC1
      unfold PsC at HC2
      go_wp2_with (first
        | (go_at_call 31; (with_reducible refine (HC2.out _ _ _ _ _ _ _ H5).mono ?_); rintro e w5' ⟨qa, qm, qc, rfl, w5, qb, hw5, hqb, ⟨d0, d1⟩, ⟨e0, e1⟩, H6⟩)
        | (go_at_call 16; (with_reducible refine (HS1.out _ _ _ _ _ _ _ H6).mono ?_); rintro e w6 ⟨rfl, H7⟩)
        | (go_at_call 17; (with_reducible refine (HAW.out _ H7).mono ?_); rintro e w8 ⟨rfl, H8⟩))
      go_ret
      exact ⟨rfl, H8.out⟩
  · have hF2 : fitL L = false := by simpa using hF
    rw [hF2] at hfit
    have HFIT : Hid (∀ W, W = wb → Calls Try.prog 11 #[.slice a n c] W fun e w' => e = .returned (.bool false) ∧ W = w') := by
      rintro W rfl
      exact hfit.mono fun e w' h => ⟨h.1, h.2.symm⟩
    clear hF hF2 hfit h hw hp hz hm g1 g2 hB hwb hbe hb1 HP HD
    go_enter Try.func8, Try.ntmps8
    go_upto_region 1 with fail
    rw [HW.out, HBE.out, HB1.out]
    go_wp2_with (go_at_call 11; (with_reducible refine (HFIT.out _ rfl).mono ?_); rintro e wq ⟨rfl, hwq⟩; subst hwq)
    go_ret
    exact ⟨rfl, HB.out⟩
end Go.Proofs.Ytfldjoiohejilaa.U
