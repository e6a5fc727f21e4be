/-
  The walk of OperPastes. (MADE by wip/tools/gen_jlawsp.py.)
-/
import Derived.Test.YtfldjoiohejilaaJLawsO
namespace Go.Proofs.Ytfldjoiohejilaa.U
open Go.RowKit
set_option linter.unusedVariables false
set_option linter.unusedSimpArgs false
set_option maxRecDepth 100000

/-- a zeroed register -/
def ZrR (W : World) (g : Nat) : Prop := W.heap[g]? = some (.cells #[.int .i64 0, .slice none 0 0] 30 (0, 0))
theorem ZrR.below {W W' : World} {g : Nat} (h : ZrR W g) (hb : Below W.heap.size W W') : ZrR W' g := hbox h hb
theorem zrr_new (W : World) : ZrR (W.alloc (.cells #[.int .i64 0, .slice none 0 0] 30)) W.heap.size := heap_alloc_new W _
theorem ZrR.drew {W : World} {g : Nat} (h : ZrR W g) : ZrR W.drew g := h
theorem ZrR.facts {W : World} {g : Nat} (h : ZrR W g) : W.cell? ⟨g, 0, none⟩ = some (.int .i64 0) ∧ W.cell? ⟨g, 1, none⟩ = some (.slice none 0 0) ∧ W.frozen? ⟨g, 0, none⟩ = false ∧ W.frozen? ⟨g, 1, none⟩ = false ∧ g < W.heap.size := ⟨cell_row h 0, cell_row h 1, frozen_row h 0, frozen_row h 1, heap_lt h⟩
theorem HdT.setReg {B qb : Nat} {w : World} {a : Option Addr} {n c : Nat} {L : List (List Int)} (h : HdT B w a n c L) {cs : Array Value} (hq : w.heap[qb]? = some (.cells cs 30 (0, 0))) (u v : Value) : HdT B ((w.setCell ⟨qb, 0, none⟩ u).setCell ⟨qb, 1, none⟩ v) a n c L := by
  have hf : Fr (fun k => k = qb) w ((w.setCell ⟨qb, 0, none⟩ u).setCell ⟨qb, 1, none⟩ v) := ((Fr.refl (fun k => k = qb) w).setCell ⟨qb, 0, none⟩ _ (fun _ => rfl)).setCell ⟨qb, 1, none⟩ _ (fun _ => rfl)
  obtain ⟨vs, h1, h2⟩ := h
  refine ⟨vs, own_fr h1 hf (fun k e => row_block_apart h1 hq (by decide) e), h2.1, fun i x hx => ?_⟩
  obtain ⟨ra, m, rc, e1, e2⟩ := h2.2 i x hx
  refine ⟨ra, m, rc, e1, e2.fr hf (fun k hk cur hc => ?_)⟩
  subst hk
  rw [hq] at hc
  injection hc with hc
  injection hc with _ hc
  exact absurd hc (by decide)
def GbC (g : Nat) (k : Int) (v : Value) (W : World) : Prop := W.cell? ⟨g, 0, none⟩ = some (.int .i64 k) ∧ W.cell? ⟨g, 1, none⟩ = some v
def XbC (b b1 : Nat) (p : Po) (kd : Int) (v : Value) (bh : Bool) (m : Int) (W : World) : Prop := W.cell? ⟨b, 0, none⟩ = some (.int .i64 p.l) ∧ W.cell? ⟨b, 1, none⟩ = some (.int .i64 p.c) ∧ W.cell? ⟨b1, 0, none⟩ = some (.int .i64 kd) ∧ W.cell? ⟨b1, 1, none⟩ = some v ∧ W.cell? ⟨b1, 2, none⟩ = some (.bool bh) ∧ W.cell? ⟨b1, 3, none⟩ = some (.int .i64 m)
set_option maxHeartbeats 8000000 in
theorem operPastes_wideP (HP : PasteK 22) (HD : PasteK 23) (a : Option Addr) (n c : Nat) (L : List (List Int)) (p : Po) (kd : Int) (ga : Option Addr) (gn gc : Nat) (GL : List (List Int)) (bh : Bool) (m : Int) (w : World) (h : RdL (fun k => k < w.heap.size) w a n c L) (hw : WideL L) (hp : i64p p) (hkd : i64b kd) (hg : RdL (fun k => k < w.heap.size) w ga gn gc GL) (hgw : WideL GL) (hm : i64b m) :
    Calls Try.prog 5 #[.slice a n c, p.v, .agg #[.int .i64 kd, .slice ga gn gc, .bool bh, .int .i64 m]] w fun e w' => e = .returned (.bool true) ∧ Below w.heap.size w w' := by
  obtain ⟨wb, hwb⟩ : ∃ wb, (w.alloc (.cells #[.int .i64 p.l, .int .i64 p.c] 24)).alloc (.cells #[.int .i64 kd, .slice ga gn gc, .bool bh, .int .i64 m] 42) = wb := ⟨_, rfl⟩
  obtain ⟨g1, g2⟩ := two_new w #[.int .i64 p.l, .int .i64 p.c] #[.int .i64 kd, .slice ga gn gc, .bool bh, .int .i64 m] 24 42 _ (Below.refl _ _)
  rw [hwb] at g1 g2
  have hB : Below w.heap.size w wb := by rw [← hwb]; exact ((Below.refl _ _).alloc (Nat.le_refl _) _).alloc (by simp) _
  obtain ⟨b, hbe⟩ : ∃ b, w.heap.size = b := ⟨_, rfl⟩
  obtain ⟨b1, hb1⟩ : ∃ b1, b + 1 = b1 := ⟨_, rfl⟩
  rw [hbe] at g1 g2
  rw [hb1] at g2
  have hfit := fit_any _ a n c L wb (h.below hB) hw
  have hsma := small_wide _ ga gn gc GL wb (hg.below hB) hgw
  have HB := Lib.hid hB
  have HW := Lib.hid hwb
  have HBE := Lib.hid hbe
  have HB1 := Lib.hid hb1
  have HH := Lib.hid h
  have HG := Lib.hid hg
  have HPP := Lib.hid HP
  have KS : Hid (∀ W, Below wb.heap.size wb W → XbC b b1 p kd (.slice ga gn gc) bh m W) := fun W hW => ⟨cell_row (hbox g1 hW) 0, cell_row (hbox g1 hW) 1, cell_row (hbox g2 hW) 0, cell_row (hbox g2 hW) 1, cell_row (hbox g2 hW) 2, cell_row (hbox g2 hW) 3⟩
  have KR : Hid (∀ W, Below wb.heap.size wb W → (W.cell? ⟨b1, 0, none⟩ = some (.int .i64 kd) ∧ W.cell? ⟨b1, 1, none⟩ = some (.slice ga gn gc))) := fun W hW => ⟨cell_row (hbox g2 hW) 0, cell_row (hbox g2 hW) 1⟩
  show Calls Try.prog _ #[_, .agg #[.int .i64 p.l, .int .i64 p.c], _] w _
  obtain ⟨c0, c1, c2, c3, c4, c5⟩ := KS.out wb (Below.refl _ _)
  by_cases hF : fitL L = true
  · rw [hF] at hfit
    have HFIT : Hid (∀ W, W = wb → Calls Try.prog 11 #[.slice a n c] W fun e w' => e = .returned (.bool true) ∧ W = w') := by
      rintro W rfl
      exact hfit.mono fun e w' h => ⟨h.1, h.2.symm⟩
    obtain ⟨hs, hpl⟩ := fit_small hF
    by_cases hSm : smallL GL = true
    · rw [hSm] at hsma
      have HSMA : Hid (∀ W, W = wb → Calls Try.prog 20 #[.slice ga gn gc] W fun e w' => e = .returned (.bool true) ∧ W = w') := by
        rintro W rfl
        exact hsma
      have hgs : sizeN (lens GL) ≤ 65536 := by
        unfold smallL at hSm
        simp only [Bool.and_eq_true, decide_eq_true_eq] at hSm
        by_cases hne : GL = []
        · subst hne; simp [lens, sizeN_nil]
        · have := joinL_len hne
          omega
      obtain ⟨⟨R0, ⟨R1, R2⟩, R3⟩, hR⟩ : ∃ R, pasteR L p kd GL bh m = R := ⟨_, rfl⟩
      have hwf := lines_wf (rdl_wf h)
      have hwfg := lines_wf (rdl_wf hg)
      have HTW : Hid (∀ W, Hid (Below wb.heap.size wb W) → Calls Try.prog 12 #[.slice a n c] W fun e w' => ∃ ma mc, e = .returned (.slice ma n mc) ∧ Hid (Below wb.heap.size wb w') ∧ Hid (HdT 0 w' ma n mc L) ∧ Hid (∀ g, ZrR W g → ZrR w' g)) := by
        intro W hW
        refine (rtwin_any _ a n c L W (h.below (btr hB hW.out)) (by omega)).mono ?_
        rintro e w' ⟨ma, mc, rfl, hf, hb⟩
        exact ⟨ma, mc, rfl, btr hW.out hb, hdt_my (hf.my (Nat.zero_le _)) hwf, fun g hg => hg.below hb⟩
      have HTR : Hid (∀ W, Hid (Below wb.heap.size wb W) → Calls Try.prog 21 #[.agg #[.int .i64 kd, .slice ga gn gc]] W fun e w' => ∃ ta tc, e = .returned (.agg #[.int .i64 kd, .slice ta gn tc]) ∧ Hid (Below wb.heap.size wb w') ∧ Hid (HdT 0 w' ta gn tc GL) ∧ Hid (∀ g, ZrR W g → ZrR w' g)) := by
        intro W hW
        refine (rtwinR_any _ kd ga gn gc GL W (hg.below (btr hB hW.out)) (by unfold sizeR; omega)).mono ?_
        rintro e w' ⟨ta, tc, rfl, hf, hb⟩
        exact ⟨ta, tc, rfl, btr hW.out hb, hdt_my (hf.my (Nat.zero_le _)) hwfg, fun g hg => hg.below hb⟩
      have HTR2 : Hid (∀ w1 W ma mc, Hid (Below wb.heap.size wb w1) → Hid (HdT 0 w1 ma n mc L) → Hid (Below w1.heap.size w1 W) → Calls Try.prog 21 #[.agg #[.int .i64 kd, .slice ga gn gc]] W fun e w' => ∃ ta tc, e = .returned (.agg #[.int .i64 kd, .slice ta gn tc]) ∧ Hid (Below wb.heap.size wb w') ∧ Hid (HdT 0 w' ma n mc L ∧ HdT 0 w' ta gn tc GL) ∧ Hid (∀ g, ZrR W g → ZrR w' g)) := by
        intro w1 W ma mc h1 h2 hW
        refine (rtwinR_any _ kd ga gn gc GL W (hg.below (btr hB (btr h1.out hW.out))) (by unfold sizeR; omega)).mono ?_
        rintro e w' ⟨ta, tc, rfl, hf, hb⟩
        exact ⟨ta, tc, rfl, btr h1.out (btr hW.out hb), ⟨(h2.out.below hW.out).below hb, hdt_my (hf.my (Nat.zero_le _)) hwfg⟩, fun g hg => hg.below hb⟩
      have HTW2 : Hid (∀ w1 W ta tc, Hid (Below wb.heap.size wb w1) → Hid (HdT 0 w1 ta gn tc GL) → Hid (Below w1.heap.size w1 W) → Calls Try.prog 12 #[.slice a n c] W fun e w' => ∃ ma mc, e = .returned (.slice ma n mc) ∧ Hid (Below wb.heap.size wb w') ∧ Hid (HdT 0 w' ma n mc L ∧ HdT 0 w' ta gn tc GL) ∧ Hid (∀ g, ZrR W g → ZrR w' g)) := by
        intro w1 W ta tc h1 h2 hW
        refine (rtwin_any _ a n c L W (h.below (btr hB (btr h1.out hW.out))) (by omega)).mono ?_
        rintro e w' ⟨ma, mc, rfl, hf, hb⟩
        exact ⟨ma, mc, rfl, btr h1.out (btr hW.out hb), ⟨hdt_my (hf.my (Nat.zero_le _)) hwf, (h2.out.below hW.out).below hb⟩, fun g hg => hg.below hb⟩
      have HC1 : Hid (∀ (W : World) (ma : Option Addr) (mc : Nat) (ta : Option Addr) (tc gb : Nat), Hid (Below wb.heap.size wb W ∧ HdT 0 W ma n mc L ∧ HdT 0 W ta gn tc GL ∧ W.heap[gb]? = some (.cells #[.int .i64 kd, .slice ta gn tc] 30 (0, 0))) → Calls Try.prog 22 #[.slice ma n mc, .agg #[.int .i64 p.l, .int .i64 p.c], .agg #[.int .i64 kd, .slice ta gn tc], .bool bh, .int .i64 m] W fun e w' => ∃ ra rm rc, e = .returned (.tuple #[.slice ra rm rc, .agg #[.int .i64 (R1 : Nat), .int .i64 (R2 : Nat)], .int .i64 R3]) ∧ ∃ w3 pb, w'.alloc (.cells #[.int .i64 (R1 : Nat), .int .i64 (R2 : Nat)] 24) = w3 ∧ w'.heap.size = pb ∧ XbC b b1 p kd (.slice ga gn gc) bh m w3 ∧ Hid (Below wb.heap.size wb w3 ∧ HdT 0 w3 ma n mc L ∧ HdT 0 w3 ta gn tc GL ∧ w3.heap[gb]? = some (.cells #[.int .i64 kd, .slice ta gn tc] 30 (0, 0)) ∧ (∃ F, RdL F w3 ra rm rc R0) ∧ w3.heap[pb]? = some (.cells #[.int .i64 (R1 : Nat), .int .i64 (R2 : Nat)] 24 (0, 0)))) := by
        intro W ma mc ta tc gb hW
        obtain ⟨hbW, h1, h2, h3⟩ := hW.out
        refine (HPP.out _ _ ma n mc L ta gn tc GL p kd bh m W h1.rdl hs hpl h2.rdl hgs hp hkd hm).mono ?_
        rintro e w' ⟨ra, rm, rc, rfl, hf, hb⟩
        rw [hR] at hf ⊢
        have hb2 := btr hb (bal w' (.cells #[.int .i64 (R1 : Nat), .int .i64 (R2 : Nat)] 24))
        exact ⟨ra, rm, rc, rfl, _, _, rfl, rfl, KS.out _ (btr hbW hb2), btr hbW hb2, h1.below hb2, h2.below hb2, hbox h3 hb2, ⟨_, hf.below (bal _ _)⟩, heap_alloc_new _ _⟩
      have HC2 : Hid (∀ (W : World) (ma : Option Addr) (mc : Nat) (ta : Option Addr) (tc gb : Nat) ra rm rc (pb : Nat), Hid (Below wb.heap.size wb W ∧ HdT 0 W ma n mc L ∧ HdT 0 W ta gn tc GL ∧ W.heap[gb]? = some (.cells #[.int .i64 kd, .slice ta gn tc] 30 (0, 0)) ∧ (∃ F, RdL F W ra rm rc R0) ∧ W.heap[pb]? = some (.cells #[.int .i64 (R1 : Nat), .int .i64 (R2 : Nat)] 24 (0, 0))) → Calls Try.prog 23 #[.slice a n c, .agg #[.int .i64 p.l, .int .i64 p.c], .agg #[.int .i64 kd, .slice ga gn gc], .bool bh, .int .i64 m] W fun e w' => ∃ qa qm qc, e = .returned (.tuple #[.slice qa qm qc, .agg #[.int .i64 (R1 : Nat), .int .i64 (R2 : Nat)], .int .i64 R3]) ∧ ∃ w3 qb, w'.alloc (.cells #[.int .i64 (R1 : Nat), .int .i64 (R2 : Nat)] 24) = w3 ∧ w'.heap.size = qb ∧ PsC pb (R1 : Nat) (R2 : Nat) w3 ∧ PsC qb (R1 : Nat) (R2 : Nat) w3 ∧ Hid (Below wb.heap.size wb w3 ∧ HdT 0 w3 ma n mc L ∧ HdT 0 w3 ta gn tc GL ∧ w3.heap[gb]? = some (.cells #[.int .i64 kd, .slice ta gn tc] 30 (0, 0)) ∧ (∃ F, RdL F w3 ra rm rc R0) ∧ (∃ F, RdL F w3 qa qm qc R0))) := by
        intro W ma mc ta tc gb ra rm rc pb hW
        obtain ⟨hbW, h1, h2, h3, ⟨F4, h4⟩, h5⟩ := hW.out
        refine (HD _ _ a n c L ga gn gc GL p kd bh m W (HH.out.below (btr hB hbW)) hs hpl (HG.out.below (btr hB hbW)) hgs hp hkd hm).mono ?_
        rintro e w' ⟨qa, qm, qc, rfl, hf, hb⟩
        rw [hR] at hf ⊢
        have hb2 := btr hb (bal w' (.cells #[.int .i64 (R1 : Nat), .int .i64 (R2 : Nat)] 24))
        exact ⟨qa, qm, qc, rfl, _, _, rfl, rfl, psC_of (hbox h5 hb2), psC_of (heap_alloc_new _ _), btr hbW hb2, h1.below hb2, h2.below hb2, hbox h3 hb2, ⟨_, h4.below hb2⟩, ⟨_, hf.below (bal _ _)⟩⟩
      have HS1 : Hid (∀ (W : World) (ma : Option Addr) (mc : Nat) (ta : Option Addr) (tc gb : Nat) ra rm rc qa qm qc, Hid (Below wb.heap.size wb W ∧ HdT 0 W ma n mc L ∧ HdT 0 W ta gn tc GL ∧ W.heap[gb]? = some (.cells #[.int .i64 kd, .slice ta gn tc] 30 (0, 0)) ∧ (∃ F, RdL F W ra rm rc R0) ∧ (∃ F, RdL F W qa qm qc R0)) → Calls Try.prog 16 #[.slice ra rm rc, .slice qa qm qc] W fun e w' => e = .returned (.bool true) ∧ Hid (Below wb.heap.size wb w' ∧ HdT 0 w' ma n mc L ∧ HdT 0 w' ta gn tc GL ∧ w'.heap[gb]? = some (.cells #[.int .i64 kd, .slice ta gn tc] 30 (0, 0)))) := by
        intro W ma mc ta tc gb ra rm rc qa qm qc hW
        obtain ⟨hbW, h1, h2, h3, ⟨F4, h4⟩, ⟨F5, h5⟩⟩ := hW.out
        refine (rsame_any F4 F5 ra qa rm qm rc qc _ _ W h4 h5).mono ?_
        rintro e w' ⟨rfl, hb⟩
        exact ⟨by simp, btr hbW hb, h1.below hb, h2.below hb, hbox h3 hb⟩
      have HS2 : Hid (∀ (W : World) (ma : Option Addr) (mc : Nat) (ta : Option Addr) (tc gb : Nat), Hid (Below wb.heap.size wb W ∧ HdT 0 W ma n mc L ∧ HdT 0 W ta gn tc GL ∧ W.heap[gb]? = some (.cells #[.int .i64 kd, .slice ta gn tc] 30 (0, 0))) → Calls Try.prog 16 #[.slice ma n mc, .slice a n c] W fun e w' => e = .returned (.bool true) ∧ GbC gb kd (.slice ta gn tc) w' ∧ GbC b1 kd (.slice ga gn gc) w' ∧ Hid (Below wb.heap.size wb w' ∧ HdT 0 w' ta gn tc GL)) := by
        intro W ma mc ta tc gb hW
        obtain ⟨hbW, h1, h2, h3⟩ := hW.out
        refine (rsame_any _ _ ma a n n mc c _ _ W h1.rdl (HH.out.below (btr hB hbW))).mono ?_
        rintro e w' ⟨rfl, hb⟩
        exact ⟨by simp, ⟨cell_row (hbox h3 hb) 0, cell_row (hbox h3 hb) 1⟩, KR.out _ (btr hbW hb), btr hbW hb, h2.below hb⟩
      have HS3 : Hid (∀ W ta tc, Hid (Below wb.heap.size wb W ∧ HdT 0 W ta gn tc GL) → Calls Try.prog 15 #[.agg #[.int .i64 kd, .slice ta gn tc], .agg #[.int .i64 kd, .slice ga gn gc]] W fun e w' => e = .returned (.bool true) ∧ Hid (Below w.heap.size w w')) := by
        intro W ta tc hW
        obtain ⟨hbW, h1⟩ := hW.out
        refine (rsameR_any _ _ kd kd ta ga gn gn tc gc GL GL W h1.rdl (HG.out.below (btr hB hbW))).mono ?_
        rintro e w' ⟨rfl, hb⟩
        exact ⟨by simp, btr hB (btr hbW hb)⟩
      have HAW : Hid (∀ W, Hid (Below w.heap.size w W) → Calls Try.prog 17 #[] W fun e w' => e = .returned (.bool true) ∧ Hid (Below w.heap.size w w')) := by
        intro W hW
        refine (awake_any HPP.out W).mono ?_
        rintro e w' ⟨rfl, hb⟩
        exact ⟨rfl, btr hW.out hb⟩
      clear hR hs hpl hF hSm hfit hsma h hw hp hkd hg hgw hgs hm hB hwb hbe hb1 HP HD g1 g2 hwf hwfg
      go_enter Try.func5, Try.ntmps5
      go_upto_region 1 with fail
      rw [HW.out, HBE.out, HB1.out]
      go_upto_region 3 with (first
        | (go_at_call 11; (with_reducible refine (HFIT.out _ rfl).mono ?_); rintro e wq ⟨rfl, hwq⟩; subst hwq)
        | (go_at_call 20; (with_reducible refine (HSMA.out _ rfl).mono ?_); rintro e wq ⟨rfl, hwq⟩; subst hwq))
      clear c0 c1 c2 c3 c4 c5
      have HR0 : Hid (Below wb.heap.size wb wb) := Below.refl _ _
      go_cut [7, 8] (fun v7 v8 W => ∃ (ma : Option Addr) (mc gb : Nat), v7 = .slice ma n mc ∧ v8 = .pointer (some ⟨gb, 0, none⟩) ∧ Hid (∃ ta tc, Below wb.heap.size wb W ∧ HdT 0 W ma n mc L ∧ HdT 0 W ta gn tc GL ∧ W.heap[gb]? = some (.cells #[.int .i64 kd, .slice ta gn tc] 30 (0, 0))))
      case first =>
        go_region_held3 (fun W => W.cell? ⟨b1, 0, none⟩ = some (.int .i64 kd) ∧ W.cell? ⟨b1, 1, none⟩ = some (.slice ga gn gc))
          (first
            | exact KR.out _ (Below.refl _ _) | exact KR.out _ (Below.refl _ _).drew | exact KR.out _ D1.out | exact KR.out _ E1.out | exact KR.out _ D2.out
            | exact KR.out _ ((Below.refl _ _).alloc (Nat.le_refl _) _) | exact KR.out _ ((Below.refl _ _).alloc (Nat.le_refl _) _).drew | exact KR.out _ ((Below.refl _ _).drew.alloc (Below.refl _ _).drew.size _)
            | exact KR.out _ (D1.out.alloc D1.out.size _) | exact KR.out _ (E1.out.alloc E1.out.size _) | exact KR.out _ (D2.out.alloc D2.out.size _)
            | (refine KR.out _ (Below.setCell (Below.setCell D2.out ?_ _) ?_ _) <;> first | exact Nat.le_refl _ | exact D1.out.size | exact E1.out.size | exact D2.out.size))
          (first
            | (go_at_call 21; (first | (with_reducible refine (HTR2.out _ _ _ _ D1 T1 (Lib.hid (Below.refl _ _))).mono ?_) | (refine (HTR2.out _ _ _ _ D1 T1 (Lib.hid (bal _ _))).mono ?_)); rintro e w2 ⟨ta, tc, rfl, D2, T2, P2⟩; (try (have hz2 := (by first | with_reducible exact P2.out _ (zrr_new _) | with_reducible exact P2.out _ hz1 : ZrR w2 _); obtain ⟨z10, z11, z12, z13, z14⟩ := hz2.facts)))
            | (go_at_call 21; (first | (with_reducible refine (HTR.out _ HR0).mono ?_) | (refine (HTR.out _ (Lib.hid (Below.refl _ _).drew)).mono ?_) | (refine (HTR.out _ (Lib.hid (bal _ _))).mono ?_) | (refine (HTR.out _ (Lib.hid (bal _ _).drew)).mono ?_) | (refine (HTR.out _ (Lib.hid ((Below.refl _ _).drew.alloc (Below.refl _ _).drew.size _))).mono ?_)); rintro e w1 ⟨ta, tc, rfl, E1, U1, P1⟩; (try (have hz1 : ZrR w1 _ := (by first | with_reducible exact P1.out _ (zrr_new _) | with_reducible exact P1.out _ (zrr_new _).drew); obtain ⟨y10, y11, y12, y13, y14⟩ := hz1.facts)))
            | (go_at_call 12; (first | (with_reducible refine (HTW2.out _ _ _ _ E1 U1 (Lib.hid (Below.refl _ _))).mono ?_) | (refine (HTW2.out _ _ _ _ E1 U1 (Lib.hid (bal _ _))).mono ?_)); rintro e w2 ⟨ma, mc, rfl, D2, T2, P2⟩; (try (have hz2 := (by first | with_reducible exact P2.out _ (zrr_new _) | with_reducible exact P2.out _ hz1 : ZrR w2 _); obtain ⟨z10, z11, z12, z13, z14⟩ := hz2.facts)))
            | (go_at_call 12; (first | (with_reducible refine (HTW.out _ HR0).mono ?_) | (refine (HTW.out _ (Lib.hid (Below.refl _ _).drew)).mono ?_) | (refine (HTW.out _ (Lib.hid (bal _ _))).mono ?_) | (refine (HTW.out _ (Lib.hid (bal _ _).drew)).mono ?_) | (refine (HTW.out _ (Lib.hid ((Below.refl _ _).drew.alloc (Below.refl _ _).drew.size _))).mono ?_)); rintro e w1 ⟨ma, mc, rfl, D1, T1, P1⟩; (try (have hz1 : ZrR w1 _ := (by first | with_reducible exact P1.out _ (zrr_new _) | with_reducible exact P1.out _ (zrr_new _).drew); obtain ⟨y10, y11, y12, y13, y14⟩ := hz1.facts))))
        all_goals
          go_wp2_with fail
          go_meet
          first
            | exact ⟨ma, mc, _, rfl, rfl, ta, tc, btr D2.out (bal w2 _), T2.out.1.below (bal w2 _), T2.out.2.below (bal w2 _), heap_alloc_new w2 _⟩
            | exact ⟨ma, mc, _, rfl, rfl, ta, tc, setCell_below (setCell_below D2.out _ _ _ (by first | exact Nat.le_refl _ | exact D1.out.size | exact E1.out.size)) _ _ _ (by first | exact Nat.le_refl _ | exact D1.out.size | exact E1.out.size), T2.out.1.setReg hz2 _ _, T2.out.2.setReg hz2 _ _, heap_set (heap_set hz2 0 _) 1 _⟩
      case rest =>
        obtain ⟨ma, mc, gb, rfl, rfl, H3⟩ := hcut
        obtain ⟨ta, tc, H3⟩ := H3.out
        obtain ⟨w3, hw3⟩ : ∃ w3, w3 = wc := ⟨_, rfl⟩
        subst hw3
        obtain ⟨c0, c1, c2, c3, c4, c5⟩ := KS.out w3 H3.1
        have d0 := cell_row H3.2.2.2 0
        have d1 := cell_row H3.2.2.2 1
        have H4 := Lib.hid H3
        clear HTW HTR HTW2 HTR2 H3
        unfold PsC at HC2
        unfold XbC at HC1
        unfold GbC at HS2
        go_wp2_with (first
          | (go_at_call 22; (with_reducible refine (HC1.out _ _ _ _ _ _ H4).mono ?_); rintro e w4' ⟨ra, rm, rc, rfl, w4, pb, hw4, hpb, ⟨c10, c11, c12, c13, c14, c15⟩, H5⟩)
          | (go_at_call 23; (with_reducible refine (HC2.out _ _ _ _ _ _ _ _ _ _ H5).mono ?_); rintro e w5' ⟨qa, qm, qc, rfl, w5, qb, hw5, hqb, ⟨e0, e1⟩, ⟨f0, f1⟩, H6⟩)
          | (go_at_call 16; (with_reducible refine (HS1.out _ _ _ _ _ _ _ _ _ _ _ _ H6).mono ?_); rintro e w6 ⟨rfl, H7⟩)
          | (go_at_call 16; (with_reducible refine (HS2.out _ _ _ _ _ _ H7).mono ?_); rintro e w7 ⟨rfl, ⟨k0, k1⟩, ⟨l0, l1⟩, H8⟩)
          | (go_at_call 15; (with_reducible refine (HS3.out _ _ _ H8).mono ?_); rintro e w8 ⟨rfl, H9⟩)
          | (go_at_call 17; (with_reducible refine (HAW.out _ H9).mono ?_); rintro e w9 ⟨rfl, H10⟩))
        go_ret
        exact ⟨rfl, H10.out⟩
    · have hS2 : smallL GL = false := by simpa using hSm
      rw [hS2] at hsma
      have HSMA : Hid (∀ W, W = wb → Calls Try.prog 20 #[.slice ga gn gc] W fun e w' => e = .returned (.bool false) ∧ W = w') := by
        rintro W rfl
        exact hsma
      clear hS2 hSm hs hpl hF hfit hsma h hw hp hkd hg hgw hm g1 g2 hB hwb hbe hb1 HP HD
      go_enter Try.func5, Try.ntmps5
      go_upto_region 1 with fail
      rw [HW.out, HBE.out, HB1.out]
      go_wp2_with (first
        | (go_at_call 11; (with_reducible refine (HFIT.out _ rfl).mono ?_); rintro e wq ⟨rfl, hwq⟩; subst hwq)
        | (go_at_call 20; (with_reducible refine (HSMA.out _ rfl).mono ?_); rintro e wq ⟨rfl, hwq⟩; subst hwq))
      go_ret
      exact ⟨rfl, HB.out⟩
  · have hF2 : fitL L = false := by simpa using hF
    rw [hF2] at hfit
    have HFIT : Hid (∀ W, W = wb → Calls Try.prog 11 #[.slice a n c] W fun e w' => e = .returned (.bool false) ∧ W = w') := by
      rintro W rfl
      exact hfit.mono fun e w' h => ⟨h.1, h.2.symm⟩
    clear hF hF2 hfit hsma h hw hp hkd hg hgw hm g1 g2 hB hwb hbe hb1 HP HD
    go_enter Try.func5, Try.ntmps5
    go_upto_region 1 with fail
    rw [HW.out, HBE.out, HB1.out]
    go_wp2_with (go_at_call 11; (with_reducible refine (HFIT.out _ rfl).mono ?_); rintro e wq ⟨rfl, hwq⟩; subst hwq)
    go_ret
    exact ⟨rfl, HB.out⟩
end Go.Proofs.Ytfldjoiohejilaa.U
