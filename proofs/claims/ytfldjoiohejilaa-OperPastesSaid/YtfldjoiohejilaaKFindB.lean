/-
  find of a region that is there.
-/
import Derived.Test.YtfldjoiohejilaaKFind
namespace Go.Proofs.Ytfldjoiohejilaa.U
open Go.RowKit
set_option linter.unusedVariables false
set_option linter.unusedSimpArgs false
set_option maxRecDepth 100000

/-- find's boxes, the area in the making at d -/
structure FjS (w : World) (b d : Nat) (r : Rgn) (v0 v1 v2 v3 v4 v5 v6 : Value) (W : World) : Prop where
  hb : Below b w W
  rg : RgB b r W
  res : ArH (b + 1) #[.int .i64 0, .int .i64 0, .int .i64 0, .int .i64 0, .int .i64 0, .int .i64 0, .int .i64 0] W
  ar : ArH d #[v0, v1, v2, v3, v4, v5, v6] W
  bd : b + 1 < d
theorem FjS.below {w W W' : World} {b d : Nat} {r : Rgn} {v0 v1 v2 v3 v4 v5 v6 : Value} (h : FjS w b d r v0 v1 v2 v3 v4 v5 v6 W) (hw : w.heap.size = b) (hb : Below W.heap.size W W') : FjS w b d r v0 v1 v2 v3 v4 v5 v6 W' :=
  ⟨h.hb.trans (hb.mono (by have := h.hb.size; omega)), h.rg.below hb, h.res.below hb, h.ar.below hb, h.bd⟩
theorem fjs_new {w W : World} {b : Nat} {r : Rgn} (h : FiS w b r W) (hw : w.heap.size = b) (v0 v1 v2 v3 v4 v5 v6 : Value) : FjS w b W.heap.size r v0 v1 v2 v3 v4 v5 v6 (W.alloc (.cells #[v0, v1, v2, v3, v4, v5, v6] 68)) := by
  have hb := bal W (.cells #[v0, v1, v2, v3, v4, v5, v6] 68)
  have h1 := heap_lt h.2.2
  exact ⟨h.1.trans (hb.mono (by have := h.1.size; omega)), h.2.1.below hb, h.2.2.below hb, heap_alloc_new W _, h1⟩
theorem FjS.swap {w W : World} {b d : Nat} {r : Rgn} {v0 v1 v2 v3 v4 v5 v6 : Value} (h : FjS w b d r v0 v1 v2 v3 v4 v5 v6 W) :
    FjS w b d r v0 v3 v4 v1 v2 v5 v6 ((((W.setCell ⟨d, 1, none⟩ v3).setCell ⟨d, 2, none⟩ v4).setCell ⟨d, 3, none⟩ v1).setCell ⟨d, 4, none⟩ v2) := by
  have hbd := h.bd
  have hf : Fr (fun k => k = d) W ((((W.setCell ⟨d, 1, none⟩ v3).setCell ⟨d, 2, none⟩ v4).setCell ⟨d, 3, none⟩ v1).setCell ⟨d, 4, none⟩ v2) := ((((Fr.refl (fun k => k = d) W).setCell ⟨d, 1, none⟩ _ (fun _ => rfl)).setCell ⟨d, 2, none⟩ _ (fun _ => rfl)).setCell ⟨d, 3, none⟩ _ (fun _ => rfl)).setCell ⟨d, 4, none⟩ _ (fun _ => rfl)
  have hbl := h.rg.l0
  have hcell : ∀ i, (((((W.setCell ⟨d, 1, none⟩ v3).setCell ⟨d, 2, none⟩ v4).setCell ⟨d, 3, none⟩ v1).setCell ⟨d, 4, none⟩ v2)).cell? ⟨b, i, none⟩ = W.cell? ⟨b, i, none⟩ := fun i => cell_blockK (hf.block b hbl (by omega))
  refine ⟨?_, ⟨(hcell 0).trans h.rg.c0, (hcell 1).trans h.rg.c1, (hcell 2).trans h.rg.c2, (hcell 3).trans h.rg.c3, (hcell 4).trans h.rg.c4, by have := hf.size; omega⟩, (hf.block (b + 1) (heap_lt h.res) (by omega)).trans h.res, heap_set (heap_set (heap_set (heap_set h.ar 1 _) 2 _) 3 _) 4 _, hbd⟩
  exact setCell_below (setCell_below (setCell_below (setCell_below h.hb _ _ _ (by omega)) _ _ _ (by omega)) _ _ _ (by omega)) _ _ _ (by omega)
set_option maxHeartbeats 8000000 in
theorem kfind_ok (F : Nat → Prop) (a : Option Addr) (n c : Nat) (L : List (List Int)) (p q : Pl) (k : Int) (w : World) (h : RdL F w a n c L) (hs : sizeN (lens L) ≤ 1048576) (hp : okP L p) (hq : okP L q) (hk1 : 0 ≤ k) (hk2 : k ≤ 2) :
    Calls Try.prog 38 #[.slice a n c, rgnV p q k] w fun e w' => e = .returned (.tuple #[areaV k (endsR p q).1 (endsR p q).2 (min p.2 q.2) (max p.2 q.2), .int .i64 0]) ∧ Below w.heap.size w w' := by
  have hpi := i64_okP h hs hp
  have hqi := i64_okP h hs hq
  have hcp : clipZ L (upP p) = p := clipP_id hp
  have hcq : clipZ L (upP q) = q := clipP_id hq
  have hl := h.len
  have hsm := h.small
  have hn0 : n ≠ 0 := by have := hp.1; omega
  have hend : endsR p q = if aheadP q p then (q, p) else (p, q) := rfl
  have hah := fun W => kahead_any q p W
  obtain ⟨x1, x2⟩ := p
  obtain ⟨y1, y2⟩ := q
  simp only at hpi hqi
  unfold rgnV
  simp only
  have hf : i64p ⟨(x1 : Int), (x2 : Int)⟩ := ⟨⟨by show _ ≤ (x1 : Int); omega, by show (x1 : Int) ≤ _; omega⟩, ⟨by show _ ≤ (x2 : Int); omega, by show (x2 : Int) ≤ _; omega⟩⟩
  have ht : i64p ⟨(y1 : Int), (y2 : Int)⟩ := ⟨⟨by show _ ≤ (y1 : Int); omega, by show (y1 : Int) ≤ _; omega⟩, ⟨by show _ ≤ (y2 : Int); omega, by show (y2 : Int) ≤ _; omega⟩⟩
  have hcp' : clipZ L ⟨(x1 : Int), (x2 : Int)⟩ = (x1, x2) := hcp
  have hcq' : clipZ L ⟨(y1 : Int), (y2 : Int)⟩ = (y1, y2) := hcq
  obtain ⟨wb, hwb⟩ : ∃ wb, (w.alloc (.cells #[.int .i64 (x1 : Nat), .int .i64 (x2 : Nat), .int .i64 (y1 : Nat), .int .i64 (y2 : Nat), .int .i64 k] 26)).alloc (.cells #[.int .i64 0, .int .i64 0, .int .i64 0, .int .i64 0, .int .i64 0, .int .i64 0, .int .i64 0] 68) = wb := ⟨_, rfl⟩
  have hnew := fis_new w ⟨⟨(x1 : Nat), (x2 : Nat)⟩, ⟨(y1 : Nat), (y2 : Nat)⟩, k⟩
  simp only at hnew
  rw [hwb] at hnew
  have HC : ∀ (z : Po), i64p z → Hid (∀ W, Hid (FiS w w.heap.size ⟨⟨(x1 : Nat), (x2 : Nat)⟩, ⟨(y1 : Nat), (y2 : Nat)⟩, k⟩ W) → Calls Try.prog 53 #[.slice a n c, .agg #[.int .i64 z.l, .int .i64 z.c]] W fun e w' => e = .returned (.agg #[.int .i64 ((clipZ L z).1 : Nat), .int .i64 ((clipZ L z).2 : Nat)]) ∧ Hid (FiS w w.heap.size ⟨⟨(x1 : Nat), (x2 : Nat)⟩, ⟨(y1 : Nat), (y2 : Nat)⟩, k⟩ w')) := by
    intro z hz W hW
    refine (wclip_any F a n c L z W (h.below hW.out.1) hz).mono ?_
    rintro e w' ⟨rfl, hb⟩
    exact ⟨rfl, hW.out.below rfl hb⟩
  have HC1 := HC ⟨(x1 : Int), (x2 : Int)⟩ hf
  have HC2 := HC ⟨(y1 : Int), (y2 : Int)⟩ ht
  clear HC
  rw [hcp'] at HC1
  rw [hcq'] at HC2
  simp only at HC1 HC2
  have HS0 := Lib.hid hnew
  have HK : Hid (∀ W, Calls Try.prog 76 #[.int .i64 k] W fun e w' => e = .returned (.bool true) ∧ W = w') := fun W => (kkind_any k W).mono fun e w' h => ⟨by
    have e1 : (decide (0 ≤ k) && decide (k ≤ 2)) = true := by simp; omega
    rw [h.1, e1], h.2.symm⟩
  obtain ⟨b, hbe⟩ : ∃ b, w.heap.size = b := ⟨_, rfl⟩
  have HBE := Lib.hid hbe
  have HCA : Hid (∀ W d v0 v1 v2 v3 v4 v5 v6, Hid (FjS w b d ⟨⟨(x1 : Nat), (x2 : Nat)⟩, ⟨(y1 : Nat), (y2 : Nat)⟩, k⟩ v0 v1 v2 v3 v4 v5 v6 W) → Calls Try.prog 77 #[.agg #[.int .i64 (y1 : Nat), .int .i64 (y2 : Nat)], .agg #[.int .i64 (x1 : Nat), .int .i64 (x2 : Nat)]] W fun e w' => e = .returned (.bool (aheadP (y1, y2) (x1, x2))) ∧ Hid (FjS w b d ⟨⟨(x1 : Nat), (x2 : Nat)⟩, ⟨(y1 : Nat), (y2 : Nat)⟩, k⟩ v0 v1 v2 v3 v4 v5 v6 w')) := by
    intro W d v0 v1 v2 v3 v4 v5 v6 hW
    refine (hah W).mono ?_
    rintro e w' ⟨rfl, hb⟩
    exact ⟨rfl, hW.out.below hbe hb⟩
  rw [hbe] at HC1 HC2 HS0
  rw [hbe]
  have HSD : Hid (FiS w b ⟨⟨(x1 : Nat), (x2 : Nat)⟩, ⟨(y1 : Nat), (y2 : Nat)⟩, k⟩ wb.drew) := HS0.out.below hbe (Below.refl _ _).drew
  obtain ⟨c0, c1, c2, c3, c4, l0⟩ := HS0.out.2.1
  simp only at c0 c1 c2 c3 c4
  have HW := Lib.hid hwb
  have n0' : ((n : Int) == 0) = false := by simp; omega
  have HE := Lib.hid hend
  obtain ⟨lo, hlo⟩ : ∃ lo, min x2 y2 = lo := ⟨_, rfl⟩
  obtain ⟨hi, hhi⟩ : ∃ hi, max x2 y2 = hi := ⟨_, rfl⟩
  have hmin : min (x2 : Int) (y2 : Int) = (lo : Int) := by omega
  have hmax : max (x2 : Int) (y2 : Int) = (hi : Int) := by omega
  rw [hlo, hhi]
  clear hwb hnew hbe h hl hs hp hq hcp hcq hcp' hcq' hend hah hn0 hlo hhi
  have e1 : ((x1 : Int) == (x1 : Int)) = true := by simp
  go_enter Try.func38, Try.ntmps38
  go_upto_region 1 with fail
  rw [HBE.out, HW.out]
  go_upto_region 3 with (go_at_call 76; (refine (HK.out _).mono ?_); rintro e wq ⟨rfl, hwq⟩; subst hwq)
  have KS : ∀ W, FiS w b ⟨⟨(x1 : Nat), (x2 : Nat)⟩, ⟨(y1 : Nat), (y2 : Nat)⟩, k⟩ W → (fun W => W.cell? ⟨b, 0, none⟩ = some (.int .i64 (x1 : Nat)) ∧ W.cell? ⟨b, 1, none⟩ = some (.int .i64 (x2 : Nat)) ∧ W.cell? ⟨b, 2, none⟩ = some (.int .i64 (y1 : Nat)) ∧ W.cell? ⟨b, 3, none⟩ = some (.int .i64 (y2 : Nat))) W := fun W hW => ⟨hW.2.1.c0, hW.2.1.c1, hW.2.1.c2, hW.2.1.c3⟩
  have HKS := Lib.hid KS
  clear KS c0 c1 c2 c3 c4 l0 e1
  go_region_held3 (fun W => W.cell? ⟨b, 0, none⟩ = some (.int .i64 (x1 : Nat)) ∧ W.cell? ⟨b, 1, none⟩ = some (.int .i64 (x2 : Nat)) ∧ W.cell? ⟨b, 2, none⟩ = some (.int .i64 (y1 : Nat)) ∧ W.cell? ⟨b, 3, none⟩ = some (.int .i64 (y2 : Nat)))
    (first | exact HKS.out _ HSD.out | exact HKS.out _ HS1.out | exact HKS.out _ HS2.out)
    (first | (go_at_call 53; (with_reducible refine (HC2.out _ HS1).mono ?_); rintro e w2 ⟨rfl, HS2⟩) | (go_at_call 53; (with_reducible refine (HC1.out _ HSD).mono ?_); rintro e w1 ⟨rfl, HS1⟩))
  all_goals
    clear HKS HC1 HC2 HK
    have HJ : Hid (FjS w b w2.heap.size ⟨⟨(x1 : Nat), (x2 : Nat)⟩, ⟨(y1 : Nat), (y2 : Nat)⟩, k⟩ (.int .i64 k) (.int .i64 (x1 : Nat)) (.int .i64 (x2 : Nat)) (.int .i64 (y1 : Nat)) (.int .i64 (y2 : Nat)) (.int .i64 0) (.int .i64 0) (w2.alloc (.cells #[.int .i64 k, .int .i64 (x1 : Nat), .int .i64 (x2 : Nat), .int .i64 (y1 : Nat), .int .i64 (y2 : Nat), .int .i64 0, .int .i64 0] 68))) := fjs_new HS2.out HBE.out _ _ _ _ _ _ _
    obtain ⟨c0, c1, c2, c3, c4, l0⟩ := HS2.out.2.1
    simp only at c0 c1 c2 c3 c4
    go_upto_region 6 with fail
    obtain ⟨w3, hw3⟩ : ∃ w3, w2.alloc (.cells #[.int .i64 k, .int .i64 (x1 : Nat), .int .i64 (x2 : Nat), .int .i64 (y1 : Nat), .int .i64 (y2 : Nat), .int .i64 0, .int .i64 0] 68) = w3 := ⟨_, rfl⟩
    obtain ⟨d, hd⟩ : ∃ d, w2.heap.size = d := ⟨_, rfl⟩
    rw [hw3, hd] at HJ
    rw [hw3, hd]
    clear hw3 hd c0 c1 c2 c3 c4 l0
    obtain ⟨g0, g1, g2, g3, g4, g5, g6, z0, z1, z2, z3, z4, z5, z6, zl⟩ := ArB.of HJ.out.ar
    obtain ⟨R, hR⟩ : ∃ R, aheadP (y1, y2) (x1, x2) = R := ⟨_, rfl⟩
    rw [hR] at HCA
    have HRR := Lib.hid hR
    clear hR
    cases R
    · have HEE : Hid (endsR (x1, x2) (y1, y2) = ((x1, x2), (y1, y2))) := by show _ = _; rw [HE.out, HRR.out]; rfl
      go_upto_region 8 with (go_at_call 77; (refine (HCA.out _ _ _ _ _ _ _ _ _ HJ).mono ?_); rintro e w4 ⟨rfl, HJ4⟩)
      clear g0 g1 g2 g3 g4 g5 g6 z0 z1 z2 z3 z4 z5 z6 zl
      obtain ⟨g0, g1, g2, g3, g4, g5, g6, z0, z1, z2, z3, z4, z5, z6, zl⟩ := ArB.of HJ4.out.ar
      obtain ⟨c0, c1, c2, c3, c4, l0⟩ := HJ4.out.rg
      obtain ⟨u0, u1, u2, u3, u4, u5, u6, m0, m1, m2, m3, m4, m5, m6, ml⟩ := ArB.of HJ4.out.res
      simp only at c0 c1 c2 c3 c4
      have HQQ := Lib.hid HJ4.out.hb
      have hbd := HJ4.out.bd
      have hne1 : ¬ b = d := by omega
      have hne2 : ¬ d = b := by omega
      have hne3 : ¬ b + 1 = d := by omega
      have hne4 : ¬ d = b + 1 := by omega
      go_region
      all_goals
        go_wp2
        refine bodyPost_ret (v := .tuple #[areaV k (x1, x2) (y1, y2) lo hi, .int .i64 0]) ?_ rfl ⟨by rw [HEE.out], ?_⟩
        · rw [results_ct rfl]
          go_simp
          first | rfl | done | (simp [areaV]; done)
        · (try with_reducible refine Below.drew ?_)
          (repeat' (first | (with_reducible exact HQQ.out) | (with_reducible exact HQQ.out.drew) | (with_reducible refine setCell_below ?_ _ _ _ ?_) | omega))
    · have HEE : Hid (endsR (x1, x2) (y1, y2) = ((y1, y2), (x1, x2))) := by show _ = _; rw [HE.out, HRR.out]; rfl
      go_upto_region 7 with (go_at_call 77; (refine (HCA.out _ _ _ _ _ _ _ _ _ HJ).mono ?_); rintro e w4 ⟨rfl, HJ4⟩)
      clear g0 g1 g2 g3 g4 g5 g6 z0 z1 z2 z3 z4 z5 z6 zl
      obtain ⟨g0, g1, g2, g3, g4, g5, g6, z0, z1, z2, z3, z4, z5, z6, zl⟩ := ArB.of HJ4.out.ar
      have HJ5 := Lib.hid HJ4.out.swap
      go_upto_region 8 with fail
      obtain ⟨w5, hw5⟩ : ∃ w5, ((((w4.setCell ⟨d, 1, none⟩ (.int .i64 (y1 : Nat))).setCell ⟨d, 2, none⟩ (.int .i64 (y2 : Nat))).setCell ⟨d, 3, none⟩ (.int .i64 (x1 : Nat))).setCell ⟨d, 4, none⟩ (.int .i64 (x2 : Nat))) = w5 := ⟨_, rfl⟩
      rw [hw5] at HJ5
      rw [hw5]
      clear hw5 g0 g1 g2 g3 g4 g5 g6 z0 z1 z2 z3 z4 z5 z6 zl
      obtain ⟨g0, g1, g2, g3, g4, g5, g6, z0, z1, z2, z3, z4, z5, z6, zl⟩ := ArB.of HJ5.out.ar
      obtain ⟨c0, c1, c2, c3, c4, l0⟩ := HJ5.out.rg
      obtain ⟨u0, u1, u2, u3, u4, u5, u6, m0, m1, m2, m3, m4, m5, m6, ml⟩ := ArB.of HJ5.out.res
      simp only at c0 c1 c2 c3 c4
      have HQQ := Lib.hid HJ5.out.hb
      have hbd := HJ5.out.bd
      have hne1 : ¬ b = d := by omega
      have hne2 : ¬ d = b := by omega
      have hne3 : ¬ b + 1 = d := by omega
      have hne4 : ¬ d = b + 1 := by omega
      go_region
      all_goals
        go_wp2
        refine bodyPost_ret (v := .tuple #[areaV k (y1, y2) (x1, x2) lo hi, .int .i64 0]) ?_ rfl ⟨by rw [HEE.out], ?_⟩
        · rw [results_ct rfl]
          go_simp
          first | rfl | done | (simp [areaV]; done)
        · (try with_reducible refine Below.drew ?_)
          (repeat' (first | (with_reducible exact HQQ.out) | (with_reducible exact HQQ.out.drew) | (with_reducible refine setCell_below ?_ _ _ _ ?_) | omega))
end Go.Proofs.Ytfldjoiohejilaa.U
