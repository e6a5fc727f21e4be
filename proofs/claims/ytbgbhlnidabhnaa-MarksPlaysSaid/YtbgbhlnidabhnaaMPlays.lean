/-
  The walk of MarksPlays.
-/
import Derived.Test.YtbgbhlnidabhnaaMPlm
import Derived.Test.YtbgbhlnidabhnaaMDeed
import Derived.Deep.CutBlock
import Derived.Deep.CutRange
namespace Go.Proofs.Ytbgbhlnidabhnaa.U
open Go.RowKit
set_option linter.unusedVariables false
set_option linter.unusedSimpArgs false
set_option maxRecDepth 100000

theorem rk_zero (w : World) : RkS (fun k => k = w.heap.size) (w.alloc (.cells #[.slice none 0 0, .slice none 0 0, .int .i64 0] 39)) w.heap.size ms0 := by
  have g1 : (w.alloc (.cells #[.slice none 0 0, .slice none 0 0, .int .i64 0] 39)).heap[w.heap.size]? = some (.cells #[.slice none 0 0, .slice none 0 0, .int .i64 0] 39 (0, 0)) := heap_alloc_new w _
  exact ⟨none, 0, none, 0, g1, Rc.none0 _ _, InF.zero _ _, Rc.none0 _ _, InF.zero _ _, rfl, fun k hk => by subst hk; exact heap_lt g1⟩
/-- the state of the play between deeds -/
def St6 (w0 w : World) (bt bx i : Nat) : Prop := ∃ s, PlM w0 w bt bx s s (fun _ => False) ∧ s.ok (1000 * (i : Int))
/-- behind a deed: both have answered alike -/
def Ss6 (w0 w : World) (bt bx gd ga gb i : Nat) (O : Obj) (q : Po) : Prop := ∃ s, Pm w0 w bt bx gd ga gb O s s q q ∧ s.ok (1000 * (i : Int))
theorem Ss6.mk {w0 w : World} {bt bx gd ga gb i : Nat} {O : Obj} {s : Ms} {q : Po} (h : Pm w0 w bt bx gd ga gb O s s q q) (hk : s.ok (1000 * ((i : Nat) : Int))) : Ss6 w0 w bt bx gd ga gb (i + 1) O q := ⟨s, h, hk.mono (by omega)⟩

set_option maxHeartbeats 8000000 in
theorem marksPlays_wide (a : Option Addr) (len cap : Nat) (w : World) (h : RdSt 7 IsD6 w a len cap) :
    Calls Try.prog 5 #[.slice a len cap] w fun e w' => e = .returned (.bool true) ∧ Below w.heap.size w w' := by
  have HD := Lib.hid h
  have hln : len ≤ 9223372036854775807 := by obtain ⟨q1, q2, _⟩ := h; unfold maxLen at q2; omega
  clear h
  go_enter Try.func5, Try.ntmps5
  go_wp2_with fail
  refine (new_any w).mono ?_
  rintro e w2 ⟨rfl, hM0, hb2⟩
  obtain ⟨w3, hw3⟩ : ∃ w3, w2.alloc (.cells #[.slice none 0 0, .slice none 0 0, .int .i64 0] 39) = w3 := ⟨_, rfl⟩
  have hR0 := rk_zero w2
  rw [hw3] at hR0
  have hb23 : Below w2.heap.size w2 w3 := by rw [← hw3]; exact (Below.refl _ _).alloc (Nat.le_refl _) _
  have HST : Hid (St6 w w3 (w.heap.size + 1) w2.heap.size 0) := by
    have s2 := hb2.size
    refine ⟨ms0, ⟨hb2.trans (hb23.mono s2), fun k hk => hk.elim, _, _, hM0.below hb23, hR0, fun k hk => hk.1, fun k hk => by omega, fun k hk hq => ?_, fun k _ hk => hk, fun k _ hk => hk⟩, ok0.mono (by omega)⟩
    have := hM0.lt k hk
    omega
  have HW3 := Lib.hid hw3
  obtain ⟨bt, hbt⟩ : ∃ bt, w.heap.size + 1 = bt := ⟨_, rfl⟩
  obtain ⟨bx, hbx⟩ : ∃ bx, w2.heap.size = bx := ⟨_, rfl⟩
  rw [hbt, hbx] at HST
  rw [hbt]
  have HBX := Lib.hid hbx
  clear hM0 hR0 hb2 hb23 hbt hbx
  go_upto_region 4 with fail
  (try rw [HW3.out])
  (try rw [HBX.out])
  clear HW3 HBX hw3
  go_wp2_with fail
  go_loopw [5] (fun v5 wr => ∃ i : Nat, v5 = .int .i64 (i : Nat) ∧ i ≤ 200 ∧ i ≤ len ∧ Hid (St6 w wr bt bx i)) (fun v5 _ => ((200 : Int) - intOf v5).toNat)
  case atStart => exact ⟨0, rfl, Nat.zero_le _, Nat.zero_le _, HST⟩
  case round =>
    obtain ⟨i, rfl, hi200, hil, hst⟩ := hrel
    clear HST
    by_cases hboth : (i : Int) < (len : Int) ∧ (i : Int) < 200
    · obtain ⟨hlt, h200⟩ := hboth
      obtain ⟨s, hS, hok⟩ := hst.out
      obtain ⟨b, off, kd, r, q, oa, na, oc, nc, c, rfl, k0, k1, k2, k3, k4, k5, k6, hbl, ikd, irw, iq, ip, ro, rn, wo, wn⟩ := HD.out.deed (Below.refl _ w) (i := i) (by omega)
      have tr : ∀ j, wr.cell? ⟨b, off + i * 7 + j, none⟩ = w.cell? ⟨b, off + i * 7 + j, none⟩ := fun j => hS.bel.cell (p := ⟨b, off + i * 7 + j, none⟩) hbl
      have d0 : wr.cell? ⟨b, off + i * 7, none⟩ = some (.int .i64 kd) := (tr 0).trans k0
      have d1 : wr.cell? ⟨b, off + i * 7 + 1, none⟩ = some (.int .i32 r) := (tr 1).trans k1
      have d2 : wr.cell? ⟨b, off + i * 7 + 2, none⟩ = some (.int .i64 q.l) := (tr 2).trans k2
      have d3 : wr.cell? ⟨b, off + i * 7 + 3, none⟩ = some (.int .i64 q.c) := (tr 3).trans k3
      have d4 : wr.cell? ⟨b, off + i * 7 + 4, none⟩ = some (.int .i64 c.pos) := (tr 4).trans k4
      have d5 : wr.cell? ⟨b, off + i * 7 + 5, none⟩ = some (.slice oa c.old.length oc) := (tr 5).trans k5
      have d6 : wr.cell? ⟨b, off + i * 7 + 6, none⟩ = some (.slice na c.now.length nc) := (tr 6).trans k6
      have hbw : b < wr.heap.size := Nat.lt_of_lt_of_le hbl hS.bel.size
      have HRN : Hid (RdL (fun k => k < w.heap.size) w na c.now.length nc c.now) := rn
      have hnr := near_any q c oa na c.old.length oc c.now.length nc
      obtain ⟨x, hx⟩ : ∃ x, c.old.length = x := ⟨_, rfl⟩
      obtain ⟨y, hy⟩ : ∃ y, c.now.length = y := ⟨_, rfl⟩
      obtain ⟨p, hp⟩ : ∃ p, c.pos = p := ⟨_, rfl⟩
      obtain ⟨ql, qc⟩ := q
      rw [hx, hy, hp] at hnr
      have HX := Lib.hid (And.intro hx (And.intro hy hp))
      rw [hp] at d4 ip
      rw [hx] at d5 wo
      rw [hy] at d6 wn
      obtain ⟨wd, hwd⟩ : ∃ wd, wr.alloc (.cells #[.int .i64 kd, .int .i32 r, .int .i64 ql, .int .i64 qc, .int .i64 p, .slice oa x oc, .slice na y nc] 41) = wd := ⟨_, rfl⟩
      have hbd : Below wr.heap.size wr wd := by rw [← hwd]; exact (Below.refl _ _).alloc (Nat.le_refl _) _
      have hgd : wd.heap[wr.heap.size]? = some (.cells #[.int .i64 kd, .int .i32 r, .int .i64 ql, .int .i64 qc, .int .i64 p, .slice oa x oc, .slice na y nc] 41 (0, 0)) := by rw [← hwd]; exact heap_alloc_new wr _
      have hSd : PlM w wd bt bx s s (fun k => k = wr.heap.size) := hS.turn hbd (fun k hk => ⟨.inr (by omega), by have := heap_lt hgd; omega⟩)
      obtain ⟨gd, hgde⟩ : ∃ gd, wr.heap.size = gd := ⟨_, rfl⟩
      rw [hgde] at hgd hSd
      have HWD := Lib.hid hwd
      have HGE := Lib.hid hgde
      have HGD := Lib.hid hgd
      have HSD := Lib.hid hSd
      have HNR := Lib.hid hnr
      have HOK := Lib.hid hok
      have HQ := Lib.hid (And.intro irw iq)
      clear hst hS k0 k1 k2 k3 k4 k5 k6 hbl ro rn tr hx hy hp hwd hbd hSd hnr hgde hok irw iq
      go_upto_region 8 with fail
      (try rw [HWD.out])
      (try rw [HGE.out])
      clear d0 d1 d2 d3 d4 d5 d6 hbw HWD HGE
      have c0 := cell_row hgd 0
      have c1 := cell_row hgd 1
      have c2 := cell_row hgd 2
      have c3 := cell_row hgd 3
      have c4 := cell_row hgd 4
      have c5 := cell_row hgd 5
      have c6 := cell_row hgd 6
      have hlgd := heap_lt hgd
      clear hgd
      obtain ⟨good, hgood⟩ : ∃ good, (nearB ⟨ql, qc⟩ c && decide (x ≤ 1000) && decide (y ≤ 1000) && decide (0 ≤ p)) = good := ⟨_, rfl⟩
      have HGOOD := Lib.hid hgood
      clear hgood
      go_cut [57] from 18 to 174 (fun v wx => v = .bool (!good) ∧ Hid (Below wd.heap.size wd wx))
      case first =>
        cases hn1 : nearB ⟨ql, qc⟩ c with
        | false =>
          rw [hn1] at HNR
          have hg : good = false := by rw [← HGOOD.out, hn1]; rfl
          subst hg
          clear hn1
          go_wp2_with fail
          refine (HNR.out _).mono ?_
          rintro e w4 ⟨rfl, hb4⟩
          have HB4 := Lib.hid hb4
          clear hb4
          go_wp2_with fail
          go_meet
          exact ⟨rfl, HB4⟩
        | true =>
          rw [hn1] at HNR
          have HN1 := Lib.hid hn1
          clear hn1
          by_cases hx1 : x ≤ 1000
          · by_cases hy1 : y ≤ 1000
            · by_cases hp1 : 0 ≤ p
              · have hg : good = true := by rw [← HGOOD.out, HN1.out]; simp [hx1, hy1, hp1]
                subst hg
                have f1 : decide ((1000 : Int) < (x : Int)) = false := by simp; omega
                have f2 : decide ((1000 : Int) < (y : Int)) = false := by simp; omega
                have f3 : decide (p < 0) = false := by simp; omega
                have f4 : decide (1000 < x) = false := by simp; omega
                have f5 : decide (1000 < y) = false := by simp; omega
                go_wp2_with fail
                refine (HNR.out _).mono ?_
                rintro e w4 ⟨rfl, hb4⟩
                have e4 := (hb4.cell (p := ⟨gd, 4, none⟩) hlgd).trans c4
                have e5 := (hb4.cell (p := ⟨gd, 5, none⟩) hlgd).trans c5
                have e6 := (hb4.cell (p := ⟨gd, 6, none⟩) hlgd).trans c6
                have HB4 := Lib.hid hb4
                clear hb4
                go_wp2_with fail
                go_meet
                exact ⟨rfl, HB4⟩
              · have hg : good = false := by rw [← HGOOD.out, HN1.out]; simp [hp1]
                subst hg
                have f1 : decide ((1000 : Int) < (x : Int)) = false := by simp; omega
                have f2 : decide ((1000 : Int) < (y : Int)) = false := by simp; omega
                have f3 : decide (p < 0) = true := by simp; omega
                have f4 : decide (1000 < x) = false := by simp; omega
                have f5 : decide (1000 < y) = false := by simp; omega
                go_wp2_with fail
                refine (HNR.out _).mono ?_
                rintro e w4 ⟨rfl, hb4⟩
                have e4 := (hb4.cell (p := ⟨gd, 4, none⟩) hlgd).trans c4
                have e5 := (hb4.cell (p := ⟨gd, 5, none⟩) hlgd).trans c5
                have e6 := (hb4.cell (p := ⟨gd, 6, none⟩) hlgd).trans c6
                have HB4 := Lib.hid hb4
                clear hb4
                go_wp2_with fail
                go_meet
                exact ⟨rfl, HB4⟩
            · have hg : good = false := by rw [← HGOOD.out, HN1.out]; simp [hy1]
              subst hg
              have f1 : decide ((1000 : Int) < (x : Int)) = false := by simp; omega
              have f2 : decide ((1000 : Int) < (y : Int)) = true := by simp; omega
              have f4 : decide (1000 < x) = false := by simp; omega
              have f5 : decide (1000 < y) = true := by simp; omega
              go_wp2_with fail
              refine (HNR.out _).mono ?_
              rintro e w4 ⟨rfl, hb4⟩
              have e4 := (hb4.cell (p := ⟨gd, 4, none⟩) hlgd).trans c4
              have e5 := (hb4.cell (p := ⟨gd, 5, none⟩) hlgd).trans c5
              have e6 := (hb4.cell (p := ⟨gd, 6, none⟩) hlgd).trans c6
              have HB4 := Lib.hid hb4
              clear hb4
              go_wp2_with fail
              go_meet
              exact ⟨rfl, HB4⟩
          · have hg : good = false := by rw [← HGOOD.out, HN1.out]; simp [hx1]
            subst hg
            have f1 : decide ((1000 : Int) < (x : Int)) = true := by simp; omega
            have f4 : decide (1000 < x) = true := by simp; omega
            go_wp2_with fail
            refine (HNR.out _).mono ?_
            rintro e w4 ⟨rfl, hb4⟩
            have e4 := (hb4.cell (p := ⟨gd, 4, none⟩) hlgd).trans c4
            have e5 := (hb4.cell (p := ⟨gd, 5, none⟩) hlgd).trans c5
            have e6 := (hb4.cell (p := ⟨gd, 6, none⟩) hlgd).trans c6
            have HB4 := Lib.hid hb4
            clear hb4
            go_wp2_with fail
            go_meet
            exact ⟨rfl, HB4⟩
      case rest =>
        obtain ⟨rfl, hb4⟩ := hcut
        obtain ⟨wq, hwq⟩ : ∃ x, x = wc := ⟨_, rfl⟩
        subst hwq
        clear c0 c1 c2 c3 c4 c5 c6 HNR
        cases good with
        | false =>
          have HN : Hid (St6 w wq bt bx (i + 1)) := ⟨s, HSD.out.turn hb4.out (fun k hk => hk.elim), HOK.out.mono (by omega)⟩
          clear HSD HOK hb4
          go_wp2_with fail
          go_roundw
          case rel => exact ⟨i + 1, rfl, by omega, by omega, HN⟩
          case measure => first | (simp [intOf]; done) | (simp [intOf]; omega)
        | true =>
          have hgd4 := (hb4.out.block gd hlgd).trans HGD.out
          obtain ⟨ga, hga⟩ : ∃ ga, wq.heap.size = ga := ⟨_, rfl⟩
          obtain ⟨wp, hwp⟩ : ∃ wp, (wq.alloc (.cells #[.int .i64 0, .int .i64 0] 23)).alloc (.cells #[.int .i64 0, .int .i64 0] 23) = wp := ⟨_, rfl⟩
          have HPM : Hid (Pm w wp bt bx gd ga (ga + 1) (.cells #[.int .i64 kd, .int .i32 r, .int .i64 ql, .int .i64 qc, .int .i64 p, .slice oa x oc, .slice na y nc] 41 (0, 0)) s s po0 po0) := by
            have hl4 := heap_lt hgd4
            have h1 := heap_alloc_new wq (.cells #[.int .i64 0, .int .i64 0] 23)
            have h2 := heap_alloc_new (wq.alloc (.cells #[.int .i64 0, .int .i64 0] 23)) (.cells #[.int .i64 0, .int .i64 0] 23)
            have hs1 : (wq.alloc (.cells #[.int .i64 0, .int .i64 0] 23)).heap.size = ga + 1 := by rw [← hga]; simp
            rw [hs1] at h2
            rw [hga] at h1
            have hb5 : Below wq.heap.size wq wp := by rw [← hwp]; exact ((Below.refl _ _).alloc (Nat.le_refl _) _).alloc (by simp) _
            have hb6 : Below (ga + 1) (wq.alloc (.cells #[.int .i64 0, .int .i64 0] 23)) wp := by rw [← hwp]; exact (Below.refl _ _).alloc (by rw [hs1]; exact Nat.le_refl _) _
            rw [hwp] at h2
            refine ⟨HSD.out.turn (hb4.out.trans (hb5.mono hb4.out.size)) (fun k hk => ?_), (hb5.block gd hl4).trans hgd4, (hb6.block ga (by omega)).trans h1, h2, by omega, by omega, by omega⟩
            have h9 := heap_lt h2
            have h8 := hb4.out.size
            have h7 := hb5.size
            have h6 := heap_lt hgd4
            rcases hk with rfl | rfl | rfl
            · exact ⟨.inl rfl, by omega⟩
            · exact ⟨.inr (by omega), by omega⟩
            · exact ⟨.inr (by omega), h9⟩
          have HWP := Lib.hid hwp
          have HGA := Lib.hid hga
          have hgg := HGOOD.out
          simp only [Bool.and_eq_true, decide_eq_true_eq] at hgg
          obtain ⟨⟨⟨g1, g2⟩, g3⟩, g4⟩ := hgg
          have HGG := Lib.hid (And.intro g1 (And.intro g2 (And.intro g3 g4)))
          clear g1 g2 g3 g4 hgd4 hga HSD HGD HGOOD hb4 hlgd
          go_upto_region 10 with fail
          (try rw [HWP.out])
          (try rw [HGA.out])
          clear hwp HWP HGA
          have hcc := HPM.out.deed.1
          have c0 := hcc 0
          have c1 := hcc 1
          have c2 := hcc 2
          have c3 := hcc 3
          have c4 := hcc 4
          have c5 := hcc 5
          have c6 := hcc 6
          have hlgd := HPM.out.deed.2
          have HP1 := Lib.hid HPM.out.drew
          have KS : Hid (∀ W s1 s2 q1 q2, Hid (Pm w W bt bx gd ga (ga + 1) (.cells #[.int .i64 kd, .int .i32 r, .int .i64 ql, .int .i64 qc, .int .i64 p, .slice oa x oc, .slice na y nc] 41 (0, 0)) s1 s2 q1 q2) → W.cell? ⟨gd, 0, none⟩ = some (.int .i64 kd) ∧ W.cell? ⟨gd, 1, none⟩ = some (.int .i32 r) ∧ W.cell? ⟨gd, 2, none⟩ = some (.int .i64 ql) ∧ W.cell? ⟨gd, 3, none⟩ = some (.int .i64 qc) ∧ W.cell? ⟨gd, 4, none⟩ = some (.int .i64 p) ∧ W.cell? ⟨gd, 5, none⟩ = some (.slice oa x oc) ∧ W.cell? ⟨gd, 6, none⟩ = some (.slice na y nc)) := by
            refine Lib.hid (fun W s1 s2 q1 q2 hW => ?_)
            have h9 := hW.out.deed.1
            exact ⟨h9 0, h9 1, h9 2, h9 3, h9 4, h9 5, h9 6⟩
          obtain ⟨c0, c1, c2, c3, c4, c5, c6⟩ := KS.out _ _ _ _ _ HPM
          have hib : (1000 : Int) * (i : Int) ≤ 1099511627776 := by omega
          have hi0 : (0 : Int) ≤ 1000 * (i : Int) := by omega
          have HIB := Lib.hid (And.intro hib hi0)
          clear hcc hib hi0
          go_upto_block 2 with fail
          go_cut [9, 10] (fun v9 v10 wx => ∃ (ok : Bool) (q2 : Po), v9 = .bool ok ∧ v10 = .bool ok ∧ Hid (Ss6 w wx bt bx gd ga (ga + 1) (i + 1) (.cells #[.int .i64 kd, .int .i32 r, .int .i64 ql, .int .i64 qc, .int .i64 p, .slice oa x oc, .slice na y nc] 41 (0, 0)) q2))
          case first =>
            by_cases e0 : kd = 0
            · have f0 : (kd == 0) = true := by simpa using e0
              clear e0
              have HA : Hid (∀ W, Hid (Pm w W bt bx gd ga (ga + 1) (.cells #[.int .i64 kd, .int .i32 r, .int .i64 ql, .int .i64 qc, .int .i64 p, .slice oa x oc, .slice na y nc] 41 (0, 0)) s s po0 po0) → Calls Try.prog 13 #[.pointer (some ⟨bt, 0, none⟩), .int .i32 r, .agg #[.int .i64 ql, .int .i64 qc]] W fun e w' => e = .returned (.int .i64 (setM s r ⟨ql, qc⟩).2) ∧ Hid (Pm w w' bt bx gd ga (ga + 1) (.cells #[.int .i64 kd, .int .i32 r, .int .i64 ql, .int .i64 qc, .int .i64 p, .slice oa x oc, .slice na y nc] 41 (0, 0)) (setM s r ⟨ql, qc⟩).1 s po0 po0)) :=
                Lib.hid (fun W hW => hW.out.prog (fun P hM _ => set_any r ⟨ql, qc⟩ W hM HOK.out))
              have HB : Hid (∀ W, Hid (Pm w W bt bx gd ga (ga + 1) (.cells #[.int .i64 kd, .int .i32 r, .int .i64 ql, .int .i64 qc, .int .i64 p, .slice oa x oc, .slice na y nc] 41 (0, 0)) (setM s r ⟨ql, qc⟩).1 s po0 po0) → Calls Try.prog 14 #[.pointer (some ⟨bx, 0, none⟩), .int .i32 r, .agg #[.int .i64 ql, .int .i64 qc]] W fun e w' => e = .returned (.int .i64 (setM s r ⟨ql, qc⟩).2) ∧ Hid (Pm w w' bt bx gd ga (ga + 1) (.cells #[.int .i64 kd, .int .i32 r, .int .i64 ql, .int .i64 qc, .int .i64 p, .slice oa x oc, .slice na y nc] 41 (0, 0)) (setM s r ⟨ql, qc⟩).1 (setM s r ⟨ql, qc⟩).1 po0 po0)) :=
                Lib.hid (fun W hW => hW.out.ref (fun P hM _ => rset_any r ⟨ql, qc⟩ W hM HOK.out))
              have HK := Lib.hid (setM_ok HOK.out HIB.out.2 r ⟨ql, qc⟩)
              obtain ⟨E, hE⟩ : ∃ E, (setM s r ⟨ql, qc⟩).2 = E := ⟨_, rfl⟩
              obtain ⟨s', hs'⟩ : ∃ s', (setM s r ⟨ql, qc⟩).1 = s' := ⟨_, rfl⟩
              rw [hE, hs'] at HA HB
              rw [hs'] at HK
              have dd : (E == E) = true := by simp
              clear hE hs' c0 c4 c5 c6
              go_upto_region 15 with fail
              go_region_held3 (fun w' => w'.cell? ⟨gd, 1, none⟩ = some (.int .i32 r) ∧ w'.cell? ⟨gd, 2, none⟩ = some (.int .i64 ql) ∧ w'.cell? ⟨gd, 3, none⟩ = some (.int .i64 qc))
                (first
                  | exact ⟨(KS.out _ _ _ _ _ HPM).2.1, (KS.out _ _ _ _ _ HPM).2.2.1, (KS.out _ _ _ _ _ HPM).2.2.2.1⟩
                  | exact ⟨(KS.out _ _ _ _ _ HP1).2.1, (KS.out _ _ _ _ _ HP1).2.2.1, (KS.out _ _ _ _ _ HP1).2.2.2.1⟩
                  | exact ⟨(KS.out _ _ _ _ _ q1).2.1, (KS.out _ _ _ _ _ q1).2.2.1, (KS.out _ _ _ _ _ q1).2.2.2.1⟩
                  | exact ⟨(KS.out _ _ _ _ _ q2).2.1, (KS.out _ _ _ _ _ q2).2.2.1, (KS.out _ _ _ _ _ q2).2.2.2.1⟩)
                (first
                  | (go_at_call 13; (with_reducible refine (HA.out _ (by first | exact HPM | exact HP1)).mono ?_); rintro e1 w1 ⟨rfl, q1⟩)
                  | (go_at_call 14; (with_reducible refine (HB.out _ q1).mono ?_); rintro e2 w2 ⟨rfl, q2⟩))
              all_goals
                go_wp2_with fail
                go_meet
                exact ⟨true, po0, by first | rfl | exact congrArg Value.bool dd, rfl, Lib.hid (Ss6.mk q2.out HK.out)⟩
            by_cases e1 : kd = 1
            · have f0 : (kd == 0) = false := by simpa using e0
              have f1 : (kd == 1) = true := by simpa using e1
              clear e0 e1
              have HA : Hid (Calls Try.prog 15 #[.pointer (some ⟨bt, 0, none⟩), .int .i32 r] wp fun e w' => e = .returned (.tuple #[.agg #[.int .i64 ((lookN s.ns r).getD po0).l, .int .i64 ((lookN s.ns r).getD po0).c], .bool (lookN s.ns r).isSome]) ∧ Hid (Pm w w' bt bx gd ga (ga + 1) (.cells #[.int .i64 kd, .int .i32 r, .int .i64 ql, .int .i64 qc, .int .i64 p, .slice oa x oc, .slice na y nc] 41 (0, 0)) s s po0 po0)) :=
                Lib.hid (HPM.out.prog (fun P hM _ => (get_any r wp hM HOK.out HQ.out.1).mono (fun e w' ⟨he, hb⟩ => ⟨he, hM.same hb⟩)))
              have HB : Hid (∀ W qa, Hid (Pm w W bt bx gd ga (ga + 1) (.cells #[.int .i64 kd, .int .i32 r, .int .i64 ql, .int .i64 qc, .int .i64 p, .slice oa x oc, .slice na y nc] 41 (0, 0)) s s qa po0) → Calls Try.prog 16 #[.pointer (some ⟨bx, 0, none⟩), .int .i32 r] W fun e w' => e = .returned (.tuple #[.agg #[.int .i64 ((lookN s.ns r).getD po0).l, .int .i64 ((lookN s.ns r).getD po0).c], .bool (lookN s.ns r).isSome]) ∧ Hid (Pm w w' bt bx gd ga (ga + 1) (.cells #[.int .i64 kd, .int .i32 r, .int .i64 ql, .int .i64 qc, .int .i64 p, .slice oa x oc, .slice na y nc] 41 (0, 0)) s s qa po0)) :=
                Lib.hid (fun W qa hW => hW.out.ref (fun P hM _ => (rget_any r W hM HOK.out).mono (fun e w' ⟨he, hb⟩ => ⟨he, hM.same hb⟩)))
              have HK : Hid ((s).ok (1000 * ((i : Nat) : Int))) := Lib.hid (HOK.out)
              obtain ⟨q2, hq2⟩ : ∃ q2, (lookN s.ns r).getD po0 = q2 := ⟨_, rfl⟩
              obtain ⟨ok, hok2⟩ : ∃ ok, (lookN s.ns r).isSome = ok := ⟨_, rfl⟩
              rw [hq2, hok2] at HA HB
              clear hq2 hok2
              go_wp2_with fail
              refine HA.out.mono ?_
              rintro e w5 ⟨rfl, h5⟩
              obtain ⟨b0, b1, -, -, z0, z1, -, -, l0, -⟩ := h5.out.boxes
              have HP6 := Lib.hid (h5.out.setA q2)
              obtain ⟨w6, hw6⟩ : ∃ w6, (w5.setCell ⟨ga, 0, none⟩ (.int .i64 q2.l)).setCell ⟨ga, 1, none⟩ (.int .i64 q2.c) = w6 := ⟨_, rfl⟩
              rw [hw6] at HP6
              have HW6 := Lib.hid hw6
              clear HA c0 c1 c2 c3 c4 c5 c6 hlgd
              go_upto_region 18 with fail
              (try rw [HW6.out])
              clear hw6 HW6 z0 z1 l0 h5 b0 b1
              obtain ⟨c0, c1, c2, c3, c4, c5, c6⟩ := KS.out _ _ _ _ _ HP6
              have hlgd := HP6.out.deed.2
              go_wp2_with fail
              refine (HB.out _ _ HP6).mono ?_
              rintro e w7 ⟨rfl, h7⟩
              obtain ⟨-, -, b0, b1, -, -, z0, z1, -, l0⟩ := h7.out.boxes
              have HN := Lib.hid (Ss6.mk (h7.out.setB q2) HK.out)
              clear HB HP6 c0 c1 c2 c3 c4 c5 c6 hlgd
              go_wp2_with fail
              go_meet
              exact ⟨ok, q2, rfl, rfl, HN⟩
            by_cases e2 : kd = 2
            · have f0 : (kd == 0) = false := by simpa using e0
              have f1 : (kd == 1) = false := by simpa using e1
              have f2 : (kd == 2) = true := by simpa using e2
              clear e0 e1 e2
              have HCB : Hid (ChB c) := by
                show ChB c
                have h1 := HGG.out
                have h2 := HX.out
                simp only [nearB, decide_eq_true_eq] at h1
                simp only [ChB]
                omega
              have HA : Hid (Calls Try.prog 17 #[.pointer (some ⟨bt, 0, none⟩), .agg #[.int .i64 p, .slice oa x oc, .slice na y nc]] wp fun e w' => e = .returned (.tuple #[]) ∧ Hid (Pm w w' bt bx gd ga (ga + 1) (.cells #[.int .i64 kd, .int .i32 r, .int .i64 ql, .int .i64 qc, .int .i64 p, .slice oa x oc, .slice na y nc] 41 (0, 0)) (adjM s c) s po0 po0)) := by
                have h9 := HPM.out.prog (s' := adjM s c) (fun P hM hP => adjust_any c oa na oc nc wp hM HOK.out HIB.out.1 (HRN.out.below HPM.out.1.bel) (fun k hk hf => by have := hP k hk; omega) HCB.out)
                rw [HX.out.1, HX.out.2.1, HX.out.2.2] at h9
                exact h9
              have HB : Hid (∀ W, Hid (Pm w W bt bx gd ga (ga + 1) (.cells #[.int .i64 kd, .int .i32 r, .int .i64 ql, .int .i64 qc, .int .i64 p, .slice oa x oc, .slice na y nc] 41 (0, 0)) (adjM s c) s po0 po0) → Calls Try.prog 18 #[.pointer (some ⟨bx, 0, none⟩), .agg #[.int .i64 p, .slice oa x oc, .slice na y nc]] W fun e w' => e = .returned (.tuple #[]) ∧ Hid (Pm w w' bt bx gd ga (ga + 1) (.cells #[.int .i64 kd, .int .i32 r, .int .i64 ql, .int .i64 qc, .int .i64 p, .slice oa x oc, .slice na y nc] 41 (0, 0)) (adjM s c) (adjM s c) po0 po0)) := by
                refine Lib.hid (fun W hW => ?_)
                have h9 := hW.out.ref (x' := adjM s c) (fun P hM hP => radjust_any c oa na oc nc W hM HOK.out HIB.out.1 (HRN.out.below hW.out.1.bel) (fun k hk hf => by have := hP k hk; omega) HCB.out)
                rw [HX.out.1, HX.out.2.1, HX.out.2.2] at h9
                exact h9
              have HK := Lib.hid (adjM_ok HOK.out (by rw [HX.out.2.2]; exact HGG.out.2.2.2) (by rw [HX.out.2.1]; exact HGG.out.2.2.1))
              obtain ⟨s', hs'⟩ : ∃ s', adjM s c = s' := ⟨_, rfl⟩
              rw [hs'] at HA HB HK
              clear hs'
              go_wp2_with fail
              refine HA.out.mono ?_
              rintro e w5 ⟨rfl, h5⟩
              clear HA c0 c1 c2 c3 c4 c5 c6 hlgd
              obtain ⟨c0, c1, c2, c3, c4, c5, c6⟩ := KS.out _ _ _ _ _ h5
              have hlgd := h5.out.deed.2
              go_wp2_with fail
              refine (HB.out _ h5).mono ?_
              rintro e w6 ⟨rfl, h6⟩
              clear HB c0 c1 c2 c3 c4 c5 c6 hlgd
              have HN : Hid (Ss6 w w6 bt bx gd ga (ga + 1) (i + 1) (.cells #[.int .i64 kd, .int .i32 r, .int .i64 ql, .int .i64 qc, .int .i64 p, .slice oa x oc, .slice na y nc] 41 (0, 0)) po0) := Lib.hid ⟨s', h6.out, (by have h8 := HK.out; rw [show (1000 : Int) * ((i + 1 : Nat) : Int) = 1000 * (i : Int) + 1000 by omega]; exact h8)⟩
              go_wp2_with fail
              go_meet
              exact ⟨true, po0, rfl, rfl, HN⟩
            by_cases e3 : kd = 3
            · have f0 : (kd == 0) = false := by simpa using e0
              have f1 : (kd == 1) = false := by simpa using e1
              have f2 : (kd == 2) = false := by simpa using e2
              have f3 : (kd == 3) = true := by simpa using e3
              clear e0 e1 e2 e3
              have HA : Hid (Calls Try.prog 19 #[.pointer (some ⟨bt, 0, none⟩), .agg #[.int .i64 ql, .int .i64 qc]] wp fun e w' => e = .returned (.tuple #[]) ∧ Hid (Pm w w' bt bx gd ga (ga + 1) (.cells #[.int .i64 kd, .int .i32 r, .int .i64 ql, .int .i64 qc, .int .i64 p, .slice oa x oc, .slice na y nc] 41 (0, 0)) (pushM s ⟨ql, qc⟩) s po0 po0)) := by
                have h9 := HPM.out.prog (s' := pushM s ⟨ql, qc⟩) (fun P hM hP => push_any ⟨ql, qc⟩ wp hM HOK.out)
                exact h9
              have HB : Hid (∀ W, Hid (Pm w W bt bx gd ga (ga + 1) (.cells #[.int .i64 kd, .int .i32 r, .int .i64 ql, .int .i64 qc, .int .i64 p, .slice oa x oc, .slice na y nc] 41 (0, 0)) (pushM s ⟨ql, qc⟩) s po0 po0) → Calls Try.prog 20 #[.pointer (some ⟨bx, 0, none⟩), .agg #[.int .i64 ql, .int .i64 qc]] W fun e w' => e = .returned (.tuple #[]) ∧ Hid (Pm w w' bt bx gd ga (ga + 1) (.cells #[.int .i64 kd, .int .i32 r, .int .i64 ql, .int .i64 qc, .int .i64 p, .slice oa x oc, .slice na y nc] 41 (0, 0)) (pushM s ⟨ql, qc⟩) (pushM s ⟨ql, qc⟩) po0 po0)) := by
                refine Lib.hid (fun W hW => ?_)
                have h9 := hW.out.ref (x' := pushM s ⟨ql, qc⟩) (fun P hM hP => rpush_any ⟨ql, qc⟩ W hM HOK.out)
                exact h9
              have HK := Lib.hid (pushM_ok HOK.out HIB.out.2 ⟨ql, qc⟩)
              obtain ⟨s', hs'⟩ : ∃ s', pushM s ⟨ql, qc⟩ = s' := ⟨_, rfl⟩
              rw [hs'] at HA HB HK
              clear hs'
              go_wp2_with fail
              refine HA.out.mono ?_
              rintro e w5 ⟨rfl, h5⟩
              clear HA c0 c1 c2 c3 c4 c5 c6 hlgd
              obtain ⟨c0, c1, c2, c3, c4, c5, c6⟩ := KS.out _ _ _ _ _ h5
              have hlgd := h5.out.deed.2
              go_wp2_with fail
              refine (HB.out _ h5).mono ?_
              rintro e w6 ⟨rfl, h6⟩
              clear HB c0 c1 c2 c3 c4 c5 c6 hlgd
              have HN : Hid (Ss6 w w6 bt bx gd ga (ga + 1) (i + 1) (.cells #[.int .i64 kd, .int .i32 r, .int .i64 ql, .int .i64 qc, .int .i64 p, .slice oa x oc, .slice na y nc] 41 (0, 0)) po0) := Lib.hid ⟨s', h6.out, HK.out.mono (by omega)⟩
              go_wp2_with fail
              go_meet
              exact ⟨true, po0, rfl, rfl, HN⟩
            by_cases e4 : kd = 4
            · have f0 : (kd == 0) = false := by simpa using e0
              have f1 : (kd == 1) = false := by simpa using e1
              have f2 : (kd == 2) = false := by simpa using e2
              have f3 : (kd == 3) = false := by simpa using e3
              have f4 : (kd == 4) = true := by simpa using e4
              clear e0 e1 e2 e3 e4
              have HA : Hid (Calls Try.prog 21 #[.pointer (some ⟨bt, 0, none⟩), .agg #[.int .i64 ql, .int .i64 qc]] wp fun e w' => e = .returned (.tuple #[.agg #[.int .i64 (((backM s ⟨ql, qc⟩).2).getD po0).l, .int .i64 (((backM s ⟨ql, qc⟩).2).getD po0).c], .bool ((backM s ⟨ql, qc⟩).2).isSome]) ∧ Hid (Pm w w' bt bx gd ga (ga + 1) (.cells #[.int .i64 kd, .int .i32 r, .int .i64 ql, .int .i64 qc, .int .i64 p, .slice oa x oc, .slice na y nc] 41 (0, 0)) (backM s ⟨ql, qc⟩).1 s po0 po0)) :=
                Lib.hid (HPM.out.prog (fun P hM _ => back_any ⟨ql, qc⟩ wp hM HOK.out))
              have HB : Hid (∀ W qa, Hid (Pm w W bt bx gd ga (ga + 1) (.cells #[.int .i64 kd, .int .i32 r, .int .i64 ql, .int .i64 qc, .int .i64 p, .slice oa x oc, .slice na y nc] 41 (0, 0)) (backM s ⟨ql, qc⟩).1 s qa po0) → Calls Try.prog 22 #[.pointer (some ⟨bx, 0, none⟩), .agg #[.int .i64 ql, .int .i64 qc]] W fun e w' => e = .returned (.tuple #[.agg #[.int .i64 (((backM s ⟨ql, qc⟩).2).getD po0).l, .int .i64 (((backM s ⟨ql, qc⟩).2).getD po0).c], .bool ((backM s ⟨ql, qc⟩).2).isSome]) ∧ Hid (Pm w w' bt bx gd ga (ga + 1) (.cells #[.int .i64 kd, .int .i32 r, .int .i64 ql, .int .i64 qc, .int .i64 p, .slice oa x oc, .slice na y nc] 41 (0, 0)) (backM s ⟨ql, qc⟩).1 (backM s ⟨ql, qc⟩).1 qa po0)) :=
                Lib.hid (fun W qa hW => hW.out.ref (fun P hM _ => rback_any ⟨ql, qc⟩ W hM HOK.out))
              have HK : Hid (((backM s ⟨ql, qc⟩).1).ok (1000 * ((i : Nat) : Int))) := Lib.hid (backM_ok HOK.out HIB.out.2 ⟨ql, qc⟩)
              obtain ⟨q2, hq2⟩ : ∃ q2, ((backM s ⟨ql, qc⟩).2).getD po0 = q2 := ⟨_, rfl⟩
              obtain ⟨ok, hok2⟩ : ∃ ok, ((backM s ⟨ql, qc⟩).2).isSome = ok := ⟨_, rfl⟩
              rw [hq2, hok2] at HA HB
              obtain ⟨s', hs'⟩ : ∃ s', (backM s ⟨ql, qc⟩).1 = s' := ⟨_, rfl⟩
              rw [hs'] at HA HB HK
              clear hq2 hok2 hs'
              go_wp2_with fail
              refine HA.out.mono ?_
              rintro e w5 ⟨rfl, h5⟩
              obtain ⟨b0, b1, -, -, z0, z1, -, -, l0, -⟩ := h5.out.boxes
              have HP6 := Lib.hid (h5.out.setA q2)
              obtain ⟨w6, hw6⟩ : ∃ w6, (w5.setCell ⟨ga, 0, none⟩ (.int .i64 q2.l)).setCell ⟨ga, 1, none⟩ (.int .i64 q2.c) = w6 := ⟨_, rfl⟩
              rw [hw6] at HP6
              have HW6 := Lib.hid hw6
              clear HA c0 c1 c2 c3 c4 c5 c6 hlgd
              go_upto_region 27 with fail
              (try rw [HW6.out])
              clear hw6 HW6 z0 z1 l0 h5 b0 b1
              obtain ⟨c0, c1, c2, c3, c4, c5, c6⟩ := KS.out _ _ _ _ _ HP6
              have hlgd := HP6.out.deed.2
              go_wp2_with fail
              refine (HB.out _ _ HP6).mono ?_
              rintro e w7 ⟨rfl, h7⟩
              obtain ⟨-, -, b0, b1, -, -, z0, z1, -, l0⟩ := h7.out.boxes
              have HN := Lib.hid (Ss6.mk (h7.out.setB q2) HK.out)
              clear HB HP6 c0 c1 c2 c3 c4 c5 c6 hlgd
              go_wp2_with fail
              go_meet
              exact ⟨ok, q2, rfl, rfl, HN⟩
            · have f0 : (kd == 0) = false := by simpa using e0
              have f1 : (kd == 1) = false := by simpa using e1
              have f2 : (kd == 2) = false := by simpa using e2
              have f3 : (kd == 3) = false := by simpa using e3
              have f4 : (kd == 4) = false := by simpa using e4
              clear e0 e1 e2 e3 e4
              have HA : Hid (Calls Try.prog 23 #[.pointer (some ⟨bt, 0, none⟩)] wp fun e w' => e = .returned (.tuple #[.agg #[.int .i64 (((forthM s).2).getD po0).l, .int .i64 (((forthM s).2).getD po0).c], .bool ((forthM s).2).isSome]) ∧ Hid (Pm w w' bt bx gd ga (ga + 1) (.cells #[.int .i64 kd, .int .i32 r, .int .i64 ql, .int .i64 qc, .int .i64 p, .slice oa x oc, .slice na y nc] 41 (0, 0)) (forthM s).1 s po0 po0)) :=
                Lib.hid (HPM.out.prog (fun P hM _ => forth_any wp hM HOK.out))
              have HB : Hid (∀ W qa, Hid (Pm w W bt bx gd ga (ga + 1) (.cells #[.int .i64 kd, .int .i32 r, .int .i64 ql, .int .i64 qc, .int .i64 p, .slice oa x oc, .slice na y nc] 41 (0, 0)) (forthM s).1 s qa po0) → Calls Try.prog 24 #[.pointer (some ⟨bx, 0, none⟩)] W fun e w' => e = .returned (.tuple #[.agg #[.int .i64 (((forthM s).2).getD po0).l, .int .i64 (((forthM s).2).getD po0).c], .bool ((forthM s).2).isSome]) ∧ Hid (Pm w w' bt bx gd ga (ga + 1) (.cells #[.int .i64 kd, .int .i32 r, .int .i64 ql, .int .i64 qc, .int .i64 p, .slice oa x oc, .slice na y nc] 41 (0, 0)) (forthM s).1 (forthM s).1 qa po0)) :=
                Lib.hid (fun W qa hW => hW.out.ref (fun P hM _ => rforth_any W hM HOK.out))
              have HK : Hid (((forthM s).1).ok (1000 * ((i : Nat) : Int))) := Lib.hid (forthM_ok HOK.out)
              obtain ⟨q2, hq2⟩ : ∃ q2, ((forthM s).2).getD po0 = q2 := ⟨_, rfl⟩
              obtain ⟨ok, hok2⟩ : ∃ ok, ((forthM s).2).isSome = ok := ⟨_, rfl⟩
              rw [hq2, hok2] at HA HB
              obtain ⟨s', hs'⟩ : ∃ s', (forthM s).1 = s' := ⟨_, rfl⟩
              rw [hs'] at HA HB HK
              clear hq2 hok2 hs'
              go_wp2_with fail
              refine HA.out.mono ?_
              rintro e w5 ⟨rfl, h5⟩
              obtain ⟨b0, b1, -, -, z0, z1, -, -, l0, -⟩ := h5.out.boxes
              have HP6 := Lib.hid (h5.out.setA q2)
              obtain ⟨w6, hw6⟩ : ∃ w6, (w5.setCell ⟨ga, 0, none⟩ (.int .i64 q2.l)).setCell ⟨ga, 1, none⟩ (.int .i64 q2.c) = w6 := ⟨_, rfl⟩
              rw [hw6] at HP6
              have HW6 := Lib.hid hw6
              clear HA c0 c1 c2 c3 c4 c5 c6 hlgd
              go_upto_region 13 with fail
              (try rw [HW6.out])
              clear hw6 HW6 z0 z1 l0 h5 b0 b1
              obtain ⟨c0, c1, c2, c3, c4, c5, c6⟩ := KS.out _ _ _ _ _ HP6
              have hlgd := HP6.out.deed.2
              go_wp2_with fail
              refine (HB.out _ _ HP6).mono ?_
              rintro e w7 ⟨rfl, h7⟩
              obtain ⟨-, -, b0, b1, -, -, z0, z1, -, l0⟩ := h7.out.boxes
              have HN := Lib.hid (Ss6.mk (h7.out.setB q2) HK.out)
              clear HB HP6 c0 c1 c2 c3 c4 c5 c6 hlgd
              go_wp2_with fail
              go_meet
              exact ⟨ok, q2, rfl, rfl, HN⟩
          case rest =>
            obtain ⟨ok, q2, rfl, rfl, hss⟩ := hcut
            obtain ⟨wq, hwq⟩ : ∃ x, x = wc := ⟨_, rfl⟩
            subst hwq
            clear c0 c1 c2 c3 c4 c5 c6 hlgd HP1 HPM KS HOK HIB HQ HGG HX HRN
            obtain ⟨s', hpm, hok'⟩ := hss.out
            obtain ⟨ja, jc, j1, j2, hbl, hjr⟩ := hpm.jj
            obtain ⟨b0, b1, b2, b3, -, -, -, -, la, lb⟩ := hpm.boxes
            have HPQ := Lib.hid hpm
            have HOK := Lib.hid hok'
            obtain ⟨P1, hM1⟩ := hpm.mk
            obtain ⟨Q1, hR1⟩ := hpm.rk
            have HJU := Lib.hid (jumps_any wq hM1 hok')
            have HNM : Hid (∀ W, Below wq.heap.size wq W → Calls Try.prog 27 #[.pointer (some ⟨bt, 0, none⟩)] W fun e w' => ∃ (a : Option Addr) (n c : Nat), e = .returned (.slice a n c) ∧ Hid (Rd .i32 w' a n c (s'.ns.map (·.1)) ∧ Below W.heap.size W w')) := Lib.hid (fun W hW => names_any W (hM1.below hW) hok')
            have HRM : Hid (∀ W, Below wq.heap.size wq W → Calls Try.prog 28 #[.pointer (some ⟨bx, 0, none⟩)] W fun e w' => ∃ (a : Option Addr) (n c : Nat), e = .returned (.slice a n c) ∧ Hid (Rd .i32 w' a n c (s'.ns.map (·.1)) ∧ Below W.heap.size W w')) := Lib.hid (fun W hW => rnames_any W (hR1.below hW) hok')
            have HJR := Lib.hid hjr
            obtain ⟨jl, hjl⟩ : ∃ jl, s'.js.length = jl := ⟨_, rfl⟩
            obtain ⟨ix, hix⟩ : ∃ ix, s'.ix = ix := ⟨_, rfl⟩
            obtain ⟨ks, hks⟩ : ∃ ks, s'.ns.map (·.1) = ks := ⟨_, rfl⟩
            rw [hjl] at j1 HJR
            rw [hix] at j2
            rw [hjl, hix] at HJU
            rw [hks] at HNM HRM
            obtain ⟨js, hjs⟩ : ∃ js, s'.js = js := ⟨_, rfl⟩
            rw [hjs] at HJU HJR
            clear hjl hix hks hjs hM1 hR1 hpm hok' hjr hss
            have KB : Hid (∀ W, Below wq.heap.size wq W → W.cell? ⟨ga, 0, none⟩ = some (.int .i64 q2.l) ∧ W.cell? ⟨ga, 1, none⟩ = some (.int .i64 q2.c) ∧ W.cell? ⟨ga + 1, 0, none⟩ = some (.int .i64 q2.l) ∧ W.cell? ⟨ga + 1, 1, none⟩ = some (.int .i64 q2.c) ∧ W.cell? ⟨bx, 1, none⟩ = some (.slice ja jl jc) ∧ W.cell? ⟨bx, 2, none⟩ = some (.int .i64 (ix : Nat))) :=
              Lib.hid (fun W hW => ⟨(hW.cell (p := ⟨ga, 0, none⟩) la).trans b0, (hW.cell (p := ⟨ga, 1, none⟩) la).trans b1, (hW.cell (p := ⟨ga + 1, 0, none⟩) lb).trans b2, (hW.cell (p := ⟨ga + 1, 1, none⟩) lb).trans b3, (hW.cell (p := ⟨bx, 1, none⟩) hbl).trans j1, (hW.cell (p := ⟨bx, 2, none⟩) hbl).trans j2⟩)
            clear b0 b1 b2 b3 j1 j2
            have hd1 : (ok != ok) = false := by simp
            have hd2 : ((ix : Int) != (ix : Int)) = false := by simp
            go_wp2_with fail
            refine HJU.out.mono ?_
            rintro e w5 ⟨a5, c5, rfl, hown5, hb5⟩
            have HW5 : Hid (Below wq.heap.size wq w5) := hb5
            have HJ5 := Lib.hid (Rc.own hown5)
            clear HJU hown5 hb5
            obtain ⟨b0, b1, b2, b3, j1, j2⟩ := KB.out _ HW5.out
            go_wp2_with fail
            refine (HNM.out _ HW5.out).mono ?_
            rintro e w6 ⟨a6, n6, c6, rfl, h6⟩
            have HW6 : Hid (Below wq.heap.size wq w6) := Lib.hid (HW5.out.trans (h6.out.2.mono HW5.out.size))
            have HJ6 := Lib.hid (HJ5.out.below h6.out.2)
            clear HNM HJ5 b0 b1 b2 b3 j1 j2
            go_wp2_with fail
            refine (HRM.out _ HW6.out).mono ?_
            rintro e w7 ⟨a7, n7, c7, rfl, h7⟩
            have HW7 : Hid (Below wq.heap.size wq w7) := Lib.hid (HW6.out.trans (h7.out.2.mono HW6.out.size))
            have HJ7 := Lib.hid (HJ6.out.below h7.out.2)
            have HRU := Lib.hid (runes_any a6 a7 n6 n7 c6 c7 ks ks w7 (h6.out.1.below h7.out.2) h7.out.1)
            rw [show decide (ks = ks) = true by simp] at HRU
            clear HRM HJ6 h6 h7
            go_wp2_with fail
            refine HRU.out.mono ?_
            rintro e w8 ⟨rfl, hb8⟩
            have HW8 : Hid (Below wq.heap.size wq w8) := Lib.hid (HW7.out.trans (hb8.mono HW7.out.size))
            have HJ8 := Lib.hid (HJ7.out.below hb8)
            have HPL := Lib.hid (rplaces_any a5 ja jl jl c5 jc js js w8 HJ8.out (HJR.out.below HW8.out))
            rw [show decide (js = js) = true by simp] at HPL
            clear HRU HJ7 hb8
            obtain ⟨b0, b1, b2, b3, j1, j2⟩ := KB.out _ HW8.out
            have hbl8 : bx < w8.heap.size := Nat.lt_of_lt_of_le hbl HW8.out.size
            go_wp2_with fail
            refine HPL.out.mono ?_
            rintro e w9 ⟨rfl, hb9⟩
            have HW9 : Hid (Below wq.heap.size wq w9) := Lib.hid (HW8.out.trans (hb9.mono HW8.out.size))
            clear HPL HJ8 hb9 b0 b1 b2 b3 j1 j2 hbl8
            obtain ⟨-, -, -, -, j1, j2⟩ := KB.out _ HW9.out
            have HN : Hid (St6 w w9 bt bx (i + 1)) := ⟨s', HPQ.out.1.turn HW9.out (fun k hk => hk.elim), HOK.out⟩
            clear HPQ HOK KB HJR
            go_wp2_with fail
            go_roundw
            case rel => exact ⟨i + 1, rfl, by omega, by omega, HN⟩
            case measure => first | (simp [intOf]; done) | (simp [intOf]; omega)
    · go_upto_region 5 with fail
      go_cut [25] from 18 to 174 (fun s wx => s = .bool false ∧ wx = wr)
      case first =>
        by_cases hq : (i : Int) < (len : Int)
        · have hq3 : decide ((i : Int) < 200) = false := by have hq2 : ¬ (i : Int) < 200 := fun h => hboth ⟨hq, h⟩; simpa using hq2
          go_wp2_with fail
          go_meet
          exact ⟨by first | rfl | exact congrArg Value.bool hq3, rfl⟩
        · go_wp2_with fail
          go_meet
          exact ⟨rfl, rfl⟩
      obtain ⟨rfl, rfl⟩ := hcut
      obtain ⟨t, hS, hg⟩ := hst.out
      have HBL : Hid (Below w.heap.size w wc ∧ w.heap.size ≤ wc.heap.size) := ⟨hS.bel, hS.bel.size⟩
      clear hst hS hg hboth
      go_wp2_with fail
      refine (awake_ok wc).mono ?_
      rintro e w9 ⟨rfl, hb9⟩
      have HB9 : Hid (Below w.heap.size w w9) := HBL.out.1.trans (hb9.mono HBL.out.2)
      clear hb9
      go_wp2_with fail
      go_ret
      exact ⟨rfl, HB9.out⟩
end Go.Proofs.Ytbgbhlnidabhnaa.U
