/-
  The walk of UndoPlays.
-/
import Derived.Test.YtalhiedbhcklgaaVPlm
import Derived.Test.YtalhiedbhcklgaaVAwakeW
import Derived.Deep.CutBlock
import Derived.Deep.RegionHeld3
namespace Go.Proofs.Ytalhiedbhcklgaa.U
open Go.RowKit
set_option linter.unusedVariables false
set_option linter.unusedSimpArgs false
set_option maxRecDepth 100000

theorem rzero_mem (w : World) : TreeR (fun k => k = w.heap.size) (fun _ => False) (w.alloc (.cells #[.slice none 0 0, .int .i64 0, .bool false, .slice none 0 0] 43)) w.heap.size Tr.zero := by
  have g1 : (w.alloc (.cells #[.slice none 0 0, .int .i64 0, .bool false, .slice none 0 0] 43)).heap[w.heap.size]? = some (.cells #[.slice none 0 0, .int .i64 0, .bool false, .slice none 0 0] 43 (0, 0)) := heap_alloc_new w _
  exact { ex := ⟨none, none, 0, 0, [], g1, World.ownsRow_nil _ _ _ _, rfl, fun i p hp => by simp [Tr.zero] at hp, OwnCs.nil _ _ _, fun k e => (by cases e), fun k e => (by cases e)⟩, inP := rfl, outF := fun h => h, sub := fun k hk => hk.elim, lt := fun k hk => by subst hk; exact heap_lt g1 }

set_option maxHeartbeats 8000000 in
theorem undoPlays_wide (a : Option Addr) (len cap : Nat) (w : World) (h : RdSt 5 IsDd w a len cap) :
    Calls Try.prog 4 #[.slice a len cap] w fun e w' => e = .returned (.bool true) ∧ Below w.heap.size w w' := by
  have HD := Lib.hid h
  have hln : len ≤ 9223372036854775807 := by obtain ⟨q1, q2, _⟩ := h; unfold maxLen at q2; omega
  clear h
  go_enter Try.func4, Try.ntmps4
  go_wp2_with fail
  refine (new_any w).mono ?_
  rintro e w2 ⟨rfl, P0, F0, hT0, hf0, hP0⟩
  obtain ⟨w3, hw3⟩ : ∃ w3, w2.alloc (.cells #[.slice none 0 0, .int .i64 0, .bool false, .slice none 0 0] 43) = w3 := ⟨_, rfl⟩
  have hR0 := rzero_mem w2
  rw [hw3] at hR0
  have hb2 : Below w.heap.size w w2 := hf0.below0
  have hb23 : Below w2.heap.size w2 w3 := by rw [← hw3]; exact (Below.refl _ _).alloc (Nat.le_refl _) _
  have HST : Hid (∃ t, PlS w.heap.size w w3 (w.heap.size + 1) w2.heap.size t t (fun _ => False) ∧ t.group.length ≤ 0) := by
    have s2 := hb2.size
    refine ⟨Tr.zero, ⟨⟨P0, F0, _, _, hT0.below hb23, hR0, fun k hk => ?_, fun k hk => by omega, fun k hk hq => ?_, fun k hk => hk.elim⟩, hb2.trans (hb23.mono s2), Nat.le_trans s2 hb23.size⟩, Nat.le_refl _⟩
    · rcases hP0 k hk with h | h
      · exact h.elim
      · exact h
    · have := hT0.lt k hk; omega
  have HW3 := Lib.hid hw3
  obtain ⟨bt, hbt⟩ : ∃ bt, w.heap.size + 1 = bt := ⟨_, rfl⟩
  obtain ⟨bx, hbx⟩ : ∃ bx, w2.heap.size = bx := ⟨_, rfl⟩
  rw [hbt, hbx] at HST
  rw [hbt]
  have HBX := Lib.hid hbx
  clear hT0 hf0 hP0 hw3 hR0 hb2 hb23 hbt hbx
  go_upto_region 4 with fail
  rw [HW3.out, HBX.out]
  clear HW3 HBX
  go_wp2_with fail
  go_loopw [5] (fun v5 wr => ∃ i : Nat, v5 = .int .i64 (i : Nat) ∧ i ≤ 100 ∧ i ≤ len ∧ Hid (∃ t, PlS w.heap.size w wr bt bx t t (fun _ => False) ∧ t.group.length ≤ i)) (fun v5 _ => ((100 : Int) - intOf v5).toNat)
  case atStart => exact ⟨0, rfl, Nat.zero_le _, Nat.zero_le _, HST⟩
  case round =>
    obtain ⟨i, rfl, hi100, hil, hst⟩ := hrel
    clear HST
    by_cases hboth : (i : Int) < (len : Int) ∧ (i : Int) < 100
    · obtain ⟨hlt, h100⟩ := hboth
      obtain ⟨t, hS, hg⟩ := hst.out
      obtain ⟨b, off, kd, dn, oa, na, oc, nc, c, rfl, k0, k1, k2, k3, k4, hbl, ikd, idn, ip, ro, rn, wo, wn⟩ := HD.out.deed (Below.refl _ w) (i := i) (by omega)
      have tr : ∀ j, wr.cell? ⟨b, off + i * 5 + j, none⟩ = w.cell? ⟨b, off + i * 5 + j, none⟩ := fun j => hS.bel.cell (p := ⟨b, off + i * 5 + j, none⟩) hbl
      have d0 : wr.cell? ⟨b, off + i * 5, none⟩ = some (.int .i64 kd) := (tr 0).trans k0
      have d1 : wr.cell? ⟨b, off + i * 5 + 1, none⟩ = some (.int .i64 dn) := (tr 1).trans k1
      have d2 : wr.cell? ⟨b, off + i * 5 + 2, none⟩ = some (.int .i64 c.pos) := (tr 2).trans k2
      have d3 : wr.cell? ⟨b, off + i * 5 + 3, none⟩ = some (.slice oa c.old.length oc) := (tr 3).trans k3
      have d4 : wr.cell? ⟨b, off + i * 5 + 4, none⟩ = some (.slice na c.now.length nc) := (tr 4).trans k4
      have hbw : b < wr.heap.size := Nat.lt_of_lt_of_le hbl hS.bel.size
      have HRO : Hid (RdL (fun k => k < w.heap.size) w oa c.old.length oc c.old ∧ RdL (fun k => k < w.heap.size) w na c.now.length nc c.now ∧ WideL c.old ∧ WideL c.now ∧ i64b c.pos) := ⟨ro, rn, wo, wn, ip⟩
      obtain ⟨x, hx⟩ : ∃ x, c.old.length = x := ⟨_, rfl⟩
      obtain ⟨y, hy⟩ : ∃ y, c.now.length = y := ⟨_, rfl⟩
      obtain ⟨p, hp⟩ : ∃ p, c.pos = p := ⟨_, rfl⟩
      have HX := Lib.hid hx
      have HY := Lib.hid hy
      have HP := Lib.hid hp
      rw [hp] at d2
      rw [hx] at d3
      rw [hy] at d4
      obtain ⟨wd, hwd⟩ : ∃ wd, wr.alloc (.cells #[.int .i64 kd, .int .i64 dn, .int .i64 p, .slice oa x oc, .slice na y nc] 45) = wd := ⟨_, rfl⟩
      have hbd : Below wr.heap.size wr wd := by rw [← hwd]; exact (Below.refl _ _).alloc (Nat.le_refl _) _
      have hgd : wd.heap[wr.heap.size]? = some (.cells #[.int .i64 kd, .int .i64 dn, .int .i64 p, .slice oa x oc, .slice na y nc] 45 (0, 0)) := by rw [← hwd]; exact heap_alloc_new wr _
      have hlgd := heap_lt hgd
      have hSd : PlS w.heap.size w wd bt bx t t (fun k => k = wr.heap.size) := hS.turn hbd (fun k hk => .inr (by omega))
      have hsm := small5_any _ oa na oc nc c wd (ro.below hSd.bel) (rn.below hSd.bel) wo wn
      rw [hx, hy, hp] at hsm
      obtain ⟨gd, hgde⟩ : ∃ gd, wr.heap.size = gd := ⟨_, rfl⟩
      rw [hgde] at hgd hSd hlgd
      have HWD := Lib.hid hwd
      have HGE := Lib.hid hgde
      have HGD := Lib.hid hgd
      have HSD := Lib.hid hSd
      have HSM := Lib.hid hsm
      have HG := Lib.hid hg
      clear hst hS k0 k1 k2 k3 k4 hbl ro rn wo wn ip tr hx hy hp hwd hbd hSd hsm hgde hg
      go_upto_region 8 with fail
      rw [HWD.out, HGE.out]
      clear d0 d1 d2 d3 d4 hbw HWD HGE
      have c0 := cell_row hgd 0
      have c1 := cell_row hgd 1
      have c2 := cell_row hgd 2
      have c3 := cell_row hgd 3
      have c4 := cell_row hgd 4
      clear hgd
      cases hsc : smallC c with
      | false =>
        rw [hsc] at HSM
        go_wp2_with fail
        refine HSM.out.mono ?_
        rintro e w4 ⟨rfl, hb4⟩
        have HN : Hid (∃ t, PlS w.heap.size w w4 bt bx t t (fun _ => False) ∧ t.group.length ≤ i + 1) := ⟨t, HSD.out.turn hb4 (fun k hk => hk.elim), Nat.le_succ_of_le HG.out⟩
        clear HSM c0 c1 c2 c3 c4 hb4
        go_wp2_with fail
        go_roundw
        case rel => exact ⟨i + 1, rfl, by omega, by omega, HN⟩
        case measure => first | (simp [intOf]; done) | (simp [intOf]; omega)
      | true =>
        rw [hsc] at HSM
        go_wp2_with fail
        refine HSM.out.mono ?_
        rintro e w4 ⟨rfl, hb4⟩
        have hgd4 := (hb4.block gd hlgd).trans HGD.out
        have HS4 := Lib.hid (HSD.out.below hb4)
        have HGD4 := Lib.hid hgd4
        clear HSM c0 c1 c2 c3 c4 hb4 hlgd
        have c0 := cell_row hgd4 0
        have c1 := cell_row hgd4 1
        have c2 := cell_row hgd4 2
        have c3 := cell_row hgd4 3
        have c4 := cell_row hgd4 4
        have hl4 := heap_lt hgd4
        clear hgd4
        have HOKT : Hid (t.Ok ∧ t.Lim) := HS4.out.ok
        have HROW : Hid (∀ W, Below w.heap.size w W → RdL (fun k => k < w.heap.size) W oa c.old.length oc c.old ∧ RdL (fun k => k < w.heap.size) W na c.now.length nc c.now) := fun W hW => ⟨HRO.out.1.below hW, HRO.out.2.1.below hW⟩
        have hsmC : smallL c.old = true ∧ smallL c.now = true := by
          unfold smallC at hsc
          rw [Bool.and_eq_true] at hsc
          exact hsc
        have HOKC : Hid (OkC c) := ⟨HRO.out.2.2.2.2, lines_wf (rdl_wf HRO.out.1), lines_wf (rdl_wf HRO.out.2.1), by have := smallL_wide hsmC.1; omega, by have := smallL_wide hsmC.2; omega⟩
        clear hsmC hsc HSD HGD HRO
        go_upto_block 2 with fail
        go_cut [7, 8, 9, 10] (fun v7 v8 v9 v10 wx => ∃ (er : Int) (a : Option Addr) (m c : Nat) (b : Option Addr) (m2 c2 : Nat), v7 = .slice a m c ∧ v8 = .slice b m2 c2 ∧ v9 = .int .i64 er ∧ v10 = .int .i64 er ∧ Hid (MvS w.heap.size w bt bx wx a m c b m2 c2 (i + 1)))
        case first =>
          by_cases e0 : kd = 0
          · subst e0
            have HA : Hid (Calls Try.prog 21 #[.pointer (some ⟨bt, 0, none⟩), .agg #[.int .i64 p, .slice oa x oc, .slice na y nc]] w4 fun e w' => e = .returned (.tuple #[]) ∧ Hid (PlS w.heap.size w w' bt bx (t.add c) t (fun k => k = gd) ∧ w'.heap[gd]? = some (.cells #[.int .i64 0, .int .i64 dn, .int .i64 p, .slice oa x oc, .slice na y nc] 45 (0, 0)))) := by
              refine pl_prog HS4.out HGD4.out (fun P F hT hPB => ?_)
              have hr := HROW.out w4 HS4.out.bel
              have := add_any hT oa na oc nc c hr.1 hr.2 (fun k hk hp => by have := hPB k hp; omega) HOKC.out (by have := HG.out; omega)
              rw [HX.out, HY.out, HP.out] at this
              exact this
            go_wp2_with fail
            refine HA.out.mono ?_
            rintro e w5 ⟨rfl, h5⟩
            clear HA c0 c1 c2 c3 c4 hl4
            have c2 := cell_row h5.out.2 2
            have c3 := cell_row h5.out.2 3
            have c4 := cell_row h5.out.2 4
            have hl5 := heap_lt h5.out.2
            have HB : Hid (Calls Try.prog 22 #[.pointer (some ⟨bx, 0, none⟩), .agg #[.int .i64 p, .slice oa x oc, .slice na y nc]] w5 fun e w' => e = .returned (.tuple #[]) ∧ Hid (PlS w.heap.size w w' bt bx (t.add c) (t.add c) (fun k => k = gd))) := by
              refine pl_ref h5.out.1 (fun Q G hT => ?_)
              have hr := HROW.out w5 h5.out.1.bel
              have := radd_any hT oa na oc nc c hr.1 hr.2 HOKC.out (by have := HG.out; omega) HOKT.out.1.1
              rw [HX.out, HY.out, HP.out] at this
              exact this
            go_wp2_with fail
            refine HB.out.mono ?_
            rintro e w6 ⟨rfl, h6⟩
            clear HB c2 c3 c4 hl5
            have HFIN : Hid (MvS w.heap.size w bt bx w6 none 0 0 none 0 0 (i + 1)) := MvS.quiet h6.out (by have := Tr.add_group t c; have := HG.out; omega)
            go_wp2_with fail
            go_meet
            exact ⟨0, none, 0, 0, none, 0, 0, rfl, rfl, rfl, rfl, HFIN⟩
          by_cases e1 : kd = 1
          · subst e1
            have HA : Hid (Calls Try.prog 23 #[.pointer (some ⟨bt, 0, none⟩)] w4 fun e w' => e = .returned (.tuple #[]) ∧ Hid (PlS w.heap.size w w' bt bx t.begin_ t (fun k => k = gd) ∧ w'.heap[gd]? = some (.cells #[.int .i64 1, .int .i64 dn, .int .i64 p, .slice oa x oc, .slice na y nc] 45 (0, 0)))) := by
              refine pl_prog HS4.out HGD4.out (fun P F hT hPB => (begin_any hT).mono ?_)
              rintro e w' ⟨rfl, -, q1, q2⟩
              exact ⟨rfl, P, F, q1, q2, fun k hk => .inl hk⟩
            go_wp2_with fail
            refine HA.out.mono ?_
            rintro e w5 ⟨rfl, h5⟩
            clear HA c0 c1 c2 c3 c4 hl4
            have HB : Hid (Calls Try.prog 24 #[.pointer (some ⟨bx, 0, none⟩)] w5 fun e w' => e = .returned (.tuple #[]) ∧ Hid (PlS w.heap.size w w' bt bx t.begin_ t.begin_ (fun k => k = gd))) := pl_ref h5.out.1 (fun Q G hT => rbegin_any hT)
            go_wp2_with fail
            refine HB.out.mono ?_
            rintro e w6 ⟨rfl, h6⟩
            clear HB
            have HFIN : Hid (MvS w.heap.size w bt bx w6 none 0 0 none 0 0 (i + 1)) := MvS.quiet h6.out (by have := HG.out; show t.group.length ≤ i + 1; omega)
            go_wp2_with fail
            go_meet
            exact ⟨0, none, 0, 0, none, 0, 0, rfl, rfl, rfl, rfl, HFIN⟩
          by_cases e2 : kd = 2
          · subst e2
            have HA : Hid (Calls Try.prog 25 #[.pointer (some ⟨bt, 0, none⟩)] w4 fun e w' => e = .returned (.tuple #[]) ∧ Hid (PlS w.heap.size w w' bt bx t.end_ t (fun k => k = gd) ∧ w'.heap[gd]? = some (.cells #[.int .i64 2, .int .i64 dn, .int .i64 p, .slice oa x oc, .slice na y nc] 45 (0, 0)))) :=
              pl_prog HS4.out HGD4.out (fun P F hT hPB => (end_any hT).1)
            go_wp2_with fail
            refine HA.out.mono ?_
            rintro e w5 ⟨rfl, h5⟩
            clear HA c0 c1 c2 c3 c4 hl4
            have HB : Hid (Calls Try.prog 26 #[.pointer (some ⟨bx, 0, none⟩)] w5 fun e w' => e = .returned (.tuple #[]) ∧ Hid (PlS w.heap.size w w' bt bx t.end_ t.end_ (fun k => k = gd))) := pl_ref h5.out.1 (fun Q G hT => rend_any hT HOKT.out.1.1 HOKT.out.2.2.1)
            go_wp2_with fail
            refine HB.out.mono ?_
            rintro e w6 ⟨rfl, h6⟩
            clear HB
            have HFIN : Hid (MvS w.heap.size w bt bx w6 none 0 0 none 0 0 (i + 1)) := MvS.quiet h6.out (by rw [Tr.end_group]; simp)
            go_wp2_with fail
            go_meet
            exact ⟨0, none, 0, 0, none, 0, 0, rfl, rfl, rfl, rfl, HFIN⟩
          by_cases e3 : kd = 3
          · subst e3
            have HA := Lib.hid (mv_prog (f := 27) (args := #[.pointer (some ⟨bt, 0, none⟩)]) (r := t.undo) (er := 31) HS4.out HGD4.out (fun P F hT => undo_any hT) (undo_okc HOKT.out.1 HOKT.out.2))
            obtain ⟨E, hE⟩ : ∃ E, erOf (t.undo) 31 = E := ⟨_, rfl⟩
            rw [hE] at HA
            go_wp2_with fail
            refine HA.out.mono ?_
            rintro e w5 ⟨a5, m5, c5, rfl, h5⟩
            have hgd5 : w5.heap[gd]? = some (.cells #[.int .i64 3, .int .i64 dn, .int .i64 p, .slice oa x oc, .slice na y nc] 45 (0, 0)) := by obtain ⟨_, _, _, _, _, _, _, _, _, q⟩ := h5.out; exact q
            clear HA c0 c1 c2 c3 c4 hl4
            have c1 := cell_row hgd5 1
            have hl5 := heap_lt hgd5
            have HB := Lib.hid (mv_ref (f := 28) (args := #[.pointer (some ⟨bx, 0, none⟩)]) (r := t.undo) (er := 31) (g0 := i + 1) h5.out (fun Q G hT => rundo_any hT HOKT.out.1 HOKT.out.2 (Tr.end_lim HOKT.out.2)) (undo_okc HOKT.out.1 HOKT.out.2) (by rw [Tr.undo_group]; simp))
            rw [hE] at HB
            clear h5 hgd5 hE
            go_wp2_with fail
            refine HB.out.mono ?_
            rintro e w6 ⟨b6, m6, c6, rfl, h6⟩
            clear HB c1 hl5
            go_wp2_with fail
            go_meet
            exact ⟨E, a5, m5, c5, b6, m6, c6, rfl, rfl, rfl, rfl, h6⟩
          by_cases e4 : kd = 4
          · subst e4
            have HA := Lib.hid (mv_prog (f := 29) (args := #[.pointer (some ⟨bt, 0, none⟩)]) (r := t.redo) (er := 31) HS4.out HGD4.out (fun P F hT => redo_any hT) (redo_okc HOKT.out.1 HOKT.out.2))
            obtain ⟨E, hE⟩ : ∃ E, erOf (t.redo) 31 = E := ⟨_, rfl⟩
            rw [hE] at HA
            go_wp2_with fail
            refine HA.out.mono ?_
            rintro e w5 ⟨a5, m5, c5, rfl, h5⟩
            have hgd5 : w5.heap[gd]? = some (.cells #[.int .i64 4, .int .i64 dn, .int .i64 p, .slice oa x oc, .slice na y nc] 45 (0, 0)) := by obtain ⟨_, _, _, _, _, _, _, _, _, q⟩ := h5.out; exact q
            clear HA c0 c1 c2 c3 c4 hl4
            have c1 := cell_row hgd5 1
            have hl5 := heap_lt hgd5
            have HB := Lib.hid (mv_ref (f := 30) (args := #[.pointer (some ⟨bx, 0, none⟩)]) (r := t.redo) (er := 31) (g0 := i + 1) h5.out (fun Q G hT => rredo_any hT HOKT.out.1 HOKT.out.2 (Tr.end_lim HOKT.out.2)) (redo_okc HOKT.out.1 HOKT.out.2) (by rw [Tr.redo_group]; simp))
            rw [hE] at HB
            clear h5 hgd5 hE
            go_wp2_with fail
            refine HB.out.mono ?_
            rintro e w6 ⟨b6, m6, c6, rfl, h6⟩
            clear HB c1 hl5
            go_wp2_with fail
            go_meet
            exact ⟨E, a5, m5, c5, b6, m6, c6, rfl, rfl, rfl, rfl, h6⟩
          · have f0 : (kd == 0) = false := by simpa using e0
            have f1 : (kd == 1) = false := by simpa using e1
            have f2 : (kd == 2) = false := by simpa using e2
            have f3 : (kd == 3) = false := by simpa using e3
            have f4 : (kd == 4) = false := by simpa using e4
            clear e0 e1 e2 e3 e4
            have HA := Lib.hid (mv_prog (f := 31) (args := #[.pointer (some ⟨bt, 0, none⟩), .int .i64 dn]) (r := t.goTo dn) (er := 4) HS4.out HGD4.out (fun P F hT => to_any hT dn) (goTo_okc HOKT.out.1 HOKT.out.2 dn))
            obtain ⟨E, hE⟩ : ∃ E, erOf (t.goTo dn) 4 = E := ⟨_, rfl⟩
            rw [hE] at HA
            go_wp2_with fail
            refine HA.out.mono ?_
            rintro e w5 ⟨a5, m5, c5, rfl, h5⟩
            have hgd5 : w5.heap[gd]? = some (.cells #[.int .i64 kd, .int .i64 dn, .int .i64 p, .slice oa x oc, .slice na y nc] 45 (0, 0)) := by obtain ⟨_, _, _, _, _, _, _, _, _, q⟩ := h5.out; exact q
            clear HA c0 c1 c2 c3 c4 hl4
            have c1 := cell_row hgd5 1
            have hl5 := heap_lt hgd5
            have HB := Lib.hid (mv_ref (f := 32) (args := #[.pointer (some ⟨bx, 0, none⟩), .int .i64 dn]) (r := t.goTo dn) (er := 4) (g0 := i + 1) h5.out (fun Q G hT => rto_any hT HOKT.out.1 HOKT.out.2 (Tr.end_lim HOKT.out.2) dn) (goTo_okc HOKT.out.1 HOKT.out.2 dn) (by rw [Tr.goTo_group]; simp))
            rw [hE] at HB
            clear h5 hgd5 hE
            go_wp2_with fail
            refine HB.out.mono ?_
            rintro e w6 ⟨b6, m6, c6, rfl, h6⟩
            clear HB c1 hl5
            go_wp2_with fail
            go_meet
            exact ⟨E, a5, m5, c5, b6, m6, c6, rfl, rfl, rfl, rfl, h6⟩
        case rest =>
          obtain ⟨er, a5, m5, c5, b6, m6, c6, rfl, rfl, rfl, rfl, hmv⟩ := hcut
          clear c0 c1 c2 c3 c4 hl4 HS4 HGD4 HOKT HROW HOKC HX HY HP HG
          obtain ⟨wq, hwq⟩ : ∃ x, x = wc := ⟨_, rfl⟩
          subst hwq
          obtain ⟨t', s, e, cs, us, th, p1, p2, p3, p4, p5, ⟨G, p6⟩, p7, p8⟩ := hmv.out
          obtain ⟨nb, nbc, r0, r1, rl⟩ := p1.refc
          obtain ⟨nl, hnl⟩ : ∃ nl, t'.nodes.length = nl := ⟨_, rfl⟩
          obtain ⟨hr, hhr⟩ : ∃ hr, t'.here = hr := ⟨_, rfl⟩
          rw [hnl] at r0
          rw [hhr] at r1
          have HP1 := Lib.hid p1
          have HP2 := Lib.hid p2
          have HP3 := Lib.hid p3
          have HP4 := Lib.hid p4
          have HP7 := Lib.hid p7
          have HP8 := Lib.hid p8
          have hm5 : m5 ≤ 9223372036854775807 := p5.small
          have HLI : Hid (∀ W, Hid (Below wq.heap.size wq W) → Calls Try.prog 33 #[.slice a5 m5 c5, .slice b6 m6 c6] W fun e w' => e = .returned (.bool true) ∧ Hid (Below wq.heap.size wq w')) := by
            intro W hW
            refine (rlist_any _ G a5 b6 m5 c5 m6 c6 cs cs W (p5.below hW.out) (p6.below hW.out)).mono ?_
            rintro e w' ⟨rfl, hb⟩
            exact ⟨by simp, hW.out.trans (hb.mono hW.out.size)⟩
          have HLE : Hid (∀ W, Hid (Below wq.heap.size wq W) → Calls Try.prog 34 #[.pointer (some ⟨bt, 0, none⟩)] W fun e w' => e = .returned (.int .i64 (nl : Nat)) ∧ W = w') := by
            intro W hW
            obtain ⟨P, F, h1, _⟩ := (HP1.out.below hW.out).prog
            have := lenT_any h1
            rw [hnl] at this
            exact this
          have HAT : Hid (∀ W, Hid (Below wq.heap.size wq W) → Calls Try.prog 35 #[.pointer (some ⟨bt, 0, none⟩)] W fun e w' => e = .returned (.int .i64 (hr : Nat)) ∧ W = w') := by
            intro W hW
            obtain ⟨P, F, h1, _⟩ := (HP1.out.below hW.out).prog
            have := at_any h1
            rw [hhr] at this
            exact this
          have KS : Hid (∀ W, Hid (Below wq.heap.size wq W) → Hid (Below wq.heap.size wq W) ∧ W.cell? ⟨bx, 0, none⟩ = some (.slice nb nl nbc) ∧ W.cell? ⟨bx, 1, none⟩ = some (.int .i64 (hr : Nat))) := fun W hW => ⟨hW, (hW.out.cell (p := ⟨bx, 0, none⟩) rl).trans r0, (hW.out.cell (p := ⟨bx, 1, none⟩) rl).trans r1⟩
          have HR0 : Hid (Below wq.heap.size wq wq) := Below.refl _ _
          have HR1 : Hid (Below wq.heap.size wq wq.drew) := (Below.refl _ _).drew
          have dd : (er != er) = false := by simp
          have dn1 : ((nl : Int) != (nl : Int)) = false := by simp
          have dh1 : ((hr : Int) != (hr : Int)) = false := by simp
          clear p1 p2 p3 p4 p5 p6 p7 p8 hnl hhr hmv
          go_upto_region 29 with fail
          go_cut [125] (fun v wx => v = .bool false ∧ Hid (Below wq.heap.size wq wx))
          case first =>
            go_region_held3 (fun w' => Hid (Below wq.heap.size wq w') ∧ w'.cell? ⟨bx, 0, none⟩ = some (.slice nb nl nbc) ∧ w'.cell? ⟨bx, 1, none⟩ = some (.int .i64 (hr : Nat)))
              (first
                | exact KS.out _ HR0
                | exact KS.out _ HR1
                | exact KS.out _ q1)
              (first
                | (go_at_call 33; (with_reducible refine (HLI.out _ (by first | exact HR0 | exact HR1)).mono ?_); rintro e1 v1 ⟨rfl, q1⟩)
                | (go_at_call 34; (with_reducible refine (HLE.out _ q1).mono ?_); rintro e2 v2 ⟨rfl, rfl⟩)
                | (go_at_call 35; (with_reducible refine (HAT.out _ q1).mono ?_); rintro e3 v3 ⟨rfl, rfl⟩))
            all_goals
              go_wp2_with fail
              go_meet
              exact ⟨rfl, by first | exact q1 | (constructor; exact q1)⟩
          case rest =>
            obtain ⟨rfl, hq⟩ := hcut
            have HK0 : Hid (PlS w.heap.size w wc bt bx t' t' (fun k => s ≤ k ∧ k < e) ∧ ToW s e us th cs wc a5 m5 c5 0) := ⟨HP1.out.below hq.out, HP3.out.below hq.out⟩
            clear hq HR0 HR1 KS HLI HLE HAT dd dn1 dh1 r0 r1 rl HP1 HP3
            go_wp2_with fail
            go_loopw [11] (fun v11 wr => ∃ k : Nat, v11 = .int .i64 (k : Nat) ∧ k ≤ m5 ∧ Hid (PlS w.heap.size w wr bt bx t' t' (fun k => s ≤ k ∧ k < e) ∧ ToW s e us th cs wr a5 m5 c5 k)) (fun v11 _ => ((m5 : Int) - intOf v11).toNat)
            case atStart => exact ⟨0, rfl, Nat.zero_le _, HK0⟩
            case round =>
              obtain ⟨k, rfl, hk, hst⟩ := hrel
              clear HK0
              by_cases hlt : (k : Int) < (m5 : Int)
              · obtain ⟨x, hx⟩ : ∃ x, cs[k]? = some x := ⟨_, List.getElem?_eq_getElem (by have := HP4.out; omega)⟩
                obtain ⟨ab, oa, oc, u, rfl, hu, heu, hmg, hgs⟩ := hst.out.2.get hx
                have hxo := HP8.out x (List.mem_of_getElem? hx)
                obtain ⟨ol, hol⟩ : ∃ ol, x.old.length = ol := ⟨_, rfl⟩
                rw [hol] at heu hmg hgs
                have HI0 : Hid (InnS w.heap.size w bt bx t' s e us th cs ab m5 c5 k oa ol oc (lens x.old) 0 wr) := ⟨hst.out.1, hst.out.2.next, hmg⟩
                have HU : Hid (us[k]? = some u ∧ u.2.1 = .slice oa ol oc) := ⟨hu, heu⟩
                have HGS := Lib.hid hgs
                have HLN : Hid ((lens x.old).length = ol) := by show _ = _; rw [lens_len]; exact hol
                have HXO : Hid (sizeN (lens x.old) ≤ 1048576) := hxo.2.2.2.1
                have holb : ol ≤ 1048576 := by have h1 := size_count x.old; have h2 := HXO.out; omega
                obtain ⟨ls, hls⟩ : ∃ ls, lens x.old = ls := ⟨_, rfl⟩
                rw [hls] at HI0 HLN HXO
                clear hst hx hu heu hmg hgs hxo hol hls
                go_wp2_with fail
                go_loopw [12] (fun v12 wr => ∃ j : Nat, v12 = .int .i64 (j : Nat) ∧ j ≤ ol ∧ Hid (InnS w.heap.size w bt bx t' s e us th cs ab m5 c5 k oa ol oc ls j wr)) (fun v12 _ => ((ol : Int) - intOf v12).toNat)
                case atStart => exact ⟨0, rfl, Nat.zero_le _, HI0⟩
                case round =>
                  obtain ⟨j, rfl, hj, hin⟩ := hrel
                  clear HI0
                  obtain ⟨q0, ql⟩ := hin.out.tw.cell HU.out.1
                  rw [HU.out.2] at q0
                  by_cases hlt2 : (j : Int) < (ol : Int)
                  · obtain ⟨lj, hlj⟩ : ∃ lj, ls[j]? = some lj := ⟨_, List.getElem?_eq_getElem (by have := HLN.out; omega)⟩
                    have hljb : lj ≤ 1048576 := by
                      obtain ⟨h1, h2⟩ := List.getElem?_eq_some_iff.1 hlj
                      have := sizeN_mem (List.getElem_mem h1)
                      have := HXO.out
                      omega
                    obtain ⟨g, ra, rc, a', c', w3, rfl, e2, e3, hrun, ⟨u0, e5⟩, e6, e7, e8, e9, hin2⟩ := hin.out.drew.app HP2.out HU.out.1 hlj hljb HGS.out 7
                    rw [HU.out.2] at e8
                    have e3' : wr.cell? ⟨g, j, none⟩ = some (.slice ra lj rc) := e3
                    have e2' : g < wr.heap.size := e2
                    have HRUN := Lib.hid hrun
                    have HIN := Lib.hid hin2
                    clear hin hrun hin2 hlj e2 e3
                    go_upto_region 37 with fail
                    go_region_law (refine step_append_run rfl (.tmp 155) (.tmp 156) _ _ rfl _ _ (by simp [Act.eval, Act.put]) (by simp [Act.eval, Act.put]) (HRUN.out _) ?_)
                    all_goals
                      go_wp2_with fail
                      go_roundw
                      case rel => exact ⟨j + 1, rfl, by omega, HIN⟩
                      case measure => first | (simp [intOf]; done) | (simp [intOf]; omega)
                  · obtain rfl : j = ol := by omega
                    have HN : Hid (PlS w.heap.size w wr bt bx t' t' (fun k => s ≤ k ∧ k < e) ∧ ToW s e us th cs wr (some ⟨ab, 0, none⟩) m5 c5 (k + 1)) := ⟨hin.out.pl, hin.out.tw⟩
                    clear hin
                    go_wp2_with fail
                    go_roundw
                    case rel => exact ⟨k + 1, rfl, by omega, HN⟩
                    case measure => first | (simp [intOf]; done) | (simp [intOf]; omega)
              · have HN : Hid (∃ t, PlS w.heap.size w wr bt bx t t (fun _ => False) ∧ t.group.length ≤ i + 1) := ⟨t', hst.out.1.turn (Below.refl _ _) (fun k hk => hk.elim), HP7.out⟩
                clear hst
                go_wp2_with fail
                go_roundw
                case rel => exact ⟨i + 1, rfl, by omega, by omega, HN⟩
                case measure => first | (simp [intOf]; done) | (simp [intOf]; omega)
    · go_upto_region 5 with fail
      go_cut [25] from 18 to 158 (fun s wx => s = .bool false ∧ wx = wr)
      case first =>
        by_cases hq : (i : Int) < (len : Int)
        · have hq3 : decide ((i : Int) < 100) = false := by have hq2 : ¬ (i : Int) < 100 := fun h => hboth ⟨hq, h⟩; simpa using hq2
          go_wp2_with fail
          go_meet
          exact ⟨by first | rfl | exact congrArg Value.bool hq3, rfl⟩
        · go_wp2_with fail
          go_meet
          exact ⟨rfl, rfl⟩
      obtain ⟨rfl, rfl⟩ := hcut
      obtain ⟨t, hS, hg⟩ := hst.out
      have HBL : Hid (Below w.heap.size w wc ∧ w.heap.size ≤ wc.heap.size) := ⟨hS.bel, hS.le⟩
      clear hst hS hg hboth
      go_wp2_with fail
      refine (awake_any wc).mono ?_
      rintro e w9 ⟨rfl, hb9⟩
      have HB9 : Hid (Below w.heap.size w w9) := HBL.out.1.trans (hb9.mono HBL.out.2)
      clear hb9
      go_wp2_with fail
      go_ret
      exact ⟨rfl, HB9.out⟩
end Go.Proofs.Ytalhiedbhcklgaa.U
