/-
  The walk of RegisterPlays.
-/
import Derived.Test.YtleidcegbfnmkaaHBoth
import Derived.Deep.RegionHeld3
namespace Go.Proofs.Ytleidcegbfnmkaa.U
open Go.RowKit
set_option linter.unusedVariables false
set_option linter.unusedSimpArgs false
set_option maxRecDepth 100000

/-- the state of the play between deeds -/
def St12 (w wr : World) (bt bx : Nat) : Prop := ∃ s, PlG w wr bt bx s s (fun _ => False)
/-- in the loop that writes over what was told -/
def LpA (G : Nat → Prop) (w6 wr : World) (g7 : Nat) (k : Int) (a : Option Addr) (n c : Nat) (ls : List Nat) (i : Nat) : Prop := MineO G wr a n c ls i ∧ BoxS wr g7 k a n c ∧ Fr G w6 wr
theorem LpA.next {G : Nat → Prop} {w6 wr : World} {g7 : Nat} {k : Int} {a : Option Addr} {n c i m : Nat} {ls : List Nat} (h : LpA G w6 wr g7 k a n c ls i) (hm : ls[i]? = some m) (hg : ¬ G g7) (W : World) (hW : W = (wr.alloc (.cells #[.int .i32 7, .int .i32 7] 21)).drew) :
    ∃ g ra rc a' c' w3, a = some ⟨g, 0, none⟩ ∧ g < wr.heap.size ∧ wr.cell? ⟨g, i, none⟩ = some (.slice ra m rc) ∧ W.cell? ⟨g, i, none⟩ = some (.slice ra m rc) ∧
      (∀ ty, (Builtin.append_ #[39, 39] ty #[.slice ra 0 rc, .slice (some ⟨wr.heap.size, 0, none⟩) 2 2]).run Try.prog W = .ok (.slice a' 2 c') w3) ∧
      (∃ u, w3.cell? ⟨g, i, none⟩ = some u) ∧ w3.frozen? ⟨g, i, none⟩ = false ∧ g < w3.heap.size ∧ BoxS W g7 k a n c ∧ BoxS w3 g7 k a n c ∧
      LpA G w6 (w3.setCell ⟨g, i, none⟩ (.slice a' 2 c')) g7 k a n c ls (i + 1) := by
  obtain ⟨h1, h2, h3⟩ := h
  obtain ⟨g, ra, rc, a', c', w3, e1, e2, e3, e4, e5, e6, e7, e8, e9, e10, e11⟩ := h1.cut hm W hW
  have hbW : Below wr.heap.size wr W := by rw [hW]; exact ((Below.refl _ _).alloc (Nat.le_refl _) _).drew
  exact ⟨g, ra, rc, a', c', w3, e1, e2, e3, e4, e5, e6, e7, e8, h2.below hbW, h2.fr e9 hg, e10, h2.fr e11 hg, h3.trans e11 (fun _ _ h => h)⟩
set_option maxHeartbeats 16000000 in
theorem registerPlays_wide (a : Option Addr) (len cap : Nat) (w : World) (h : RdSt 5 IsDr w a len cap) :
    Calls Try.prog 3 #[.slice a len cap] w fun e w' => e = .returned (.bool true) ∧ Below w.heap.size w w' := by
  have HD := Lib.hid h
  have hln : len ≤ 9223372036854775807 := by have := h.1; have := h.2.1; unfold maxLen at this; omega
  clear h
  have HNEW := Lib.hid (pnew_any w)
  obtain ⟨bt, hbt⟩ : ∃ b, w.heap.size = b := ⟨_, rfl⟩
  rw [hbt] at HNEW
  have HBT := Lib.hid hbt
  clear hbt
  go_enter Try.func3, Try.ntmps3
  go_upto_region 2 with (go_at_call 9; (with_reducible refine HNEW.out.mono ?_); rintro e w1 ⟨rfl, H1, H2⟩)
  have HST : Hid (St12 w (w1.alloc (.cells #[.slice none 0 0] 28)) bt w1.heap.size) := by
    refine ⟨[], pl_new H1 (by rw [HBT.out]; exact H2) (fun k hk => ?_)⟩
    have := HBT.out
    have hk' : k = bt := hk
    omega
  obtain ⟨w3, hw3⟩ : ∃ w3, w1.alloc (.cells #[.slice none 0 0] 28) = w3 := ⟨_, rfl⟩
  obtain ⟨bx, hbx⟩ : ∃ b, w1.heap.size = b := ⟨_, rfl⟩
  rw [hw3, hbx] at HST
  rw [hw3, hbx]
  clear hw3 hbx H1 H2 HNEW
  go_wp2_with fail
  go_loopw [5] (fun v5 wr => ∃ i : Nat, v5 = .int .i64 (i : Nat) ∧ i ≤ 100 ∧ i ≤ len ∧ Hid (St12 w wr bt bx)) (fun v5 _ => ((100 : Int) - intOf v5).toNat)
  case atStart => exact ⟨0, rfl, Nat.zero_le _, Nat.zero_le _, HST⟩
  case round =>
    obtain ⟨i, rfl, hi100, hil, hst⟩ := hrel
    clear HST
    by_cases hboth : (i : Int) < (len : Int) ∧ (i : Int) < 100
    · obtain ⟨hlt, h100⟩ := hboth
      obtain ⟨s, hS⟩ := hst.out
      obtain ⟨db, doff, ask, dn, dk, da, dl, dc, DL, del, rfl, k0, k1, k2, k3, k4, hdb, i1, i2, hdr, hdw⟩ := HD.out.deedR hS.bel (i := i) (by omega)
      have hbw : db < wr.heap.size := Nat.lt_of_lt_of_le hdb hS.bel.size
      obtain ⟨wd, hwd⟩ : ∃ wd, wr.alloc (.cells #[.bool ask, .int .i32 dn, .int .i64 dk, .slice da dl dc, .bool del] 33) = wd := ⟨_, rfl⟩
      have hbd : Below wr.heap.size wr wd := by rw [← hwd]; exact (Below.refl _ _).alloc (Nat.le_refl _) _
      have hgd : wd.heap[wr.heap.size]? = some (.cells #[.bool ask, .int .i32 dn, .int .i64 dk, .slice da dl dc, .bool del] 33 (0, 0)) := by rw [← hwd]; exact heap_alloc_new wr _
      have hSd : PlG w wd bt bx s s (fun k => k = wr.heap.size) := hS.turn hbd (fun k hk => ⟨.inr (by omega), by have := heap_lt hgd; omega⟩)
      obtain ⟨gd, hgde⟩ : ∃ gd, wr.heap.size = gd := ⟨_, rfl⟩
      rw [hgde] at hgd hSd
      have HWD := Lib.hid hwd
      have HGE := Lib.hid hgde
      have HGD := Lib.hid hgd
      have HSD := Lib.hid hSd
      have HDR : Hid (RdL (fun k => k < w.heap.size) wd da dl dc DL) := hdr.below hbd
      have HSM := Lib.hid (small_wide _ da dl dc DL wd HDR.out hdw)
      have HI1 : Hid ((Lit.int .i32 dn).wf = true) := i1
      have hdl := hdr.len
      have HDL := Lib.hid hdl
      have hdls := hdr.small
      clear hst hS hdr hdw hwd hbd hSd hgde i1 i2 hdl
      go_upto_region 8 with fail
      (try rw [HWD.out])
      (try rw [HGE.out])
      clear k0 k1 k2 k3 k4 hbw HWD HGE
      have c0 := cell_row hgd 0
      have c1 := cell_row hgd 1
      have c2 := cell_row hgd 2
      have c3 := cell_row hgd 3
      have c4 := cell_row hgd 4
      have hlgd := heap_lt hgd
      clear hgd
      cases hs : smallL DL with
      | false =>
        rw [hs] at HSM
        have HN : Hid (St12 w wd bt bx) := ⟨s, HSD.out.less (fun k hk => hk.elim)⟩
        clear hs
        go_wp2_with (go_at_call 10; (with_reducible refine HSM.out.mono ?_); rintro e w2 ⟨rfl, rfl⟩)
        go_roundw
        case rel => exact ⟨i + 1, by first | rfl | go_num, by omega, by omega, HN⟩
        case measure => first | (simp [intOf]; done) | (simp [intOf]; omega)
      | true =>
        rw [hs] at HSM
        have hsz : sizeR DL ≤ 262144 := smallL_wide hs
        have HSZ := Lib.hid hsz
        clear hs hsz
        go_upto_region 9 with (go_at_call 10; (with_reducible refine HSM.out.mono ?_); rintro e w2 ⟨rfl, rfl⟩)
        have KD : Hid (∀ W, Below wd.heap.size wd W → (W.cell? ⟨gd, 1, none⟩ = some (.int .i32 dn) ∧ W.cell? ⟨gd, 2, none⟩ = some (.int .i64 dk) ∧ W.cell? ⟨gd, 3, none⟩ = some (.slice da dl dc) ∧ W.cell? ⟨gd, 4, none⟩ = some (.bool del))) := by
          intro W hW
          have e1 := (hW.block gd hlgd).trans HGD.out
          exact ⟨cell_row e1 1, cell_row e1 2, cell_row e1 3, cell_row e1 4⟩
        cases ask with
        | true =>
          clear HSM
          obtain ⟨⟨⟨gk, gL⟩, er⟩, hge⟩ : ∃ p, getR s dn = p := ⟨_, rfl⟩
          obtain ⟨n1, hn1⟩ : ∃ n, gL.length = n := ⟨_, rfl⟩
          have HG1 : Hid (Calls Try.prog 11 #[.pointer (some ⟨bt, 0, none⟩), .int .i32 dn] wd fun e w2 => ∃ a1 c1, e = .returned (.tuple #[.agg #[.int .i64 gk, .slice a1 n1 c1], .int .i64 er]) ∧ Hid (OwnL (fun k => wd.heap.size ≤ k ∧ k < w2.heap.size) w2 a1 n1 c1 gL ∧ Below wd.heap.size wd w2)) := by
            refine (HSD.out.get HI1.out hge).mono ?_
            rintro e w2 ⟨a1, c1, rfl, q1, q2, q3⟩
            simp only at q1 q2
            rw [hn1] at q1
            exact ⟨a1, c1, by simp only; rw [hn1], q1.own q2, q3⟩
          go_upto_region 11 with (go_at_call 11; (with_reducible refine HG1.out.mono ?_); rintro e w2 ⟨a1, m1, rfl, H2⟩)
          obtain ⟨w3, hw3⟩ : ∃ w3, w2.alloc (.cells #[.int .i64 gk, .slice a1 n1 m1] 31) = w3 := ⟨_, rfl⟩
          obtain ⟨g7, hg7⟩ : ∃ g, w2.heap.size = g := ⟨_, rfl⟩
          have HZ3 : Hid (Below wd.heap.size wd w3 ∧ w3.heap[g7]? = some (.cells #[.int .i64 gk, .slice a1 n1 m1] 31 (0, 0)) ∧ OwnL (fun k => wd.heap.size ≤ k ∧ k < g7) w3 a1 n1 m1 gL) := by
            have hb3 : Below w2.heap.size w2 w3 := by rw [← hw3]; exact (Below.refl _ _).alloc (Nat.le_refl _) _
            refine ⟨H2.out.2.trans (hb3.mono H2.out.2.size), by rw [← hw3, ← hg7]; exact heap_alloc_new w2 _, ?_⟩
            rw [← hg7]
            exact H2.out.1.below hb3
          rw [hw3, hg7]
          clear hw3 hg7 H2 HG1 c0 c1 c2 c3 c4
          obtain ⟨c1, c2, c3, c4⟩ := KD.out w3 HZ3.out.1
          have HG2 : Hid (Calls Try.prog 12 #[.pointer (some ⟨bx, 0, none⟩), .int .i32 dn] w3 fun e w4 => ∃ a2 m2, e = .returned (.tuple #[.agg #[.int .i64 gk, .slice a2 n1 m2], .int .i64 er]) ∧ Hid ((∃ F, RdL F w4 a2 n1 m2 gL) ∧ Below w3.heap.size w3 w4)) := by
            refine ((HSD.out.below HZ3.out.1).rget HSD.out.ok hge).mono ?_
            rintro e w4 ⟨a2, m2, rfl, q1, q2⟩
            simp only at q1
            rw [hn1] at q1
            exact ⟨a2, m2, by simp only; rw [hn1], ⟨_, q1⟩, q2⟩
          go_upto_region 12 with (go_at_call 12; (with_reducible refine HG2.out.mono ?_); rintro e w4 ⟨a2, m2, rfl, H4⟩)
          obtain ⟨w5, hw5⟩ : ∃ w5, w4.alloc (.cells #[.int .i64 gk, .slice a2 n1 m2] 31) = w5 := ⟨_, rfl⟩
          obtain ⟨g9, hg9⟩ : ∃ g, w4.heap.size = g := ⟨_, rfl⟩
          have HZ5 : Hid (Below w3.heap.size w3 w5 ∧ w5.heap[g9]? = some (.cells #[.int .i64 gk, .slice a2 n1 m2] 31 (0, 0)) ∧ w5.heap[g7]? = some (.cells #[.int .i64 gk, .slice a1 n1 m1] 31 (0, 0)) ∧ (∃ F, RdL F w5 a2 n1 m2 gL) ∧ OwnL (fun k => wd.heap.size ≤ k ∧ k < g7) w5 a1 n1 m1 gL) := by
            have hb5 : Below w4.heap.size w4 w5 := by rw [← hw5]; exact (Below.refl _ _).alloc (Nat.le_refl _) _
            obtain ⟨F, q1⟩ := H4.out.1
            have hb35 : Below w3.heap.size w3 w5 := H4.out.2.trans (hb5.mono H4.out.2.size)
            exact ⟨hb35, by rw [← hw5, ← hg9]; exact heap_alloc_new w4 _, (hb35.block g7 (heap_lt HZ3.out.2.1)).trans HZ3.out.2.1, ⟨_, q1.below hb5⟩, HZ3.out.2.2.below hb35⟩
          rw [hw5, hg9]
          clear hw5 hg9 H4 HG2 c1 c2 c3 c4
          have HSA : Hid (Calls Try.prog 13 #[.agg #[.int .i64 gk, .slice a1 n1 m1], .agg #[.int .i64 gk, .slice a2 n1 m2]] w5 fun e w6 => e = .returned (.bool true) ∧ Hid (Below w5.heap.size w5 w6)) := by
            obtain ⟨F, q1⟩ := HZ5.out.2.2.2.1
            refine (rsameR_any _ F gk gk a1 a2 n1 n1 m1 m2 gL gL w5 HZ5.out.2.2.2.2.rdl q1).mono ?_
            rintro e w6 ⟨rfl, h⟩
            exact ⟨by simp, h⟩
          have hd1 : (er != er) = false := by simp
          obtain ⟨x0, x1, x2, x3, x4⟩ := BoxS.of HZ5.out.2.1
          obtain ⟨y0, y1, y2, y3, y4⟩ := BoxS.of HZ5.out.2.2.1
          have hn1s := HZ5.out.2.2.2.2.small
          go_upto_region 14 with (go_at_call 13; (with_reducible refine HSA.out.mono ?_); rintro e w6 ⟨rfl, H6⟩)
          have HGN : Hid (¬ (wd.heap.size ≤ g7 ∧ g7 < g7)) := fun q => by omega
          have HL0 : Hid (LpA (fun k => wd.heap.size ≤ k ∧ k < g7) w6 w6 g7 gk a1 n1 m1 (lens gL) 0) := ⟨(HZ5.out.2.2.2.2.below H6.out).mineO, (BoxS.of HZ5.out.2.2.1).below H6.out, Fr.refl _ _⟩
          have HB6 : Hid (Below wd.heap.size wd w6 ∧ g7 < w6.heap.size) := by
            have h1 := HZ3.out.1.trans (HZ5.out.1.mono HZ3.out.1.size)
            exact ⟨h1.trans (H6.out.mono h1.size), by have := heap_lt HZ5.out.2.2.1; have := H6.out.size; omega⟩
          have HGL : Hid (gL.length = n1) := hn1
          clear x0 x1 x2 x3 x4 y0 y1 y2 y3 y4 HSA HZ3 HZ5 H6 hd1 hge hn1
          go_wp2_with fail
          obtain ⟨wo, hwo⟩ : ∃ x, x = wr := ⟨_, rfl⟩
          subst hwo
          go_loopw [11] (fun v11 wr => ∃ k : Nat, v11 = .int .i64 (k : Nat) ∧ k ≤ n1 ∧ Hid (LpA (fun k => wd.heap.size ≤ k ∧ k < g7) w6 wr g7 gk a1 n1 m1 (lens gL) k)) (fun v11 _ => ((n1 : Int) - intOf v11).toNat)
          case atStart => exact ⟨0, rfl, Nat.zero_le _, HL0⟩
          case round =>
            obtain ⟨k, rfl, hkn, hlp⟩ := hrel
            clear HL0
            obtain ⟨z0, z1, z2, z3, z4⟩ := hlp.out.2.1
            by_cases hk : k < n1
            · have hkI : (k : Int) < (n1 : Int) := by omega
              obtain ⟨m, hm⟩ : ∃ m, (lens gL)[k]? = some m := ⟨_, List.getElem?_eq_getElem (by rw [lens_len, HGL.out]; exact hk)⟩
              obtain ⟨W, hW⟩ : ∃ W, (wr.alloc (.cells #[.int .i32 7, .int .i32 7] 21)).drew = W := ⟨_, rfl⟩
              obtain ⟨g, ra, rc, a', c', w8, rfl, p0, p1, p2, hrun, ⟨u, p3⟩, p4, p5, hx1, hx2, hnx⟩ := hlp.out.next hm HGN.out W hW.symm
              obtain ⟨r0, r1, r2, r3, r4⟩ := hx1
              obtain ⟨t0, t1, t2, t3, t4⟩ := hx2
              have hgW : g < W.heap.size := by rw [← hW]; show g < (wr.alloc _).heap.size; simp; omega
              have HRUN := Lib.hid hrun
              have HNX := Lib.hid hnx
              rw [← hW] at p2 r0 r1 r2 r3 r4 HRUN hgW
              clear hrun hnx hm hlp hW
              go_upto_region 17 with fail
              go_region_law (refine step_append_run rfl (.tmp 79) (.tmp 80) _ _ rfl _ _ (by simp [Act.eval, Act.put]) (by simp [Act.eval, Act.put]) (HRUN.out _) ?_)
              all_goals
                go_wp2_with fail
                go_roundw
                case rel => exact ⟨k + 1, by first | rfl | go_num, by omega, HNX⟩
                case measure => first | (simp [intOf]; done) | (simp [intOf]; omega)
            · obtain rfl : k = n1 := by omega
              have HPL : Hid (PlG w wr bt bx s s (fun _ => False)) := by
                refine ((HSD.out.turn (D' := fun k => wd.heap.size ≤ k ∧ k < g7) HB6.out.1 (fun k hk => ⟨.inr hk.1, by have := HB6.out.2; omega⟩)).mine hlp.out.2.2).less (fun k hk => hk.elim)
              clear hlp HSD HB6 HGN HGL HDR KD HGD
              obtain ⟨a6, c6, l0, l1, F6, l2⟩ := HPL.out.list
              have HAL : Hid (∀ W, W = wr.drew → Calls Try.prog 18 #[.pointer (some ⟨bt, 0, none⟩)] W fun e w' => ∃ a5 c5, e = .returned (.slice a5 s.length c5) ∧ Hid (Below wr.heap.size wr w') ∧ Hid (∃ F, RdN F w' a5 s.length c5 s)) := by
                rintro W rfl
                refine (HPL.out.below (Below.refl _ _).drew).all.mono ?_
                rintro e w' ⟨a5, c5, rfl, q1, q2⟩
                exact ⟨a5, c5, rfl, ⟨q2.os, q2.tape, q2.output, q2.size, q2.block⟩, _, q1⟩
              have HRA : Hid (∀ W a5 c5, Hid (Below wr.heap.size wr W) → Hid (∃ F, RdN F W a5 s.length c5 s) → Calls Try.prog 17 #[.slice a5 s.length c5, .slice a6 s.length c6] W fun e w' => e = .returned (.bool true) ∧ Hid (Below wr.heap.size wr w')) := by
                intro W a5 c5 hW hr
                obtain ⟨F, hr⟩ := hr.out
                refine (rall_any F F6 a5 a6 s.length s.length c5 c6 s s W hr (l2.below hW.out)).mono ?_
                rintro e w' ⟨rfl, h⟩
                exact ⟨by simp, hW.out.trans (h.mono hW.out.size)⟩
              have KS9 : Hid (∀ W, Below wr.heap.size wr W → W.cell? ⟨bx, 0, none⟩ = some (.slice a6 s.length c6)) := fun W hW => (hW.cell (p := ⟨bx, 0, none⟩) l1).trans l0
              obtain ⟨n6, hn6⟩ : ∃ n, s.length = n := ⟨_, rfl⟩
              rw [hn6] at l0 HAL HRA KS9
              have HRZ : Hid (Below wr.heap.size wr wr.drew) := (Below.refl _ _).drew
              have HRY : Hid (Below wr.heap.size wr wr) := Below.refl _ _
              clear l2 hn6
              go_upto_region 28 with fail
              go_region_held3 (fun W => W.cell? ⟨bx, 0, none⟩ = some (.slice a6 n6 c6))
                (first | exact KS9.out _ HRY.out | exact KS9.out _ HRZ.out | exact KS9.out _ HB55.out | exact KS9.out _ HB56.out)
                (first
                  | (go_at_call 18; (with_reducible refine (HAL.out _ rfl).mono ?_); rintro e w55 ⟨a5, c5, rfl, HB55, HR55⟩)
                  | (go_at_call 17; (with_reducible refine (HRA.out _ _ _ HB55 HR55).mono ?_); rintro e w56 ⟨rfl, HB56⟩))
              all_goals
                have HN : Hid (St12 w w56 bt bx) := ⟨s, HPL.out.below HB56.out⟩
                go_wp2_with fail
                go_roundw
                case rel => exact ⟨i + 1, by first | rfl | go_num, by omega, by omega, HN⟩
                case measure => first | (simp [intOf]; done) | (simp [intOf]; omega)
        | false =>
          clear HSM
          have HTW : Hid (Calls Try.prog 14 #[.agg #[.int .i64 dk, .slice da dl dc]] wd fun e w2 => ∃ a1 m1, e = .returned (.agg #[.int .i64 dk, .slice a1 dl m1]) ∧ Hid (OwnL (fun k => wd.heap.size ≤ k ∧ k < w2.heap.size) w2 a1 dl m1 DL ∧ Below wd.heap.size wd w2)) := by
            refine (rtwinR_any _ dk da dl dc DL wd HDR.out (by have := HSZ.out; omega)).mono ?_
            rintro e w2 ⟨a1, m1, rfl, q1, q2⟩
            exact ⟨a1, m1, rfl, q1.own (lines_wfG HDR.out), q2⟩
          go_upto_region 19 with (go_at_call 14; (with_reducible refine HTW.out.mono ?_); rintro e w2 ⟨a1, m1, rfl, H2⟩)
          obtain ⟨w3, hw3⟩ : ∃ w3, w2.alloc (.cells #[.int .i64 dk, .slice a1 dl m1] 31) = w3 := ⟨_, rfl⟩
          obtain ⟨g12, hg12⟩ : ∃ g, w2.heap.size = g := ⟨_, rfl⟩
          have HZ3 : Hid (Below wd.heap.size wd w3 ∧ w3.heap[g12]? = some (.cells #[.int .i64 dk, .slice a1 dl m1] 31 (0, 0)) ∧ OwnL (fun k => wd.heap.size ≤ k ∧ k < g12) w3 a1 dl m1 DL ∧ PlG w w3 bt bx s s (fun k => k = gd ∨ (wd.heap.size ≤ k ∧ k < w3.heap.size)) ∧ w3.heap[gd]? = some (.cells #[.bool false, .int .i32 dn, .int .i64 dk, .slice da dl dc, .bool del] 33 (0, 0)) ∧ g12 < w3.heap.size ∧ wd.heap.size ≤ g12) := by
            have hb3 : Below w2.heap.size w2 w3 := by rw [← hw3]; exact (Below.refl _ _).alloc (Nat.le_refl _) _
            have hb03 := H2.out.2.trans (hb3.mono H2.out.2.size)
            have hrow : w3.heap[g12]? = some (.cells #[.int .i64 dk, .slice a1 dl m1] 31 (0, 0)) := by rw [← hw3, ← hg12]; exact heap_alloc_new w2 _
            refine ⟨hb03, hrow, ?_, HSD.out.turn hb03 (fun k hk => ?_), (hb03.block gd hlgd).trans HGD.out, heap_lt hrow, by rw [← hg12]; exact H2.out.2.size⟩
            · rw [← hg12]
              exact H2.out.1.below hb3
            · have := hb03.size
              rcases hk with q | q
              · exact ⟨.inl q, by omega⟩
              · exact ⟨.inr q.1, q.2⟩
          rw [hw3, hg12]
          clear hw3 hg12 H2 HTW c0 c1 c2 c3 c4 HSD KD HGD
          obtain ⟨s2, hs2⟩ : ∃ t, (putR s dn ⟨dk, DL⟩ del).1 = t := ⟨_, rfl⟩
          obtain ⟨er, her⟩ : ∃ t, (putR s dn ⟨dk, DL⟩ del).2 = t := ⟨_, rfl⟩
          have KS : Hid (∀ W, Fr (fun k => w.heap.size ≤ k ∧ ¬ (k = gd ∨ (wd.heap.size ≤ k ∧ k < w3.heap.size))) w3 W → (W.cell? ⟨gd, 1, none⟩ = some (.int .i32 dn) ∧ W.cell? ⟨gd, 2, none⟩ = some (.int .i64 dk) ∧ W.cell? ⟨gd, 3, none⟩ = some (.slice da dl dc) ∧ W.cell? ⟨gd, 4, none⟩ = some (.bool del) ∧ W.cell? ⟨g12, 0, none⟩ = some (.int .i64 dk) ∧ W.cell? ⟨g12, 1, none⟩ = some (.slice a1 dl m1))) := by
            intro W hW
            have e1 := (hW.block gd (heap_lt HZ3.out.2.2.2.2.1) (fun q => q.2 (.inl rfl))).trans HZ3.out.2.2.2.2.1
            have e2 := (hW.block g12 (heap_lt HZ3.out.2.1) (fun q => q.2 (.inr ⟨HZ3.out.2.2.2.2.2.2, HZ3.out.2.2.2.2.2.1⟩))).trans HZ3.out.2.1
            exact ⟨cell_row e1 1, cell_row e1 2, cell_row e1 3, cell_row e1 4, cell_row e2 0, cell_row e2 1⟩
          have hdis : ∀ k, (wd.heap.size ≤ k ∧ k < g12) → ¬ (w.heap.size ≤ k ∧ ¬ (k = gd ∨ (wd.heap.size ≤ k ∧ k < w3.heap.size))) := fun k q1 q2 => q2.2 (.inr ⟨q1.1, by have := HZ3.out.2.2.2.2.2.1; omega⟩)
          have HDIS := Lib.hid hdis
          have HOKS := Lib.hid HZ3.out.2.2.2.1.ok
          have HD3 : Hid (∀ W, Fr (fun k => w.heap.size ≤ k ∧ ¬ (k = gd ∨ (wd.heap.size ≤ k ∧ k < w3.heap.size))) w3 W → RdL (fun k => k < w.heap.size) W da dl dc DL) := fun W hW => (HDR.out.below HZ3.out.1).frF hW (fun k q1 q2 => by omega)
          have HRZ0 : Hid (Fr (fun k => w.heap.size ≤ k ∧ ¬ (k = gd ∨ (wd.heap.size ≤ k ∧ k < w3.heap.size))) w3 w3.drew) := (Fr.refl _ _).drew
          have HRY0 : Hid (Fr (fun k => w.heap.size ≤ k ∧ ¬ (k = gd ∨ (wd.heap.size ≤ k ∧ k < w3.heap.size))) w3 w3) := Fr.refl _ _
          have HP1 : Hid (∀ W, W = w3.drew → Calls Try.prog 15 #[.pointer (some ⟨bt, 0, none⟩), .int .i32 dn, .agg #[.int .i64 dk, .slice a1 dl m1], .bool del] W fun e w4 => e = .returned (.int .i64 er) ∧ Hid (PlG w w4 bt bx s2 s (fun k => k = gd ∨ (wd.heap.size ≤ k ∧ k < w3.heap.size))) ∧ Hid (Fr (fun k => w.heap.size ≤ k ∧ ¬ (k = gd ∨ (wd.heap.size ≤ k ∧ k < w3.heap.size))) w3 w4)) := by
            rintro W rfl
            refine ((HZ3.out.2.2.2.1.below (Below.refl _ _).drew).put (HZ3.out.2.2.1.below (Below.refl _ _).drew).rdl (by have := HSZ.out; omega) HI1.out).mono ?_
            rw [hs2, her]
            rintro e w4 ⟨rfl, q1, q2⟩
            exact ⟨rfl, q1, ⟨q2.os, q2.tape, q2.output, q2.size, q2.block⟩⟩
          have HP2 : Hid (∀ W, Hid (PlG w W bt bx s s2 (fun k => k = gd ∨ (wd.heap.size ≤ k ∧ k < w3.heap.size))) → Hid (Fr (fun k => w.heap.size ≤ k ∧ ¬ (k = gd ∨ (wd.heap.size ≤ k ∧ k < w3.heap.size))) w3 W) → Calls Try.prog 15 #[.pointer (some ⟨bt, 0, none⟩), .int .i32 dn, .agg #[.int .i64 dk, .slice a1 dl m1], .bool del] W fun e w4 => e = .returned (.int .i64 er) ∧ Hid (PlG w w4 bt bx s2 s2 (fun k => k = gd ∨ (wd.heap.size ≤ k ∧ k < w3.heap.size))) ∧ Hid (Fr (fun k => w.heap.size ≤ k ∧ ¬ (k = gd ∨ (wd.heap.size ≤ k ∧ k < w3.heap.size))) w3 w4)) := by
            intro W hp hf
            refine (hp.out.put (HZ3.out.2.2.1.fr hf.out HDIS.out).rdl (by have := HSZ.out; omega) HI1.out).mono ?_
            rw [hs2, her]
            rintro e w4 ⟨rfl, q1, q2⟩
            exact ⟨rfl, q1, hf.out.trans q2 (fun _ _ h => h)⟩
          have HQ1 : Hid (∀ W, W = w3.drew → Calls Try.prog 16 #[.pointer (some ⟨bx, 0, none⟩), .int .i32 dn, .agg #[.int .i64 dk, .slice da dl dc], .bool del] W fun e w4 => e = .returned (.int .i64 er) ∧ Hid (PlG w w4 bt bx s s2 (fun k => k = gd ∨ (wd.heap.size ≤ k ∧ k < w3.heap.size))) ∧ Hid (Fr (fun k => w.heap.size ≤ k ∧ ¬ (k = gd ∨ (wd.heap.size ≤ k ∧ k < w3.heap.size))) w3 w4)) := by
            rintro W rfl
            refine ((HZ3.out.2.2.2.1.below (Below.refl _ _).drew).rput HOKS.out (HD3.out _ HRZ0.out) (by have := HSZ.out; omega)).mono ?_
            rw [hs2, her]
            rintro e w4 ⟨rfl, q1, q2⟩
            exact ⟨rfl, q1, ⟨q2.os, q2.tape, q2.output, q2.size, q2.block⟩⟩
          have HQ2 : Hid (∀ W, Hid (PlG w W bt bx s2 s (fun k => k = gd ∨ (wd.heap.size ≤ k ∧ k < w3.heap.size))) → Hid (Fr (fun k => w.heap.size ≤ k ∧ ¬ (k = gd ∨ (wd.heap.size ≤ k ∧ k < w3.heap.size))) w3 W) → Calls Try.prog 16 #[.pointer (some ⟨bx, 0, none⟩), .int .i32 dn, .agg #[.int .i64 dk, .slice da dl dc], .bool del] W fun e w4 => e = .returned (.int .i64 er) ∧ Hid (PlG w w4 bt bx s2 s2 (fun k => k = gd ∨ (wd.heap.size ≤ k ∧ k < w3.heap.size))) ∧ Hid (Fr (fun k => w.heap.size ≤ k ∧ ¬ (k = gd ∨ (wd.heap.size ≤ k ∧ k < w3.heap.size))) w3 w4)) := by
            intro W hp hf
            refine (hp.out.rput HOKS.out (HD3.out _ hf.out) (by have := HSZ.out; omega)).mono ?_
            rw [hs2, her]
            rintro e w4 ⟨rfl, q1, q2⟩
            exact ⟨rfl, q1, hf.out.trans q2 (fun _ _ h => h)⟩
          have HSA : Hid (∀ W, Hid (Fr (fun k => w.heap.size ≤ k ∧ ¬ (k = gd ∨ (wd.heap.size ≤ k ∧ k < w3.heap.size))) w3 W) → Calls Try.prog 13 #[.agg #[.int .i64 dk, .slice a1 dl m1], .agg #[.int .i64 dk, .slice da dl dc]] W fun e w6 => e = .returned (.bool true) ∧ (w6.cell? ⟨gd, 1, none⟩ = some (.int .i32 dn) ∧ w6.cell? ⟨gd, 2, none⟩ = some (.int .i64 dk) ∧ w6.cell? ⟨gd, 3, none⟩ = some (.slice da dl dc) ∧ w6.cell? ⟨gd, 4, none⟩ = some (.bool del) ∧ w6.cell? ⟨g12, 0, none⟩ = some (.int .i64 dk) ∧ w6.cell? ⟨g12, 1, none⟩ = some (.slice a1 dl m1)) ∧ Hid (Below W.heap.size W w6)) := by
            intro W hf
            refine (rsameR_any _ _ dk dk a1 da dl dl m1 dc DL DL W (HZ3.out.2.2.1.fr hf.out HDIS.out).rdl (HD3.out _ hf.out)).mono ?_
            rintro e w6 ⟨rfl, h⟩
            exact ⟨by simp, KS.out w6 (hf.out.trans (Fr.of_below _ h) (fun _ _ h => h)), h⟩
          have hd1 : (er != er) = false := by simp
          obtain ⟨c1, c2, c3, c4, c5, c6⟩ := KS.out w3 HRY0.out
          clear hs2 her hdis
          go_region_held3 (fun W => (W.cell? ⟨gd, 1, none⟩ = some (.int .i32 dn) ∧ W.cell? ⟨gd, 2, none⟩ = some (.int .i64 dk) ∧ W.cell? ⟨gd, 3, none⟩ = some (.slice da dl dc) ∧ W.cell? ⟨gd, 4, none⟩ = some (.bool del) ∧ W.cell? ⟨g12, 0, none⟩ = some (.int .i64 dk) ∧ W.cell? ⟨g12, 1, none⟩ = some (.slice a1 dl m1)))
            (first | exact KS.out _ HRY0.out | exact KS.out _ HRZ0.out | exact KS.out _ HF42.out | exact KS.out _ HF41.out | exact K6)
            (first
              | (go_at_call 15; (with_reducible refine (HP2.out _ HL41 HF41).mono ?_); rintro e w42 ⟨rfl, HL42, HF42⟩)
              | (go_at_call 16; (with_reducible refine (HQ2.out _ HL41 HF41).mono ?_); rintro e w42 ⟨rfl, HL42, HF42⟩)
              | (go_at_call 15; (with_reducible refine (HP1.out _ rfl).mono ?_); rintro e w41 ⟨rfl, HL41, HF41⟩)
              | (go_at_call 16; (with_reducible refine (HQ1.out _ rfl).mono ?_); rintro e w41 ⟨rfl, HL41, HF41⟩)
              | (go_at_call 13; (with_reducible refine (HSA.out _ HF42).mono ?_); rintro e w6 ⟨rfl, K6, H6⟩))
          all_goals
            have HGN : Hid (¬ (wd.heap.size ≤ g12 ∧ g12 < g12)) := fun q => by omega
            have HFA : Hid (Fr (fun k => w.heap.size ≤ k ∧ ¬ (k = gd ∨ (wd.heap.size ≤ k ∧ k < w3.heap.size))) w3 w6) := HF42.out.trans (Fr.of_below _ H6.out) (fun _ _ h => h)
            have HL0 : Hid (LpA (fun k => wd.heap.size ≤ k ∧ k < g12) w6 w6 g12 dk a1 dl m1 (lens DL) 0) := ⟨(HZ3.out.2.2.1.fr HFA.out HDIS.out).mineO, (BoxS.of HZ3.out.2.1).fr HFA.out (fun q => q.2 (.inr ⟨HZ3.out.2.2.2.2.2.2, HZ3.out.2.2.2.2.2.1⟩)), Fr.refl _ _⟩
            have HPW : Hid (PlG w w6 bt bx s2 s2 (fun k => wd.heap.size ≤ k ∧ k < g12)) := (HL42.out.below H6.out).less (fun k q => .inr ⟨q.1, by have := HZ3.out.2.2.2.2.2.1; omega⟩)
            clear c1 c2 c3 c4 c5 c6 HP1 HP2 HQ1 HQ2 HSA KS K6 HL41 HF41 HL42 HF42 H6 HFA HDIS HOKS HD3 HRZ0 HRY0 HZ3 HDR hd1
            go_wp2_with fail
            obtain ⟨wo, hwo⟩ : ∃ x, x = wr := ⟨_, rfl⟩
            subst hwo
            go_loopw [13] (fun v13 wr => ∃ k : Nat, v13 = .int .i64 (k : Nat) ∧ k ≤ dl ∧ Hid (LpA (fun k => wd.heap.size ≤ k ∧ k < g12) w6 wr g12 dk a1 dl m1 (lens DL) 0)) (fun v13 _ => ((dl : Int) - intOf v13).toNat)
            case atStart => exact ⟨0, rfl, Nat.zero_le _, HL0⟩
            case round =>
              obtain ⟨k, rfl, hkn, hlp⟩ := hrel
              clear HL0
              obtain ⟨z0, z1, z2, z3, z4⟩ := hlp.out.2.1
              by_cases hk : k < dl
              · have hkI : (k : Int) < (dl : Int) := by omega
                obtain ⟨m, hm⟩ : ∃ m, (lens DL)[k]? = some m := ⟨_, List.getElem?_eq_getElem (by rw [lens_len, HDL.out]; exact hk)⟩
                have HM := Lib.hid hm
                have hmb : m ≤ 262144 := by
                  have h1 := sizeN_mem (List.mem_of_getElem? hm)
                  have h2 := HSZ.out
                  unfold sizeR at h2
                  omega
                obtain ⟨wk, hwk⟩ : ∃ x, x = wr := ⟨_, rfl⟩
                subst hwk
                have HLK := hlp
                clear hm hlp
                go_upto_region 24 with fail
                go_wp2_with fail
                go_loopw [14] (fun v14 wr => ∃ j : Nat, v14 = .int .i64 (j : Nat) ∧ j ≤ m ∧ Hid (LpA (fun k => wd.heap.size ≤ k ∧ k < g12) w6 wr g12 dk a1 dl m1 (lens DL) 0)) (fun v14 _ => ((m : Int) - intOf v14).toNat)
                case atStart => exact ⟨0, rfl, Nat.zero_le _, HLK⟩
                case round =>
                  obtain ⟨j, rfl, hjm, hlq⟩ := hrel
                  clear HLK z0 z1 z2 z3 z4
                  obtain ⟨z0, z1, z2, z3, z4⟩ := hlq.out.2.1
                  by_cases hj : j < m
                  · have hjI : (j : Int) < (m : Int) := by omega
                    obtain ⟨g, ra, rc, b, rfl, p0, p1, rfl, ⟨u0, p2⟩, p3, p4, p5, ⟨cur, p6⟩, p7⟩ := hlq.out.1.put (Nat.zero_le _) HM.out hj (.int .i32 7)
                    have HNX : Hid (LpA (fun k => wd.heap.size ≤ k ∧ k < g12) w6 (wr.setCell ⟨b, j, none⟩ (.int .i32 7)) g12 dk (some ⟨g, 0, none⟩) dl m1 (lens DL) 0) := by
                      have hf : Fr (fun k => wd.heap.size ≤ k ∧ k < g12) wr (wr.setCell ⟨b, j, none⟩ (.int .i32 7)) := (Fr.refl _ _).setCell ⟨b, j, none⟩ _ (fun _ => p5)
                      exact ⟨p7, hlq.out.2.1.fr hf HGN.out, hlq.out.2.2.trans hf (fun _ _ h => h)⟩
                    clear p5 p6 p7 hlq
                    go_wp2_with fail
                    go_roundw
                    case rel => exact ⟨j + 1, by first | rfl | go_num, by omega, HNX⟩
                    case measure => first | (simp [intOf]; done) | (simp [intOf]; omega)
                  · obtain rfl : j = m := by omega
                    obtain ⟨g, ra, rc, rfl, p0, -, p1, -, -, -⟩ := hlq.out.1.get (Nat.zero_le _) HM.out
                    go_wp2_with fail
                    go_roundw
                    case rel => exact ⟨k + 1, by first | rfl | go_num, by omega, hlq⟩
                    case measure => first | (simp [intOf]; done) | (simp [intOf]; omega)
              · obtain rfl : k = dl := by omega
                have HPL : Hid (PlG w wr bt bx s2 s2 (fun _ => False)) := (HPW.out.mine hlp.out.2.2).less (fun k hk => hk.elim)
                clear hlp HPW HGN HDL
                obtain ⟨a6, c6, l0, l1, F6, l2⟩ := HPL.out.list
                have HAL : Hid (∀ W, W = wr.drew → Calls Try.prog 18 #[.pointer (some ⟨bt, 0, none⟩)] W fun e w' => ∃ a5 c5, e = .returned (.slice a5 s2.length c5) ∧ Hid (Below wr.heap.size wr w') ∧ Hid (∃ F, RdN F w' a5 s2.length c5 s2)) := by
                  rintro W rfl
                  refine (HPL.out.below (Below.refl _ _).drew).all.mono ?_
                  rintro e w' ⟨a5, c5, rfl, q1, q2⟩
                  exact ⟨a5, c5, rfl, ⟨q2.os, q2.tape, q2.output, q2.size, q2.block⟩, _, q1⟩
                have HRA : Hid (∀ W a5 c5, Hid (Below wr.heap.size wr W) → Hid (∃ F, RdN F W a5 s2.length c5 s2) → Calls Try.prog 17 #[.slice a5 s2.length c5, .slice a6 s2.length c6] W fun e w' => e = .returned (.bool true) ∧ Hid (Below wr.heap.size wr w')) := by
                  intro W a5 c5 hW hr
                  obtain ⟨F, hr⟩ := hr.out
                  refine (rall_any F F6 a5 a6 s2.length s2.length c5 c6 s2 s2 W hr (l2.below hW.out)).mono ?_
                  rintro e w' ⟨rfl, h⟩
                  exact ⟨by simp, hW.out.trans (h.mono hW.out.size)⟩
                have KS9 : Hid (∀ W, Below wr.heap.size wr W → W.cell? ⟨bx, 0, none⟩ = some (.slice a6 s2.length c6)) := fun W hW => (hW.cell (p := ⟨bx, 0, none⟩) l1).trans l0
                obtain ⟨n6, hn6⟩ : ∃ n, s2.length = n := ⟨_, rfl⟩
                rw [hn6] at l0 HAL HRA KS9
                have HRZ : Hid (Below wr.heap.size wr wr.drew) := (Below.refl _ _).drew
                have HRY : Hid (Below wr.heap.size wr wr) := Below.refl _ _
                clear l2 hn6
                go_upto_region 28 with fail
                go_region_held3 (fun W => W.cell? ⟨bx, 0, none⟩ = some (.slice a6 n6 c6))
                  (first | exact KS9.out _ HRY.out | exact KS9.out _ HRZ.out | exact KS9.out _ HB55.out | exact KS9.out _ HB56.out)
                  (first
                    | (go_at_call 18; (with_reducible refine (HAL.out _ rfl).mono ?_); rintro e w55 ⟨a5, c5, rfl, HB55, HR55⟩)
                    | (go_at_call 17; (with_reducible refine (HRA.out _ _ _ HB55 HR55).mono ?_); rintro e w56 ⟨rfl, HB56⟩))
                all_goals
                  have HN : Hid (St12 w w56 bt bx) := ⟨s2, HPL.out.below HB56.out⟩
                  go_wp2_with fail
                  go_roundw
                  case rel => exact ⟨i + 1, by first | rfl | go_num, by omega, by omega, HN⟩
                  case measure => first | (simp [intOf]; done) | (simp [intOf]; omega)
    · go_upto_region 5 with fail
      go_cut [27] from 20 to 140 (fun s wx => s = .bool false ∧ wx = wr)
      case first =>
        by_cases hq : (i : Int) < (len : Int)
        · have hq3 : decide ((i : Int) < 100) = false := by have hq2 : ¬ (i : Int) < 100 := fun h => hboth ⟨hq, h⟩; simpa using hq2
          go_wp2_with fail
          go_meet
          exact ⟨by first | rfl | exact congrArg Value.bool hq3, rfl⟩
        · go_wp2_with fail
          go_meet
          exact ⟨rfl, rfl⟩
      obtain ⟨rfl, rfl⟩ := hcut
      obtain ⟨t, hS⟩ := hst.out
      have HBL : Hid (Below w.heap.size w wc ∧ w.heap.size ≤ wc.heap.size) := ⟨hS.bel, hS.bel.size⟩
      clear hst hS hboth
      go_wp2_with fail
      refine (awake_any wc).mono ?_
      rintro e w9 ⟨rfl, hb9⟩
      have HB9 : Hid (Below w.heap.size w w9) := HBL.out.1.trans (hb9.mono HBL.out.2)
      clear hb9
      go_wp2_with fail
      go_ret
      exact ⟨rfl, HB9.out⟩
end Go.Proofs.Ytleidcegbfnmkaa.U
