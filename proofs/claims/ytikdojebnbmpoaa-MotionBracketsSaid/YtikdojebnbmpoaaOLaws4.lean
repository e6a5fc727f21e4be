/-
  The walk of MotionFinds. (MADE by wip/tools/gen_finds.py.)
-/
import Derived.Test.YtikdojebnbmpoaaOLaws1
import Derived.Deep.QuietTactic
import Derived.BigQuiet
namespace Go.Proofs.Ytikdojebnbmpoaa.U
open Go.RowKit
set_option linter.unusedVariables false
set_option linter.unusedSimpArgs false
set_option maxRecDepth 100000
/-- a motion's box -/
def MoAt (W : World) (B : Nat) (k c a t : Int) : Prop := W.heap[B]? = some (.cells #[.int .i32 k, .int .i64 c, .int .i32 a, .int .i64 t] 26 (0, 0))
theorem MoAt.facts {W : World} {B : Nat} {k c a t : Int} (h : MoAt W B k c a t) : W.cell? ⟨B, 0, none⟩ = some (.int .i32 k) ∧ W.cell? ⟨B, 1, none⟩ = some (.int .i64 c) ∧ W.cell? ⟨B, 2, none⟩ = some (.int .i32 a) ∧ W.cell? ⟨B, 3, none⟩ = some (.int .i64 t) ∧ W.frozen? ⟨B, 0, none⟩ = false :=
  ⟨by rw [cell_row h]; rfl, by rw [cell_row h]; rfl, by rw [cell_row h]; rfl, by rw [cell_row h]; rfl, frozen_row h 0⟩
theorem MoAt.set {W : World} {B : Nat} {k c a t : Int} (h : MoAt W B k c a t) (k' : Int) : MoAt (W.setCell ⟨B, 0, none⟩ (.int .i32 k')) B k' c a t := heap_set h 0 _
theorem other {W : World} {B i C : Nat} {v : Value} {o : Obj} (h : W.heap[C]? = some o) (hn : ¬ C = B) : (W.setCell ⟨B, i, none⟩ v).heap[C]? = some o := (Below.heap_setCell _ _ _ _ (by first | exact hn | exact fun e => hn e.symm)).trans h
set_option maxHeartbeats 4000000 in
theorem motionFinds_wideM (HM : MoveC) (a : Option Addr) (n c : Nat) (L : List (List Int)) (q : Po) (m : Mo) (W : World) (h : RdL (fun k => k < W.heap.size) W a n c L) (hq : i64p q) (hm : i64m m) (hw : WideL L) :
    Calls Try.prog 6 #[.slice a n c, q.v, m.v] W fun e w' => e = .returned (.bool true) ∧ Below W.heap.size W w' := by
  obtain ⟨u, v⟩ := q
  obtain ⟨mk, mc, ma, mt⟩ := m
  obtain ⟨hm0, hm1, hm2, hm3⟩ := hm
  simp only at hm0 hm1 hm2 hm3
  have hl := h.len
  have hsm0 := h.small
  obtain ⟨w1, hw1⟩ : ∃ w1, (W.alloc (.cells #[.int .i64 u, .int .i64 v] 24)).alloc (.cells #[.int .i32 mk, .int .i64 mc, .int .i32 ma, .int .i64 mt] 26) = w1 := ⟨_, rfl⟩
  have hb1 : Below W.heap.size W w1 := by rw [← hw1]; exact ((Below.refl _ W).alloc (Nat.le_refl _) _).alloc (by simp) _
  have g1 : w1.heap[W.heap.size]? = some (.cells #[.int .i64 u, .int .i64 v] 24 (0, 0)) := by
    rw [← hw1, ((Below.refl _ (W.alloc _)).alloc (Nat.le_refl _) _).block _ (by simp)]
    exact heap_alloc_new W _
  have g2' : w1.heap[W.heap.size + 1]? = some (.cells #[.int .i32 mk, .int .i64 mc, .int .i32 ma, .int .i64 mt] 26 (0, 0)) := by
    rw [← hw1]
    have := heap_alloc_new (W.alloc (.cells #[.int .i64 u, .int .i64 v] 24)) (.cells #[.int .i32 mk, .int .i64 mc, .int .i32 ma, .int .i64 mt] 26)
    simpa using this
  have g2 : MoAt w1 (W.heap.size + 1) mk mc ma mt := g2'
  clear g2'
  have h1 := h.below hb1
  have HSMQ : Hid (Calls Try.prog 7 #[.slice a n c] w1 fun e w2 => e = .returned (.bool (smallL L)) ∧ w1 = w2) := small_wide _ a n c L w1 h1 hw
  have HAW : Hid (∀ w' : World, Calls Try.prog 8 #[] w' fun e w2 => e = .returned (.bool true) ∧ Below w'.heap.size w' w2) := fun w' => awake_any HM w'
  have HW1 := Lib.hid hw1
  have HB1 := Lib.hid hb1
  have G1 := Lib.hid g1
  have G2 := Lib.hid g2
  obtain ⟨sm, hsm⟩ : ∃ sm, smallL L = sm := ⟨_, rfl⟩
  rw [hsm] at HSMQ
  show Calls Try.prog _ #[.slice a n c, .agg #[.int .i64 u, .int .i64 v], .agg #[.int .i32 mk, .int .i64 mc, .int .i32 ma, .int .i64 mt]] W _
  cases sm with
  | false =>
    clear h h1 hw1 hb1 g1 g2 hsm hl
    go_enter Try.func6, Try.ntmps6
    go_upto_region 1 with fail
    rw [HW1.out]
    go_wp2_with (first
      | (go_at_call 7; refine (HSMQ.out).mono ?_; rintro e w2 ⟨rfl, hw2⟩; subst hw2)
      | (go_at_call 8; refine (HAW.out _).mono ?_; rintro e w3 ⟨rfl, hb3⟩))
    go_ret
    exact ⟨rfl, btr HB1.out hb3⟩
  | true =>
    by_cases hn0 : n = 0
    · have e0 : ((n : Int) == 0) = true := by simp; omega
      clear h h1 hw1 hb1 g1 g2 hsm hl hn0
      go_enter Try.func6, Try.ntmps6
      go_upto_region 1 with fail
      rw [HW1.out]
      go_wp2_with (first
        | (go_at_call 7; refine (HSMQ.out).mono ?_; rintro e w2 ⟨rfl, hw2⟩; subst hw2)
        | (go_at_call 8; refine (HAW.out _).mono ?_; rintro e w3 ⟨rfl, hb3⟩))
      go_ret
      exact ⟨rfl, btr HB1.out hb3⟩
    have e0 : ((n : Int) == 0) = false := by simp; omega
    have hL : L ≠ [] := by rintro rfl; simp at hl; omega
    have hsz := smallL_wide hsm
    have hcp := clipP_ok hL u v
    obtain ⟨⟨c1, c2⟩, hcv⟩ : ∃ cp, clipP L u v = cp := ⟨_, rfl⟩
    rw [hcv] at hcp
    have HCL : Hid (Calls Try.prog 9 #[.slice a n c, .agg #[.int .i64 u, .int .i64 v]] w1 fun e w2 => e = .returned (.agg #[.int .i64 (c1 : Nat), .int .i64 (c2 : Nat)]) ∧ Below w1.heap.size w1 w2) := by
      have := rclip_any _ a n c L ⟨u, v⟩ w1 h1 hq
      simp only at this
      rw [hcv] at this
      exact this
    -- the line
    obtain ⟨b, off, ra, rc, rfl, hcn, hbl, e1, hrd⟩ := okP.line h hcp (Below.refl _ W)
    simp only at hcn e1 hrd
    have hc2 := hcp.2
    simp only at hc2
    have hfl := find_law L (c1, c2) mc ma mt hcp
    simp only at hfl
    have HMV : Hid (∀ (p : Pl) (k : Int) (w' : World), okP L p → i32b k → Below W.heap.size W w' → Calls Try.prog 10 #[.slice (some ⟨b, off, none⟩) n c, .agg #[.int .i64 (p.1 : Nat), .int .i64 (p.2 : Nat)], .agg #[.int .i32 k, .int .i64 mc, .int .i32 ma, .int .i64 mt], .bool false] w' fun e w2 => e = .returned (mvV (mvR L p ⟨k, mc, ma, mt⟩ false)) ∧ Below w'.heap.size w' w2) := by
      intro p k w' hp hk hb
      have := HM _ (some ⟨b, off, none⟩) n c L (poP p) ⟨k, mc, ma, mt⟩ false w' (h.below hb) (okP_i64 h hp) ⟨hk, hm1, hm2, hm3⟩ hsz hL
      rw [clip_po hp] at this
      exact this
    have HCP := Lib.hid hcp
    have HE1 : Hid (∀ w' : World, Below W.heap.size W w' → w'.cell? ⟨b, off + c1, none⟩ = some (.slice ra (lnL L c1).length rc)) := fun w' hb => (hb.cell (p := ⟨b, off + c1, none⟩) hbl).trans e1
    have HRD : Hid (∀ w' : World, Below W.heap.size W w' → Rd .i32 w' ra (lnL L c1).length rc (lnL L c1)) := fun w' hb => hrd.below hb
    obtain ⟨x, hx⟩ : ∃ x, lnL L c1 = x := ⟨_, rfl⟩
    rw [hx] at HE1 HRD hfl hc2 hrd
    obtain ⟨ml, hml⟩ : ∃ ml, x.length = ml := ⟨_, rfl⟩
    rw [hml] at HE1 HRD hfl hc2 hrd
    have hms := hrd.small
    obtain ⟨nt, hnt⟩ : ∃ nt, tms mc = nt := ⟨_, rfl⟩
    have hntI : max 1 mc = (nt : Int) := by rw [← hnt]; unfold tms; omega
    have hnt1 : 1 ≤ nt := by rw [← hnt]; exact tms_pos mc
    have hnt2 : (nt : Int) ≤ 9223372036854775807 := by have := hm1.2; omega
    rw [hnt] at hfl
    have HFL := Lib.hid hfl
    clear hfl
    have HX := Lib.hid hx
    have HML := Lib.hid hml
    have hc1I : (c1 : Int) < (n : Int) := by omega
    have hc2I : (c2 : Int) + 1 ≤ 9223372036854775807 := by have h0 := HCP.out.1; simp only at h0; omega
    obtain ⟨a0, a1, ya0, ya1⟩ := row2 g1
    obtain ⟨b0, b1, b2, b3, yb0⟩ := g2.facts
    clear h h1 hw1 hb1 g1 g2 hsm hl hL hsz hcp hcv hq hm0 hm1 hm2 hm3 hrd hx hml hnt e1
    go_enter Try.func6, Try.ntmps6
    go_upto_region 1 with fail
    rw [HW1.out]
    go_upto_region 3 with (go_at_call 7; refine (HSMQ.out).mono ?_; rintro e w2 ⟨rfl, hw2⟩; subst hw2)
    go_upto_region 6 with (go_at_call 9; refine HCL.out.mono ?_; rintro e w5 ⟨rfl, hb5⟩; obtain ⟨a0', a1', ya0', ya1'⟩ := row2 (keep2 G1.out hb5); obtain ⟨b0', b1', b2', b3', yb0'⟩ := (show MoAt w5 _ _ _ _ _ from keep2 G2.out hb5).facts)
    obtain ⟨X5, hX5⟩ : ∃ X, (((w5.setCell ⟨W.heap.size, 0, none⟩ (.int .i64 (c1 : Nat))).setCell ⟨W.heap.size, 1, none⟩ (.int .i64 (c2 : Nat))).setCell ⟨W.heap.size + 1, 0, none⟩ (.int .i32 102)) = X := ⟨_, rfl⟩
    have hp5 : At X5 W.heap.size (c1, c2) := by
      rw [← hX5]
      exact other (heap_set (heap_set (keep2 G1.out hb5) 0 _) 1 _) (by omega)
    have hm5 : MoAt X5 (W.heap.size + 1) 102 mc ma mt := by
      rw [← hX5]
      exact MoAt.set (other (other (keep2 G2.out hb5) (by omega)) (by omega)) 102
    have D5 : Hid (Below W.heap.size W X5) := by
      show Below _ _ _
      rw [← hX5]
      exact setCell_below (setCell_below (setCell_below (btr HB1.out hb5) _ _ _ (Nat.le_refl _)) _ _ _ (Nat.le_refl _)) _ _ _ (by omega)
    have HX5 := Lib.hid hX5
    have HP5 := Lib.hid hp5
    have HM5 := Lib.hid hm5
    obtain ⟨p0, p1, y0, y1⟩ := row2 hp5
    obtain ⟨m0, m1, m2, m3, z0⟩ := hm5.facts
    simp only at p0 p1
    clear hX5 hp5 hm5 hb5 a0' a1' ya0' ya1' b0' b1' b2' b3' yb0' a0 a1 ya0 ya1 b0 b1 b2 b3 yb0
    rw [HX5.out]
    rcases HFL.out with ⟨hr1, hfew⟩ | ⟨i0, hi1, hi2, hr1, hcnt, hxi, hr2, hr3⟩
    · have hmv := HMV.out (c1, c2) 102 X5 HCP.out (by constructor <;> decide) D5.out
      rw [hr1] at hmv
      unfold mvV plV at hmv
      simp only at hmv
      have HMO := Lib.hid hmv
      have HFEW := Lib.hid hfew
      clear hmv hr1 hfew
      go_upto_region 7 with (go_at_call 10; refine HMO.out.mono ?_; rintro e w6 ⟨rfl, hb6⟩)
      obtain ⟨X6, hX6⟩ : ∃ X, w6.alloc (.cells #[.int .i64 (c1 : Nat), .int .i64 (c2 : Nat)] 24) = X := ⟨_, rfl⟩
      have D56 : Hid (Below X5.heap.size X5 X6) := by show Below _ _ _; rw [← hX6]; exact btr hb6 (bal _ _)
      have hq6 : At X6 w6.heap.size (c1, c2) := by rw [← hX6]; exact heap_alloc_new w6 _
      obtain ⟨Bq, hBq⟩ : ∃ S, w6.heap.size = S := ⟨_, rfl⟩
      have hBq5 : X5.heap.size ≤ Bq := by rw [← hBq]; exact hb6.size
      have hBqW : W.heap.size + 1 < Bq := by have := heap_lt HM5.out; omega
      rw [hBq] at hq6
      have HX6 := Lib.hid hX6
      have HBQ := Lib.hid hBq
      clear hX6 hBq hb6 p0 p1 y0 y1 m0 m1 m2 m3 z0
      rw [HX6.out, HBQ.out]
      have D6 : Hid (Below W.heap.size W X6) := D5.out.trans (D56.out.mono D5.out.size)
      have hp6 : At X6 W.heap.size (c1, c2) := keep2 HP5.out D56.out
      have hm6 : MoAt X6 (W.heap.size + 1) 102 mc ma mt := keep2 HM5.out D56.out
      obtain ⟨p0, p1, y0, y1⟩ := row2 hp6
      obtain ⟨m0, m1, m2, m3, z0⟩ := hm6.facts
      obtain ⟨q0, q1, x0, x1⟩ := row2 hq6
      simp only at p0 p1 q0 q1
      have HP6 := Lib.hid hp6
      have HM6 := Lib.hid hm6
      have HQ6 := Lib.hid hq6
      have e1 := HE1.out X6 D6.out
      clear hp6 hm6 hq6
      go_wp2_with fail
      go_loopw [12, 13] (fun v12 v13 wr => ∃ j s : Nat, v13 = .int .i64 (j : Nat) ∧ v12 = .int .i64 (s : Nat) ∧ Hid (s = cntR x ma (c2 + 1) j) ∧ c2 + 1 ≤ j ∧ s ≤ j ∧ Hid ((j ≤ ml ∨ j = c2 + 1)) ∧ Hid (Below X6.heap.size X6 wr)) (fun v12 v13 _ => ml - (intOf v13).toNat)
      case atStart => exact ⟨c2 + 1, 0, by go_num, by first | rfl | go_num, (cntR_nil x ma (c2 + 1)).symm, Nat.le_refl _, by omega, Or.inr rfl, Below.refl _ _⟩
      case round =>
        obtain ⟨j, s, rfl, rfl, HS, hcj, hsj, HJB, HBW⟩ := hrel
        clear p0 p1 y0 y1 m0 m1 m2 m3 z0 q0 q1 x0 x1 e1
        have HWR : Hid (Below W.heap.size W wr) := D6.out.trans (HBW.out.mono D6.out.size)
        have hp7 : At wr W.heap.size (c1, c2) := keep2 HP6.out HBW.out
        have hm7 : MoAt wr (W.heap.size + 1) 102 mc ma mt := keep2 HM6.out HBW.out
        have hq7 : At wr Bq (c1, c2) := keep2 HQ6.out HBW.out
        obtain ⟨p0, p1, y0, y1⟩ := row2 hp7
        obtain ⟨m0, m1, m2, m3, z0⟩ := hm7.facts
        obtain ⟨q0, q1, x0, x1⟩ := row2 hq7
        simp only at p0 p1 q0 q1
        have HP7 := Lib.hid hp7
        have HM7 := Lib.hid hm7
        have HQ7 := Lib.hid hq7
        clear hp7 hm7 hq7
        by_cases hj : j < ml
        · skip
          obtain ⟨rb, ro, rfl, hrb, hc⟩ := (HRD.out wr HWR.out).all_ (by omega)
          have k0 := hc j hj
          obtain ⟨r0, hr0⟩ : ∃ r, x.getD j 0 = r := ⟨_, rfl⟩
          rw [hr0] at k0
          have HCH := Lib.hid (cntR_high (x := x) (r := ma) hcj (by have := HML.out; omega))
          rw [hr0] at HCH
          have hjI : (j : Int) < (ml : Int) := by omega
          have hj0 : (0 : Int) ≤ (j : Int) := by omega
          have dj : decide ((j : Int) < (ml : Int)) = true := by simp; omega
          have dj2 : decide (j < ml) = true := by simp; omega
          skip
          skip
          have hjm : (j : Int) + 1 ≤ 9223372036854775807 := by omega
          have HJ2 : Hid ((j + 1 ≤ ml ∨ j + 1 = c2 + 1)) := Or.inl (by omega)
          clear hc hr0
          by_cases hrm : r0 = ma
          · subst hrm
            have HS2 : Hid (s + 1 = cntR x r0 (c2 + 1) (j + 1)) := by show _ = _; rw [HCH.out, if_pos rfl, HS.out]
            have eq1 : (r0 == r0) = true := by simp
            go_wp2_with fail
            go_quiet (fail)
            go_wp2_with fail
            go_roundw
            case rel => exact ⟨j + 1, s + 1, by go_num, by go_num, HS2, by omega, by omega, HJ2, bdrewN HBW.out _⟩
            case measure => simp [intOf]; omega
          · have HS2 : Hid (s = cntR x ma (c2 + 1) (j + 1)) := by show _ = _; rw [HCH.out, if_neg hrm, HS.out]; rfl
            have eq1 : (r0 == ma) = false := by simp [hrm]
            go_wp2_with fail
            go_quiet (fail)
            go_wp2_with fail
            go_roundw
            case rel => exact ⟨j + 1, s, by go_num, by first | rfl | go_num, HS2, by omega, by omega, HJ2, bdrewN HBW.out _⟩
            case measure => simp [intOf]; omega
        · have dj : decide ((j : Int) < (ml : Int)) = false := by simp; omega
          have dj2 : decide (j < ml) = false := by simp; omega
          have hsn : s < nt := by
            rw [HS.out]
            rcases HJB.out with h | h
            · have : j = ml := by omega
              rw [this]; exact HFEW.out
            · rw [h, cntR_nil]; omega
          have ds : decide ((s : Int) < (nt : Int)) = true := by simp; omega
          have ds2 : decide (s < nt) = true := by simp; omega
          go_wp2_with (go_at_call 8; refine (HAW.out _).mono ?_; rintro e w3 ⟨rfl, hb3⟩)
          go_ret
          exact ⟨rfl, btr HWR.out hb3⟩
    · have hmv := HMV.out (c1, c2) 102 X5 HCP.out (by constructor <;> decide) D5.out
      rw [hr1] at hmv
      unfold mvV plV at hmv
      simp only at hmv
      have HMO := Lib.hid hmv
      have HR2 := Lib.hid hr2
      have HR3 := Lib.hid hr3
      have HCN := Lib.hid hcnt
      have HXI := Lib.hid hxi
      clear hmv hr1 hr2 hr3 hcnt hxi
      go_upto_region 7 with (go_at_call 10; refine HMO.out.mono ?_; rintro e w6 ⟨rfl, hb6⟩)
      obtain ⟨X6, hX6⟩ : ∃ X, w6.alloc (.cells #[.int .i64 (c1 : Nat), .int .i64 (i0 : Nat)] 24) = X := ⟨_, rfl⟩
      have D56 : Hid (Below X5.heap.size X5 X6) := by show Below _ _ _; rw [← hX6]; exact btr hb6 (bal _ _)
      have hq6 : At X6 w6.heap.size (c1, i0) := by rw [← hX6]; exact heap_alloc_new w6 _
      obtain ⟨Bq, hBq⟩ : ∃ S, w6.heap.size = S := ⟨_, rfl⟩
      have hBq5 : X5.heap.size ≤ Bq := by rw [← hBq]; exact hb6.size
      have hBqW : W.heap.size + 1 < Bq := by have := heap_lt HM5.out; omega
      rw [hBq] at hq6
      have HX6 := Lib.hid hX6
      have HBQ := Lib.hid hBq
      clear hX6 hBq hb6 p0 p1 y0 y1 m0 m1 m2 m3 z0
      rw [HX6.out, HBQ.out]
      have D6 : Hid (Below W.heap.size W X6) := D5.out.trans (D56.out.mono D5.out.size)
      have hp6 : At X6 W.heap.size (c1, c2) := keep2 HP5.out D56.out
      have hm6 : MoAt X6 (W.heap.size + 1) 102 mc ma mt := keep2 HM5.out D56.out
      obtain ⟨p0, p1, y0, y1⟩ := row2 hp6
      obtain ⟨m0, m1, m2, m3, z0⟩ := hm6.facts
      obtain ⟨q0, q1, x0, x1⟩ := row2 hq6
      simp only at p0 p1 q0 q1
      have HP6 := Lib.hid hp6
      have HM6 := Lib.hid hm6
      have HQ6 := Lib.hid hq6
      have e1 := HE1.out X6 D6.out
      clear hp6 hm6 hq6
      go_wp2_with fail
      go_loopw [12, 13] (fun v12 v13 wr => ∃ j s : Nat, v13 = .int .i64 (j : Nat) ∧ v12 = .int .i64 (s : Nat) ∧ Hid (s = cntR x ma (c2 + 1) j) ∧ c2 + 1 ≤ j ∧ s ≤ j ∧ Hid (j ≤ i0 + 1) ∧ Hid (Below X6.heap.size X6 wr)) (fun v12 v13 _ => i0 + 1 - (intOf v13).toNat)
      case atStart => exact ⟨c2 + 1, 0, by go_num, by first | rfl | go_num, (cntR_nil x ma (c2 + 1)).symm, Nat.le_refl _, by omega, by show c2 + 1 ≤ i0 + 1; omega, Below.refl _ _⟩
      case round =>
        obtain ⟨j, s, rfl, rfl, HS, hcj, hsj, HJB, HBW⟩ := hrel
        clear p0 p1 y0 y1 m0 m1 m2 m3 z0 q0 q1 x0 x1 e1
        have HWR : Hid (Below W.heap.size W wr) := D6.out.trans (HBW.out.mono D6.out.size)
        have hp7 : At wr W.heap.size (c1, c2) := keep2 HP6.out HBW.out
        have hm7 : MoAt wr (W.heap.size + 1) 102 mc ma mt := keep2 HM6.out HBW.out
        have hq7 : At wr Bq (c1, i0) := keep2 HQ6.out HBW.out
        obtain ⟨p0, p1, y0, y1⟩ := row2 hp7
        obtain ⟨m0, m1, m2, m3, z0⟩ := hm7.facts
        obtain ⟨q0, q1, x0, x1⟩ := row2 hq7
        simp only at p0 p1 q0 q1
        have HP7 := Lib.hid hp7
        have HM7 := Lib.hid hm7
        have HQ7 := Lib.hid hq7
        clear hp7 hm7 hq7
        by_cases hj : j < ml ∧ j ≤ i0
        · obtain ⟨hj, hji⟩ := hj
          obtain ⟨rb, ro, rfl, hrb, hc⟩ := (HRD.out wr HWR.out).all_ (by omega)
          have k0 := hc j hj
          obtain ⟨r0, hr0⟩ : ∃ r, x.getD j 0 = r := ⟨_, rfl⟩
          rw [hr0] at k0
          have HCH := Lib.hid (cntR_high (x := x) (r := ma) hcj (by have := HML.out; omega))
          rw [hr0] at HCH
          have hjI : (j : Int) < (ml : Int) := by omega
          have hj0 : (0 : Int) ≤ (j : Int) := by omega
          have dj : decide ((j : Int) < (ml : Int)) = true := by simp; omega
          have dj2 : decide (j < ml) = true := by simp; omega
          have di : decide ((j : Int) ≤ (i0 : Int)) = true := by simp; omega
          have di2 : decide (j ≤ i0) = true := by simp; omega
          have hjm : (j : Int) + 1 ≤ 9223372036854775807 := by omega
          have HJ2 : Hid (j + 1 ≤ i0 + 1) := by show _ ≤ _; omega
          clear hc hr0
          by_cases hrm : r0 = ma
          · subst hrm
            have HS2 : Hid (s + 1 = cntR x r0 (c2 + 1) (j + 1)) := by show _ = _; rw [HCH.out, if_pos rfl, HS.out]
            have eq1 : (r0 == r0) = true := by simp
            go_wp2_with fail
            go_quiet (fail)
            go_wp2_with fail
            go_roundw
            case rel => exact ⟨j + 1, s + 1, by go_num, by go_num, HS2, by omega, by omega, HJ2, bdrewN HBW.out _⟩
            case measure => simp [intOf]; omega
          · have HS2 : Hid (s = cntR x ma (c2 + 1) (j + 1)) := by show _ = _; rw [HCH.out, if_neg hrm, HS.out]; rfl
            have eq1 : (r0 == ma) = false := by simp [hrm]
            go_wp2_with fail
            go_quiet (fail)
            go_wp2_with fail
            go_roundw
            case rel => exact ⟨j + 1, s, by go_num, by first | rfl | go_num, HS2, by omega, by omega, HJ2, bdrewN HBW.out _⟩
            case measure => simp [intOf]; omega
        · have hjb : j ≤ i0 + 1 := HJB.out
          have hje : j = i0 + 1 := by omega
          have hsn : s = nt := by rw [HS.out, hje]; exact HCN.out
          subst hsn
          have di : decide ((j : Int) ≤ (i0 : Int)) = false := by simp; omega
          have di2 : decide (j ≤ i0) = false := by simp; omega
          obtain ⟨rb, ro, rfl, hrb, hc⟩ := (HRD.out W (Below.refl _ _)).all_ (by omega)
          have HKC : Hid (∀ w' : World, Below W.heap.size W w' → w'.cell? ⟨rb, ro + c2, none⟩ = some (.int .i32 (x.getD c2 0))) := fun w' hb => (hb.cell (p := ⟨rb, ro + c2, none⟩) hrb).trans (hc c2 (by omega))
          have ki : wr.cell? ⟨rb, ro + i0, none⟩ = some (.int .i32 ma) := by
            have := (HWR.out.cell (p := ⟨rb, ro + i0, none⟩) hrb).trans (hc i0 hi2)
            rwa [HXI.out] at this
          have kc := HKC.out wr HWR.out
          have hi2I : (i0 : Int) < (ml : Int) := by omega
          have hc2ml : (c2 : Int) < (ml : Int) := by omega
          have hi0I : (0 : Int) ≤ (i0 : Int) := by omega
          clear hc hj hje hjb
          by_cases hjl : j < ml
          · have dj : decide ((j : Int) < (ml : Int)) = true := by simp; omega
            have dj2 : decide (j < ml) = true := by simp; omega
            go_wp2_with fail
            go_quiet (fail)
            obtain ⟨wz, hwz⟩ : ∃ z, z = wr.drewN nq := ⟨_, rfl⟩
            rw [← hwz]
            have HZ : Hid (Below wr.heap.size wr wz) := by show Below _ _ _; rw [hwz]; exact bdrewN (Below.refl _ _) _
            have HWZ : Hid (Below W.heap.size W wz) := HWR.out.trans (HZ.out.mono HWR.out.size)
            have hm8 : MoAt wz (W.heap.size + 1) 102 mc ma mt := keep2 HM7.out HZ.out
            obtain ⟨m0, m1, m2, m3, z0⟩ := hm8.facts
            have HM8 := Lib.hid hm8
            clear hwz hm8 p0 p1 y0 y1 q0 q1 x0 x1 ki kc
            have hp8 : At wz W.heap.size (c1, c2) := keep2 HP7.out HZ.out
            have hq8 : At wz Bq (c1, i0) := keep2 HQ7.out HZ.out
            obtain ⟨p0, p1, y0, y1⟩ := row2 hp8
            obtain ⟨q0, q1, x0, x1⟩ := row2 hq8
            simp only at p0 p1 q0 q1
            have HP8 := Lib.hid hp8
            have HQ8 := Lib.hid hq8
            clear hp8 hq8
            go_upto_region 19 with fail
            obtain ⟨Y1, hY1⟩ : ∃ Y, wz.setCell ⟨W.heap.size + 1, 0, none⟩ (.int .i32 116) = Y := ⟨_, rfl⟩
            have hp9 : At Y1 W.heap.size (c1, c2) := by rw [← hY1]; exact other HP8.out (by omega)
            have hq9 : At Y1 Bq (c1, i0) := by rw [← hY1]; exact other HQ8.out (by omega)
            have hm9 : MoAt Y1 (W.heap.size + 1) 116 mc ma mt := by rw [← hY1]; exact MoAt.set HM8.out 116
            have D9 : Hid (Below W.heap.size W Y1) := by show Below _ _ _; rw [← hY1]; exact setCell_below HWZ.out _ _ _ (by omega)
            have HY1 := Lib.hid hY1
            clear hY1 p0 p1 y0 y1 m0 m1 m2 m3 z0 q0 q1 x0 x1
            rw [HY1.out]
            obtain ⟨p0, p1, y0, y1⟩ := row2 hp9
            obtain ⟨m0, m1, m2, m3, z0⟩ := hm9.facts
            simp only at p0 p1
            have HP9 := Lib.hid hp9
            have HM9 := Lib.hid hm9
            have HQ9 := Lib.hid hq9
            clear hp9 hm9 hq9
            have hmv2 := HMV.out (c1, c2) 116 Y1 HCP.out (by constructor <;> decide) D9.out
            rw [HR2.out] at hmv2
            unfold mvV plV at hmv2
            simp only at hmv2
            obtain ⟨k1, hk1⟩ : ∃ k1, i0 - 1 = k1 := ⟨_, rfl⟩
            rw [hk1] at hmv2
            have hk1I : (i0 : Int) - 1 = (k1 : Int) := by omega
            have HMO2 := Lib.hid hmv2
            clear hmv2 hk1
            go_upto_region 20 with (go_at_call 10; refine HMO2.out.mono ?_; rintro e w10 ⟨rfl, hb10⟩)
            obtain ⟨Y2, hY2⟩ : ∃ X, w10.alloc (.cells #[.int .i64 (c1 : Nat), .int .i64 (k1 : Nat)] 24) = X := ⟨_, rfl⟩
            have D10 : Hid (Below Y1.heap.size Y1 Y2) := by show Below _ _ _; rw [← hY2]; exact btr hb10 (bal _ _)
            have ht10 : At Y2 w10.heap.size (c1, k1) := by rw [← hY2]; exact heap_alloc_new w10 _
            obtain ⟨Bt, hBt⟩ : ∃ S, w10.heap.size = S := ⟨_, rfl⟩
            rw [hBt] at ht10
            have HY2 := Lib.hid hY2
            have HBT := Lib.hid hBt
            clear hY2 hBt hb10 p0 p1 y0 y1 m0 m1 m2 m3 z0
            rw [HY2.out, HBT.out]
            have DW2 : Hid (Below W.heap.size W Y2) := D9.out.trans (D10.out.mono D9.out.size)
            have hm11 : MoAt Y2 (W.heap.size + 1) 116 mc ma mt := keep2 HM9.out D10.out
            obtain ⟨m0, m1, m2, m3, z0⟩ := hm11.facts
            obtain ⟨t0, t1, -, -⟩ := row2 ht10
            simp only at t0 t1
            have HM11 := Lib.hid hm11
            clear hm11 ht10
            have hp11 : At Y2 W.heap.size (c1, c2) := keep2 HP9.out D10.out
            have hq11 : At Y2 Bq (c1, i0) := keep2 HQ9.out D10.out
            obtain ⟨p0, p1, y0, y1⟩ := row2 hp11
            obtain ⟨q0, q1, x0, x1⟩ := row2 hq11
            simp only at p0 p1 q0 q1
            have HP11 := Lib.hid hp11
            have HQ11 := Lib.hid hq11
            clear hp11 hq11
            have kc2 : Y2.cell? ⟨rb, ro + c2, none⟩ = some (.int .i32 (x.getD c2 0)) := HKC.out Y2 DW2.out
            obtain ⟨rc2, hrc2⟩ : ∃ r, x.getD c2 0 = r := ⟨_, rfl⟩
            rw [hrc2] at kc2
            have HRC := Lib.hid hrc2
            clear hrc2
            by_cases hrm : rc2 = ma
            · have HR4 := Lib.hid (HR3.out (by rw [HRC.out]; exact hrm))
              subst hrm
              have eq1 : (rc2 == rc2) = true := by simp
              go_wp2_with fail
              go_quiet (fail)
              obtain ⟨wy, hwy⟩ : ∃ z, z = Y2.drewN nq := ⟨_, rfl⟩
              rw [← hwy]
              have HZ2 : Hid (Below Y2.heap.size Y2 wy) := by show Below _ _ _; rw [hwy]; exact bdrewN (Below.refl _ _) _
              have HWY : Hid (Below W.heap.size W wy) := DW2.out.trans (HZ2.out.mono DW2.out.size)
              have hm12 : MoAt wy (W.heap.size + 1) 116 mc rc2 mt := keep2 HM11.out HZ2.out
              have HM12 := Lib.hid hm12
              clear hwy p0 p1 y0 y1 q0 q1 x0 x1 m0 m1 m2 m3 z0 t0 t1 kc2
              obtain ⟨m0, m1, m2, m3, z0⟩ := hm12.facts
              clear hm12
              have hp12 : At wy W.heap.size (c1, c2) := keep2 HP11.out HZ2.out
              have hq12 : At wy Bq (c1, i0) := keep2 HQ11.out HZ2.out
              obtain ⟨p0, p1, y0, y1⟩ := row2 hp12
              obtain ⟨q0, q1, x0, x1⟩ := row2 hq12
              simp only at p0 p1 q0 q1
              have HP12 := Lib.hid hp12
              have HQ12 := Lib.hid hq12
              clear hp12 hq12
              go_upto_region 25 with fail
              obtain ⟨Y3, hY3⟩ : ∃ Y, wy.setCell ⟨W.heap.size + 1, 0, none⟩ (.int .i32 70) = Y := ⟨_, rfl⟩
              have hp13 : At Y3 W.heap.size (c1, c2) := by rw [← hY3]; exact other HP12.out (by omega)
              have hq13 : At Y3 Bq (c1, i0) := by rw [← hY3]; exact other HQ12.out (by omega)
              have hm13 : MoAt Y3 (W.heap.size + 1) 70 mc rc2 mt := by rw [← hY3]; exact MoAt.set HM12.out 70
              have D13 : Hid (Below W.heap.size W Y3) := by show Below _ _ _; rw [← hY3]; exact setCell_below HWY.out _ _ _ (by omega)
              have HY3 := Lib.hid hY3
              clear hY3 p0 p1 y0 y1 m0 m1 m2 m3 z0 q0 q1 x0 x1
              rw [HY3.out]
              obtain ⟨q0, q1, x0, x1⟩ := row2 hq13
              obtain ⟨m0, m1, m2, m3, z0⟩ := hm13.facts
              simp only at q0 q1
              have HP13 := Lib.hid hp13
              clear hp13 hm13 hq13
              have hmv3 := HMV.out (c1, i0) 70 Y3 ⟨HCP.out.1, by show i0 ≤ _; rw [HX.out, HML.out]; omega⟩ (by constructor <;> decide) D13.out
              rw [HR4.out] at hmv3
              unfold mvV plV at hmv3
              simp only at hmv3
              have HMO3 := Lib.hid hmv3
              clear hmv3
              go_upto_region 26 with (go_at_call 10; refine HMO3.out.mono ?_; rintro e w14 ⟨rfl, hb14⟩)
              obtain ⟨Y4, hY4⟩ : ∃ X, w14.alloc (.cells #[.int .i64 (c1 : Nat), .int .i64 (c2 : Nat)] 24) = X := ⟨_, rfl⟩
              have D14 : Hid (Below Y3.heap.size Y3 Y4) := by show Below _ _ _; rw [← hY4]; exact btr hb14 (bal _ _)
              have hb14' : At Y4 w14.heap.size (c1, c2) := by rw [← hY4]; exact heap_alloc_new w14 _
              obtain ⟨Bb, hBb⟩ : ∃ S, w14.heap.size = S := ⟨_, rfl⟩
              rw [hBb] at hb14'
              have HY4 := Lib.hid hY4
              have HBB := Lib.hid hBb
              clear hY4 hBb hb14 q0 q1 x0 x1 m0 m1 m2 m3 z0
              rw [HY4.out, HBB.out]
              obtain ⟨t0, t1, -, -⟩ := row2 hb14'
              obtain ⟨p0, p1, y0, y1⟩ := row2 (keep2 HP13.out D14.out)
              simp only at t0 t1 p0 p1
              go_wp2_with (go_at_call 8; refine (HAW.out _).mono ?_; rintro e w3 ⟨rfl, hb3⟩)
              go_ret
              exact ⟨rfl, btr (D13.out.trans (D14.out.mono D13.out.size)) hb3⟩
            · have eq1 : (rc2 == ma) = false := by simp [hrm]
              have E2 : Hid ((rc2 != ma) = true) := by show _ = _; simp [hrm]
              go_wp2_with fail
              go_quiet (fail)
              obtain ⟨wy, hwy⟩ : ∃ z, z = Y2.drewN nq := ⟨_, rfl⟩
              rw [← hwy]
              have HWY : Hid (Below W.heap.size W wy) := by show Below _ _ _; rw [hwy]; exact bdrewN DW2.out _
              clear hwy p0 p1 y0 y1 q0 q1 x0 x1 m0 m1 m2 m3 z0 t0 t1 kc2 hrm eq1 hk1I dj dj2 di di2
              rw [E2.out]
              go_wp2_with (go_at_call 8; refine (HAW.out _).mono ?_; rintro e w3 ⟨rfl, hb3⟩)
              go_ret
              exact ⟨rfl, btr HWY.out hb3⟩
          · have dj : decide ((j : Int) < (ml : Int)) = false := by simp; omega
            have dj2 : decide (j < ml) = false := by simp; omega
            go_wp2_with fail
            go_quiet (fail)
            obtain ⟨wz, hwz⟩ : ∃ z, z = wr.drewN nq := ⟨_, rfl⟩
            rw [← hwz]
            have HZ : Hid (Below wr.heap.size wr wz) := by show Below _ _ _; rw [hwz]; exact bdrewN (Below.refl _ _) _
            have HWZ : Hid (Below W.heap.size W wz) := HWR.out.trans (HZ.out.mono HWR.out.size)
            have hm8 : MoAt wz (W.heap.size + 1) 102 mc ma mt := keep2 HM7.out HZ.out
            obtain ⟨m0, m1, m2, m3, z0⟩ := hm8.facts
            have HM8 := Lib.hid hm8
            clear hwz hm8 p0 p1 y0 y1 q0 q1 x0 x1 ki kc
            have hp8 : At wz W.heap.size (c1, c2) := keep2 HP7.out HZ.out
            have hq8 : At wz Bq (c1, i0) := keep2 HQ7.out HZ.out
            obtain ⟨p0, p1, y0, y1⟩ := row2 hp8
            obtain ⟨q0, q1, x0, x1⟩ := row2 hq8
            simp only at p0 p1 q0 q1
            have HP8 := Lib.hid hp8
            have HQ8 := Lib.hid hq8
            clear hp8 hq8
            go_upto_region 19 with fail
            obtain ⟨Y1, hY1⟩ : ∃ Y, wz.setCell ⟨W.heap.size + 1, 0, none⟩ (.int .i32 116) = Y := ⟨_, rfl⟩
            have hp9 : At Y1 W.heap.size (c1, c2) := by rw [← hY1]; exact other HP8.out (by omega)
            have hq9 : At Y1 Bq (c1, i0) := by rw [← hY1]; exact other HQ8.out (by omega)
            have hm9 : MoAt Y1 (W.heap.size + 1) 116 mc ma mt := by rw [← hY1]; exact MoAt.set HM8.out 116
            have D9 : Hid (Below W.heap.size W Y1) := by show Below _ _ _; rw [← hY1]; exact setCell_below HWZ.out _ _ _ (by omega)
            have HY1 := Lib.hid hY1
            clear hY1 p0 p1 y0 y1 m0 m1 m2 m3 z0 q0 q1 x0 x1
            rw [HY1.out]
            obtain ⟨p0, p1, y0, y1⟩ := row2 hp9
            obtain ⟨m0, m1, m2, m3, z0⟩ := hm9.facts
            simp only at p0 p1
            have HP9 := Lib.hid hp9
            have HM9 := Lib.hid hm9
            have HQ9 := Lib.hid hq9
            clear hp9 hm9 hq9
            have hmv2 := HMV.out (c1, c2) 116 Y1 HCP.out (by constructor <;> decide) D9.out
            rw [HR2.out] at hmv2
            unfold mvV plV at hmv2
            simp only at hmv2
            obtain ⟨k1, hk1⟩ : ∃ k1, i0 - 1 = k1 := ⟨_, rfl⟩
            rw [hk1] at hmv2
            have hk1I : (i0 : Int) - 1 = (k1 : Int) := by omega
            have HMO2 := Lib.hid hmv2
            clear hmv2 hk1
            go_upto_region 20 with (go_at_call 10; refine HMO2.out.mono ?_; rintro e w10 ⟨rfl, hb10⟩)
            obtain ⟨Y2, hY2⟩ : ∃ X, w10.alloc (.cells #[.int .i64 (c1 : Nat), .int .i64 (k1 : Nat)] 24) = X := ⟨_, rfl⟩
            have D10 : Hid (Below Y1.heap.size Y1 Y2) := by show Below _ _ _; rw [← hY2]; exact btr hb10 (bal _ _)
            have ht10 : At Y2 w10.heap.size (c1, k1) := by rw [← hY2]; exact heap_alloc_new w10 _
            obtain ⟨Bt, hBt⟩ : ∃ S, w10.heap.size = S := ⟨_, rfl⟩
            rw [hBt] at ht10
            have HY2 := Lib.hid hY2
            have HBT := Lib.hid hBt
            clear hY2 hBt hb10 p0 p1 y0 y1 m0 m1 m2 m3 z0
            rw [HY2.out, HBT.out]
            have DW2 : Hid (Below W.heap.size W Y2) := D9.out.trans (D10.out.mono D9.out.size)
            have hm11 : MoAt Y2 (W.heap.size + 1) 116 mc ma mt := keep2 HM9.out D10.out
            obtain ⟨m0, m1, m2, m3, z0⟩ := hm11.facts
            obtain ⟨t0, t1, -, -⟩ := row2 ht10
            simp only at t0 t1
            have HM11 := Lib.hid hm11
            clear hm11 ht10
            have hp11 : At Y2 W.heap.size (c1, c2) := keep2 HP9.out D10.out
            have hq11 : At Y2 Bq (c1, i0) := keep2 HQ9.out D10.out
            obtain ⟨p0, p1, y0, y1⟩ := row2 hp11
            obtain ⟨q0, q1, x0, x1⟩ := row2 hq11
            simp only at p0 p1 q0 q1
            have HP11 := Lib.hid hp11
            have HQ11 := Lib.hid hq11
            clear hp11 hq11
            have kc2 : Y2.cell? ⟨rb, ro + c2, none⟩ = some (.int .i32 (x.getD c2 0)) := HKC.out Y2 DW2.out
            obtain ⟨rc2, hrc2⟩ : ∃ r, x.getD c2 0 = r := ⟨_, rfl⟩
            rw [hrc2] at kc2
            have HRC := Lib.hid hrc2
            clear hrc2
            by_cases hrm : rc2 = ma
            · have HR4 := Lib.hid (HR3.out (by rw [HRC.out]; exact hrm))
              subst hrm
              have eq1 : (rc2 == rc2) = true := by simp
              go_wp2_with fail
              go_quiet (fail)
              obtain ⟨wy, hwy⟩ : ∃ z, z = Y2.drewN nq := ⟨_, rfl⟩
              rw [← hwy]
              have HZ2 : Hid (Below Y2.heap.size Y2 wy) := by show Below _ _ _; rw [hwy]; exact bdrewN (Below.refl _ _) _
              have HWY : Hid (Below W.heap.size W wy) := DW2.out.trans (HZ2.out.mono DW2.out.size)
              have hm12 : MoAt wy (W.heap.size + 1) 116 mc rc2 mt := keep2 HM11.out HZ2.out
              have HM12 := Lib.hid hm12
              clear hwy p0 p1 y0 y1 q0 q1 x0 x1 m0 m1 m2 m3 z0 t0 t1 kc2
              obtain ⟨m0, m1, m2, m3, z0⟩ := hm12.facts
              clear hm12
              have hp12 : At wy W.heap.size (c1, c2) := keep2 HP11.out HZ2.out
              have hq12 : At wy Bq (c1, i0) := keep2 HQ11.out HZ2.out
              obtain ⟨p0, p1, y0, y1⟩ := row2 hp12
              obtain ⟨q0, q1, x0, x1⟩ := row2 hq12
              simp only at p0 p1 q0 q1
              have HP12 := Lib.hid hp12
              have HQ12 := Lib.hid hq12
              clear hp12 hq12
              go_upto_region 25 with fail
              obtain ⟨Y3, hY3⟩ : ∃ Y, wy.setCell ⟨W.heap.size + 1, 0, none⟩ (.int .i32 70) = Y := ⟨_, rfl⟩
              have hp13 : At Y3 W.heap.size (c1, c2) := by rw [← hY3]; exact other HP12.out (by omega)
              have hq13 : At Y3 Bq (c1, i0) := by rw [← hY3]; exact other HQ12.out (by omega)
              have hm13 : MoAt Y3 (W.heap.size + 1) 70 mc rc2 mt := by rw [← hY3]; exact MoAt.set HM12.out 70
              have D13 : Hid (Below W.heap.size W Y3) := by show Below _ _ _; rw [← hY3]; exact setCell_below HWY.out _ _ _ (by omega)
              have HY3 := Lib.hid hY3
              clear hY3 p0 p1 y0 y1 m0 m1 m2 m3 z0 q0 q1 x0 x1
              rw [HY3.out]
              obtain ⟨q0, q1, x0, x1⟩ := row2 hq13
              obtain ⟨m0, m1, m2, m3, z0⟩ := hm13.facts
              simp only at q0 q1
              have HP13 := Lib.hid hp13
              clear hp13 hm13 hq13
              have hmv3 := HMV.out (c1, i0) 70 Y3 ⟨HCP.out.1, by show i0 ≤ _; rw [HX.out, HML.out]; omega⟩ (by constructor <;> decide) D13.out
              rw [HR4.out] at hmv3
              unfold mvV plV at hmv3
              simp only at hmv3
              have HMO3 := Lib.hid hmv3
              clear hmv3
              go_upto_region 26 with (go_at_call 10; refine HMO3.out.mono ?_; rintro e w14 ⟨rfl, hb14⟩)
              obtain ⟨Y4, hY4⟩ : ∃ X, w14.alloc (.cells #[.int .i64 (c1 : Nat), .int .i64 (c2 : Nat)] 24) = X := ⟨_, rfl⟩
              have D14 : Hid (Below Y3.heap.size Y3 Y4) := by show Below _ _ _; rw [← hY4]; exact btr hb14 (bal _ _)
              have hb14' : At Y4 w14.heap.size (c1, c2) := by rw [← hY4]; exact heap_alloc_new w14 _
              obtain ⟨Bb, hBb⟩ : ∃ S, w14.heap.size = S := ⟨_, rfl⟩
              rw [hBb] at hb14'
              have HY4 := Lib.hid hY4
              have HBB := Lib.hid hBb
              clear hY4 hBb hb14 q0 q1 x0 x1 m0 m1 m2 m3 z0
              rw [HY4.out, HBB.out]
              obtain ⟨t0, t1, -, -⟩ := row2 hb14'
              obtain ⟨p0, p1, y0, y1⟩ := row2 (keep2 HP13.out D14.out)
              simp only at t0 t1 p0 p1
              go_wp2_with (go_at_call 8; refine (HAW.out _).mono ?_; rintro e w3 ⟨rfl, hb3⟩)
              go_ret
              exact ⟨rfl, btr (D13.out.trans (D14.out.mono D13.out.size)) hb3⟩
            · have eq1 : (rc2 == ma) = false := by simp [hrm]
              have E2 : Hid ((rc2 != ma) = true) := by show _ = _; simp [hrm]
              go_wp2_with fail
              go_quiet (fail)
              obtain ⟨wy, hwy⟩ : ∃ z, z = Y2.drewN nq := ⟨_, rfl⟩
              rw [← hwy]
              have HWY : Hid (Below W.heap.size W wy) := by show Below _ _ _; rw [hwy]; exact bdrewN DW2.out _
              clear hwy p0 p1 y0 y1 q0 q1 x0 x1 m0 m1 m2 m3 z0 t0 t1 kc2 hrm eq1 hk1I dj dj2 di di2
              rw [E2.out]
              go_wp2_with (go_at_call 8; refine (HAW.out _).mono ?_; rintro e w3 ⟨rfl, hb3⟩)
              go_ret
              exact ⟨rfl, btr HWY.out hb3⟩
end Go.Proofs.Ytikdojebnbmpoaa.U
