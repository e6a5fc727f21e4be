/-
  The walk of MotionCounts. (MADE by wip/tools/gen_counts.py.)
-/
import Derived.Test.YtikdojebnbmpoaaOLaws1
namespace Go.Proofs.Ytikdojebnbmpoaa.U
open Go.RowKit
set_option linter.unusedVariables false
set_option linter.unusedSimpArgs false
set_option maxRecDepth 100000

def ZeroP (W : World) (g : Nat) : Prop := W.heap[g]? = some (.cells #[.int .i64 0, .int .i64 0] 24 (0, 0))
theorem ZeroP.below {W W' : World} {g : Nat} (h : ZeroP W g) (hb : Below W.heap.size W W') : ZeroP W' g := (hb.block g (heap_lt h)).trans h
theorem ZeroP.drew {W : World} {g : Nat} (h : ZeroP W g) : ZeroP W.drew g := h
theorem ZeroP.new (W : World) : ZeroP (W.alloc (.cells #[.int .i64 0, .int .i64 0] 24)) W.heap.size := heap_alloc_new W _
theorem ZeroP.facts {W : World} {g : Nat} (h : ZeroP W g) : W.cell? ⟨g, 0, none⟩ = some (.int .i64 0) ∧ W.cell? ⟨g, 1, none⟩ = some (.int .i64 0) ∧ W.frozen? ⟨g, 0, none⟩ = false ∧ W.frozen? ⟨g, 1, none⟩ = false ∧ g < W.heap.size :=
  ⟨cell_row h 0, cell_row h 1, frozen_row h 0, frozen_row h 1, heap_lt h⟩
/-- a place lies in a box of its own -/
def MvS (wr wx : World) (g : Nat) (q : Pl) : Prop := Below wr.heap.size wr wx ∧ wr.heap.size ≤ g ∧ At wx g q
theorem mv_new {wr w1 : World} (q : Pl) (h : Below wr.heap.size wr w1) : MvS wr (w1.alloc (.cells #[.int .i64 (q.1 : Nat), .int .i64 (q.2 : Nat)] 24)) w1.heap.size q := ⟨h.alloc h.size _, h.size, heap_alloc_new w1 _⟩
theorem mv_set {wr w1 : World} {g : Nat} (q : Pl) (hz : ZeroP w1 g) (hg : wr.heap.size ≤ g) (h : Below wr.heap.size wr w1) : MvS wr ((w1.setCell ⟨g, 0, none⟩ (.int .i64 (q.1 : Nat))).setCell ⟨g, 1, none⟩ (.int .i64 (q.2 : Nat))) g q :=
  ⟨(h.setCell (p := ⟨g, 0, none⟩) hg _).setCell (p := ⟨g, 1, none⟩) hg _, hg, heap_set (heap_set hz 0 (.int .i64 (q.1 : Nat))) 1 (.int .i64 (q.2 : Nat))⟩
/-- a contract as the drawn regions want it -/
theorem upZ {f : FuncId} {args : Array Value} {v : Value} {w1 W : World} (hb : Hid (Below w1.heap.size w1 W)) (h : Calls Try.prog f args W fun e w' => e = .returned v ∧ Below W.heap.size W w') : Calls Try.prog f args W fun e w' => e = .returned v ∧ Hid (Below w1.heap.size w1 w') ∧ Hid (∀ g, ZeroP W g → ZeroP w' g) :=
  h.mono (fun e w' h => ⟨h.1, hb.out.trans (h.2.mono hb.out.size), fun g hz => hz.below h.2⟩)
theorem i64_0 : i64b 0 := ⟨by decide, by decide⟩
theorem i32_0 : i32b 0 := ⟨by decide, by decide⟩
theorem keys_at {k : Nat} (h : k < 12) : keys10.getD k 0 ∈ keys10 ∧ i32b (keys10.getD k 0) := by
  have h12 : k = 0 ∨ k = 1 ∨ k = 2 ∨ k = 3 ∨ k = 4 ∨ k = 5 ∨ k = 6 ∨ k = 7 ∨ k = 8 ∨ k = 9 ∨ k = 10 ∨ k = 11 := by omega
  unfold i32b
  rcases h12 with rfl | rfl | rfl | rfl | rfl | rfl | rfl | rfl | rfl | rfl | rfl | rfl <;> decide
set_option maxHeartbeats 2000000 in
theorem motionCounts_wideM (HM : MoveC) (a : Option Addr) (n c : Nat) (L : List (List Int)) (q : Po) (x y : Int) (W : World) (h : RdL (fun k => k < W.heap.size) W a n c L) (hq : i64p q) (hx : (Lit.int .i64 x).wf = true) (hy : (Lit.int .i64 y).wf = true) (hw : WideL L) :
    Calls Try.prog 4 #[.slice a n c, q.v, .agg #[.int .i64 x, .int .i64 y]] W fun e w' => e = .returned (.bool true) ∧ Below W.heap.size W w' := by
  obtain ⟨u, v⟩ := q
  obtain ⟨hx1, hx2⟩ := wf_i64b hx
  obtain ⟨hy1, hy2⟩ := wf_i64b hy
  have hl := h.len
  have hsm0 := h.small
  obtain ⟨w1, hw1⟩ : ∃ w1, (W.alloc (.cells #[.int .i64 u, .int .i64 v] 24)).alloc (.cells #[.int .i64 x, .int .i64 y] 34) = w1 := ⟨_, rfl⟩
  have hb1 : Below W.heap.size W w1 := by rw [← hw1]; exact ((Below.refl _ W).alloc (Nat.le_refl _) _).alloc (by simp) _
  have g1 : w1.heap[W.heap.size]? = some (.cells #[.int .i64 u, .int .i64 v] 24 (0, 0)) := by
    rw [← hw1, ((Below.refl _ (W.alloc _)).alloc (Nat.le_refl _) _).block _ (by simp)]
    exact heap_alloc_new W _
  have g2 : w1.heap[W.heap.size + 1]? = some (.cells #[.int .i64 x, .int .i64 y] 34 (0, 0)) := by
    rw [← hw1]
    have := heap_alloc_new (W.alloc (.cells #[.int .i64 u, .int .i64 v] 24)) (.cells #[.int .i64 x, .int .i64 y] 34)
    simpa using this
  have h1 := h.below hb1
  have HSMQ : Hid (Calls Try.prog 7 #[.slice a n c] w1 fun e w2 => e = .returned (.bool (smallL L)) ∧ w1 = w2) := small_wide _ a n c L w1 h1 hw
  have HAW : Hid (∀ w' : World, Calls Try.prog 8 #[] w' fun e w2 => e = .returned (.bool true) ∧ Below w'.heap.size w' w2) := fun w' => awake_any HM w'
  have HW1 := Lib.hid hw1
  have HB1 := Lib.hid hb1
  have G1 := Lib.hid g1
  have G2 := Lib.hid g2
  obtain ⟨sm, hsm⟩ : ∃ sm, smallL L = sm := ⟨_, rfl⟩
  rw [hsm] at HSMQ
  show Calls Try.prog _ #[.slice a n c, .agg #[.int .i64 u, .int .i64 v], .agg #[.int .i64 x, .int .i64 y]] W _
  cases sm with
  | false =>
    clear h h1 hw1 hb1 g1 g2 hsm hl
    go_enter Try.func4, Try.ntmps4
    go_upto_region 1 with fail
    rw [HW1.out]
    go_wp2_with (first
      | (go_at_call 7; refine (HSMQ.out).mono ?_; rintro e w2 ⟨rfl, hw2⟩; subst hw2)
      | (go_at_call 8; refine (HAW.out _).mono ?_; rintro e w3 ⟨rfl, hb3⟩))
    go_ret
    exact ⟨rfl, btr HB1.out hb3⟩
  | true =>
    by_cases hn0 : n = 0
    · have e0 : ((n : Int) == 0) = true := by simp; omega
      clear h h1 hw1 hb1 g1 g2 hsm hl hn0
      go_enter Try.func4, Try.ntmps4
      go_upto_region 1 with fail
      rw [HW1.out]
      go_wp2_with (first
        | (go_at_call 7; refine (HSMQ.out).mono ?_; rintro e w2 ⟨rfl, hw2⟩; subst hw2)
        | (go_at_call 8; refine (HAW.out _).mono ?_; rintro e w3 ⟨rfl, hb3⟩))
      go_ret
      exact ⟨rfl, btr HB1.out hb3⟩
    have e0 : ((n : Int) == 0) = false := by simp; omega
    have hL : L ≠ [] := by rintro rfl; simp at hl; omega
    have hsz := smallL_wide hsm
    have hcp := clipP_ok hL u v
    -- the key
    obtain ⟨t, ht⟩ : ∃ t, Int.tmod x 12 = t := ⟨_, rfl⟩
    have t1 : t < 12 := by rw [← ht]; exact Int.tmod_lt_of_pos x (by decide)
    have t2 : -12 < t := by rw [← ht]; exact Int.lt_tmod_of_pos x (by decide)
    obtain ⟨kk, hkk⟩ : ∃ kk : Nat, kk < 12 ∧ ((t < 0 ∧ t + 12 = kk) ∨ (¬ t < 0 ∧ t = kk)) := by
      by_cases e : t < 0
      · exact ⟨(t + 12).toNat, by omega, Or.inl ⟨e, by omega⟩⟩
      · exact ⟨t.toNat, by omega, Or.inr ⟨e, by omega⟩⟩
    obtain ⟨hk12, hkt⟩ := hkk
    have hkI : (kk : Int) < 12 := by omega
    have hkI0 : (0 : Int) ≤ (kk : Int) := by omega
    have hkI1 : (kk : Int) < ((12 : Nat) : Int) := by omega
    obtain ⟨hkm, hk32⟩ := keys_at hk12
    obtain ⟨key, hkey⟩ : ∃ k, keys10.getD kk 0 = k := ⟨_, rfl⟩
    rw [hkey] at hkm hk32
    obtain ⟨g, hg1, hg2, hg3⟩ := cnts_all hL hkm
    -- the count
    obtain ⟨nn, hnn, hn1, hn20⟩ : ∃ nn : Nat, max 1 (min y 20) = (nn : Int) ∧ 1 ≤ nn ∧ nn ≤ 20 := ⟨(max 1 (min y 20)).toNat, by omega, by omega, by omega⟩
    obtain ⟨⟨c1, c2⟩, hcv⟩ : ∃ cp, clipP L u v = cp := ⟨_, rfl⟩
    rw [hcv] at hcp
    have HCL : Hid (∀ w' : World, Below w1.heap.size w1 w' → Calls Try.prog 9 #[.slice a n c, .agg #[.int .i64 u, .int .i64 v]] w' fun e w2 => e = .returned (.agg #[.int .i64 (c1 : Nat), .int .i64 (c2 : Nat)]) ∧ Below w'.heap.size w' w2) := by
      intro w' hb
      have := rclip_any _ a n c L ⟨u, v⟩ w' (h1.below hb) hq
      simp only at this
      rw [hcv] at this
      exact this
    have HST : Hid (∀ (p : Pl), okP L p → ∃ hh : Int, ∀ (w' : World), Below w1.heap.size w1 w' → Calls Try.prog 10 #[.slice a n c, .agg #[.int .i64 (p.1 : Nat), .int .i64 (p.2 : Nat)], .agg #[.int .i32 key, .int .i64 0, .int .i32 0, .int .i64 0], .bool false] w' fun e w2 => e = .returned (.tuple #[plV (g p), .int .i64 hh, .bool (decide (g p ≠ p))]) ∧ Below w'.heap.size w' w2) := by
      intro p hp
      obtain ⟨hh, e⟩ := hg2 p hp
      refine ⟨hh, fun w' hb => ?_⟩
      have := HM _ a n c L (poP p) ⟨key, 0, 0, 0⟩ false w' (h1.below hb) (okP_i64 h1 hp) ⟨hk32, i64_0, i32_0, i64_0⟩ hsz hL
      rw [clip_po hp, e] at this
      exact this
    have HEN : Hid (∃ hh : Int, ∀ (w' : World), Below w1.heap.size w1 w' → Calls Try.prog 10 #[.slice a n c, .agg #[.int .i64 u, .int .i64 v], .agg #[.int .i32 key, .int .i64 (nn : Nat), .int .i32 0, .int .i64 0], .bool false] w' fun e w2 => e = .returned (.tuple #[plV (stepsP g nn (c1, c2) (c1, c2)).1, .int .i64 hh, .bool (decide (g (c1, c2) ≠ (c1, c2)))]) ∧ Below w'.heap.size w' w2) := by
      obtain ⟨hh, e⟩ := hg3 (c1, c2) nn hcp hn1
      refine ⟨hh, fun w' hb => ?_⟩
      have := HM _ a n c L ⟨u, v⟩ ⟨key, (nn : Nat), 0, 0⟩ false w' (h1.below hb) hq ⟨hk32, i64_nat (by omega), i32_0, i64_0⟩ hsz hL
      simp only at this
      rw [hcv, e] at this
      exact this
    have HG1 := Lib.hid hg1
    have HOK := Lib.hid hcp
    have HKEY := Lib.hid hkey
    obtain ⟨a0, a1, -, -⟩ := row2 g1
    obtain ⟨b0, b1, -, -⟩ := row2 g2
    clear h h1 hw1 hb1 g1 g2 hsm hl hL hsz hcp hkm hk32 hg1 hg2 hg3 hcv hq hx hy hkey
    go_enter Try.func4, Try.ntmps4
    go_upto_region 1 with fail
    rw [HW1.out]
    go_upto_region 4 with (first
      | (go_at_call 7; refine (HSMQ.out).mono ?_; rintro e w2 ⟨rfl, hw2⟩; subst hw2)
      | (go_at_call 11; refine (row10K _).mono ?_; rintro e w3 ⟨ka, kc, rfl, H3⟩))
    obtain ⟨kb, ko, hka, hkb, hkc⟩ := (H3.out.1).at_ (i := kk) hk12
    subst hka
    rw [HKEY.out] at hkc
    have D3 : Hid (Below w1.heap.size w1 w3) := H3.out.2
    clear a0 a1 b0 b1
    obtain ⟨a0, a1, -, -⟩ := row2 (keep2 G1.out D3.out)
    obtain ⟨b0, b1, -, -⟩ := row2 (keep2 G2.out D3.out)

    rcases hkt with ⟨t3, t4⟩ | ⟨t3, t4⟩
    · have d0 : decide (t < 0) = true := by simp; omega
      go_upto_region 8 with fail
      go_upto_region 9 with (go_at_call 9; refine (HCL.out _ D3.out).mono ?_; rintro e w5 ⟨rfl, hb5⟩)
      obtain ⟨X5, hX5⟩ : ∃ X, w5.alloc (.cells #[.int .i64 (c1 : Nat), .int .i64 (c2 : Nat)] 24) = X := ⟨_, rfl⟩
      have D5 : Hid (Below w3.heap.size w3 X5) := by show Below _ _ _; rw [← hX5]; exact btr hb5 (bal _ _)
      have hq5 : At X5 w5.heap.size (c1, c2) := by rw [← hX5]; exact heap_alloc_new w5 _
      obtain ⟨Bq, hBq⟩ : ∃ S, w5.heap.size = S := ⟨_, rfl⟩
      have hBq3 : w3.heap.size ≤ Bq := by rw [← hBq]; exact hb5.size
      rw [hBq] at hq5
      have HX5 := Lib.hid hX5
      have HBQ := Lib.hid hBq
      clear hX5 hBq hb5
      rw [HX5.out, HBQ.out]
      go_wp2_with fail
      go_loopw [11, 12] (fun v11 v12 wr => ∃ (i : Nat) (sv : Bool), v12 = .int .i64 (i : Nat) ∧ v11 = .bool sv ∧ Hid (sv = decide (0 < i)) ∧ i ≤ nn ∧ At wr Bq (stepsP g i (c1, c2) (c1, c2)).1 ∧ Hid (0 < i → g (c1, c2) ≠ (c1, c2)) ∧ Hid (Below w3.heap.size w3 wr)) (fun v11 v12 _ => nn - (intOf v12).toNat)
      case atStart => exact ⟨0, false, rfl, rfl, rfl, by omega, hq5, fun h => by omega, D5.out⟩
      case round =>
        obtain ⟨i, sv, rfl, rfl, HS0, hin, hqq, HMV, HBW⟩ := hrel
        clear hq5
        have hok := (stepsP_ok HG1.out i (c1, c2) (c1, c2) HOK.out HOK.out).1
        obtain ⟨⟨pi, pj⟩, hp⟩ : ∃ p, (stepsP g i (c1, c2) (c1, c2)).1 = p := ⟨_, rfl⟩
        rw [hp] at hqq hok
        obtain ⟨q0, q1, y0, y1⟩ := row2 hqq
        simp only at q0 q1
        have kc0 := (HBW.out.cell (p := ⟨kb, ko + kk, none⟩) hkb).trans hkc
        have HQ := Lib.hid hqq
        have HP := Lib.hid hp
        clear hqq hp
        by_cases hlt : i < nn
        · obtain ⟨hh, hmv⟩ := HST.out (pi, pj) hok
          simp only at hmv
          obtain ⟨⟨gi, gj⟩, hgp⟩ : ∃ y, g (pi, pj) = y := ⟨_, rfl⟩
          rw [hgp] at hmv
          unfold plV at hmv
          obtain ⟨ok, hok2⟩ : ∃ ok, decide (((gi, gj) : Pl) ≠ (pi, pj)) = ok := ⟨_, rfl⟩
          rw [hok2] at hmv
          have HO2 := Lib.hid hok2
          have HGP := Lib.hid hgp
          clear hok2 hgp hok
          have HMO : Hid (∀ w' : World, Hid (Below wr.heap.size wr w') → Calls Try.prog 10 #[.slice a n c, .agg #[.int .i64 (pi : Nat), .int .i64 (pj : Nat)], .agg #[.int .i32 key, .int .i64 0, .int .i32 0, .int .i64 0], .bool false] w' fun e w2 => e = .returned (.tuple #[.agg #[.int .i64 (gi : Nat), .int .i64 (gj : Nat)], .int .i64 hh, .bool ok]) ∧ Hid (Below wr.heap.size wr w2) ∧ Hid (∀ g, ZeroP w' g → ZeroP w2 g)) := fun w' hb => upZ hb (hmv w' (btr D3.out (HBW.out.trans (hb.out.mono HBW.out.size))))
          clear hmv
          have hBql := HQ.out.lt
          have hkbl : kb < wr.heap.size := by have := HBW.out.size; omega
          have KS : Hid (∀ w' : World, Below wr.heap.size wr w' → Below wr.heap.size wr w' ∧ w'.cell? ⟨Bq, 0, none⟩ = some (.int .i64 (pi : Nat)) ∧ w'.cell? ⟨Bq, 1, none⟩ = some (.int .i64 (pj : Nat)) ∧ w'.cell? ⟨kb, ko + kk, none⟩ = some (.int .i32 key)) := fun w' hb => ⟨hb, (hb.cell (p := ⟨Bq, 0, none⟩) hBql).trans q0, (hb.cell (p := ⟨Bq, 1, none⟩) hBql).trans q1, (hb.cell (p := ⟨kb, ko + kk, none⟩) hkbl).trans kc0⟩
          have HR0 : Hid (Below wr.heap.size wr wr) := Below.refl _ _
          have HR1 : Hid (Below wr.heap.size wr wr.drew) := (Below.refl _ _).drew
          go_upto_region 13 with fail
          go_cut [13, 14, 15] from 52 to 63 (fun v1 v2 v3 wx => ∃ gg, v1 = .pointer (some ⟨gg, 0, none⟩) ∧ v2 = .int .i64 hh ∧ v3 = .bool ok ∧ Hid (MvS wr wx gg (gi, gj)))
          case first =>
            go_region_held3 (fun w' => Below wr.heap.size wr w' ∧ w'.cell? ⟨Bq, 0, none⟩ = some (.int .i64 (pi : Nat)) ∧ w'.cell? ⟨Bq, 1, none⟩ = some (.int .i64 (pj : Nat)) ∧ w'.cell? ⟨kb, ko + kk, none⟩ = some (.int .i32 key))
              (first
                | exact KS.out _ HR0.out
                | exact KS.out _ HR1.out
                | exact KS.out _ q1.out
                | exact KS.out _ (HR1.out.alloc HR1.out.size _)
                | exact KS.out _ (q1.out.alloc q1.out.size _)
                | exact KS.out _ (HR0.out.alloc HR0.out.size _)
                | exact KS.out _ (HR0.out.alloc HR0.out.size _).drew
                | (refine KS.out _ (Below.setCell (Below.setCell q1.out ?_ _) ?_ _) <;> first | exact Nat.le_refl _ | exact q1.out.size))
              (first | (go_at_call 10; (with_reducible refine (HMO.out _ (by first | exact HR0 | exact HR1 | exact Lib.hid (HR0.out.alloc HR0.out.size _).drew | exact Lib.hid (HR1.out.alloc HR1.out.size _))).mono ?_); rintro e1 w1 ⟨rfl, q1, p1⟩; (try (have hz1 : ZeroP w1 _ := (by first | with_reducible exact p1.out _ (ZeroP.new _) | with_reducible exact p1.out _ (ZeroP.new _).drew); obtain ⟨z10, z11, z12, z13, z14⟩ := hz1.facts))))
            all_goals
              go_wp2_with fail
              go_meet
              first
                | exact ⟨_, rfl, rfl, rfl, Lib.hid (mv_new (gi, gj) q1.out)⟩
                | exact ⟨_, rfl, rfl, rfl, Lib.hid (mv_set (gi, gj) hz1 (Nat.le_refl _) q1.out)⟩
          case rest =>
            obtain ⟨gg, rfl, rfl, rfl, hmv⟩ := hcut
            obtain ⟨wq, hwq⟩ : ∃ x, x = wc := ⟨_, rfl⟩
            subst hwq
            obtain ⟨m1, m2, m3⟩ := hmv.out
            obtain ⟨i0, i1, -, -⟩ := row2 m3
            have hqw := HQ.out.keep (m1.block _ HQ.out.lt)
            obtain ⟨j0, j1, f0, f1⟩ := row2 hqw
            simp only at i0 i1 j0 j1
            have HM1 := Lib.hid m1
            have HGG := Lib.hid m3
            have HQ2 := Lib.hid hqw
            have HBW2 : Hid (Below w3.heap.size w3 wq) := HBW.out.trans (m1.mono HBW.out.size)
            clear m1 m2 m3 hmv hqw q0 q1 y0 y1 HR0 HR1
            cases ok with
            | true =>
              have hne : ((gi, gj) : Pl) ≠ (pi, pj) := of_decide_eq_true HO2.out
              have HNX : Hid ((stepsP g (i + 1) (c1, c2) (c1, c2)).1 = (gi, gj)) := by
                show _ = _
                rw [stepsP_succ, HP.out]; exact HGP.out
              have HMV2 : Hid (0 < i + 1 → g (c1, c2) ≠ (c1, c2)) := by
                intro _
                by_cases h0 : i = 0
                · subst h0
                  have e : ((c1, c2) : Pl) = (pi, pj) := HP.out
                  rw [e, HGP.out]; exact hne
                · exact HMV.out (by omega)
              have hBqw : w3.heap.size ≤ Bq := hBq3
              clear hne
              go_wp2_with fail
              go_roundw
              case rel =>
                refine ⟨i + 1, true, by go_num, rfl, by show true = decide (0 < i + 1); simp, by omega, ?_, HMV2.out, ?_⟩
                · rw [HNX.out]; exact heap_set (heap_set HQ2.out 0 _) 1 _
                · exact setCell_below (setCell_below HBW2.out _ _ _ hBqw) _ _ _ hBqw
              case measure => simp [intOf]; omega
            | false =>
              have heq : ((gi, gj) : Pl) = (pi, pj) := Classical.not_not.1 (of_decide_eq_false HO2.out)
              have HSV : Hid (decide (g (c1, c2) ≠ (c1, c2)) = sv) := by
                show _ = _
                rw [HS0.out]
                by_cases h0 : i = 0
                · subst h0
                  have e : ((c1, c2) : Pl) = (pi, pj) := HP.out
                  have e2 : g (c1, c2) = (c1, c2) := by rw [e, HGP.out]; exact heq
                  simp [e2]
                · have := HMV.out (by omega)
                  simp [this]; omega
              have HRES : Hid ((stepsP g nn (c1, c2) (c1, c2)).1 = (pi, pj)) := by
                show _ = _
                have e : g (stepsP g i (c1, c2) (c1, c2)).1 = (stepsP g i (c1, c2) (c1, c2)).1 := by rw [HP.out, HGP.out]; exact heq
                have := stepsP_stop e (nn - i)
                rw [show i + (nn - i) = nn by omega, HP.out] at this
                exact this
              have kc1 := (HM1.out.cell (p := ⟨kb, ko + kk, none⟩) hkbl).trans kc0
              clear heq hkbl hBql KS
              go_wp2_with fail
              obtain ⟨h2, hen⟩ := HEN.out
              rw [HRES.out, HSV.out] at hen
              unfold plV at hen
              simp only at hen
              have HE2 : Hid (∀ w' : World, Hid (Below wq.heap.size wq w') → Calls Try.prog 10 #[.slice a n c, .agg #[.int .i64 u, .int .i64 v], .agg #[.int .i32 key, .int .i64 (nn : Nat), .int .i32 0, .int .i64 0], .bool false] w' fun e w2 => e = .returned (.tuple #[.agg #[.int .i64 (pi : Nat), .int .i64 (pj : Nat)], .int .i64 h2, .bool sv]) ∧ Hid (Below wq.heap.size wq w2) ∧ Hid (∀ g, ZeroP w' g → ZeroP w2 g)) := fun w' hb => upZ hb (hen w' (btr D3.out (HBW2.out.trans (hb.out.mono HBW2.out.size))))
              clear hen
              obtain ⟨r0, r1⟩ : wq.cell? ⟨W.heap.size, 0, none⟩ = some (.int .i64 u) ∧ wq.cell? ⟨W.heap.size, 1, none⟩ = some (.int .i64 v) := by
                obtain ⟨e1, e2, -, -⟩ := row2 (keep2 G1.out (btr D3.out HBW2.out))
                exact ⟨e1, e2⟩
              have hWl : W.heap.size < wq.heap.size := heap_lt (keep2 G1.out (btr D3.out HBW2.out))
              have hkbl : kb < wq.heap.size := by have := HBW2.out.size; omega
              have KS2 : Hid (∀ w' : World, Below wq.heap.size wq w' → Below wq.heap.size wq w' ∧ w'.cell? ⟨W.heap.size, 0, none⟩ = some (.int .i64 u) ∧ w'.cell? ⟨W.heap.size, 1, none⟩ = some (.int .i64 v) ∧ w'.cell? ⟨kb, ko + kk, none⟩ = some (.int .i32 key)) := fun w' hb => ⟨hb, (hb.cell (p := ⟨W.heap.size, 0, none⟩) hWl).trans r0, (hb.cell (p := ⟨W.heap.size, 1, none⟩) hWl).trans r1, (hb.cell (p := ⟨kb, ko + kk, none⟩) hkbl).trans kc1⟩
              have HR0 : Hid (Below wq.heap.size wq wq) := Below.refl _ _
              have HR1 : Hid (Below wq.heap.size wq wq.drew) := (Below.refl _ _).drew
              go_upto_region 16 with fail
              go_cut [16, 17, 18] from 67 to 79 (fun v1 v2 v3 wx => ∃ gg, v1 = .pointer (some ⟨gg, 0, none⟩) ∧ v2 = .int .i64 h2 ∧ v3 = .bool sv ∧ Hid (MvS wq wx gg (pi, pj)))
              case first =>
                go_region_held3 (fun w' => Below wq.heap.size wq w' ∧ w'.cell? ⟨W.heap.size, 0, none⟩ = some (.int .i64 u) ∧ w'.cell? ⟨W.heap.size, 1, none⟩ = some (.int .i64 v) ∧ w'.cell? ⟨kb, ko + kk, none⟩ = some (.int .i32 key))
                  (first
                    | exact KS2.out _ HR0.out
                    | exact KS2.out _ HR1.out
                    | exact KS2.out _ q1.out
                    | exact KS2.out _ (HR1.out.alloc HR1.out.size _)
                    | exact KS2.out _ (q1.out.alloc q1.out.size _)
                    | exact KS2.out _ (HR0.out.alloc HR0.out.size _)
                    | exact KS2.out _ (HR0.out.alloc HR0.out.size _).drew
                    | (refine KS2.out _ (Below.setCell (Below.setCell q1.out ?_ _) ?_ _) <;> first | exact Nat.le_refl _ | exact q1.out.size))
                  (first | (go_at_call 10; (with_reducible refine (HE2.out _ (by first | exact HR0 | exact HR1 | exact Lib.hid (HR0.out.alloc HR0.out.size _).drew | exact Lib.hid (HR1.out.alloc HR1.out.size _))).mono ?_); rintro e1 w1 ⟨rfl, q1, p1⟩; (try (have hz1 : ZeroP w1 _ := (by first | with_reducible exact p1.out _ (ZeroP.new _) | with_reducible exact p1.out _ (ZeroP.new _).drew); obtain ⟨z10, z11, z12, z13, z14⟩ := hz1.facts))))
                all_goals
                  go_wp2_with fail
                  go_meet
                  first
                    | exact ⟨_, rfl, rfl, rfl, Lib.hid (mv_new (pi, pj) q1.out)⟩
                    | exact ⟨_, rfl, rfl, rfl, Lib.hid (mv_set (pi, pj) hz1 (Nat.le_refl _) q1.out)⟩
              case rest =>
                obtain ⟨gg, rfl, rfl, rfl, hmv⟩ := hcut
                obtain ⟨wz, hwq⟩ : ∃ x, x = wc := ⟨_, rfl⟩
                subst hwq
                obtain ⟨m1, m2, m3⟩ := hmv.out
                obtain ⟨i0, i1, -, -⟩ := row2 m3
                obtain ⟨j0, j1, -, -⟩ := row2 (keep2 HQ2.out m1)
                simp only at i0 i1 j0 j1
                have HM1 := Lib.hid m1
                clear m1 m2 m3 hmv r0 r1
                try clear q0 q1 y0 y1
                try clear i0' i1'
                cases sv
                all_goals
                  go_wp2_with (go_at_call 8; refine (HAW.out _).mono ?_; rintro e w9 ⟨rfl, hb9⟩)
                  go_ret
                  exact ⟨rfl, btr HB1.out (btr D3.out (btr HBW2.out (btr HM1.out hb9)))⟩
        · obtain rfl : nn = i := by omega
          have HSV : Hid (decide (g (c1, c2) ≠ (c1, c2)) = sv) := by
            show _ = _
            rw [HS0.out]
            have := HMV.out (by omega)
            simp [this]; omega
          have HRES : Hid ((stepsP g nn (c1, c2) (c1, c2)).1 = (pi, pj)) := HP.out
          obtain ⟨h2, hen⟩ := HEN.out
          rw [HRES.out, HSV.out] at hen
          unfold plV at hen
          simp only at hen
          have HE2 : Hid (∀ w' : World, Hid (Below wr.heap.size wr w') → Calls Try.prog 10 #[.slice a n c, .agg #[.int .i64 u, .int .i64 v], .agg #[.int .i32 key, .int .i64 (nn : Nat), .int .i32 0, .int .i64 0], .bool false] w' fun e w2 => e = .returned (.tuple #[.agg #[.int .i64 (pi : Nat), .int .i64 (pj : Nat)], .int .i64 h2, .bool sv]) ∧ Hid (Below wr.heap.size wr w2) ∧ Hid (∀ g, ZeroP w' g → ZeroP w2 g)) := fun w' hb => upZ hb (hen w' (btr D3.out (HBW.out.trans (hb.out.mono HBW.out.size))))
          clear hen
          obtain ⟨r0, r1⟩ : wr.cell? ⟨W.heap.size, 0, none⟩ = some (.int .i64 u) ∧ wr.cell? ⟨W.heap.size, 1, none⟩ = some (.int .i64 v) := by
            obtain ⟨e1, e2, -, -⟩ := row2 (keep2 G1.out (btr D3.out HBW.out))
            exact ⟨e1, e2⟩
          have hWl : W.heap.size < wr.heap.size := heap_lt (keep2 G1.out (btr D3.out HBW.out))
          have hkbl : kb < wr.heap.size := by have := HBW.out.size; omega
          have KS2 : Hid (∀ w' : World, Below wr.heap.size wr w' → Below wr.heap.size wr w' ∧ w'.cell? ⟨W.heap.size, 0, none⟩ = some (.int .i64 u) ∧ w'.cell? ⟨W.heap.size, 1, none⟩ = some (.int .i64 v) ∧ w'.cell? ⟨kb, ko + kk, none⟩ = some (.int .i32 key)) := fun w' hb => ⟨hb, (hb.cell (p := ⟨W.heap.size, 0, none⟩) hWl).trans r0, (hb.cell (p := ⟨W.heap.size, 1, none⟩) hWl).trans r1, (hb.cell (p := ⟨kb, ko + kk, none⟩) hkbl).trans kc0⟩
          have HR0 : Hid (Below wr.heap.size wr wr) := Below.refl _ _
          have HR1 : Hid (Below wr.heap.size wr wr.drew) := (Below.refl _ _).drew
          go_upto_region 16 with fail
          go_cut [16, 17, 18] from 67 to 79 (fun v1 v2 v3 wx => ∃ gg, v1 = .pointer (some ⟨gg, 0, none⟩) ∧ v2 = .int .i64 h2 ∧ v3 = .bool sv ∧ Hid (MvS wr wx gg (pi, pj)))
          case first =>
            go_region_held3 (fun w' => Below wr.heap.size wr w' ∧ w'.cell? ⟨W.heap.size, 0, none⟩ = some (.int .i64 u) ∧ w'.cell? ⟨W.heap.size, 1, none⟩ = some (.int .i64 v) ∧ w'.cell? ⟨kb, ko + kk, none⟩ = some (.int .i32 key))
              (first
                | exact KS2.out _ HR0.out
                | exact KS2.out _ HR1.out
                | exact KS2.out _ q1.out
                | exact KS2.out _ (HR1.out.alloc HR1.out.size _)
                | exact KS2.out _ (q1.out.alloc q1.out.size _)
                | exact KS2.out _ (HR0.out.alloc HR0.out.size _)
                | exact KS2.out _ (HR0.out.alloc HR0.out.size _).drew
                | (refine KS2.out _ (Below.setCell (Below.setCell q1.out ?_ _) ?_ _) <;> first | exact Nat.le_refl _ | exact q1.out.size))
              (first | (go_at_call 10; (with_reducible refine (HE2.out _ (by first | exact HR0 | exact HR1 | exact Lib.hid (HR0.out.alloc HR0.out.size _).drew | exact Lib.hid (HR1.out.alloc HR1.out.size _))).mono ?_); rintro e1 w1 ⟨rfl, q1, p1⟩; (try (have hz1 : ZeroP w1 _ := (by first | with_reducible exact p1.out _ (ZeroP.new _) | with_reducible exact p1.out _ (ZeroP.new _).drew); obtain ⟨z10, z11, z12, z13, z14⟩ := hz1.facts))))
            all_goals
              go_wp2_with fail
              go_meet
              first
                | exact ⟨_, rfl, rfl, rfl, Lib.hid (mv_new (pi, pj) q1.out)⟩
                | exact ⟨_, rfl, rfl, rfl, Lib.hid (mv_set (pi, pj) hz1 (Nat.le_refl _) q1.out)⟩
          case rest =>
            obtain ⟨gg, rfl, rfl, rfl, hmv⟩ := hcut
            obtain ⟨wz, hwq⟩ : ∃ x, x = wc := ⟨_, rfl⟩
            subst hwq
            obtain ⟨m1, m2, m3⟩ := hmv.out
            obtain ⟨i0, i1, -, -⟩ := row2 m3
            obtain ⟨j0, j1, -, -⟩ := row2 (keep2 HQ.out m1)
            simp only at i0 i1 j0 j1
            have HM1 := Lib.hid m1
            clear m1 m2 m3 hmv r0 r1
            try clear q0 q1 y0 y1
            try clear i0' i1'
            cases sv
            all_goals
              go_wp2_with (go_at_call 8; refine (HAW.out _).mono ?_; rintro e w9 ⟨rfl, hb9⟩)
              go_ret
              exact ⟨rfl, btr HB1.out (btr D3.out (btr HBW.out (btr HM1.out hb9)))⟩
    · subst t4
      go_upto_region 8 with fail
      go_upto_region 9 with (go_at_call 9; refine (HCL.out _ D3.out).mono ?_; rintro e w5 ⟨rfl, hb5⟩)
      obtain ⟨X5, hX5⟩ : ∃ X, w5.alloc (.cells #[.int .i64 (c1 : Nat), .int .i64 (c2 : Nat)] 24) = X := ⟨_, rfl⟩
      have D5 : Hid (Below w3.heap.size w3 X5) := by show Below _ _ _; rw [← hX5]; exact btr hb5 (bal _ _)
      have hq5 : At X5 w5.heap.size (c1, c2) := by rw [← hX5]; exact heap_alloc_new w5 _
      obtain ⟨Bq, hBq⟩ : ∃ S, w5.heap.size = S := ⟨_, rfl⟩
      have hBq3 : w3.heap.size ≤ Bq := by rw [← hBq]; exact hb5.size
      rw [hBq] at hq5
      have HX5 := Lib.hid hX5
      have HBQ := Lib.hid hBq
      clear hX5 hBq hb5
      rw [HX5.out, HBQ.out]
      go_wp2_with fail
      go_loopw [11, 12] (fun v11 v12 wr => ∃ (i : Nat) (sv : Bool), v12 = .int .i64 (i : Nat) ∧ v11 = .bool sv ∧ Hid (sv = decide (0 < i)) ∧ i ≤ nn ∧ At wr Bq (stepsP g i (c1, c2) (c1, c2)).1 ∧ Hid (0 < i → g (c1, c2) ≠ (c1, c2)) ∧ Hid (Below w3.heap.size w3 wr)) (fun v11 v12 _ => nn - (intOf v12).toNat)
      case atStart => exact ⟨0, false, rfl, rfl, rfl, by omega, hq5, fun h => by omega, D5.out⟩
      case round =>
        obtain ⟨i, sv, rfl, rfl, HS0, hin, hqq, HMV, HBW⟩ := hrel
        clear hq5
        have hok := (stepsP_ok HG1.out i (c1, c2) (c1, c2) HOK.out HOK.out).1
        obtain ⟨⟨pi, pj⟩, hp⟩ : ∃ p, (stepsP g i (c1, c2) (c1, c2)).1 = p := ⟨_, rfl⟩
        rw [hp] at hqq hok
        obtain ⟨q0, q1, y0, y1⟩ := row2 hqq
        simp only at q0 q1
        have kc0 := (HBW.out.cell (p := ⟨kb, ko + kk, none⟩) hkb).trans hkc
        have HQ := Lib.hid hqq
        have HP := Lib.hid hp
        clear hqq hp
        by_cases hlt : i < nn
        · obtain ⟨hh, hmv⟩ := HST.out (pi, pj) hok
          simp only at hmv
          obtain ⟨⟨gi, gj⟩, hgp⟩ : ∃ y, g (pi, pj) = y := ⟨_, rfl⟩
          rw [hgp] at hmv
          unfold plV at hmv
          obtain ⟨ok, hok2⟩ : ∃ ok, decide (((gi, gj) : Pl) ≠ (pi, pj)) = ok := ⟨_, rfl⟩
          rw [hok2] at hmv
          have HO2 := Lib.hid hok2
          have HGP := Lib.hid hgp
          clear hok2 hgp hok
          have HMO : Hid (∀ w' : World, Hid (Below wr.heap.size wr w') → Calls Try.prog 10 #[.slice a n c, .agg #[.int .i64 (pi : Nat), .int .i64 (pj : Nat)], .agg #[.int .i32 key, .int .i64 0, .int .i32 0, .int .i64 0], .bool false] w' fun e w2 => e = .returned (.tuple #[.agg #[.int .i64 (gi : Nat), .int .i64 (gj : Nat)], .int .i64 hh, .bool ok]) ∧ Hid (Below wr.heap.size wr w2) ∧ Hid (∀ g, ZeroP w' g → ZeroP w2 g)) := fun w' hb => upZ hb (hmv w' (btr D3.out (HBW.out.trans (hb.out.mono HBW.out.size))))
          clear hmv
          have hBql := HQ.out.lt
          have hkbl : kb < wr.heap.size := by have := HBW.out.size; omega
          have KS : Hid (∀ w' : World, Below wr.heap.size wr w' → Below wr.heap.size wr w' ∧ w'.cell? ⟨Bq, 0, none⟩ = some (.int .i64 (pi : Nat)) ∧ w'.cell? ⟨Bq, 1, none⟩ = some (.int .i64 (pj : Nat)) ∧ w'.cell? ⟨kb, ko + kk, none⟩ = some (.int .i32 key)) := fun w' hb => ⟨hb, (hb.cell (p := ⟨Bq, 0, none⟩) hBql).trans q0, (hb.cell (p := ⟨Bq, 1, none⟩) hBql).trans q1, (hb.cell (p := ⟨kb, ko + kk, none⟩) hkbl).trans kc0⟩
          have HR0 : Hid (Below wr.heap.size wr wr) := Below.refl _ _
          have HR1 : Hid (Below wr.heap.size wr wr.drew) := (Below.refl _ _).drew
          go_upto_region 13 with fail
          go_cut [13, 14, 15] from 52 to 63 (fun v1 v2 v3 wx => ∃ gg, v1 = .pointer (some ⟨gg, 0, none⟩) ∧ v2 = .int .i64 hh ∧ v3 = .bool ok ∧ Hid (MvS wr wx gg (gi, gj)))
          case first =>
            go_region_held3 (fun w' => Below wr.heap.size wr w' ∧ w'.cell? ⟨Bq, 0, none⟩ = some (.int .i64 (pi : Nat)) ∧ w'.cell? ⟨Bq, 1, none⟩ = some (.int .i64 (pj : Nat)) ∧ w'.cell? ⟨kb, ko + kk, none⟩ = some (.int .i32 key))
              (first
                | exact KS.out _ HR0.out
                | exact KS.out _ HR1.out
                | exact KS.out _ q1.out
                | exact KS.out _ (HR1.out.alloc HR1.out.size _)
                | exact KS.out _ (q1.out.alloc q1.out.size _)
                | exact KS.out _ (HR0.out.alloc HR0.out.size _)
                | exact KS.out _ (HR0.out.alloc HR0.out.size _).drew
                | (refine KS.out _ (Below.setCell (Below.setCell q1.out ?_ _) ?_ _) <;> first | exact Nat.le_refl _ | exact q1.out.size))
              (first | (go_at_call 10; (with_reducible refine (HMO.out _ (by first | exact HR0 | exact HR1 | exact Lib.hid (HR0.out.alloc HR0.out.size _).drew | exact Lib.hid (HR1.out.alloc HR1.out.size _))).mono ?_); rintro e1 w1 ⟨rfl, q1, p1⟩; (try (have hz1 : ZeroP w1 _ := (by first | with_reducible exact p1.out _ (ZeroP.new _) | with_reducible exact p1.out _ (ZeroP.new _).drew); obtain ⟨z10, z11, z12, z13, z14⟩ := hz1.facts))))
            all_goals
              go_wp2_with fail
              go_meet
              first
                | exact ⟨_, rfl, rfl, rfl, Lib.hid (mv_new (gi, gj) q1.out)⟩
                | exact ⟨_, rfl, rfl, rfl, Lib.hid (mv_set (gi, gj) hz1 (Nat.le_refl _) q1.out)⟩
          case rest =>
            obtain ⟨gg, rfl, rfl, rfl, hmv⟩ := hcut
            obtain ⟨wq, hwq⟩ : ∃ x, x = wc := ⟨_, rfl⟩
            subst hwq
            obtain ⟨m1, m2, m3⟩ := hmv.out
            obtain ⟨i0, i1, -, -⟩ := row2 m3
            have hqw := HQ.out.keep (m1.block _ HQ.out.lt)
            obtain ⟨j0, j1, f0, f1⟩ := row2 hqw
            simp only at i0 i1 j0 j1
            have HM1 := Lib.hid m1
            have HGG := Lib.hid m3
            have HQ2 := Lib.hid hqw
            have HBW2 : Hid (Below w3.heap.size w3 wq) := HBW.out.trans (m1.mono HBW.out.size)
            clear m1 m2 m3 hmv hqw q0 q1 y0 y1 HR0 HR1
            cases ok with
            | true =>
              have hne : ((gi, gj) : Pl) ≠ (pi, pj) := of_decide_eq_true HO2.out
              have HNX : Hid ((stepsP g (i + 1) (c1, c2) (c1, c2)).1 = (gi, gj)) := by
                show _ = _
                rw [stepsP_succ, HP.out]; exact HGP.out
              have HMV2 : Hid (0 < i + 1 → g (c1, c2) ≠ (c1, c2)) := by
                intro _
                by_cases h0 : i = 0
                · subst h0
                  have e : ((c1, c2) : Pl) = (pi, pj) := HP.out
                  rw [e, HGP.out]; exact hne
                · exact HMV.out (by omega)
              have hBqw : w3.heap.size ≤ Bq := hBq3
              clear hne
              go_wp2_with fail
              go_roundw
              case rel =>
                refine ⟨i + 1, true, by go_num, rfl, by show true = decide (0 < i + 1); simp, by omega, ?_, HMV2.out, ?_⟩
                · rw [HNX.out]; exact heap_set (heap_set HQ2.out 0 _) 1 _
                · exact setCell_below (setCell_below HBW2.out _ _ _ hBqw) _ _ _ hBqw
              case measure => simp [intOf]; omega
            | false =>
              have heq : ((gi, gj) : Pl) = (pi, pj) := Classical.not_not.1 (of_decide_eq_false HO2.out)
              have HSV : Hid (decide (g (c1, c2) ≠ (c1, c2)) = sv) := by
                show _ = _
                rw [HS0.out]
                by_cases h0 : i = 0
                · subst h0
                  have e : ((c1, c2) : Pl) = (pi, pj) := HP.out
                  have e2 : g (c1, c2) = (c1, c2) := by rw [e, HGP.out]; exact heq
                  simp [e2]
                · have := HMV.out (by omega)
                  simp [this]; omega
              have HRES : Hid ((stepsP g nn (c1, c2) (c1, c2)).1 = (pi, pj)) := by
                show _ = _
                have e : g (stepsP g i (c1, c2) (c1, c2)).1 = (stepsP g i (c1, c2) (c1, c2)).1 := by rw [HP.out, HGP.out]; exact heq
                have := stepsP_stop e (nn - i)
                rw [show i + (nn - i) = nn by omega, HP.out] at this
                exact this
              have kc1 := (HM1.out.cell (p := ⟨kb, ko + kk, none⟩) hkbl).trans kc0
              clear heq hkbl hBql KS
              go_wp2_with fail
              obtain ⟨h2, hen⟩ := HEN.out
              rw [HRES.out, HSV.out] at hen
              unfold plV at hen
              simp only at hen
              have HE2 : Hid (∀ w' : World, Hid (Below wq.heap.size wq w') → Calls Try.prog 10 #[.slice a n c, .agg #[.int .i64 u, .int .i64 v], .agg #[.int .i32 key, .int .i64 (nn : Nat), .int .i32 0, .int .i64 0], .bool false] w' fun e w2 => e = .returned (.tuple #[.agg #[.int .i64 (pi : Nat), .int .i64 (pj : Nat)], .int .i64 h2, .bool sv]) ∧ Hid (Below wq.heap.size wq w2) ∧ Hid (∀ g, ZeroP w' g → ZeroP w2 g)) := fun w' hb => upZ hb (hen w' (btr D3.out (HBW2.out.trans (hb.out.mono HBW2.out.size))))
              clear hen
              obtain ⟨r0, r1⟩ : wq.cell? ⟨W.heap.size, 0, none⟩ = some (.int .i64 u) ∧ wq.cell? ⟨W.heap.size, 1, none⟩ = some (.int .i64 v) := by
                obtain ⟨e1, e2, -, -⟩ := row2 (keep2 G1.out (btr D3.out HBW2.out))
                exact ⟨e1, e2⟩
              have hWl : W.heap.size < wq.heap.size := heap_lt (keep2 G1.out (btr D3.out HBW2.out))
              have hkbl : kb < wq.heap.size := by have := HBW2.out.size; omega
              have KS2 : Hid (∀ w' : World, Below wq.heap.size wq w' → Below wq.heap.size wq w' ∧ w'.cell? ⟨W.heap.size, 0, none⟩ = some (.int .i64 u) ∧ w'.cell? ⟨W.heap.size, 1, none⟩ = some (.int .i64 v) ∧ w'.cell? ⟨kb, ko + kk, none⟩ = some (.int .i32 key)) := fun w' hb => ⟨hb, (hb.cell (p := ⟨W.heap.size, 0, none⟩) hWl).trans r0, (hb.cell (p := ⟨W.heap.size, 1, none⟩) hWl).trans r1, (hb.cell (p := ⟨kb, ko + kk, none⟩) hkbl).trans kc1⟩
              have HR0 : Hid (Below wq.heap.size wq wq) := Below.refl _ _
              have HR1 : Hid (Below wq.heap.size wq wq.drew) := (Below.refl _ _).drew
              go_upto_region 16 with fail
              go_cut [16, 17, 18] from 67 to 79 (fun v1 v2 v3 wx => ∃ gg, v1 = .pointer (some ⟨gg, 0, none⟩) ∧ v2 = .int .i64 h2 ∧ v3 = .bool sv ∧ Hid (MvS wq wx gg (pi, pj)))
              case first =>
                go_region_held3 (fun w' => Below wq.heap.size wq w' ∧ w'.cell? ⟨W.heap.size, 0, none⟩ = some (.int .i64 u) ∧ w'.cell? ⟨W.heap.size, 1, none⟩ = some (.int .i64 v) ∧ w'.cell? ⟨kb, ko + kk, none⟩ = some (.int .i32 key))
                  (first
                    | exact KS2.out _ HR0.out
                    | exact KS2.out _ HR1.out
                    | exact KS2.out _ q1.out
                    | exact KS2.out _ (HR1.out.alloc HR1.out.size _)
                    | exact KS2.out _ (q1.out.alloc q1.out.size _)
                    | exact KS2.out _ (HR0.out.alloc HR0.out.size _)
                    | exact KS2.out _ (HR0.out.alloc HR0.out.size _).drew
                    | (refine KS2.out _ (Below.setCell (Below.setCell q1.out ?_ _) ?_ _) <;> first | exact Nat.le_refl _ | exact q1.out.size))
                  (first | (go_at_call 10; (with_reducible refine (HE2.out _ (by first | exact HR0 | exact HR1 | exact Lib.hid (HR0.out.alloc HR0.out.size _).drew | exact Lib.hid (HR1.out.alloc HR1.out.size _))).mono ?_); rintro e1 w1 ⟨rfl, q1, p1⟩; (try (have hz1 : ZeroP w1 _ := (by first | with_reducible exact p1.out _ (ZeroP.new _) | with_reducible exact p1.out _ (ZeroP.new _).drew); obtain ⟨z10, z11, z12, z13, z14⟩ := hz1.facts))))
                all_goals
                  go_wp2_with fail
                  go_meet
                  first
                    | exact ⟨_, rfl, rfl, rfl, Lib.hid (mv_new (pi, pj) q1.out)⟩
                    | exact ⟨_, rfl, rfl, rfl, Lib.hid (mv_set (pi, pj) hz1 (Nat.le_refl _) q1.out)⟩
              case rest =>
                obtain ⟨gg, rfl, rfl, rfl, hmv⟩ := hcut
                obtain ⟨wz, hwq⟩ : ∃ x, x = wc := ⟨_, rfl⟩
                subst hwq
                obtain ⟨m1, m2, m3⟩ := hmv.out
                obtain ⟨i0, i1, -, -⟩ := row2 m3
                obtain ⟨j0, j1, -, -⟩ := row2 (keep2 HQ2.out m1)
                simp only at i0 i1 j0 j1
                have HM1 := Lib.hid m1
                clear m1 m2 m3 hmv r0 r1
                try clear q0 q1 y0 y1
                try clear i0' i1'
                cases sv
                all_goals
                  go_wp2_with (go_at_call 8; refine (HAW.out _).mono ?_; rintro e w9 ⟨rfl, hb9⟩)
                  go_ret
                  exact ⟨rfl, btr HB1.out (btr D3.out (btr HBW2.out (btr HM1.out hb9)))⟩
        · obtain rfl : nn = i := by omega
          have HSV : Hid (decide (g (c1, c2) ≠ (c1, c2)) = sv) := by
            show _ = _
            rw [HS0.out]
            have := HMV.out (by omega)
            simp [this]; omega
          have HRES : Hid ((stepsP g nn (c1, c2) (c1, c2)).1 = (pi, pj)) := HP.out
          obtain ⟨h2, hen⟩ := HEN.out
          rw [HRES.out, HSV.out] at hen
          unfold plV at hen
          simp only at hen
          have HE2 : Hid (∀ w' : World, Hid (Below wr.heap.size wr w') → Calls Try.prog 10 #[.slice a n c, .agg #[.int .i64 u, .int .i64 v], .agg #[.int .i32 key, .int .i64 (nn : Nat), .int .i32 0, .int .i64 0], .bool false] w' fun e w2 => e = .returned (.tuple #[.agg #[.int .i64 (pi : Nat), .int .i64 (pj : Nat)], .int .i64 h2, .bool sv]) ∧ Hid (Below wr.heap.size wr w2) ∧ Hid (∀ g, ZeroP w' g → ZeroP w2 g)) := fun w' hb => upZ hb (hen w' (btr D3.out (HBW.out.trans (hb.out.mono HBW.out.size))))
          clear hen
          obtain ⟨r0, r1⟩ : wr.cell? ⟨W.heap.size, 0, none⟩ = some (.int .i64 u) ∧ wr.cell? ⟨W.heap.size, 1, none⟩ = some (.int .i64 v) := by
            obtain ⟨e1, e2, -, -⟩ := row2 (keep2 G1.out (btr D3.out HBW.out))
            exact ⟨e1, e2⟩
          have hWl : W.heap.size < wr.heap.size := heap_lt (keep2 G1.out (btr D3.out HBW.out))
          have hkbl : kb < wr.heap.size := by have := HBW.out.size; omega
          have KS2 : Hid (∀ w' : World, Below wr.heap.size wr w' → Below wr.heap.size wr w' ∧ w'.cell? ⟨W.heap.size, 0, none⟩ = some (.int .i64 u) ∧ w'.cell? ⟨W.heap.size, 1, none⟩ = some (.int .i64 v) ∧ w'.cell? ⟨kb, ko + kk, none⟩ = some (.int .i32 key)) := fun w' hb => ⟨hb, (hb.cell (p := ⟨W.heap.size, 0, none⟩) hWl).trans r0, (hb.cell (p := ⟨W.heap.size, 1, none⟩) hWl).trans r1, (hb.cell (p := ⟨kb, ko + kk, none⟩) hkbl).trans kc0⟩
          have HR0 : Hid (Below wr.heap.size wr wr) := Below.refl _ _
          have HR1 : Hid (Below wr.heap.size wr wr.drew) := (Below.refl _ _).drew
          go_upto_region 16 with fail
          go_cut [16, 17, 18] from 67 to 79 (fun v1 v2 v3 wx => ∃ gg, v1 = .pointer (some ⟨gg, 0, none⟩) ∧ v2 = .int .i64 h2 ∧ v3 = .bool sv ∧ Hid (MvS wr wx gg (pi, pj)))
          case first =>
            go_region_held3 (fun w' => Below wr.heap.size wr w' ∧ w'.cell? ⟨W.heap.size, 0, none⟩ = some (.int .i64 u) ∧ w'.cell? ⟨W.heap.size, 1, none⟩ = some (.int .i64 v) ∧ w'.cell? ⟨kb, ko + kk, none⟩ = some (.int .i32 key))
              (first
                | exact KS2.out _ HR0.out
                | exact KS2.out _ HR1.out
                | exact KS2.out _ q1.out
                | exact KS2.out _ (HR1.out.alloc HR1.out.size _)
                | exact KS2.out _ (q1.out.alloc q1.out.size _)
                | exact KS2.out _ (HR0.out.alloc HR0.out.size _)
                | exact KS2.out _ (HR0.out.alloc HR0.out.size _).drew
                | (refine KS2.out _ (Below.setCell (Below.setCell q1.out ?_ _) ?_ _) <;> first | exact Nat.le_refl _ | exact q1.out.size))
              (first | (go_at_call 10; (with_reducible refine (HE2.out _ (by first | exact HR0 | exact HR1 | exact Lib.hid (HR0.out.alloc HR0.out.size _).drew | exact Lib.hid (HR1.out.alloc HR1.out.size _))).mono ?_); rintro e1 w1 ⟨rfl, q1, p1⟩; (try (have hz1 : ZeroP w1 _ := (by first | with_reducible exact p1.out _ (ZeroP.new _) | with_reducible exact p1.out _ (ZeroP.new _).drew); obtain ⟨z10, z11, z12, z13, z14⟩ := hz1.facts))))
            all_goals
              go_wp2_with fail
              go_meet
              first
                | exact ⟨_, rfl, rfl, rfl, Lib.hid (mv_new (pi, pj) q1.out)⟩
                | exact ⟨_, rfl, rfl, rfl, Lib.hid (mv_set (pi, pj) hz1 (Nat.le_refl _) q1.out)⟩
          case rest =>
            obtain ⟨gg, rfl, rfl, rfl, hmv⟩ := hcut
            obtain ⟨wz, hwq⟩ : ∃ x, x = wc := ⟨_, rfl⟩
            subst hwq
            obtain ⟨m1, m2, m3⟩ := hmv.out
            obtain ⟨i0, i1, -, -⟩ := row2 m3
            obtain ⟨j0, j1, -, -⟩ := row2 (keep2 HQ.out m1)
            simp only at i0 i1 j0 j1
            have HM1 := Lib.hid m1
            clear m1 m2 m3 hmv r0 r1
            try clear q0 q1 y0 y1
            try clear i0' i1'
            cases sv
            all_goals
              go_wp2_with (go_at_call 8; refine (HAW.out _).mono ?_; rintro e w9 ⟨rfl, hb9⟩)
              go_ret
              exact ⟨rfl, btr HB1.out (btr D3.out (btr HBW.out (btr HM1.out hb9)))⟩
end Go.Proofs.Ytikdojebnbmpoaa.U
