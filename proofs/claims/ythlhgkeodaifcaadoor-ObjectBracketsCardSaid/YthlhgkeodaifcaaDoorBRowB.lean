/-
  The run of a row that has a place, over the closure block$1. (MADE by wip/tools/gen_brow.py.)
-/
import Derived.Test.YthlhgkeodaifcaaDoorBRow
namespace Go.Proofs.YthlhgkeodaifcaaDoor.U
open Go.RowKit
set_option linter.unusedVariables false
set_option linter.unusedSimpArgs false
set_option maxRecDepth 100000

set_option maxHeartbeats 2000000 in
theorem run_B (Ba : Nat) (g : Nat → Int) (n : Nat) (w : World) (hn : n ≤ 9223372036854775807)
    (hcl : ∀ (k : Nat) (W : World), k < n → Below w.heap.size w W → Calls Tryd.prog 39 #[.int .i64 (k : Nat), .pointer (some ⟨Ba, 0, none⟩)] W fun e w' => e = .returned (.int .i64 (g k)) ∧ Below W.heap.size W w') (i fr te : Nat) (hi : i < n) (hfr : (spanC g n i).1 = fr) (hto : (spanC g n i).2 + 1 = te) :
    Calls Tryd.prog 44 #[.agg #[.int .i64 (n : Nat), .func (.func 39) #[] #[.pointer (some ⟨Ba, 0, none⟩)]], .int .i64 (i : Nat)] w fun e w' => e = .returned (.agg #[.int .i64 (fr : Nat), .int .i64 (te : Nat)]) ∧ Below w.heap.size w w' := by
  unfold spanC at hfr hto
  simp only at hfr hto
  obtain ⟨cc, hcc⟩ : ∃ k, g i = k := ⟨_, rfl⟩
  obtain ⟨f, hf⟩ : ∃ f : Nat → Bool, (fun k => g k == g i) = f := ⟨_, rfl⟩
  rw [hf] at hfr hto
  have HF : Hid (∀ k, f k = (g k == cc)) := by
    intro k
    rw [← hf, ← hcc]
  obtain ⟨hh, hhi⟩ : ∃ hh, highC f (n - 1 - i) i = hh := ⟨_, rfl⟩
  rw [hhi] at hto
  have HHI := Lib.hid hhi
  have HTO := Lib.hid hto
  have HLO := Lib.hid hfr
  have HC := Lib.hid hcl
  have HCC := Lib.hid hcc
  obtain ⟨i1, hi1⟩ : ∃ i1, i + 1 = i1 := ⟨_, rfl⟩
  have t1 : (i : Int) + 1 = (i1 : Int) := by omega
  have HI1 := Lib.hid hi1
  have hii : i1 ≤ n := by omega
  obtain ⟨w1, hw1, hsz, g1, g2, hb1⟩ := two2 w (.cells #[.int .i64 (n : Nat), .func (.func 39) #[] #[.pointer (some ⟨Ba, 0, none⟩)]] 68) (.cells #[.int .i64 0, .int .i64 0] 70)
  obtain ⟨x0, x1⟩ := rowF g1
  have HW1 := Lib.hid hw1
  have HB1 := Lib.hid hb1
  have G1 := Lib.hid g1
  have G2 := Lib.hid g2
  clear hf hcc hhi hto hfr hcl hw1 hb1 g1 g2 hsz hi1
  go_enter Tryd.func44, Tryd.ntmps44
  go_upto_region 1 with fail
  rw [HW1.out]
  go_upto_region 2 with (go_at_call 39; refine (HC.out i _ hi HB1.out).mono ?_; rintro e w3 ⟨rfl, hb3⟩; rw [HCC.out])
  obtain ⟨w4, hw4, hsz4, g4, hb4⟩ := one1 w3 (.cells #[.int .i64 (i : Nat), .int .i64 (i1 : Nat)] 70)
  rw [hw4]
  obtain ⟨S, hS⟩ : ∃ S, w3.heap.size = S := ⟨_, rfl⟩
  rw [hS] at g4
  rw [hS]
  have HS : Hid (RnS w (.cells #[.int .i64 (n : Nat), .func (.func 39) #[] #[.pointer (some ⟨Ba, 0, none⟩)]] 68 (0, 0)) S (i : Nat) (i1 : Nat) w4) := by
    have h34 := btr hb3 hb4
    have hg2 := keepO G2.out hb3
    exact ⟨btr HB1.out h34, keepO G1.out h34, keepO G2.out h34, g4, by rw [← hS]; exact (Array.getElem?_eq_some_iff.1 hg2).1⟩
  clear hw4 hsz4 g4 hb4 hb3 x0 x1 hS
  go_loopw [15] (fun v15 wr => ∃ k : Nat, k ≤ i ∧ Hid (RnS w (.cells #[.int .i64 (n : Nat), .func (.func 39) #[] #[.pointer (some ⟨Ba, 0, none⟩)]] 68 (0, 0)) S (k : Nat) (i1 : Nat) wr) ∧ Hid (lowC f k = fr)) (fun _ wr => mSp S 0 wr)
  case atStart => exact ⟨i, Nat.le_refl _, HS.out, HLO.out⟩
  case round =>
    clear HS HLO
    obtain ⟨k, hki, HS, HT⟩ := hrel
    obtain ⟨x0, x1⟩ := HS.out.row
    obtain ⟨s0, s1, sf0, sf1⟩ := HS.out.span
    obtain ⟨r0, r1, rf0, rf1⟩ := HS.out.res
    have nS0 : ¬ S = w.heap.size := by have := HS.out.2.2.2.2; omega
    have nS1 : ¬ S = w.heap.size + 1 := by have := HS.out.2.2.2.2; omega
    have nS2 : ¬ w.heap.size + 1 = S := by have := HS.out.2.2.2.2; omega
    by_cases h0 : k = 0
    · have hl0 : k = fr := by rw [← HT.out, h0]; rfl
      have g1 : ¬ (0 : Int) < (k : Int) := by omega
      have g2 : decide ((0 : Int) < (k : Int)) = false := by simp; omega
      have g3 : decide (0 < k) = false := by simp; omega
      subst hl0
      clear HT h0
      go_wp2_with fail
      clear x0 x1 s0 s1 sf0 sf1 r0 r1 rf0 rf1
      go_loopw [32] (fun v32 wr => ∃ j j1 : Nat, j1 ≤ n ∧ Hid (j + 1 = j1) ∧ Hid (RnS w (.cells #[.int .i64 (n : Nat), .func (.func 39) #[] #[.pointer (some ⟨Ba, 0, none⟩)]] 68 (0, 0)) S (k : Nat) (j1 : Nat) wr) ∧ Hid (highC f (n - 1 - j) j = hh)) (fun _ wr => n - mSp S 1 wr)
      case atStart => exact ⟨i, i1, hii, HI1.out, HS.out, HHI.out⟩
      case round =>
        clear HS
        obtain ⟨j, j1, hjn, HJ, HS, HT⟩ := hrel
        obtain ⟨x0, x1⟩ := HS.out.row
        obtain ⟨s0, s1, sf0, sf1⟩ := HS.out.span
        obtain ⟨r0, r1, rf0, rf1⟩ := HS.out.res
        by_cases hj : j1 < n
        · have g1 : (j1 : Int) < (n : Int) := by omega
          have g2 : decide ((j1 : Int) < (n : Int)) = true := by simp; omega
          have g3 : decide (j1 < n) = true := by simp; omega
          obtain ⟨j2, hj2⟩ : ∃ j2, j1 + 1 = j2 := ⟨_, rfl⟩
          have g4 : (j1 : Int) + 1 = (j2 : Int) := by omega
          have ht := HT.out
          obtain ⟨d, hd⟩ : ∃ d, n - 1 - j = d + 1 := ⟨n - 1 - j - 1, by have := HJ.out; omega⟩
          have hd2 : d = n - 1 - j1 := by have := HJ.out; omega
          rw [hd, highC, hd2, HJ.out] at ht
          obtain ⟨gk, hgk⟩ : ∃ y, g j1 = y := ⟨_, rfl⟩
          have hfk := HF.out j1
          rw [hgk] at hfk
          have HGK := Lib.hid hgk
          have HJ2 : Hid (j1 + 1 = j2) := hj2
          have HJN := Lib.hid hj
          clear hgk hd hd2 hj2 HT
          cases hfv : f j1 with
          | true =>
            have e1 : (gk == cc) = true := by rw [← hfk]; exact hfv
            rw [hfv, if_pos rfl] at ht
            have HT2 := Lib.hid ht
            clear ht hfk hfv hj
            go_wp2_with (go_at_call 39; refine (HC.out j1 _ HJN.out HS.out.1).mono ?_; rintro e w5 ⟨rfl, hb5⟩; rw [HGK.out]; have hs5 := HS.out.below hb5; obtain ⟨x0, x1⟩ := hs5.row; obtain ⟨s0, s1, sf0, sf1⟩ := hs5.span; have HS5 := Lib.hid hs5; clear hs5 hb5)
            go_roundw
            case rel => exact ⟨j1, j2, by have := HJN.out; have := HJ2.out; omega, HJ2.out, HS5.out.setT _, HT2.out⟩
            case measure =>
              rw [(HS5.out.setT _).m1, HS.out.m1]
              have := HJN.out
              have := HJ2.out
              omega
          | false =>
            have e1 : (gk == cc) = false := by rw [← hfk]; exact hfv
            rw [hfv, if_neg (by decide)] at ht
            have HE : Hid (j1 = te) := by show _ = _; rw [← HTO.out, ← ht, HJ.out]
            clear ht hfk hfv hj
            go_wp2_with (go_at_call 39; refine (HC.out j1 _ HJN.out HS.out.1).mono ?_; rintro e w5 ⟨rfl, hb5⟩; rw [HGK.out]; have hs5 := HS.out.below hb5; obtain ⟨x0, x1⟩ := hs5.row; obtain ⟨s0, s1, sf0, sf1⟩ := hs5.span; obtain ⟨r0, r1, rf0, rf1⟩ := hs5.res; have HS5 := Lib.hid hs5; clear hs5 hb5)
            refine bodyPost_ret (v := .agg #[.int .i64 (k : Nat), .int .i64 (j1 : Nat)]) ?_ rfl ⟨by rw [HE.out], ?_⟩
            · rw [results_cell1 rfl]
              go_simp
            · exact HS5.out.ends _ _
        · have g1 : ¬ (j1 : Int) < (n : Int) := by omega
          have g2 : decide ((j1 : Int) < (n : Int)) = false := by simp; omega
          have g3 : decide (j1 < n) = false := by simp; omega
          have HE : Hid (j1 = te) := by
            show _ = _
            have h2 := HT.out
            have h3 := HJ.out
            rw [show n - 1 - j = 0 by omega, highC] at h2
            rw [← HTO.out, ← h2]
            exact h3.symm
          clear hj
          go_wp2_with fail
          refine bodyPost_ret (v := .agg #[.int .i64 (k : Nat), .int .i64 (j1 : Nat)]) ?_ rfl ⟨by rw [HE.out], ?_⟩
          · rw [results_cell1 rfl]
            go_simp
          · exact HS.out.ends _ _
    · obtain ⟨k1, rfl⟩ : ∃ k1, k = k1 + 1 := ⟨k - 1, by omega⟩
      obtain ⟨kk, hkk⟩ : ∃ kk, k1 + 1 = kk := ⟨_, rfl⟩
      have ht := HT.out
      rw [lowC] at ht
      rw [hkk] at ht hki s0 HS
      have q0 : (0 : Int) < (kk : Int) := by omega
      have q1 : decide ((0 : Int) < (kk : Int)) = true := by simp; omega
      have q2 : decide (0 < kk) = true := by simp; omega
      have q3 : (kk : Int) - 1 = (k1 : Int) := by omega
      have q4 : k1 < n := by omega
      obtain ⟨gk, hgk⟩ : ∃ y, g k1 = y := ⟨_, rfl⟩
      have hfk := HF.out k1
      rw [hgk] at hfk
      have HGK := Lib.hid hgk
      have HKK : Hid (k1 + 1 = kk) := hkk
      clear hgk hkk h0 HT
      cases hfv : f k1 with
      | true =>
        have e1 : (gk == cc) = true := by rw [← hfk]; exact hfv
        rw [hfv, if_pos rfl] at ht
        have HT2 := Lib.hid ht
        clear ht hfk hfv
        go_wp2_with (go_at_call 39; refine (HC.out k1 _ q4 HS.out.1).mono ?_; rintro e w5 ⟨rfl, hb5⟩; rw [HGK.out]; have hs5 := HS.out.below hb5; obtain ⟨x0, x1⟩ := hs5.row; obtain ⟨s0, s1, sf0, sf1⟩ := hs5.span; have HS5 := Lib.hid hs5; clear hs5 hb5)
        go_roundw
        case rel => exact ⟨k1, by have := HKK.out; omega, HS5.out.setF _, HT2.out⟩
        case measure =>
          rw [(HS5.out.setF _).m0, HS.out.m0]
          have := HKK.out
          omega
      | false =>
        have e1 : (gk == cc) = false := by rw [← hfk]; exact hfv
        rw [hfv, if_neg (by decide)] at ht
        have hl0 : kk = fr := ht
        subst hl0
        clear ht hfk hfv
        go_wp2_with (go_at_call 39; refine (HC.out k1 _ q4 HS.out.1).mono ?_; rintro e w5 ⟨rfl, hb5⟩; rw [HGK.out]; have hs5 := HS.out.below hb5; obtain ⟨x0, x1⟩ := hs5.row; obtain ⟨s0, s1, sf0, sf1⟩ := hs5.span; obtain ⟨r0, r1, rf0, rf1⟩ := hs5.res; have HS5 := Lib.hid hs5; clear hs5 hb5)
        clear HS
        have HS := HS5
        clear HS5 HKK
        clear x0 x1 s0 s1 sf0 sf1 r0 r1 rf0 rf1
        go_loopw [32] (fun v32 wr => ∃ j j1 : Nat, j1 ≤ n ∧ Hid (j + 1 = j1) ∧ Hid (RnS w (.cells #[.int .i64 (n : Nat), .func (.func 39) #[] #[.pointer (some ⟨Ba, 0, none⟩)]] 68 (0, 0)) S (kk : Nat) (j1 : Nat) wr) ∧ Hid (highC f (n - 1 - j) j = hh)) (fun _ wr => n - mSp S 1 wr)
        case atStart => exact ⟨i, i1, hii, HI1.out, HS.out, HHI.out⟩
        case round =>
          clear HS
          obtain ⟨j, j1, hjn, HJ, HS, HT⟩ := hrel
          obtain ⟨x0, x1⟩ := HS.out.row
          obtain ⟨s0, s1, sf0, sf1⟩ := HS.out.span
          obtain ⟨r0, r1, rf0, rf1⟩ := HS.out.res
          by_cases hj : j1 < n
          · have g1 : (j1 : Int) < (n : Int) := by omega
            have g2 : decide ((j1 : Int) < (n : Int)) = true := by simp; omega
            have g3 : decide (j1 < n) = true := by simp; omega
            obtain ⟨j2, hj2⟩ : ∃ j2, j1 + 1 = j2 := ⟨_, rfl⟩
            have g4 : (j1 : Int) + 1 = (j2 : Int) := by omega
            have ht := HT.out
            obtain ⟨d, hd⟩ : ∃ d, n - 1 - j = d + 1 := ⟨n - 1 - j - 1, by have := HJ.out; omega⟩
            have hd2 : d = n - 1 - j1 := by have := HJ.out; omega
            rw [hd, highC, hd2, HJ.out] at ht
            obtain ⟨gk, hgk⟩ : ∃ y, g j1 = y := ⟨_, rfl⟩
            have hfk := HF.out j1
            rw [hgk] at hfk
            have HGK := Lib.hid hgk
            have HJ2 : Hid (j1 + 1 = j2) := hj2
            have HJN := Lib.hid hj
            clear hgk hd hd2 hj2 HT
            cases hfv : f j1 with
            | true =>
              have e1 : (gk == cc) = true := by rw [← hfk]; exact hfv
              rw [hfv, if_pos rfl] at ht
              have HT2 := Lib.hid ht
              clear ht hfk hfv hj
              go_wp2_with (go_at_call 39; refine (HC.out j1 _ HJN.out HS.out.1).mono ?_; rintro e w5 ⟨rfl, hb5⟩; rw [HGK.out]; have hs5 := HS.out.below hb5; obtain ⟨x0, x1⟩ := hs5.row; obtain ⟨s0, s1, sf0, sf1⟩ := hs5.span; have HS5 := Lib.hid hs5; clear hs5 hb5)
              go_roundw
              case rel => exact ⟨j1, j2, by have := HJN.out; have := HJ2.out; omega, HJ2.out, HS5.out.setT _, HT2.out⟩
              case measure =>
                rw [(HS5.out.setT _).m1, HS.out.m1]
                have := HJN.out
                have := HJ2.out
                omega
            | false =>
              have e1 : (gk == cc) = false := by rw [← hfk]; exact hfv
              rw [hfv, if_neg (by decide)] at ht
              have HE : Hid (j1 = te) := by show _ = _; rw [← HTO.out, ← ht, HJ.out]
              clear ht hfk hfv hj
              go_wp2_with (go_at_call 39; refine (HC.out j1 _ HJN.out HS.out.1).mono ?_; rintro e w5 ⟨rfl, hb5⟩; rw [HGK.out]; have hs5 := HS.out.below hb5; obtain ⟨x0, x1⟩ := hs5.row; obtain ⟨s0, s1, sf0, sf1⟩ := hs5.span; obtain ⟨r0, r1, rf0, rf1⟩ := hs5.res; have HS5 := Lib.hid hs5; clear hs5 hb5)
              refine bodyPost_ret (v := .agg #[.int .i64 (kk : Nat), .int .i64 (j1 : Nat)]) ?_ rfl ⟨by rw [HE.out], ?_⟩
              · rw [results_cell1 rfl]
                go_simp
              · exact HS5.out.ends _ _
          · have g1 : ¬ (j1 : Int) < (n : Int) := by omega
            have g2 : decide ((j1 : Int) < (n : Int)) = false := by simp; omega
            have g3 : decide (j1 < n) = false := by simp; omega
            have HE : Hid (j1 = te) := by
              show _ = _
              have h2 := HT.out
              have h3 := HJ.out
              rw [show n - 1 - j = 0 by omega, highC] at h2
              rw [← HTO.out, ← h2]
              exact h3.symm
            clear hj
            go_wp2_with fail
            refine bodyPost_ret (v := .agg #[.int .i64 (kk : Nat), .int .i64 (j1 : Nat)]) ?_ rfl ⟨by rw [HE.out], ?_⟩
            · rw [results_cell1 rfl]
              go_simp
            · exact HS.out.ends _ _
end Go.Proofs.YthlhgkeodaifcaaDoor.U
