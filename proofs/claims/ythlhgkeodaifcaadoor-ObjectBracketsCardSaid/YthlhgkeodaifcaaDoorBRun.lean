/-
  The document's run. (MADE by wip/tools/gen_rrun.py.)
-/
import Derived.Test.YthlhgkeodaifcaaDoorBAwake
namespace Go.Proofs.YthlhgkeodaifcaaDoor.U
open Go.RowKit
set_option linter.unusedVariables false
set_option linter.unusedSimpArgs false
set_option maxRecDepth 100000
set_option maxHeartbeats 2000000 in
theorem rrun_any (a : Option Addr) (m c : Nat) (x : List Int) (col : Nat) (big : Bool) (w : World) (h : Rd .i32 w a m c x) (hcol : col < m) :
    Calls Tryd.prog 32 #[.slice a m c, .int .i64 (col : Nat), .bool big] w fun e w' => e = .returned (.tuple #[.int .i64 ((runC big x col).1 : Nat), .int .i64 ((runC big x col).2 : Nat)]) ∧ w = w' := by
  have hms := h.small
  have hml := h.len
  obtain ⟨rb, ro, rfl, hrb, hc⟩ := h.all_ (by omega)
  have c0 := hc col hcol
  unfold runC spanC
  rw [hml]
  simp only
  obtain ⟨f, hf⟩ : ∃ f : Nat → Bool, (fun k => clsAt big x k == clsAt big x col) = f := ⟨_, rfl⟩
  rw [hf]
  obtain ⟨r0, hr0⟩ : ∃ r, x.getD col 0 = r := ⟨_, rfl⟩
  rw [hr0] at c0
  obtain ⟨cc, hcc⟩ : ∃ k, cls big r0 = k := ⟨_, rfl⟩
  have HF : Hid (∀ k, f k = (cls big (x.getD k 0) == cc)) := by
    intro k
    rw [← hf, ← hcc, ← hr0]; rfl
  obtain ⟨lo, hlo⟩ : ∃ lo, lowC f col = lo := ⟨_, rfl⟩
  obtain ⟨hi, hhi⟩ : ∃ hi, highC f (m - 1 - col) col = hi := ⟨_, rfl⟩
  rw [hlo, hhi]
  have HLO := Lib.hid hlo
  have HHI := Lib.hid hhi
  have HC := Lib.hid hc
  have HCC := Lib.hid hcc
  clear hf hr0 hcc hlo hhi hc h hml
  go_enter Tryd.func32, Tryd.ntmps32
  go_wp2_with (go_at_call 14; refine (rclass_any _ _ _).mono ?_; rintro e w' ⟨rfl, hw⟩; subst hw; rw [HCC.out])
  go_loopw [9] (fun v9 wr => ∃ i : Nat, v9 = .int .i64 (i : Nat) ∧ i ≤ col ∧ wr = w ∧ Hid (lowC f i = lo)) (fun v9 _ => (intOf v9).toNat)
  case atStart => exact ⟨col, rfl, Nat.le_refl _, rfl, HLO.out⟩
  case round =>
    obtain ⟨i, rfl, hic, rfl, HT⟩ := hrel
    by_cases h0 : i = 0
    · have hl0 : i = lo := by rw [← HT.out, h0]; rfl
      have g1 : ¬ (0 : Int) < (i : Int) := by omega
      have g2 : decide ((0 : Int) < (i : Int)) = false := by simp; omega
      have g3 : decide (0 < i) = false := by simp; omega
      subst hl0
      clear HT h0
      go_wp2_with fail
      obtain ⟨wq, hwq⟩ : ∃ x, x = wr := ⟨_, rfl⟩
      subst hwq
      go_loopw [10] (fun v10 wr => ∃ j : Nat, v10 = .int .i64 (j : Nat) ∧ j < m ∧ wr = wq ∧ Hid (highC f (m - 1 - j) j = hi)) (fun v10 _ => m - (intOf v10).toNat)
      case atStart => exact ⟨col, rfl, hcol, rfl, HHI.out⟩
      case round =>
        obtain ⟨j, rfl, hjm, rfl, HT⟩ := hrel
        by_cases hj : j + 1 < m
        · obtain ⟨d, hd⟩ : ∃ d, m - 1 - j = d + 1 := ⟨m - 1 - j - 1, by omega⟩
          have ht := HT.out
          rw [hd, highC] at ht
          obtain ⟨j1, hj1⟩ : ∃ j1, j + 1 = j1 := ⟨_, rfl⟩
          have hd2 : d = m - 1 - j1 := by omega
          rw [hd2, hj1] at ht
          have c1 := HC.out j1 (by omega)
          obtain ⟨r1, hr1⟩ : ∃ r, x.getD j1 0 = r := ⟨_, rfl⟩
          rw [hr1] at c1
          have hf := HF.out j1
          rw [hr1] at hf
          have s1 : (j : Int) + 1 = (j1 : Int) := by omega
          have g1 : (j1 : Int) < (m : Int) := by omega
          have g2 : decide ((j1 : Int) < (m : Int)) = true := by simp; omega
          have g3 : decide (j1 < m) = true := by simp; omega
          have g4 : j1 < m := by omega
          obtain ⟨k1, hk1⟩ : ∃ k, cls big r1 = k := ⟨_, rfl⟩
          have HK1 := Lib.hid hk1
          rw [hk1] at hf
          have HT2 := Lib.hid ht
          have HJ : Hid (j < j1) := by show _ < _; omega
          clear ht hr1 hk1 hd hd2 hj1 HT
          cases hfv : f j1 with
          | true =>
            have e1 : (k1 == cc) = true := by rw [← hf]; exact hfv
            have HN : Hid (highC f (m - 1 - j1) j1 = hi) := by have := HT2.out; rwa [if_pos hfv] at this
            clear hfv hf HT2
            go_wp2_with (go_at_call 14; refine (rclass_any _ _ _).mono ?_; rintro e w' ⟨rfl, hw⟩; subst hw; rw [HK1.out])
            go_roundw
            case rel => exact ⟨j1, rfl, g4, by first | rfl | trivial, HN.out⟩
            case measure => have := HJ.out; simp [intOf]; omega
          | false =>
            have e1 : (k1 == cc) = false := by rw [← hf]; exact hfv
            have hjh : j = hi := by have := HT2.out; rwa [hfv, if_neg (by decide)] at this
            clear hfv hf HT2
            subst hjh
            go_wp2_with (go_at_call 14; refine (rclass_any _ _ _).mono ?_; rintro e w' ⟨rfl, hw⟩; subst hw; rw [HK1.out])
            go_ret2
            exact ⟨rfl, rfl⟩
        · have hjh : j = hi := by
            have := HT.out
            rw [show m - 1 - j = 0 by omega, highC] at this
            exact this
          subst hjh
          have g1 : ¬ (j : Int) + 1 < (m : Int) := by omega
          have g2 : decide ((j : Int) + 1 < (m : Int)) = false := by simp; omega
          have g3 : decide (j + 1 < m) = false := by simp; omega
          go_wp2_with fail
          go_ret2
          exact ⟨rfl, rfl⟩
    · obtain ⟨k, rfl⟩ : ∃ k, i = k + 1 := ⟨i - 1, by omega⟩
      have ht := HT.out
      rw [lowC] at ht
      have c1 := HC.out k (by omega)
      obtain ⟨r1, hr1⟩ : ∃ r, x.getD k 0 = r := ⟨_, rfl⟩
      rw [hr1] at c1
      have hf := HF.out k
      rw [hr1] at hf
      obtain ⟨i, hi1⟩ : ∃ i, k + 1 = i := ⟨_, rfl⟩
      rw [hi1] at ht hic ⊢
      have s1 : (i : Int) - 1 = (k : Int) := by omega
      have g1 : (0 : Int) < (i : Int) := by omega
      have g2 : decide ((0 : Int) < (i : Int)) = true := by simp; omega
      have g3 : decide (0 < i) = true := by simp; omega
      have g4 : k < m := by omega
      have g5 : (i : Int) ≤ 9223372036854775807 := by omega
      obtain ⟨k1, hk1⟩ : ∃ k, cls big r1 = k := ⟨_, rfl⟩
      have HK1 := Lib.hid hk1
      rw [hk1] at hf
      have HT2 := Lib.hid ht
      have HJ : Hid (k < i ∧ k ≤ col) := ⟨by omega, by omega⟩
      clear ht hr1 hk1 hi1 HT h0
      cases hfv : f k with
      | true =>
        have e1 : (k1 == cc) = true := by rw [← hf]; exact hfv
        have HN : Hid (lowC f k = lo) := by have := HT2.out; rwa [if_pos hfv] at this
        clear hfv hf HT2
        go_wp2_with (go_at_call 14; refine (rclass_any _ _ _).mono ?_; rintro e w' ⟨rfl, hw⟩; subst hw; rw [HK1.out])
        go_roundw
        case rel => exact ⟨k, rfl, HJ.out.2, by first | rfl | trivial, HN.out⟩
        case measure => have := HJ.out; simp [intOf]; omega
      | false =>
        have e1 : (k1 == cc) = false := by rw [← hf]; exact hfv
        have hjh : i = lo := by have := HT2.out; rwa [hfv, if_neg (by decide)] at this
        clear hfv hf HT2
        subst hjh
        go_wp2_with (go_at_call 14; refine (rclass_any _ _ _).mono ?_; rintro e w' ⟨rfl, hw⟩; subst hw; rw [HK1.out])
        obtain ⟨wq, hwq⟩ : ∃ x, x = wr := ⟨_, rfl⟩
        subst hwq
        go_loopw [10] (fun v10 wr => ∃ j : Nat, v10 = .int .i64 (j : Nat) ∧ j < m ∧ wr = wq ∧ Hid (highC f (m - 1 - j) j = hi)) (fun v10 _ => m - (intOf v10).toNat)
        case atStart => exact ⟨col, rfl, hcol, rfl, HHI.out⟩
        case round =>
          obtain ⟨j, rfl, hjm, rfl, HT⟩ := hrel
          by_cases hj : j + 1 < m
          · obtain ⟨d, hd⟩ : ∃ d, m - 1 - j = d + 1 := ⟨m - 1 - j - 1, by omega⟩
            have ht := HT.out
            rw [hd, highC] at ht
            obtain ⟨j1, hj1⟩ : ∃ j1, j + 1 = j1 := ⟨_, rfl⟩
            have hd2 : d = m - 1 - j1 := by omega
            rw [hd2, hj1] at ht
            have c1 := HC.out j1 (by omega)
            obtain ⟨r1, hr1⟩ : ∃ r, x.getD j1 0 = r := ⟨_, rfl⟩
            rw [hr1] at c1
            have hf := HF.out j1
            rw [hr1] at hf
            have s1 : (j : Int) + 1 = (j1 : Int) := by omega
            have g1 : (j1 : Int) < (m : Int) := by omega
            have g2 : decide ((j1 : Int) < (m : Int)) = true := by simp; omega
            have g3 : decide (j1 < m) = true := by simp; omega
            have g4 : j1 < m := by omega
            obtain ⟨k1, hk1⟩ : ∃ k, cls big r1 = k := ⟨_, rfl⟩
            have HK1 := Lib.hid hk1
            rw [hk1] at hf
            have HT2 := Lib.hid ht
            have HJ : Hid (j < j1) := by show _ < _; omega
            clear ht hr1 hk1 hd hd2 hj1 HT
            cases hfv : f j1 with
            | true =>
              have e1 : (k1 == cc) = true := by rw [← hf]; exact hfv
              have HN : Hid (highC f (m - 1 - j1) j1 = hi) := by have := HT2.out; rwa [if_pos hfv] at this
              clear hfv hf HT2
              go_wp2_with (go_at_call 14; refine (rclass_any _ _ _).mono ?_; rintro e w' ⟨rfl, hw⟩; subst hw; rw [HK1.out])
              go_roundw
              case rel => exact ⟨j1, rfl, g4, by first | rfl | trivial, HN.out⟩
              case measure => have := HJ.out; simp [intOf]; omega
            | false =>
              have e1 : (k1 == cc) = false := by rw [← hf]; exact hfv
              have hjh : j = hi := by have := HT2.out; rwa [hfv, if_neg (by decide)] at this
              clear hfv hf HT2
              subst hjh
              go_wp2_with (go_at_call 14; refine (rclass_any _ _ _).mono ?_; rintro e w' ⟨rfl, hw⟩; subst hw; rw [HK1.out])
              go_ret2
              exact ⟨rfl, rfl⟩
          · have hjh : j = hi := by
              have := HT.out
              rw [show m - 1 - j = 0 by omega, highC] at this
              exact this
            subst hjh
            have g1 : ¬ (j : Int) + 1 < (m : Int) := by omega
            have g2 : decide ((j : Int) + 1 < (m : Int)) = false := by simp; omega
            have g3 : decide (j + 1 < m) = false := by simp; omega
            go_wp2_with fail
            go_ret2
            exact ⟨rfl, rfl⟩
end Go.Proofs.YthlhgkeodaifcaaDoor.U
