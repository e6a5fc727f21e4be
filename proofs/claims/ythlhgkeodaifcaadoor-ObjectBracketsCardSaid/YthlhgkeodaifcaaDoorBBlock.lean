/-
  The document's block. (MADE by wip/tools/gen_rblock.py.)
-/
import Derived.Test.YthlhgkeodaifcaaDoorBRun
import Derived.Deep.QuietTactic
import Derived.BigQuiet
namespace Go.Proofs.YthlhgkeodaifcaaDoor.U
open Go.RowKit
set_option linter.unusedVariables false
set_option linter.unusedSimpArgs false
set_option maxRecDepth 100000
set_option maxHeartbeats 4000000 in
theorem rblock_any (F : Nat → Prop) (a : Option Addr) (n c : Nat) (L : List (List Int)) (i : Nat) (w : World) (h : RdL F w a n c L) (hi0 : i < n) :
    Calls Tryd.prog 33 #[.slice a n c, .int .i64 (i : Nat)] w fun e w' => e = .returned (.tuple #[.int .i64 ((blockC L i).1 : Nat), .int .i64 ((blockC L i).2 : Nat)]) ∧ Below w.heap.size w w' := by
  have hl := h.len
  have hsm := h.small
  obtain ⟨b, off, hab, hbl, -, -⟩ := h.at_ (by omega)
  subst hab
  have HLN : Hid (∀ (W' : World) (k : Nat), Below w.heap.size w W' → k < n → ∃ ra rc, W'.cell? ⟨b, off + k, none⟩ = some (.slice ra (lnL L k).length rc) ∧ (lnL L k).length ≤ 9223372036854775807) := by
    intro W' k hW hk
    obtain ⟨b', off', ra, rc, e1, _, _, e4, e5⟩ := okP.line (p := (k, 0)) h ⟨by simp only; omega, by simp⟩ hW
    cases e1
    exact ⟨ra, rc, e4, e5.small⟩
  unfold blockC spanC
  rw [hl]
  simp only
  obtain ⟨f, hf⟩ : ∃ f : Nat → Bool, (fun k => empL L k == empL L i) = f := ⟨_, rfl⟩
  rw [hf]
  obtain ⟨ra0, rc0, e00, hm00⟩ := HLN.out w i (Below.refl _ _) hi0
  have HL0 : Hid (∀ W' : World, Below w.heap.size w W' → W'.cell? ⟨b, off + i, none⟩ = some (.slice ra0 (lnL L i).length rc0) ∧ (lnL L i).length ≤ 9223372036854775807) := fun W' hW => ⟨(hW.cell (p := ⟨b, off + i, none⟩) hbl).trans e00, hm00⟩
  obtain ⟨m0, hm0'⟩ : ∃ m0, (lnL L i).length = m0 := ⟨_, rfl⟩
  rw [hm0'] at HL0
  obtain ⟨z0, hz0⟩ : ∃ z, ((m0 : Int) == 0) = z := ⟨_, rfl⟩
  have HF : Hid (∀ k, f k = (decide ((lnL L k).length = 0) == z0)) := by
    intro k
    rw [← hf, ← hz0]
    unfold empL
    rw [hm0']
    by_cases e1 : (lnL L k).length = 0 <;> by_cases e2 : m0 = 0 <;> simp [e1, e2]
  obtain ⟨lo, hlo⟩ : ∃ lo, lowC f i = lo := ⟨_, rfl⟩
  obtain ⟨hi, hhi⟩ : ∃ hi, highC f (n - 1 - i) i = hi := ⟨_, rfl⟩
  rw [hlo, hhi]
  have HLO := Lib.hid hlo
  have HHI := Lib.hid hhi
  have hiI : (i : Int) < (n : Int) := by omega
  clear hf hlo hhi h hl e00 hm00 hm0'
  go_enter Tryd.func33, Tryd.ntmps33
  go_wp2_with fail
  go_loopw [6] (fun v6 wr => ∃ k : Nat, v6 = .int .i64 (k : Nat) ∧ k ≤ i ∧ Hid (lowC f k = lo) ∧ Hid (Below w.heap.size w wr)) (fun v6 _ => (intOf v6).toNat)
  case atStart => exact ⟨i, rfl, Nat.le_refl _, HLO.out, Below.refl _ _⟩
  case round =>
    obtain ⟨k, rfl, hki, HT, HBW⟩ := hrel
    by_cases h0 : k = 0
    · have hl0 : k = lo := by rw [← HT.out, h0]; rfl
      have g1 : ¬ (0 : Int) < (k : Int) := by omega
      have g2 : decide ((0 : Int) < (k : Int)) = false := by simp; omega
      have g3 : decide (0 < k) = false := by simp; omega
      subst hl0
      clear HT h0
      go_wp2_with fail
      go_quiet (fail)
      go_wp2_with fail
      obtain ⟨wq, hwq⟩ : ∃ x, x = wr := ⟨_, rfl⟩
      subst hwq
      have HBQ := HBW
      clear HBW
      go_loopw [7] (fun v7 wr => ∃ j : Nat, v7 = .int .i64 (j : Nat) ∧ j < n ∧ Hid (highC f (n - 1 - j) j = hi) ∧ Hid (Below w.heap.size w wr)) (fun v7 _ => n - (intOf v7).toNat)
      case atStart => exact ⟨i, rfl, hi0, HHI.out, by first | exact HBQ.out | exact bdrewN HBQ.out _⟩
      case round =>
        obtain ⟨j, rfl, hjm, HT, HBW⟩ := hrel
        by_cases hj : j + 1 < n
        · obtain ⟨d, hd⟩ : ∃ d, n - 1 - j = d + 1 := ⟨n - 1 - j - 1, by omega⟩
          have ht := HT.out
          rw [hd, highC] at ht
          obtain ⟨j1, hj1⟩ : ∃ j1, j + 1 = j1 := ⟨_, rfl⟩
          have hd2 : d = n - 1 - j1 := by omega
          rw [hd2, hj1] at ht
          have s1 : (j : Int) + 1 = (j1 : Int) := by omega
          have g1 : (j1 : Int) < (n : Int) := by omega
          have g2 : decide ((j1 : Int) < (n : Int)) = true := by simp; omega
          have g3 : decide (j1 < n) = true := by simp; omega
          have g4 : j1 < n := by omega
          have HT2 := Lib.hid ht
          have HJ : Hid (j < j1) := by show _ < _; omega
          clear ht hd hd2 hj1 HT
          obtain ⟨ra1, rc1, e1, hm1⟩ := HLN.out wr j1 HBW.out (by omega)
          obtain ⟨e0, hm0⟩ := HL0.out wr HBW.out
          obtain ⟨m1, hm1'⟩ : ∃ m1, (lnL L j1).length = m1 := ⟨_, rfl⟩
          rw [hm1'] at e1 hm1
          have hf := HF.out j1
          rw [hm1'] at hf
          obtain ⟨z1, hz1⟩ : ∃ z, ((m1 : Int) == 0) = z := ⟨_, rfl⟩
          have hz1' : decide (m1 = 0) = z1 := by rw [← hz1]; by_cases e : m1 = 0 <;> simp [e]
          rw [hz1'] at hf
          clear hm1' hz1' 
          cases hfv : f j1 with
          | true =>
            have HN : Hid (highC f (n - 1 - j1) j1 = hi) := by have := HT2.out; rwa [if_pos hfv] at this
            have hzz : z1 = z0 := by rw [hf] at hfv; simpa using hfv
            subst hzz
            clear hf hfv HT2
            cases z1
            all_goals
              go_wp2_with fail
              go_quiet (fail)
              go_wp2_with fail
              go_roundw
              case rel => exact ⟨j1, rfl, g4, HN, bdrewN HBW.out _⟩
              case measure => have := HJ.out; simp [intOf]; omega
          | false =>
            have hjh : j = hi := by have := HT2.out; rwa [hfv, if_neg (by decide)] at this
            have hzz : ¬ z1 = z0 := by rw [hf] at hfv; simpa using hfv
            clear hf hfv HT2
            subst hjh
            cases z1 <;> cases z0 <;> first | (exact absurd rfl hzz; done) | skip
            all_goals
              clear hzz
              go_wp2_with fail
              go_quiet (fail)
              go_wp2_with fail
              go_ret2
              exact ⟨rfl, bdrewN HBW.out _⟩
        · have hjh : j = hi := by
            have := HT.out
            rw [show n - 1 - j = 0 by omega, highC] at this
            exact this
          subst hjh
          have g1 : ¬ (j : Int) + 1 < (n : Int) := by omega
          have g2 : decide ((j : Int) + 1 < (n : Int)) = false := by simp; omega
          have g3 : decide (j + 1 < n) = false := by simp; omega
          have g5 : (j : Int) + 1 ≤ 9223372036854775807 := by omega
          clear HT
          go_wp2_with fail
          go_quiet (fail)
          go_wp2_with fail
          go_ret2
          exact ⟨rfl, bdrewN HBW.out _⟩
    · obtain ⟨k1, rfl⟩ : ∃ k1, k = k1 + 1 := ⟨k - 1, by omega⟩
      have ht := HT.out
      rw [lowC] at ht
      obtain ⟨k, hk⟩ : ∃ k, k1 + 1 = k := ⟨_, rfl⟩
      rw [hk] at ht hki ⊢
      have s1 : (k : Int) - 1 = (k1 : Int) := by omega
      have g1 : (0 : Int) < (k : Int) := by omega
      have g2 : decide ((0 : Int) < (k : Int)) = true := by simp; omega
      have g3 : decide (0 < k) = true := by simp; omega
      have g4 : k1 < n := by omega
      have g4I : (k1 : Int) < (n : Int) := by omega
      have g5 : (k : Int) ≤ 9223372036854775807 := by omega
      have HT2 := Lib.hid ht
      have HJ : Hid (k1 < k ∧ k1 ≤ i) := ⟨by omega, by omega⟩
      clear ht hk HT h0
      obtain ⟨ra1, rc1, e1, hm1⟩ := HLN.out wr k1 HBW.out (by omega)
      obtain ⟨e0, hm0⟩ := HL0.out wr HBW.out
      obtain ⟨m1, hm1'⟩ : ∃ m1, (lnL L k1).length = m1 := ⟨_, rfl⟩
      rw [hm1'] at e1 hm1
      have hf := HF.out k1
      rw [hm1'] at hf
      obtain ⟨z1, hz1⟩ : ∃ z, ((m1 : Int) == 0) = z := ⟨_, rfl⟩
      have hz1' : decide (m1 = 0) = z1 := by rw [← hz1]; by_cases e : m1 = 0 <;> simp [e]
      rw [hz1'] at hf
      clear hm1' hz1' 
      cases hfv : f k1 with
      | true =>
        have HN : Hid (lowC f k1 = lo) := by have := HT2.out; rwa [if_pos hfv] at this
        have hzz : z1 = z0 := by rw [hf] at hfv; simpa using hfv
        subst hzz
        clear hf hfv HT2
        cases z1
        all_goals
          go_wp2_with fail
          go_quiet (fail)
          go_wp2_with fail
          go_roundw
          case rel => exact ⟨k1, rfl, HJ.out.2, HN, bdrewN HBW.out _⟩
          case measure => have := HJ.out; simp [intOf]; omega
      | false =>
        have hjh : k = lo := by have := HT2.out; rwa [hfv, if_neg (by decide)] at this
        have hzz : ¬ z1 = z0 := by rw [hf] at hfv; simpa using hfv
        clear hf hfv HT2
        subst hjh
        have ne1 : (z1 == z0) = false := by simpa using hzz
        go_wp2_with fail
        go_quiet (fail)
        clear hzz ne1 hz1
        go_wp2_with fail
        obtain ⟨wq, hwq⟩ : ∃ x, x = wr := ⟨_, rfl⟩
        subst hwq
        have HBQ := HBW
        clear HBW
        go_loopw [7] (fun v7 wr => ∃ j : Nat, v7 = .int .i64 (j : Nat) ∧ j < n ∧ Hid (highC f (n - 1 - j) j = hi) ∧ Hid (Below w.heap.size w wr)) (fun v7 _ => n - (intOf v7).toNat)
        case atStart => exact ⟨i, rfl, hi0, HHI.out, by first | exact HBQ.out | exact bdrewN HBQ.out _⟩
        case round =>
          obtain ⟨j, rfl, hjm, HT, HBW⟩ := hrel
          by_cases hj : j + 1 < n
          · obtain ⟨d, hd⟩ : ∃ d, n - 1 - j = d + 1 := ⟨n - 1 - j - 1, by omega⟩
            have ht := HT.out
            rw [hd, highC] at ht
            obtain ⟨j1, hj1⟩ : ∃ j1, j + 1 = j1 := ⟨_, rfl⟩
            have hd2 : d = n - 1 - j1 := by omega
            rw [hd2, hj1] at ht
            have s1 : (j : Int) + 1 = (j1 : Int) := by omega
            have g1 : (j1 : Int) < (n : Int) := by omega
            have g2 : decide ((j1 : Int) < (n : Int)) = true := by simp; omega
            have g3 : decide (j1 < n) = true := by simp; omega
            have g4 : j1 < n := by omega
            have HT2 := Lib.hid ht
            have HJ : Hid (j < j1) := by show _ < _; omega
            clear ht hd hd2 hj1 HT
            obtain ⟨ra1, rc1, e1, hm1⟩ := HLN.out wr j1 HBW.out (by omega)
            obtain ⟨e0, hm0⟩ := HL0.out wr HBW.out
            obtain ⟨m1, hm1'⟩ : ∃ m1, (lnL L j1).length = m1 := ⟨_, rfl⟩
            rw [hm1'] at e1 hm1
            have hf := HF.out j1
            rw [hm1'] at hf
            obtain ⟨z1, hz1⟩ : ∃ z, ((m1 : Int) == 0) = z := ⟨_, rfl⟩
            have hz1' : decide (m1 = 0) = z1 := by rw [← hz1]; by_cases e : m1 = 0 <;> simp [e]
            rw [hz1'] at hf
            clear hm1' hz1' 
            cases hfv : f j1 with
            | true =>
              have HN : Hid (highC f (n - 1 - j1) j1 = hi) := by have := HT2.out; rwa [if_pos hfv] at this
              have hzz : z1 = z0 := by rw [hf] at hfv; simpa using hfv
              subst hzz
              clear hf hfv HT2
              cases z1
              all_goals
                go_wp2_with fail
                go_quiet (fail)
                go_wp2_with fail
                go_roundw
                case rel => exact ⟨j1, rfl, g4, HN, bdrewN HBW.out _⟩
                case measure => have := HJ.out; simp [intOf]; omega
            | false =>
              have hjh : j = hi := by have := HT2.out; rwa [hfv, if_neg (by decide)] at this
              have hzz : ¬ z1 = z0 := by rw [hf] at hfv; simpa using hfv
              clear hf hfv HT2
              subst hjh
              cases z1 <;> cases z0 <;> first | (exact absurd rfl hzz; done) | skip
              all_goals
                clear hzz
                go_wp2_with fail
                go_quiet (fail)
                go_wp2_with fail
                go_ret2
                exact ⟨rfl, bdrewN HBW.out _⟩
          · have hjh : j = hi := by
              have := HT.out
              rw [show n - 1 - j = 0 by omega, highC] at this
              exact this
            subst hjh
            have g1 : ¬ (j : Int) + 1 < (n : Int) := by omega
            have g2 : decide ((j : Int) + 1 < (n : Int)) = false := by simp; omega
            have g3 : decide (j + 1 < n) = false := by simp; omega
            have g5 : (j : Int) + 1 ≤ 9223372036854775807 := by omega
            clear HT
            go_wp2_with fail
            go_quiet (fail)
            go_wp2_with fail
            go_ret2
            exact ⟨rfl, bdrewN HBW.out _⟩
end Go.Proofs.YthlhgkeodaifcaaDoor.U
