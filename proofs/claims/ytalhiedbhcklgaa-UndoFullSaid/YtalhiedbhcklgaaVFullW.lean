/-
  UndoFull: its walk.
-/
import Derived.Test.YtalhiedbhcklgaaVAwakeW
import Derived.Lib.MinMax
namespace Go.Proofs.Ytalhiedbhcklgaa.U
open Go.RowKit
set_option linter.unusedVariables false
set_option linter.unusedSimpArgs false
set_option maxRecDepth 100000

/-- so many changes, one by one -/
def fullT : Nat → Tr
  | 0 => Tr.zero
  | j + 1 => (fullT j).add c1A
theorem add_one {t : Tr} (ho : t.isOpen = false) (hg : t.group = []) : (t.add c1A).isOpen = false ∧ (t.add c1A).group = [] ∧ (t.add c1A).here = (t.add c1A).nodes.length ∧ (t.add c1A).nodes.length = if t.nodes.length = 4096 then 1 else t.nodes.length + 1 := by
  have h1 : ¬ (c1A.old = [] ∧ c1A.now = []) := by simp [c1A, oneC]
  unfold Tr.add
  rw [if_neg h1, ho, if_neg (by simp)]
  unfold Tr.end_
  simp only [hg, List.nil_append]
  rw [if_neg (by simp)]
  by_cases h4 : t.nodes.length = 4096
  · rw [if_pos h4, if_pos h4]
    exact ⟨rfl, rfl, rfl, rfl⟩
  · rw [if_neg h4, if_neg h4]
    exact ⟨rfl, rfl, by simp, by simp⟩
theorem full_spec : ∀ j, (fullT j).isOpen = false ∧ (fullT j).group = [] ∧ (fullT j).here = (fullT j).nodes.length ∧ (j ≤ 4096 → (fullT j).nodes.length = j) ∧ (4096 < j → j ≤ 8000 → (fullT j).nodes.length = j - 4096)
  | 0 => ⟨rfl, rfl, rfl, fun _ => rfl, fun h => by omega⟩
  | j + 1 => by
    obtain ⟨h1, h2, h3, h4, h5⟩ := full_spec j
    obtain ⟨k1, k2, k3, k4⟩ := add_one h1 h2
    refine ⟨k1, k2, k3, fun h => ?_, fun h h' => ?_⟩
    · show ((fullT j).add c1A).nodes.length = j + 1
      rw [k4, h4 (by omega), if_neg (by omega)]
    · show ((fullT j).add c1A).nodes.length = j + 1 - 4096
      rw [k4]
      by_cases hj : j = 4096
      · rw [h4 (by omega), if_pos hj]; omega
      · rw [h5 (by omega) (by omega), if_neg (by omega)]; omega

set_option maxHeartbeats 4000000 in
theorem undoFull_walk (n : Int) (w : World) (hn : (Lit.int .i64 n).wf = true) : Calls Try.prog 7 #[.int .i64 n] w fun e w' => e = .returned (.bool true) ∧ Below w.heap.size w w' := by
  obtain ⟨m, hm, hm50⟩ : ∃ m : Nat, max 0 (min n 50) = (m : Int) ∧ m ≤ 50 := ⟨(max 0 (min n 50)).toNat, by omega, by omega⟩
  have HM := Lib.hid hm
  clear hm
  go_enter Try.func7, Try.ntmps7
  go_wp2_with fail
  rw [HM.out]
  refine (new_any w).mono ?_
  rintro e w2 ⟨rfl, P0, F0, hT0, hf0, hP0⟩
  have HT2 : Hid (TreeC P0 F0 w2 (w.heap.size + 1) (fullT 0)) := hT0
  have HB2 : Hid (Below w.heap.size w w2) := hf0.below0
  have HP2 : Hid (∀ k, P0 k → w.heap.size ≤ k) := fun k hk => by rcases hP0 k hk with h | h; exact h.elim; omega
  obtain ⟨bt, hbt⟩ : ∃ bt, w.heap.size + 1 = bt := ⟨_, rfl⟩
  rw [hbt] at HT2 ⊢
  clear hT0 hf0 hP0 hbt HM hn
  have hm0 : (0 : Int) ≤ (m : Int) := by omega
  go_wp2_with fail
  go_loopw [4] (fun v4 wr => ∃ (j : Nat) (P F : Nat → Prop), v4 = .int .i64 (j : Nat) ∧ j ≤ 4096 + m ∧ Hid (TreeC P F wr bt (fullT j)) ∧ Hid (Below w.heap.size w wr) ∧ Hid (∀ k, P k → w.heap.size ≤ k)) (fun v4 _ => ((4096 : Int) + (m : Int) - intOf v4).toNat)
  case atStart => exact ⟨0, P0, F0, rfl, by omega, HT2, HB2, HP2⟩
  case round =>
    obtain ⟨j, P, F, rfl, hj, HT, HB, HP⟩ := hrel
    by_cases hlt : (j : Int) < 4096 + (m : Int)
    · go_wp2_with fail
      refine (one_any 0 97 98 wr).mono ?_
      intro e w3 hc
      obtain ⟨oa, oc, na, nc, rfl, hadd⟩ := step_add HT.out HB.out HP.out okA1 (by rw [(full_spec j).2.1]; simp) hc
      have HADD := Lib.hid hadd
      clear hadd hc
      go_wp2_with fail
      refine HADD.out.mono ?_
      rintro e w4 ⟨rfl, P4, F4, HT4, HB4, HP4, -, -⟩
      clear HADD
      go_wp2_with fail
      go_roundw
      case rel => exact ⟨j + 1, P4, F4, rfl, by omega, HT4, HB4, HP4⟩
      case measure => first | (simp [intOf]; done) | (simp [intOf]; omega)
    · obtain rfl : j = 4096 + m := by omega
      have hsp := full_spec (4096 + m)
      have HL := Lib.hid (lenT_any HT.out)
      have HA := Lib.hid (at_any HT.out)
      obtain ⟨v, hv, hv0, hv1⟩ : ∃ v : Nat, (fullT (4096 + m)).nodes.length = v ∧ (m = 0 → v = 4096) ∧ (0 < m → v = m) := ⟨_, rfl, fun h => by rw [hsp.2.2.2.1 (by omega)]; omega, fun h => by rw [hsp.2.2.2.2 (by omega) (by omega)]; omega⟩
      rw [hv] at HL
      rw [hsp.2.2.1, hv] at HA
      clear hsp hv HT HP
      by_cases h0 : (m : Int) > 0
      · obtain rfl : v = m := hv1 (by omega)
        clear hv0 hv1
        go_wp2_with fail
        refine HL.out.mono ?_
        rintro e wI ⟨rfl, rfl⟩
        go_wp2_with fail
        refine HA.out.mono ?_
        rintro e wJ ⟨rfl, rfl⟩
        go_wp2_with fail
        refine (awake_any _).mono ?_
        rintro e wK ⟨rfl, hbK⟩
        have HBK : Hid (Below w.heap.size w wK) := HB.out.trans (hbK.mono HB.out.size)
        clear hbK
        go_wp2_with fail
        go_ret
        exact ⟨rfl, HBK.out⟩
      · obtain rfl : v = 4096 := hv0 (by omega)
        clear hv0 hv1
        go_wp2_with fail
        refine HL.out.mono ?_
        rintro e wI ⟨rfl, rfl⟩
        go_wp2_with fail
        refine HA.out.mono ?_
        rintro e wJ ⟨rfl, rfl⟩
        go_wp2_with fail
        refine (awake_any _).mono ?_
        rintro e wK ⟨rfl, hbK⟩
        have HBK : Hid (Below w.heap.size w wK) := HB.out.trans (hbK.mono HB.out.size)
        clear hbK
        go_wp2_with fail
        go_ret
        exact ⟨rfl, HBK.out⟩
end Go.Proofs.Ytalhiedbhcklgaa.U
