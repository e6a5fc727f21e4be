/-
  The document's reader: a number.
-/
import Derived.Test.YtkjiobbkbhmijaaRfA
namespace Go.Proofs.Ytkjiobbkbhmijaa.U
open Go.RowKit
set_option linter.unusedVariables false
set_option linter.unusedSimpArgs false
set_option maxRecDepth 100000

/-- the reader's cells, in whatever world they lie as they lay -/
theorem RfS.look {w : World} {br : Nat} {p : List Int} {i n o er : Int} (h : RfS w br p i n o er) : ∃ a cap, ∀ (F : Nat → Prop) (W : World), Fr F w W → (∀ k, F k → br < k) → W.cell? ⟨br, 0, none⟩ = some (.slice a p.length cap) ∧ W.cell? ⟨br, 1, none⟩ = some (.int .i64 i) ∧ W.cell? ⟨br, 2, none⟩ = some (.int .i64 n) ∧ W.cell? ⟨br, 3, none⟩ = some (.int .i64 o) ∧ W.cell? ⟨br, 4, none⟩ = some (.int .i64 er) ∧ (∀ j, W.frozen? ⟨br, j, none⟩ = false) ∧ Rd .i32 W a p.length cap p ∧ RfS W br p i n o er := by
  obtain ⟨a, cap, h1, h2, h3⟩ := h
  refine ⟨a, cap, fun F W hf hF => ?_⟩
  have g1 := (hf.block br (heap_lt h1) (fun e => by have := hF _ e; omega)).trans h1
  have g2 := h2.frF h3 hf (fun k hk e => by have := hF _ e; omega)
  exact ⟨by rw [cell_row g1]; rfl, by rw [cell_row g1]; rfl, by rw [cell_row g1]; rfl, by rw [cell_row g1]; rfl, by rw [cell_row g1]; rfl, frozen_row g1, g2, a, cap, g1, g2, h3⟩
theorem drop_at {p : List Int} {i : Nat} (h : i < p.length) : p.drop i = p.getD i 0 :: p.drop (i + 1) := by
  rw [List.drop_eq_getElem_cons h, List.getD_eq_getElem?_getD, List.getElem?_eq_getElem h]
  rfl
/-- a number's answer: what it says, and where it ends -/
def NmAns (w : World) (p : List Int) (k : Nat) (e : Ending) (w' : World) : Prop :=
  ∃ j : Nat, e = .returned (.tuple #[.int .i64 (num 0 (p.drop k)).1, .int .i64 (j : Nat)]) ∧ w = w' ∧ Hid ((num 0 (p.drop k)).2 = p.drop j ∧ k ≤ j ∧ j ≤ p.length ∧ hasD (p.drop k) = decide (k < j))
set_option maxHeartbeats 2000000 in
theorem rnumber_any (br : Nat) (p : List Int) (i n o er : Int) (k : Nat) (w : World) (h : RfS w br p i n o er) (hk : k ≤ p.length) (hp : p.length ≤ 1000000) :
    Calls Try.prog 40 #[.pointer (some ⟨br, 0, none⟩), .int .i64 (k : Nat)] w (NmAns w p k) := by
  obtain ⟨a, cap, hg, hr, -⟩ := h
  have hsm := hr.small
  obtain ⟨q, hq⟩ : ∃ q, p.length = q := ⟨_, rfl⟩
  rw [hq] at hg hr hsm hk hp
  have e0 : w.cell? ⟨br, 0, none⟩ = some (.slice a q cap) := by rw [cell_row hg]; rfl
  have HR := Lib.hid hr
  have HQ := Lib.hid hq
  clear hr hg hq
  go_enter Try.func40, Try.ntmps40
  go_wp2_with fail
  go_loop [1, 6] (fun v1 v6 => ∃ (j : Nat) (x : Int), v1 = .int .i64 (j : Nat) ∧ v6 = .int .i64 x ∧ 0 ≤ x ∧ x ≤ 101 ∧ k ≤ j ∧ j ≤ q ∧ Hid (num x (p.drop j) = num 0 (p.drop k) ∧ (k < j → hasD (p.drop k) = true))) (fun v1 _ => q - (intOf v1).toNat)
  case atStart => exact ⟨k, 0, rfl, rfl, by omega, by omega, by omega, hk, rfl, fun h => by omega⟩
  case round =>
    obtain ⟨j, x, rfl, rfl, hx0, hx1, hkj, hjq, HW⟩ := hrel
    by_cases hlt : j < q
    · obtain ⟨b, off, rfl, hbl, hcell⟩ := HR.out.at_ hlt
      obtain ⟨c, hc⟩ : ∃ c, p.getD j 0 = c := ⟨_, rfl⟩
      have hci := HR.out.i32 j
      rw [hc] at hcell hci
      obtain ⟨hc0, hc1⟩ := hci
      have HD : Hid (p.drop j = c :: p.drop (j + 1)) := by
        show _ = _
        rw [drop_at (by have := HQ.out; omega), hc]
      have hg1 : (j : Int) < (q : Int) := by omega
      clear hc
      by_cases hdg : dig c = true
      · have HN : Hid (num x (p.drop j) = num (min (x * 10 + (c - 48)) 101) (p.drop (j + 1))) := by show _ = _; rw [HD.out, num, if_pos hdg]
        have HH : Hid (j = k → hasD (p.drop k) = true) := by rintro rfl; rw [HD.out]; exact hdg
        simp only [dig, decide_eq_true_eq] at hdg
        obtain ⟨hd0, hd1⟩ := hdg
        go_wp2
        all_goals
          go_round
          case rel =>
            refine ⟨j + 1, min (x * 10 + (c - 48)) 101, by go_num, ?_, by omega, by omega, by omega, by omega, ?_, ?_⟩
            · first | rfl | (congr 1; omega) | (split <;> (congr 1; omega))
            · rw [← HN.out]; exact HW.out.1
            · intro _
              by_cases hjk : j = k
              · exact HH.out hjk
              · exact HW.out.2 (by omega)
          case measure => simp [intOf]; omega
      · have HN : Hid (num x (p.drop j) = (x, p.drop j)) := by show _ = _; rw [HD.out, num, if_neg hdg]
        have HH : Hid (j = k → hasD (p.drop k) = false) := by rintro rfl; rw [HD.out]; exact bool_of_not hdg
        simp only [dig, decide_eq_true_eq] at hdg
        have HFIN : Hid ((num 0 (p.drop k)).1 = x ∧ (num 0 (p.drop k)).2 = p.drop j ∧ hasD (p.drop k) = decide (k < j)) := by
          have h1 := HW.out.1
          rw [HN.out] at h1
          rw [← h1]
          refine ⟨rfl, rfl, ?_⟩
          by_cases hjk : j = k
          · rw [HH.out hjk]; simp; omega
          · rw [HW.out.2 (by omega)]; simp; omega
        by_cases h48 : 48 ≤ c
        · have h57 : ¬ c ≤ 57 := by omega
          clear hdg
          go_wp2
          go_ret2
          exact ⟨j, by rw [HFIN.out.1]; rfl, rfl, HFIN.out.2.1, hkj, by have := HQ.out; omega, HFIN.out.2.2⟩
        · clear hdg
          go_wp2
          go_ret2
          exact ⟨j, by rw [HFIN.out.1]; rfl, rfl, HFIN.out.2.1, hkj, by have := HQ.out; omega, HFIN.out.2.2⟩
    · obtain rfl : j = q := by omega
      have HN : Hid (p.drop j = []) := List.drop_eq_nil_of_le (by have := HQ.out; omega)
      have HFIN : Hid ((num 0 (p.drop k)).1 = x ∧ (num 0 (p.drop k)).2 = p.drop j ∧ hasD (p.drop k) = decide (k < j)) := by
        have h1 := HW.out.1
        rw [HN.out] at h1 ⊢
        rw [← h1]
        refine ⟨rfl, rfl, ?_⟩
        by_cases hjk : j = k
        · subst hjk; rw [HN.out]; simp [hasD]
        · rw [HW.out.2 (by omega)]; simp; omega
      have hg1 : ¬ (j : Int) < (j : Int) := by omega
      go_wp2
      go_ret2
      exact ⟨j, by rw [HFIN.out.1]; rfl, rfl, HFIN.out.2.1, hkj, by have := HQ.out; omega, HFIN.out.2.2⟩
end Go.Proofs.Ytkjiobbkbhmijaa.U
