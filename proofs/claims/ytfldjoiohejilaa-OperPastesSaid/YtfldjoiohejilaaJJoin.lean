/-
  The document's Join.
-/
import Derived.Test.YtfldjoiohejilaaJCut
namespace Go.Proofs.Ytfldjoiohejilaa.U
open Go.RowKit
set_option linter.unusedVariables false
set_option linter.unusedSimpArgs false
set_option maxRecDepth 100000

set_option maxHeartbeats 1000000 in
/-- Join of lines that are not there -/
theorem rjoin_no (a : Option Addr) (n c : Nat) (F : Nat → Prop) (L : List (List Int)) (at_ m : Int) (w : World) (h : RdL F w a n c L) (ha : i64b at_) (hm : i64b m) (hR : at_ < 0 ∨ (n : Int) ≤ at_ ∨ (n : Int) - at_ < max 2 m) :
    Calls Try.prog 29 #[.slice a n c, .int .i64 at_, .int .i64 m] w fun e w' => e = .returned (.tuple #[.slice none 0 0, plV (0, 0), .int .i64 2]) ∧ Below w.heap.size w w' := by
  have hsm := h.small
  obtain ⟨wb, hwb⟩ : ∃ wb, w.alloc (.cells #[.int .i64 0, .int .i64 0] 24) = wb := ⟨_, rfl⟩
  have hB : Below w.heap.size w wb := by rw [← hwb]; exact (Below.refl _ _).alloc (Nat.le_refl _) _
  have g1 : wb.heap[w.heap.size]? = some (.cells #[.int .i64 0, .int .i64 0] 24 (0, 0)) := by rw [← hwb]; exact heap_alloc_new w _
  obtain ⟨x0, x1, z0, z1⟩ := row2 g1
  have hl := heap_lt g1
  obtain ⟨ha1, ha2⟩ := ha
  obtain ⟨hm1, hm2⟩ := hm
  obtain ⟨b, hbe⟩ : ∃ b, w.heap.size = b := ⟨_, rfl⟩
  have HBE := Lib.hid hbe
  have HW := Lib.hid hwb
  have HB := Lib.hid hB
  rw [hbe] at x0 x1 z0 z1 hl
  clear h hwb hB g1 hbe
  obtain ⟨M, hM⟩ : ∃ M, max 2 m = M := ⟨_, rfl⟩
  rw [hM] at hR
  have hMb : 2 ≤ M ∧ M ≤ 9223372036854775807 := by omega
  obtain ⟨hMb1, hMb2⟩ := hMb
  go_enter Try.func29, Try.ntmps29
  go_upto_region 1 with fail
  rw [HBE.out, HW.out]
  by_cases c1 : at_ < 0
  · clear hR
    go_wp2
    refine bodyPost_ret (v := .tuple #[.slice none 0 0, plV (0, 0), .int .i64 2]) ?_ rfl ⟨rfl, ?_⟩
    · rw [results_tct rfl]
      go_simp
      first | rfl | done
    · (repeat' (first | exact HB.out | (have := HBE.out; omega) | refine setCell_below ?_ _ _ _ ?_))
  by_cases c2 : (n : Int) ≤ at_
  · clear hR
    go_wp2
    refine bodyPost_ret (v := .tuple #[.slice none 0 0, plV (0, 0), .int .i64 2]) ?_ rfl ⟨rfl, ?_⟩
    · rw [results_tct rfl]
      go_simp
      first | rfl | done
    · (repeat' (first | exact HB.out | (have := HBE.out; omega) | refine setCell_below ?_ _ _ _ ?_))
  have c3 : (n : Int) - at_ < M := by omega
  clear hR
  go_wp2
  refine bodyPost_ret (v := .tuple #[.slice none 0 0, plV (0, 0), .int .i64 2]) ?_ rfl ⟨rfl, ?_⟩
  · rw [results_tct rfl]
    go_simp
    first | rfl | done
  · (repeat' (first | exact HB.out | (have := HBE.out; omega) | refine setCell_below ?_ _ _ _ ?_))
theorem joinY_blank {z : Int} {y : List Int} (h : blankR z = true) : joinY (z :: y) = joinY y := by simp [joinY, h]
theorem joinY_stop {z : Int} {y : List Int} (h : blankR z = false) : joinY (z :: y) = z :: y := by simp [joinY, h]
theorem joinY_nil : joinY [] = [] := rfl
theorem joinA_len (L : List (List Int)) (at_ : Nat) : ∀ j, (joinA L at_ j).length ≤ (j + 1) * (sizeN (lens L) + 1)
  | 0 => by
    show (lnL L at_).length ≤ _
    have : (lnL L at_).length ≤ sizeN (lens L) := by
      unfold lnL
      rw [List.getD_eq_getElem?_getD]
      cases e : L[at_]? with
      | none => simp
      | some x => exact sizeN_mem (List.mem_map.2 ⟨_, List.mem_of_getElem? e, rfl⟩)
    omega
  | j + 1 => by
    have ih := joinA_len L at_ j
    have h1 : (lnL L (at_ + j + 1)).length ≤ sizeN (lens L) := by
      unfold lnL
      rw [List.getD_eq_getElem?_getD]
      cases e : L[at_ + j + 1]? with
      | none => simp
      | some x => exact sizeN_mem (List.mem_map.2 ⟨_, List.mem_of_getElem? e, rfl⟩)
    have h2 : (joinY (lnL L (at_ + j + 1))).length ≤ (lnL L (at_ + j + 1)).length := by unfold joinY; exact (List.dropWhile_sublist _).length_le
    show (joinX _ _).length ≤ _
    unfold joinX
    rw [List.length_append, List.length_append]
    have h3 : (if joinY (lnL L (at_ + j + 1)) ≠ [] ∧ (joinY (lnL L (at_ + j + 1))).getD 0 0 ≠ 41 ∧ joinA L at_ j ≠ [] ∧ blankR ((joinA L at_ j).getD ((joinA L at_ j).length - 1) 0) = false then [(32 : Int)] else []).length ≤ 1 := by split <;> simp
    rw [Nat.add_mul]
    omega
end Go.Proofs.Ytfldjoiohejilaa.U
