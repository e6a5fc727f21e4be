/-
  The program's shift.
-/
import Derived.Test.YtleidcegbfnmkaaHPlace
namespace Go.Proofs.Ytleidcegbfnmkaa.U
open Go.RowKit
set_option linter.unusedVariables false
set_option linter.unusedSimpArgs false
set_option maxRecDepth 100000

theorem splice_get {α : Type} (L cs : List α) (off j : Nat) (h : off + cs.length ≤ L.length) : (splice L off cs)[j]? = if off ≤ j ∧ j < off + cs.length then cs[j - off]? else L[j]? := by
  unfold splice
  by_cases h1 : j < off
  · rw [if_neg (by omega), List.getElem?_append_left (by simp; omega), List.getElem?_take, if_pos h1]
  · by_cases h2 : j < off + cs.length
    · rw [if_pos ⟨by omega, h2⟩, List.getElem?_append_right (by simp; omega), List.getElem?_append_left (by simp; omega)]
      congr 1
      simp
      omega
    · rw [if_neg (by omega), List.getElem?_append_right (by simp; omega), List.getElem?_append_right (by simp; omega), List.getElem?_drop]
      congr 1
      simp
      omega
set_option maxHeartbeats 1000000 in
theorem pshift_any (P : Nat → Prop) (w : World) (bx last : Nat) (H : Nat → Rg) (V : Nat → Option Addr × Nat) (G : Nat → Nat → Prop) (h : GsO P w bx H last V G) :
    Calls Try.prog 32 #[.pointer (some ⟨bx, 0, none⟩), .int .i64 2] w fun e w' => e = .returned (.tuple #[]) ∧ Fr (fun k => k = bx) w w' ∧ ∃ cs cs1, w.heap[bx]? = some (.cells cs 59 (0, 0)) ∧ w'.heap[bx]? = some (.cells cs1 59 (0, 0)) ∧ cs1.size = 75 ∧
      (∀ j, 6 ≤ j → j < 22 → cs1[j]? = cs[j - 2]?) ∧ (∀ j, j < 6 ∨ 22 ≤ j → cs1[j]? = cs[j]?) := by
  obtain ⟨cs, r1, r2⟩ := h.row
  obtain ⟨l, rfl⟩ : ∃ l : List Value, cs = l.toArray := ⟨cs.toList, by simp⟩
  simp only [List.size_toArray] at r2
  have hone : ∀ v ∈ (l.drop 4).take 16, v.oneCell' = true := by
    intro v hv
    obtain ⟨j, hj, rfl⟩ := List.getElem_of_mem hv
    simp only [List.length_take, List.length_drop] at hj
    have hj2 : j < 16 := by omega
    have he : ((l.drop 4).take 16)[j]'(by simp; omega) = l[4 + j]'(by omega) := by simp
    rw [he]
    have hc : w.cell? ⟨bx, 4 + j, none⟩ = some (l[4 + j]'(by omega)) := by
      rw [cell_row r1, List.getElem?_toArray, List.getElem?_eq_getElem (by omega)]
    by_cases hp : (4 + j) % 2 = 0
    · have := h.kc ((4 + j) / 2) (by omega)
      rw [show (4 + j) / 2 * 2 = 4 + j by omega, hc] at this
      rw [Option.some.inj this]
      rfl
    · have := h.vc ((4 + j) / 2) (by omega)
      rw [show (4 + j) / 2 * 2 + 1 = 4 + j by omega, hc] at this
      rw [Option.some.inj this]
      rfl
  have hcl : ((l.drop 4).take 16).length = 16 := by simp; omega
  obtain ⟨i0, hi0, hz0, hz1, hz2⟩ : ∃ i0, Try.prog.info? 31 = some i0 ∧ i0.size = 2 ∧ True ∧ True := by
    have : (Try.prog.info? 31).map (·.size) = some 2 := by kernel_rfl
    cases hq : Try.prog.info? 31 with
    | none => rw [hq] at this; cases this
    | some i => rw [hq] at this; exact ⟨i, rfl, by simpa using this, trivial, trivial⟩
  have r1' : w.drew.heap[bx]? = some (.cells l.toArray 59 (0, 0)) := r1
  obtain ⟨w2, q1, q2, q3⟩ := run_copy_any (P := Try.prog) w.drew 50 50 31 2 Try.underlying50 (by rw [hi0]; simp [hz0]) (some ⟨bx, 6, none⟩) (some ⟨bx, 4, none⟩) 8 34 8 35 bx 6 l _ r1' ((l.drop 4).take 16) (by rw [hcl]; rfl)
      (fun _ => ⟨rfl, ⟨bx, 4, none⟩, rfl, src_of r1' 4 16⟩) (by rw [hcl]; omega) hone
  have HRUN : Hid (∀ ty, (Builtin.copy_ #[50, 50] ty #[.slice (some ⟨bx, 6, none⟩) 8 34, .slice (some ⟨bx, 4, none⟩) 8 35]).run Try.prog w.drew = .ok (goInt (Nat.min 8 8)) w2) := q1
  have HFIN : Hid (Fr (fun k => k = bx) w w2 ∧ ∃ cs cs1, w.heap[bx]? = some (.cells cs 59 (0, 0)) ∧ w2.heap[bx]? = some (.cells cs1 59 (0, 0)) ∧ cs1.size = 75 ∧
      (∀ j, 6 ≤ j → j < 22 → cs1[j]? = cs[j - 2]?) ∧ (∀ j, j < 6 ∨ 22 ≤ j → cs1[j]? = cs[j]?)) := by
    refine ⟨⟨q3.os, q3.tape, q3.output, q3.size, q3.block⟩, _, _, r1, q2, ?_, fun j h1 h2 => ?_, fun j h1 => ?_⟩
    · simp [splice]
      omega
    · rw [List.getElem?_toArray, List.getElem?_toArray, splice_get _ _ _ _ (by rw [hcl]; omega), if_pos (by rw [hcl]; omega), List.getElem?_take, if_pos (by omega), List.getElem?_drop]
      congr 1
      omega
    · rw [List.getElem?_toArray, List.getElem?_toArray, splice_get _ _ _ _ (by rw [hcl]; omega), if_neg (by rw [hcl]; omega)]
  have hbx := h.lt bx h.box
  clear r1 r2 r1' q1 q2 q3 hone hcl hi0 hz0 hz1 hz2 h
  have n3 : IntKind.i64.wrap 3 = 3 := by decide
  have n10 : IntKind.i64.wrap 10 = 10 := by decide
  have n11 : IntKind.i64.wrap 11 = 11 := by decide
  have s1 : ∀ W, Sem.run Try.prog (Instr.sliceAt 57 (.pointer (some ⟨bx, 0, none⟩)) (some (.int .i64 3)) (some (.int .i64 11)) none) W = .ok (.slice (some ⟨bx, 6, none⟩) 8 34) W := fun W => by kernel_rfl
  have s2 : ∀ W, Sem.run Try.prog (Instr.sliceAt 57 (.pointer (some ⟨bx, 0, none⟩)) (some (.int .i64 2)) (some (.int .i64 10)) none) W = .ok (.slice (some ⟨bx, 4, none⟩) 8 35) W := fun W => by kernel_rfl
  go_enter Try.func32, Try.ntmps32
  go_region_law (refine step_copy_run rfl (.tmp 11) (.tmp 18) _ _ rfl _ _ (by simp [Act.eval, Act.put]) (by simp [Act.eval, Act.put]) (HRUN.out _) ?_)
  all_goals
    go_wp2_with fail
    go_end0
    exact ⟨rfl, HFIN.out⟩
end Go.Proofs.Ytleidcegbfnmkaa.U
