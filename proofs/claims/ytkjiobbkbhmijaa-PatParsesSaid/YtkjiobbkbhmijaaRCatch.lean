/-
  Reading gives up by a panic, which is recovered: the deferred closure.
-/
import Derived.Test.YtkjiobbkbhmijaaRTook
import Derived.Defers
import Derived.Recover
namespace Go.Proofs.Ytkjiobbkbhmijaa.U
open Go.RowKit
set_option linter.unusedVariables false
set_option linter.unusedSimpArgs false
set_option maxRecDepth 100000

theorem run_ta_nil (w : World) : (Instr.typeAssert Value.nilIface 20 27 true).run Try.prog w = .ok (.tuple #[.int .i64 0, .bool false]) w := by kernel_rfl
theorem run_ta_err (c : Int) (w : World) : (Instr.typeAssert (Value.iface 27 (.int .i64 c)) 20 27 true).run Try.prog w = .ok (.tuple #[.int .i64 c, .bool true]) w := by kernel_rfl

theorem catch_idle (a b c : Addr) (w : World) :
    CallsD Try.prog 23 #[.pointer (some a), .pointer (some b), .pointer (some c)] .returning w fun e u' w' => e = .returned (.tuple #[]) ∧ u' = .returning ∧ w' = w := by
  refine callsD_of_wpS Try.func23 rfl fun c₀ cs hu => ?_
  change Code.wpS _ _ _ { tmps := #[.pointer (some a), .pointer (some b), .pointer (some c), undef, undef, undef, undef, undef, undef, undef, undef, undef, undef], defers := [] } _ _
  apply wpS_seq
  apply wpS_region
  simp [wpOpsS, go_sem, recoverD, hu, run_ta_nil, Exit.thenS]
  refine wpS_of_wp ?_
  go_wp2
  cases c₀
  simp_all [bodyPostS, results, Try.results23]

theorem catch_err (b : Nat) (c : Int) (older : List PanicEntry) (a0 a1 a2 a3 a4 a5 a6 x y : Value) (w : World) (ha : w.heap[b]? = some (.cells #[a0, a1, a2, a3, a4, a5, a6] 26 (0, 0))) (hb : w.heap[b + 1]? = some (.cells #[x] 3 (0, 0))) (hc : w.heap[b + 2]? = some (.cells #[y] 27 (0, 0))) :
    CallsD Try.prog 23 #[.pointer (some ⟨b, 0, none⟩), .pointer (some ⟨b + 1, 0, none⟩), .pointer (some ⟨b + 2, 0, none⟩)] (.panicking ({ v := .iface 27 (.int .i64 c), recovered := false } :: older)) w fun e u' w' =>
      e = .returned (.tuple #[]) ∧ u' = .panicking ({ v := .iface 27 (.int .i64 c), recovered := true } :: older) ∧ w'.heap[b]? = some (.cells #[.int .i64 0, .int .i32 0, .slice none 0 0, .bool false, .int .i64 0, .int .i64 0, .slice none 0 0] 26 (0, 0)) ∧ w'.heap[b + 1]? = some (.cells #[.int .i64 0] 3 (0, 0)) ∧ w'.heap[b + 2]? = some (.cells #[.int .i64 c] 27 (0, 0)) ∧ Fr (fun k => b ≤ k) w w' := by
  refine callsD_of_wpS Try.func23 rfl fun c₀ cs hu => ?_
  change Code.wpS _ _ _ { tmps := #[.pointer (some ⟨b, 0, none⟩), .pointer (some ⟨b + 1, 0, none⟩), .pointer (some ⟨b + 2, 0, none⟩), undef, undef, undef, undef, undef, undef, undef, undef, undef, undef], defers := [] } _ _
  apply wpS_seq
  apply wpS_region
  simp [wpOpsS, go_sem, recoverD, hu, run_ta_err, Exit.thenS]
  refine wpS_of_wp ?_
  obtain ⟨p0, p1, p2, p3, p4, p5, p6, z0, z1, z2, z3, z4, z5, z6⟩ := row7 ha
  have q0 : w.cell? ⟨b + 1, 0, none⟩ = some x := by rw [cell_row hb]; rfl
  have y0 : w.cell? ⟨b + 2, 0, none⟩ = some y := by rw [cell_row hc]; rfl
  have zq := frozen_row hb 0
  have zy := frozen_row hc 0
  have hput := put7 ha (.int .i64 0) (.int .i32 0) (.slice none 0 0) (.bool false) (.int .i64 0) (.int .i64 0) (.slice none 0 0)
  have HA := Lib.hid hput
  have HB := Lib.hid hb
  have HC := Lib.hid hc
  clear ha hb hc hput
  obtain ⟨W7, hW7⟩ : ∃ W7, ((((((w.setCell ⟨b, 0, none⟩ (.int .i64 0)).setCell ⟨b, 1, none⟩ (.int .i32 0)).setCell ⟨b, 2, none⟩ (.slice none 0 0)).setCell ⟨b, 3, none⟩ (.bool false)).setCell ⟨b, 4, none⟩ (.int .i64 0)).setCell ⟨b, 5, none⟩ (.int .i64 0)).setCell ⟨b, 6, none⟩ (.slice none 0 0) = W7 := ⟨_, rfl⟩
  rw [hW7] at HA
  have HW7 := Lib.hid hW7
  clear hW7
  have k1 : W7.heap[b + 1]? = some (.cells #[x] 3 (0, 0)) := (HA.out.2.block _ (heap_lt HB.out) (by omega)).trans HB.out
  have k2 : W7.heap[b + 2]? = some (.cells #[y] 27 (0, 0)) := (HA.out.2.block _ (heap_lt HC.out) (by omega)).trans HC.out
  have HFIN : Hid (((W7.setCell ⟨b + 1, 0, none⟩ (.int .i64 0)).setCell ⟨b + 2, 0, none⟩ (.int .i64 c)).heap[b]? = some (.cells #[.int .i64 0, .int .i32 0, .slice none 0 0, .bool false, .int .i64 0, .int .i64 0, .slice none 0 0] 26 (0, 0)) ∧ ((W7.setCell ⟨b + 1, 0, none⟩ (.int .i64 0)).setCell ⟨b + 2, 0, none⟩ (.int .i64 c)).heap[b + 1]? = some (.cells #[.int .i64 0] 3 (0, 0)) ∧
      ((W7.setCell ⟨b + 1, 0, none⟩ (.int .i64 0)).setCell ⟨b + 2, 0, none⟩ (.int .i64 c)).heap[b + 2]? = some (.cells #[.int .i64 c] 27 (0, 0)) ∧ Fr (fun k => b ≤ k) w ((W7.setCell ⟨b + 1, 0, none⟩ (.int .i64 0)).setCell ⟨b + 2, 0, none⟩ (.int .i64 c))) := by
    refine ⟨?_, ?_, ?_, ?_⟩
    · rw [Below.heap_setCell _ _ _ _ (by show ¬ _; simp), Below.heap_setCell _ _ _ _ (by show ¬ _; simp)]
      exact HA.out.1
    · rw [Below.heap_setCell _ _ _ _ (by show ¬ _; simp)]
      exact heap_set k1 0 (.int .i64 0)
    · have : (W7.setCell ⟨b + 1, 0, none⟩ (.int .i64 0)).heap[b + 2]? = some (.cells #[y] 27 (0, 0)) := by
        rw [Below.heap_setCell _ _ _ _ (by show ¬ _; simp)]
        exact k2
      exact heap_set this 0 (.int .i64 c)
    · refine Fr.setCell (Fr.setCell (HA.out.2.mono (fun k _ e => by omega)) _ _ ?_) _ _ ?_ <;> (intro _; first | exact Nat.le_add_right b 1 | exact Nat.le_add_right b 2)
  clear k1 k2
  go_wp2
  rw [HW7.out]
  exact ⟨rfl, _, rfl, .tuple #[], results_none rfl _ _ _, rfl, rfl, HFIN.out⟩
end Go.Proofs.Ytkjiobbkbhmijaa.U
