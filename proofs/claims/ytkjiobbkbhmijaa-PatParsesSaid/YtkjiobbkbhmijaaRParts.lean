/-
  The program's parts: simple, sized, letter, starred, group.
-/
import Derived.Test.YtkjiobbkbhmijaaRMem
namespace Go.Proofs.Ytkjiobbkbhmijaa.U
open Go.RowKit
set_option linter.unusedVariables false
set_option linter.unusedSimpArgs false
set_option maxRecDepth 100000

theorem simple_any (k r : Int) (sa : Option Addr) (sn sc : Nat) (nt : Bool) (lo hi : Int) (pa : Option Addr) (pn pc : Nat) (w : World) :
    Calls Try.prog 41 #[.agg #[.int .i64 k, .int .i32 r, .slice sa sn sc, .bool nt, .int .i64 lo, .int .i64 hi, .slice pa pn pc]] w fun e w' =>
      e = .returned (.agg #[.int .i64 k, .int .i32 r, .slice sa sn sc, .bool nt, .int .i64 lo, .int .i64 hi, .slice pa pn pc, .int .i64 1]) ∧ Below w.heap.size w w' := by
  go_enter Try.func41, Try.ntmps41
  go_wp2
  refine bodyPost_ret (v := .agg #[.int .i64 k, .int .i32 r, .slice sa sn sc, .bool nt, .int .i64 lo, .int .i64 hi, .slice pa pn pc, .int .i64 1]) ?_ rfl ⟨rfl, ?_⟩
  · rw [results_cell1 rfl]
    go_simp
  · first | exact Below.refl _ _ | (refine Below.alloc (Below.alloc (Below.refl _ _) ?_ _) ?_ _ <;> simp)
theorem sized_big (k r : Int) (sa : Option Addr) (sn sc : Nat) (nt : Bool) (lo hi : Int) (pa : Option Addr) (pn pc : Nat) (s : Int) (hs : 401 ≤ s) (w : World) :
    Calls Try.prog 46 #[.agg #[.int .i64 k, .int .i32 r, .slice sa sn sc, .bool nt, .int .i64 lo, .int .i64 hi, .slice pa pn pc], .int .i64 s] w fun e w' =>
      e = .returned (.agg #[.int .i64 0, .int .i32 0, .slice none 0 0, .bool false, .int .i64 0, .int .i64 0, .slice none 0 0, .int .i64 401]) ∧ Below w.heap.size w w' := by
  go_enter Try.func46, Try.ntmps46
  go_wp2
  refine bodyPost_ret (v := .agg #[.int .i64 0, .int .i32 0, .slice none 0 0, .bool false, .int .i64 0, .int .i64 0, .slice none 0 0, .int .i64 401]) ?_ rfl ⟨rfl, ?_⟩
  · rw [results_cell1 rfl]
    go_simp
  · first | exact Below.refl _ _ | (refine Below.alloc (Below.alloc (Below.refl _ _) ?_ _) ?_ _ <;> simp)
theorem sized_small (k r : Int) (sa : Option Addr) (sn sc : Nat) (nt : Bool) (lo hi : Int) (pa : Option Addr) (pn pc : Nat) (s : Int) (hs : s ≤ 400) (w : World) :
    Calls Try.prog 46 #[.agg #[.int .i64 k, .int .i32 r, .slice sa sn sc, .bool nt, .int .i64 lo, .int .i64 hi, .slice pa pn pc], .int .i64 s] w fun e w' =>
      e = .returned (.agg #[.int .i64 k, .int .i32 r, .slice sa sn sc, .bool nt, .int .i64 lo, .int .i64 hi, .slice pa pn pc, .int .i64 s]) ∧ Below w.heap.size w w' := by
  have hs2 : ¬ (401 : Int) ≤ s := by omega
  go_enter Try.func46, Try.ntmps46
  go_wp2
  refine bodyPost_ret (v := .agg #[.int .i64 k, .int .i32 r, .slice sa sn sc, .bool nt, .int .i64 lo, .int .i64 hi, .slice pa pn pc, .int .i64 s]) ?_ rfl ⟨rfl, ?_⟩
  · rw [results_cell1 rfl]
    go_simp
  · first | exact Below.refl _ _ | (refine Below.alloc (Below.alloc (Below.refl _ _) ?_ _) ?_ _ <;> simp)
theorem sz_simple (k r : Int) (st : List (Int × Int)) (nt : Bool) (lo hi : Int) (hk : k ≠ 10) : (Re.mk k r st nt lo hi []).sz = 1 := by simp [Re.sz, szs]
/-- sized, in the words of parts -/
theorem sized_any (F : Nat → Prop) (x : Re) (k r : Int) (sa : Option Addr) (sn sc : Nat) (nt : Bool) (lo hi : Int) (pa : Option Addr) (pn pc : Nat) (s : Int) (hs : s = ((min x.sz 401 : Nat) : Int) ∨ (401 ≤ s ∧ 401 ≤ x.sz)) (w0 w : World) (hx : x.sz ≤ 400 → ReAt F w [.int .i64 k, .int .i32 r, .slice sa sn sc, .bool nt, .int .i64 lo, .int .i64 hi, .slice pa pn pc] x) :
    Calls Try.prog 46 #[.agg #[.int .i64 k, .int .i32 r, .slice sa sn sc, .bool nt, .int .i64 lo, .int .i64 hi, .slice pa pn pc], .int .i64 s] w fun e w' => ∃ v, e = .returned (ptV v x) ∧ Hid (PtAt F w v x) ∧ Below w.heap.size w w' := by
  by_cases hb : x.sz ≤ 400
  · have hs1 : s = (x.sz : Nat) := by omega
    refine (sized_small k r sa sn sc nt lo hi pa pn pc s (by omega) w).mono ?_
    rintro e w' ⟨rfl, h⟩
    refine ⟨_, ?_, ⟨fun _ => hx hb, fun h => by omega⟩, h⟩
    unfold ptV
    rw [Nat.min_eq_left (by omega), hs1]
    rfl
  · refine (sized_big k r sa sn sc nt lo hi pa pn pc s (by omega) w).mono ?_
    rintro e w' ⟨rfl, h⟩
    refine ⟨zero7, ?_, ⟨fun h => by omega, fun _ => rfl⟩, h⟩
    unfold ptV
    rw [Nat.min_eq_right (by omega)]
    rfl
theorem letter_any (c : Int) (w : World) :
    Calls Try.prog 52 #[.int .i32 c] w fun e w' => e = .returned (.agg #[.int .i64 1, .int .i32 c, .slice none 0 0, .bool false, .int .i64 0, .int .i64 0, .slice none 0 0, .int .i64 1]) ∧ Below w.heap.size w w' := by
  go_enter Try.func52, Try.ntmps52
  obtain ⟨w1, hw1⟩ : ∃ w1, w.alloc (.cells #[.int .i64 0, .int .i32 0, .slice none 0 0, .bool false, .int .i64 0, .int .i64 0, .slice none 0 0, .int .i64 0] 55) = w1 := ⟨_, rfl⟩
  have hg1 : w1.heap[w.heap.size]? = some (.cells #[.int .i64 0, .int .i32 0, .slice none 0 0, .bool false, .int .i64 0, .int .i64 0, .slice none 0 0, .int .i64 0] 55 (0, 0)) := by rw [← hw1]; exact heap_alloc_new w _
  have hb1 : Below w.heap.size w w1 := by rw [← hw1]; exact (Below.refl _ w).alloc (Nat.le_refl _) _
  have hsz : w.heap.size < w1.heap.size := heap_lt hg1
  have HG := Lib.hid hg1
  have HW := Lib.hid hw1
  clear hg1 hw1
  go_upto_region 1 with fail
  rw [HW.out]
  go_wp2_with (go_at_call 41; refine (simple_any 1 c none 0 0 false 0 0 none 0 0 _).mono ?_; rintro e w2 ⟨rfl, hb2⟩; obtain ⟨p0, p1, p2, p3, p4, p5, p6, p7, z0, z1, z2, z3, z4, z5, z6, z7⟩ := row8 ((hb2.block _ hsz).trans HG.out))
  refine bodyPost_ret (v := .agg #[.int .i64 1, .int .i32 c, .slice none 0 0, .bool false, .int .i64 0, .int .i64 0, .slice none 0 0, .int .i64 1]) ?_ rfl ⟨rfl, ?_⟩
  · rw [results_cell1 rfl]
    go_simp
  · have := hb1.trans (hb2.mono hb1.size)
    (repeat' (refine setCell_below ?_ _ _ _ ?_)) <;> first | assumption | exact Nat.le_refl _
end Go.Proofs.Ytkjiobbkbhmijaa.U
