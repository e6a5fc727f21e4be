/-
  The small functions: near, isName, isNear, Name, fits, Move (the program's and the document's).
-/
import Derived.Test.YtbgbhlnidabhnaaMPure
import Derived.RegionTactic
namespace Go.Proofs.Ytbgbhlnidabhnaa.U
open Go.RowKit
set_option linter.unusedVariables false
set_option linter.unusedSimpArgs false
set_option maxRecDepth 100000

theorem near_any (p : Po) (c : Ch) (oa na : Option Addr) (on oc nn nc : Nat) (w : World) :
    Calls Try.prog 8 #[p.v, .agg #[.int .i64 c.pos, .slice oa on oc, .slice na nn nc]] w fun e w' => e = .returned (.bool (nearB p c)) ∧ Below w.heap.size w w' := by
  obtain ⟨l, cc⟩ := p
  obtain ⟨pos, old, now⟩ := c
  show Calls Try.prog 8 #[.agg #[.int .i64 l, .int .i64 cc], .agg #[.int .i64 pos, .slice oa on oc, .slice na nn nc]] w _
  unfold nearB
  go_enter Try.func8, Try.ntmps8
  by_cases h0 : l ≤ 1099511627776
  rotate_left
  · have d0 : decide (l ≤ 1099511627776) = false := by simpa using h0
    go_wp2
    go_ret
    exact ⟨ret_bool (by simp [h0]), ((Below.refl _ w).alloc (Nat.le_refl _) _).alloc (by simp) _⟩
  by_cases h1 : -1099511627776 ≤ l
  rotate_left
  · have d1 : decide (-1099511627776 ≤ l) = false := by simpa using h1
    go_wp2
    go_ret
    exact ⟨ret_bool (by simp [h1]), ((Below.refl _ w).alloc (Nat.le_refl _) _).alloc (by simp) _⟩
  by_cases h2 : pos ≤ 1099511627776
  rotate_left
  · have d2 : decide (pos ≤ 1099511627776) = false := by simpa using h2
    go_wp2
    go_ret
    exact ⟨ret_bool (by simp [h2]), ((Below.refl _ w).alloc (Nat.le_refl _) _).alloc (by simp) _⟩
  by_cases h3 : -1099511627776 ≤ pos
  rotate_left
  · have d3 : decide (-1099511627776 ≤ pos) = false := by simpa using h3
    go_wp2
    go_ret
    exact ⟨ret_bool (by simp [h3]), ((Below.refl _ w).alloc (Nat.le_refl _) _).alloc (by simp) _⟩
  go_wp2
  go_ret
  exact ⟨ret_bool (by simp [h0, h1, h2, h3]), ((Below.refl _ w).alloc (Nat.le_refl _) _).alloc (by simp) _⟩
theorem isNear_any (p : Po) (w : World) :
    Calls Try.prog 31 #[p.v] w fun e w' => e = .returned (.bool (fitsP p)) ∧ Below w.heap.size w w' := by
  obtain ⟨l, cc⟩ := p
  show Calls Try.prog 31 #[.agg #[.int .i64 l, .int .i64 cc]] w _
  unfold fitsP
  go_enter Try.func31, Try.ntmps31
  by_cases h0 : 0 ≤ l
  rotate_left
  · have d0 : decide (0 ≤ l) = false := by simpa using h0
    go_wp2
    go_ret
    exact ⟨ret_bool (by simp [h0]), (Below.refl _ w).alloc (Nat.le_refl _) _⟩
  by_cases h1 : l ≤ 1073741824
  rotate_left
  · have d1 : decide (l ≤ 1073741824) = false := by simpa using h1
    go_wp2
    go_ret
    exact ⟨ret_bool (by simp [h1]), (Below.refl _ w).alloc (Nat.le_refl _) _⟩
  by_cases h2 : 0 ≤ cc
  rotate_left
  · have d2 : decide (0 ≤ cc) = false := by simpa using h2
    go_wp2
    go_ret
    exact ⟨ret_bool (by simp [h2]), (Below.refl _ w).alloc (Nat.le_refl _) _⟩
  by_cases h3 : cc ≤ 1073741824
  rotate_left
  · have d3 : decide (cc ≤ 1073741824) = false := by simpa using h3
    go_wp2
    go_ret
    exact ⟨ret_bool (by simp [h3]), (Below.refl _ w).alloc (Nat.le_refl _) _⟩
  go_wp2
  go_ret
  exact ⟨ret_bool (by simp [h0, h1, h2, h3]), (Below.refl _ w).alloc (Nat.le_refl _) _⟩
theorem fits_any (p : Po) (w : World) :
    Calls Try.prog 33 #[p.v] w fun e w' => e = .returned (.bool (fitsP p)) ∧ Below w.heap.size w w' := by
  obtain ⟨l, cc⟩ := p
  show Calls Try.prog 33 #[.agg #[.int .i64 l, .int .i64 cc]] w _
  unfold fitsP
  go_enter Try.func33, Try.ntmps33
  by_cases h0 : 0 ≤ l
  rotate_left
  · have d0 : decide (0 ≤ l) = false := by simpa using h0
    go_wp2
    go_ret
    exact ⟨ret_bool (by simp [h0]), (Below.refl _ w).alloc (Nat.le_refl _) _⟩
  by_cases h1 : l ≤ 1073741824
  rotate_left
  · have d1 : decide (l ≤ 1073741824) = false := by simpa using h1
    go_wp2
    go_ret
    exact ⟨ret_bool (by simp [h1]), (Below.refl _ w).alloc (Nat.le_refl _) _⟩
  by_cases h2 : 0 ≤ cc
  rotate_left
  · have d2 : decide (0 ≤ cc) = false := by simpa using h2
    go_wp2
    go_ret
    exact ⟨ret_bool (by simp [h2]), (Below.refl _ w).alloc (Nat.le_refl _) _⟩
  by_cases h3 : cc ≤ 1073741824
  rotate_left
  · have d3 : decide (cc ≤ 1073741824) = false := by simpa using h3
    go_wp2
    go_ret
    exact ⟨ret_bool (by simp [h3]), (Below.refl _ w).alloc (Nat.le_refl _) _⟩
  go_wp2
  go_ret
  exact ⟨ret_bool (by simp [h0, h1, h2, h3]), (Below.refl _ w).alloc (Nat.le_refl _) _⟩
set_option maxHeartbeats 2000000 in
theorem isName_any (r : Int) (w : World) :
    Calls Try.prog 30 #[.int .i32 r] w fun e w' => e = .returned (.bool (nameB r)) ∧ w' = w := by
  unfold nameB
  by_cases h0 : r = 96 ∨ r = 46 ∨ r = 94 ∨ r = 91 ∨ r = 93 ∨ r = 60 ∨ r = 62
  · rcases h0 with rfl | rfl | rfl | rfl | rfl | rfl | rfl <;>
    (go_enter Try.func30, Try.ntmps30; go_wp2; go_ret; exact ⟨ret_bool (by decide), rfl⟩)
  · have a1 : (r == 96) = false := by simp; omega
    have a2 : (r == 46) = false := by simp; omega
    have a3 : (r == 94) = false := by simp; omega
    have a4 : (r == 91) = false := by simp; omega
    have a5 : (r == 93) = false := by simp; omega
    have a6 : (r == 60) = false := by simp; omega
    have a7 : (r == 62) = false := by simp; omega
    have H := Lib.hid h0
    clear h0
    go_enter Try.func30, Try.ntmps30
    by_cases b1 : 97 ≤ r <;> by_cases b2 : r ≤ 122 <;>
    (go_wp2; go_ret; exact ⟨ret_bool (by have := H.out; simp [b1, b2]; try omega), rfl⟩)
set_option maxHeartbeats 4000000 in
theorem rname_any (r : Int) (w : World) :
    Calls Try.prog 32 #[.int .i32 r] w fun e w' => e = .returned (.bool (nameB r)) ∧ w' = w := by
  unfold nameB
  by_cases h0 : r = 96 ∨ r = 46 ∨ r = 94 ∨ r = 91 ∨ r = 93 ∨ r = 60 ∨ r = 62
  · rcases h0 with rfl | rfl | rfl | rfl | rfl | rfl | rfl <;>
    (go_enter Try.func32, Try.ntmps32; go_wp2; go_ret; exact ⟨ret_bool (by decide), rfl⟩)
  · have a1 : (r == 96) = false := by simp; omega
    have a2 : (r == 46) = false := by simp; omega
    have a3 : (r == 94) = false := by simp; omega
    have a4 : (r == 91) = false := by simp; omega
    have a5 : (r == 93) = false := by simp; omega
    have a6 : (r == 60) = false := by simp; omega
    have a7 : (r == 62) = false := by simp; omega
    have H := Lib.hid h0
    clear h0
    go_enter Try.func32, Try.ntmps32
    by_cases b1 : 97 ≤ r <;> by_cases b2 : r ≤ 122 <;>
    (go_wp2; go_ret; exact ⟨ret_bool (by have := H.out; simp [b1, b2]; try omega), rfl⟩)
end Go.Proofs.Ytbgbhlnidabhnaa.U
