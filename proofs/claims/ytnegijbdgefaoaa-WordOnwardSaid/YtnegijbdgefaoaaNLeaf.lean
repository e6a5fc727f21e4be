/-
  The document's leaf functions: Word, Class, Ahead.
-/
import Derived.Test.YtnegijbdgefaoaaNBase
import Derived.Test.YtnegijbdgefaoaaNPure
namespace Go.Proofs.Ytnegijbdgefaoaa.U
open Go.RowKit
set_option linter.unusedVariables false
set_option linter.unusedSimpArgs false
set_option maxRecDepth 100000

theorem rword_any (c : Int) (w : World) :
    Calls Try.prog 31 #[.int .i32 c] w fun e w' => e = .returned (.bool (wordR c)) ∧ w = w' := by
  have hall : c ≤ 47 ∨ (48 ≤ c ∧ c ≤ 57) ∨ (58 ≤ c ∧ c ≤ 64) ∨ (65 ≤ c ∧ c ≤ 90) ∨ (91 ≤ c ∧ c ≤ 94) ∨ c = 95 ∨ c = 96 ∨ (97 ≤ c ∧ c ≤ 122) ∨ (123 ≤ c ∧ c ≤ 127) ∨ 128 ≤ c := by omega
  rcases hall with ha | ha | ha | ha | ha | ha | ha | ha | ha | ha
  · have ha1 := ha
    have t0 : ¬ 48 ≤ c := by omega
    have d0 : decide (48 ≤ c) = false := by simp; omega
    have t1 : c ≤ 57 := by omega
    have d1 : decide (c ≤ 57) = true := by simp; omega
    have t2 : ¬ 65 ≤ c := by omega
    have d2 : decide (65 ≤ c) = false := by simp; omega
    have t3 : c ≤ 90 := by omega
    have d3 : decide (c ≤ 90) = true := by simp; omega
    have t4 : ¬ 97 ≤ c := by omega
    have d4 : decide (97 ≤ c) = false := by simp; omega
    have t5 : c ≤ 122 := by omega
    have d5 : decide (c ≤ 122) = true := by simp; omega
    have t6 : ¬ 128 ≤ c := by omega
    have d6 : decide (128 ≤ c) = false := by simp; omega
    have e1 : (c == 95) = false := by simp; omega
    have e2 : decide (c = 95) = false := by simp; omega
    have hw : wordR c = false := by simp [wordR]; omega
    rw [hw]
    clear hw e2
    go_enter Try.func31, Try.ntmps31
    go_wp2
    go_ret
    exact ⟨rfl, rfl⟩
  · obtain ⟨ha1, ha2⟩ := ha
    have t0 : 48 ≤ c := by omega
    have d0 : decide (48 ≤ c) = true := by simp; omega
    have t1 : c ≤ 57 := by omega
    have d1 : decide (c ≤ 57) = true := by simp; omega
    have t2 : ¬ 65 ≤ c := by omega
    have d2 : decide (65 ≤ c) = false := by simp; omega
    have t3 : c ≤ 90 := by omega
    have d3 : decide (c ≤ 90) = true := by simp; omega
    have t4 : ¬ 97 ≤ c := by omega
    have d4 : decide (97 ≤ c) = false := by simp; omega
    have t5 : c ≤ 122 := by omega
    have d5 : decide (c ≤ 122) = true := by simp; omega
    have t6 : ¬ 128 ≤ c := by omega
    have d6 : decide (128 ≤ c) = false := by simp; omega
    have e1 : (c == 95) = false := by simp; omega
    have e2 : decide (c = 95) = false := by simp; omega
    have hw : wordR c = true := by simp [wordR]; omega
    rw [hw]
    clear hw e2
    go_enter Try.func31, Try.ntmps31
    go_wp2
    go_ret
    exact ⟨rfl, rfl⟩
  · obtain ⟨ha1, ha2⟩ := ha
    have t0 : 48 ≤ c := by omega
    have d0 : decide (48 ≤ c) = true := by simp; omega
    have t1 : ¬ c ≤ 57 := by omega
    have d1 : decide (c ≤ 57) = false := by simp; omega
    have t2 : ¬ 65 ≤ c := by omega
    have d2 : decide (65 ≤ c) = false := by simp; omega
    have t3 : c ≤ 90 := by omega
    have d3 : decide (c ≤ 90) = true := by simp; omega
    have t4 : ¬ 97 ≤ c := by omega
    have d4 : decide (97 ≤ c) = false := by simp; omega
    have t5 : c ≤ 122 := by omega
    have d5 : decide (c ≤ 122) = true := by simp; omega
    have t6 : ¬ 128 ≤ c := by omega
    have d6 : decide (128 ≤ c) = false := by simp; omega
    have e1 : (c == 95) = false := by simp; omega
    have e2 : decide (c = 95) = false := by simp; omega
    have hw : wordR c = false := by simp [wordR]; omega
    rw [hw]
    clear hw e2
    go_enter Try.func31, Try.ntmps31
    go_wp2
    go_ret
    exact ⟨rfl, rfl⟩
  · obtain ⟨ha1, ha2⟩ := ha
    have t0 : 48 ≤ c := by omega
    have d0 : decide (48 ≤ c) = true := by simp; omega
    have t1 : ¬ c ≤ 57 := by omega
    have d1 : decide (c ≤ 57) = false := by simp; omega
    have t2 : 65 ≤ c := by omega
    have d2 : decide (65 ≤ c) = true := by simp; omega
    have t3 : c ≤ 90 := by omega
    have d3 : decide (c ≤ 90) = true := by simp; omega
    have t4 : ¬ 97 ≤ c := by omega
    have d4 : decide (97 ≤ c) = false := by simp; omega
    have t5 : c ≤ 122 := by omega
    have d5 : decide (c ≤ 122) = true := by simp; omega
    have t6 : ¬ 128 ≤ c := by omega
    have d6 : decide (128 ≤ c) = false := by simp; omega
    have e1 : (c == 95) = false := by simp; omega
    have e2 : decide (c = 95) = false := by simp; omega
    have hw : wordR c = true := by simp [wordR]; omega
    rw [hw]
    clear hw e2
    go_enter Try.func31, Try.ntmps31
    go_wp2
    go_ret
    exact ⟨rfl, rfl⟩
  · obtain ⟨ha1, ha2⟩ := ha
    have t0 : 48 ≤ c := by omega
    have d0 : decide (48 ≤ c) = true := by simp; omega
    have t1 : ¬ c ≤ 57 := by omega
    have d1 : decide (c ≤ 57) = false := by simp; omega
    have t2 : 65 ≤ c := by omega
    have d2 : decide (65 ≤ c) = true := by simp; omega
    have t3 : ¬ c ≤ 90 := by omega
    have d3 : decide (c ≤ 90) = false := by simp; omega
    have t4 : ¬ 97 ≤ c := by omega
    have d4 : decide (97 ≤ c) = false := by simp; omega
    have t5 : c ≤ 122 := by omega
    have d5 : decide (c ≤ 122) = true := by simp; omega
    have t6 : ¬ 128 ≤ c := by omega
    have d6 : decide (128 ≤ c) = false := by simp; omega
    have e1 : (c == 95) = false := by simp; omega
    have e2 : decide (c = 95) = false := by simp; omega
    have hw : wordR c = false := by simp [wordR]; omega
    rw [hw]
    clear hw e2
    go_enter Try.func31, Try.ntmps31
    go_wp2
    go_ret
    exact ⟨rfl, rfl⟩
  · have ha1 := ha
    have t0 : 48 ≤ c := by omega
    have d0 : decide (48 ≤ c) = true := by simp; omega
    have t1 : ¬ c ≤ 57 := by omega
    have d1 : decide (c ≤ 57) = false := by simp; omega
    have t2 : 65 ≤ c := by omega
    have d2 : decide (65 ≤ c) = true := by simp; omega
    have t3 : ¬ c ≤ 90 := by omega
    have d3 : decide (c ≤ 90) = false := by simp; omega
    have t4 : ¬ 97 ≤ c := by omega
    have d4 : decide (97 ≤ c) = false := by simp; omega
    have t5 : c ≤ 122 := by omega
    have d5 : decide (c ≤ 122) = true := by simp; omega
    have t6 : ¬ 128 ≤ c := by omega
    have d6 : decide (128 ≤ c) = false := by simp; omega
    have e1 : (c == 95) = true := by simp; omega
    have e2 : decide (c = 95) = true := by simp; omega
    have hw : wordR c = true := by simp [wordR]; omega
    rw [hw]
    clear hw e2
    go_enter Try.func31, Try.ntmps31
    go_wp2
    go_ret
    exact ⟨rfl, rfl⟩
  · have ha1 := ha
    have t0 : 48 ≤ c := by omega
    have d0 : decide (48 ≤ c) = true := by simp; omega
    have t1 : ¬ c ≤ 57 := by omega
    have d1 : decide (c ≤ 57) = false := by simp; omega
    have t2 : 65 ≤ c := by omega
    have d2 : decide (65 ≤ c) = true := by simp; omega
    have t3 : ¬ c ≤ 90 := by omega
    have d3 : decide (c ≤ 90) = false := by simp; omega
    have t4 : ¬ 97 ≤ c := by omega
    have d4 : decide (97 ≤ c) = false := by simp; omega
    have t5 : c ≤ 122 := by omega
    have d5 : decide (c ≤ 122) = true := by simp; omega
    have t6 : ¬ 128 ≤ c := by omega
    have d6 : decide (128 ≤ c) = false := by simp; omega
    have e1 : (c == 95) = false := by simp; omega
    have e2 : decide (c = 95) = false := by simp; omega
    have hw : wordR c = false := by simp [wordR]; omega
    rw [hw]
    clear hw e2
    go_enter Try.func31, Try.ntmps31
    go_wp2
    go_ret
    exact ⟨rfl, rfl⟩
  · obtain ⟨ha1, ha2⟩ := ha
    have t0 : 48 ≤ c := by omega
    have d0 : decide (48 ≤ c) = true := by simp; omega
    have t1 : ¬ c ≤ 57 := by omega
    have d1 : decide (c ≤ 57) = false := by simp; omega
    have t2 : 65 ≤ c := by omega
    have d2 : decide (65 ≤ c) = true := by simp; omega
    have t3 : ¬ c ≤ 90 := by omega
    have d3 : decide (c ≤ 90) = false := by simp; omega
    have t4 : 97 ≤ c := by omega
    have d4 : decide (97 ≤ c) = true := by simp; omega
    have t5 : c ≤ 122 := by omega
    have d5 : decide (c ≤ 122) = true := by simp; omega
    have t6 : ¬ 128 ≤ c := by omega
    have d6 : decide (128 ≤ c) = false := by simp; omega
    have e1 : (c == 95) = false := by simp; omega
    have e2 : decide (c = 95) = false := by simp; omega
    have hw : wordR c = true := by simp [wordR]; omega
    rw [hw]
    clear hw e2
    go_enter Try.func31, Try.ntmps31
    go_wp2
    go_ret
    exact ⟨rfl, rfl⟩
  · obtain ⟨ha1, ha2⟩ := ha
    have t0 : 48 ≤ c := by omega
    have d0 : decide (48 ≤ c) = true := by simp; omega
    have t1 : ¬ c ≤ 57 := by omega
    have d1 : decide (c ≤ 57) = false := by simp; omega
    have t2 : 65 ≤ c := by omega
    have d2 : decide (65 ≤ c) = true := by simp; omega
    have t3 : ¬ c ≤ 90 := by omega
    have d3 : decide (c ≤ 90) = false := by simp; omega
    have t4 : 97 ≤ c := by omega
    have d4 : decide (97 ≤ c) = true := by simp; omega
    have t5 : ¬ c ≤ 122 := by omega
    have d5 : decide (c ≤ 122) = false := by simp; omega
    have t6 : ¬ 128 ≤ c := by omega
    have d6 : decide (128 ≤ c) = false := by simp; omega
    have e1 : (c == 95) = false := by simp; omega
    have e2 : decide (c = 95) = false := by simp; omega
    have hw : wordR c = false := by simp [wordR]; omega
    rw [hw]
    clear hw e2
    go_enter Try.func31, Try.ntmps31
    go_wp2
    go_ret
    exact ⟨rfl, rfl⟩
  · have ha1 := ha
    have t0 : 48 ≤ c := by omega
    have d0 : decide (48 ≤ c) = true := by simp; omega
    have t1 : ¬ c ≤ 57 := by omega
    have d1 : decide (c ≤ 57) = false := by simp; omega
    have t2 : 65 ≤ c := by omega
    have d2 : decide (65 ≤ c) = true := by simp; omega
    have t3 : ¬ c ≤ 90 := by omega
    have d3 : decide (c ≤ 90) = false := by simp; omega
    have t4 : 97 ≤ c := by omega
    have d4 : decide (97 ≤ c) = true := by simp; omega
    have t5 : ¬ c ≤ 122 := by omega
    have d5 : decide (c ≤ 122) = false := by simp; omega
    have t6 : 128 ≤ c := by omega
    have d6 : decide (128 ≤ c) = true := by simp; omega
    have e1 : (c == 95) = false := by simp; omega
    have e2 : decide (c = 95) = false := by simp; omega
    have hw : wordR c = true := by simp [wordR]; omega
    rw [hw]
    clear hw e2
    go_enter Try.func31, Try.ntmps31
    go_wp2
    go_ret
    exact ⟨rfl, rfl⟩
theorem rclass_any (c : Int) (big : Bool) (w : World) :
    Calls Try.prog 14 #[.int .i32 c, .bool big] w fun e w' => e = .returned (.int .i64 (cls big c)) ∧ w = w' := by
  by_cases h1 : c = 32
  · have e1 : (c == 32) = true := by simp [h1]
    have hc : cls big c = 0 := by simp [cls, h1]
    rw [hc]
    clear hc h1
    go_enter Try.func14, Try.ntmps14
    go_wp2
    go_ret
    exact ⟨rfl, rfl⟩
  have e1 : (c == 32) = false := by simp [h1]
  by_cases h2 : c = 9
  · have e2 : (c == 9) = true := by simp [h2]
    have hc : cls big c = 0 := by simp [cls, h2]
    rw [hc]
    clear hc h1 h2
    go_enter Try.func14, Try.ntmps14
    go_wp2
    go_ret
    exact ⟨rfl, rfl⟩
  have e2 : (c == 9) = false := by simp [h2]
  cases big with
  | true =>
    have hc : cls true c = 1 := by simp [cls, h1, h2]
    rw [hc]
    clear hc h1 h2
    go_enter Try.func14, Try.ntmps14
    go_wp2
    go_ret
    exact ⟨rfl, rfl⟩
  | false =>
    obtain ⟨b, hb⟩ : ∃ b, wordR c = b := ⟨_, rfl⟩
    have hc : cls false c = if b = true then 1 else 2 := by simp [cls, h1, h2, hb]
    rw [hc]
    have HW := Lib.hid (rword_any c)
    rw [hb] at HW
    clear hc h1 h2 hb
    go_enter Try.func14, Try.ntmps14
    cases b
    · go_wp2_with (go_at_call 31; refine (HW.out _).mono ?_; rintro e w' ⟨rfl, rfl⟩)
      go_ret
      exact ⟨rfl, rfl⟩
    · go_wp2_with (go_at_call 31; refine (HW.out _).mono ?_; rintro e w' ⟨rfl, rfl⟩)
      go_ret
      exact ⟨rfl, rfl⟩
/-- a place as the program has it -/
def plV (p : Pl) : Value := .agg #[.int .i64 (p.1 : Nat), .int .i64 (p.2 : Nat)]
theorem rahead_any (p q : Pl) (w : World) :
    Calls Try.prog 27 #[plV p, plV q] w fun e w' => e = .returned (.bool (aheadP p q)) ∧ Below w.heap.size w w' := by
  obtain ⟨a, b⟩ := p
  obtain ⟨c, d⟩ := q
  show Calls Try.prog 27 #[.agg #[.int .i64 (a : Nat), .int .i64 (b : Nat)], .agg #[.int .i64 (c : Nat), .int .i64 (d : Nat)]] w _
  by_cases h1 : a < c
  · have d1 : decide ((a : Int) < (c : Int)) = true := by simp; omega
    have hr : aheadP (a, b) (c, d) = true := by rw [aheadP_iff]; exact Or.inl h1
    rw [hr]
    clear hr
    go_enter Try.func27, Try.ntmps27
    go_wp2
    go_ret
    exact ⟨ret_bool (by first | rfl | (simp; omega)), ((Below.refl _ w).alloc (Nat.le_refl _) _).alloc (by simp) _⟩
  have d1 : decide ((a : Int) < (c : Int)) = false := by simp; omega
  by_cases h2 : a = c
  · subst h2
    have e1 : ((a : Int) == (a : Int)) = true := by simp
    by_cases h3 : b < d
    · have d2 : decide ((b : Int) < (d : Int)) = true := by simp; omega
      have hr : aheadP (a, b) (a, d) = true := by rw [aheadP_iff]; exact Or.inr ⟨rfl, h3⟩
      rw [hr]
      clear hr
      go_enter Try.func27, Try.ntmps27
      go_wp2
      go_ret
      exact ⟨ret_bool (by first | rfl | (simp; omega)), ((Below.refl _ w).alloc (Nat.le_refl _) _).alloc (by simp) _⟩
    · have d2 : decide ((b : Int) < (d : Int)) = false := by simp; omega
      have hr : aheadP (a, b) (a, d) = false := by simp [aheadP]; omega
      rw [hr]
      clear hr
      go_enter Try.func27, Try.ntmps27
      go_wp2
      go_ret
      exact ⟨ret_bool (by first | rfl | (simp; omega)), ((Below.refl _ w).alloc (Nat.le_refl _) _).alloc (by simp) _⟩
  · have e1 : ((a : Int) == (c : Int)) = false := by simp; omega
    have hr : aheadP (a, b) (c, d) = false := by simp [aheadP]; omega
    rw [hr]
    clear hr
    go_enter Try.func27, Try.ntmps27
    go_wp2
    go_ret
    exact ⟨ret_bool (by first | rfl | (simp; omega)), ((Below.refl _ w).alloc (Nat.le_refl _) _).alloc (by simp) _⟩
end Go.Proofs.Ytnegijbdgefaoaa.U
