/-
  The program's leaf functions: Word, Class, isBlank, clipped, Clip, Last. (Its first two contracts are MADE out of XNLeaf's.)
-/
import Derived.Test.YtikdojebnbmpoaaOBase
namespace Go.Proofs.Ytikdojebnbmpoaa.U
open Go.RowKit
set_option linter.unusedVariables false
set_option linter.unusedSimpArgs false
set_option maxRecDepth 100000

theorem wword_any (c : Int) (w : World) :
    Calls Try.prog 78 #[.int .i32 c] w fun e w' => e = .returned (.bool (wordR c)) ∧ w = w' := by
  have hall : c ≤ 47 ∨ (48 ≤ c ∧ c ≤ 57) ∨ (58 ≤ c ∧ c ≤ 64) ∨ (65 ≤ c ∧ c ≤ 90) ∨ (91 ≤ c ∧ c ≤ 94) ∨ c = 95 ∨ c = 96 ∨ (97 ≤ c ∧ c ≤ 122) ∨ (123 ≤ c ∧ c ≤ 127) ∨ 128 ≤ c := by omega
  rcases hall with ha | ha | ha | ha | ha | ha | ha | ha | ha | ha
  · have ha1 := ha
    have t0 : ¬ 48 ≤ c := by omega
    have d0 : decide (48 ≤ c) = false := by simp; omega
    have t1 : c ≤ 57 := by omega
    have d1 : decide (c ≤ 57) = true := by simp; omega
    have t2 : ¬ 65 ≤ c := by omega
    have d2 : decide (65 ≤ c) = false := by simp; omega
    have t3 : c ≤ 90 := by omega
    have d3 : decide (c ≤ 90) = true := by simp; omega
    have t4 : ¬ 97 ≤ c := by omega
    have d4 : decide (97 ≤ c) = false := by simp; omega
    have t5 : c ≤ 122 := by omega
    have d5 : decide (c ≤ 122) = true := by simp; omega
    have t6 : ¬ 128 ≤ c := by omega
    have d6 : decide (128 ≤ c) = false := by simp; omega
    have e1 : (c == 95) = false := by simp; omega
    have e2 : decide (c = 95) = false := by simp; omega
    have hw : wordR c = false := by simp [wordR]; omega
    rw [hw]
    clear hw e2
    go_enter Try.func78, Try.ntmps78
    go_wp2
    go_ret
    exact ⟨rfl, rfl⟩
  · obtain ⟨ha1, ha2⟩ := ha
    have t0 : 48 ≤ c := by omega
    have d0 : decide (48 ≤ c) = true := by simp; omega
    have t1 : c ≤ 57 := by omega
    have d1 : decide (c ≤ 57) = true := by simp; omega
    have t2 : ¬ 65 ≤ c := by omega
    have d2 : decide (65 ≤ c) = false := by simp; omega
    have t3 : c ≤ 90 := by omega
    have d3 : decide (c ≤ 90) = true := by simp; omega
    have t4 : ¬ 97 ≤ c := by omega
    have d4 : decide (97 ≤ c) = false := by simp; omega
    have t5 : c ≤ 122 := by omega
    have d5 : decide (c ≤ 122) = true := by simp; omega
    have t6 : ¬ 128 ≤ c := by omega
    have d6 : decide (128 ≤ c) = false := by simp; omega
    have e1 : (c == 95) = false := by simp; omega
    have e2 : decide (c = 95) = false := by simp; omega
    have hw : wordR c = true := by simp [wordR]; omega
    rw [hw]
    clear hw e2
    go_enter Try.func78, Try.ntmps78
    go_wp2
    go_ret
    exact ⟨rfl, rfl⟩
  · obtain ⟨ha1, ha2⟩ := ha
    have t0 : 48 ≤ c := by omega
    have d0 : decide (48 ≤ c) = true := by simp; omega
    have t1 : ¬ c ≤ 57 := by omega
    have d1 : decide (c ≤ 57) = false := by simp; omega
    have t2 : ¬ 65 ≤ c := by omega
    have d2 : decide (65 ≤ c) = false := by simp; omega
    have t3 : c ≤ 90 := by omega
    have d3 : decide (c ≤ 90) = true := by simp; omega
    have t4 : ¬ 97 ≤ c := by omega
    have d4 : decide (97 ≤ c) = false := by simp; omega
    have t5 : c ≤ 122 := by omega
    have d5 : decide (c ≤ 122) = true := by simp; omega
    have t6 : ¬ 128 ≤ c := by omega
    have d6 : decide (128 ≤ c) = false := by simp; omega
    have e1 : (c == 95) = false := by simp; omega
    have e2 : decide (c = 95) = false := by simp; omega
    have hw : wordR c = false := by simp [wordR]; omega
    rw [hw]
    clear hw e2
    go_enter Try.func78, Try.ntmps78
    go_wp2
    go_ret
    exact ⟨rfl, rfl⟩
  · obtain ⟨ha1, ha2⟩ := ha
    have t0 : 48 ≤ c := by omega
    have d0 : decide (48 ≤ c) = true := by simp; omega
    have t1 : ¬ c ≤ 57 := by omega
    have d1 : decide (c ≤ 57) = false := by simp; omega
    have t2 : 65 ≤ c := by omega
    have d2 : decide (65 ≤ c) = true := by simp; omega
    have t3 : c ≤ 90 := by omega
    have d3 : decide (c ≤ 90) = true := by simp; omega
    have t4 : ¬ 97 ≤ c := by omega
    have d4 : decide (97 ≤ c) = false := by simp; omega
    have t5 : c ≤ 122 := by omega
    have d5 : decide (c ≤ 122) = true := by simp; omega
    have t6 : ¬ 128 ≤ c := by omega
    have d6 : decide (128 ≤ c) = false := by simp; omega
    have e1 : (c == 95) = false := by simp; omega
    have e2 : decide (c = 95) = false := by simp; omega
    have hw : wordR c = true := by simp [wordR]; omega
    rw [hw]
    clear hw e2
    go_enter Try.func78, Try.ntmps78
    go_wp2
    go_ret
    exact ⟨rfl, rfl⟩
  · obtain ⟨ha1, ha2⟩ := ha
    have t0 : 48 ≤ c := by omega
    have d0 : decide (48 ≤ c) = true := by simp; omega
    have t1 : ¬ c ≤ 57 := by omega
    have d1 : decide (c ≤ 57) = false := by simp; omega
    have t2 : 65 ≤ c := by omega
    have d2 : decide (65 ≤ c) = true := by simp; omega
    have t3 : ¬ c ≤ 90 := by omega
    have d3 : decide (c ≤ 90) = false := by simp; omega
    have t4 : ¬ 97 ≤ c := by omega
    have d4 : decide (97 ≤ c) = false := by simp; omega
    have t5 : c ≤ 122 := by omega
    have d5 : decide (c ≤ 122) = true := by simp; omega
    have t6 : ¬ 128 ≤ c := by omega
    have d6 : decide (128 ≤ c) = false := by simp; omega
    have e1 : (c == 95) = false := by simp; omega
    have e2 : decide (c = 95) = false := by simp; omega
    have hw : wordR c = false := by simp [wordR]; omega
    rw [hw]
    clear hw e2
    go_enter Try.func78, Try.ntmps78
    go_wp2
    go_ret
    exact ⟨rfl, rfl⟩
  · have ha1 := ha
    have t0 : 48 ≤ c := by omega
    have d0 : decide (48 ≤ c) = true := by simp; omega
    have t1 : ¬ c ≤ 57 := by omega
    have d1 : decide (c ≤ 57) = false := by simp; omega
    have t2 : 65 ≤ c := by omega
    have d2 : decide (65 ≤ c) = true := by simp; omega
    have t3 : ¬ c ≤ 90 := by omega
    have d3 : decide (c ≤ 90) = false := by simp; omega
    have t4 : ¬ 97 ≤ c := by omega
    have d4 : decide (97 ≤ c) = false := by simp; omega
    have t5 : c ≤ 122 := by omega
    have d5 : decide (c ≤ 122) = true := by simp; omega
    have t6 : ¬ 128 ≤ c := by omega
    have d6 : decide (128 ≤ c) = false := by simp; omega
    have e1 : (c == 95) = true := by simp; omega
    have e2 : decide (c = 95) = true := by simp; omega
    have hw : wordR c = true := by simp [wordR]; omega
    rw [hw]
    clear hw e2
    go_enter Try.func78, Try.ntmps78
    go_wp2
    go_ret
    exact ⟨rfl, rfl⟩
  · have ha1 := ha
    have t0 : 48 ≤ c := by omega
    have d0 : decide (48 ≤ c) = true := by simp; omega
    have t1 : ¬ c ≤ 57 := by omega
    have d1 : decide (c ≤ 57) = false := by simp; omega
    have t2 : 65 ≤ c := by omega
    have d2 : decide (65 ≤ c) = true := by simp; omega
    have t3 : ¬ c ≤ 90 := by omega
    have d3 : decide (c ≤ 90) = false := by simp; omega
    have t4 : ¬ 97 ≤ c := by omega
    have d4 : decide (97 ≤ c) = false := by simp; omega
    have t5 : c ≤ 122 := by omega
    have d5 : decide (c ≤ 122) = true := by simp; omega
    have t6 : ¬ 128 ≤ c := by omega
    have d6 : decide (128 ≤ c) = false := by simp; omega
    have e1 : (c == 95) = false := by simp; omega
    have e2 : decide (c = 95) = false := by simp; omega
    have hw : wordR c = false := by simp [wordR]; omega
    rw [hw]
    clear hw e2
    go_enter Try.func78, Try.ntmps78
    go_wp2
    go_ret
    exact ⟨rfl, rfl⟩
  · obtain ⟨ha1, ha2⟩ := ha
    have t0 : 48 ≤ c := by omega
    have d0 : decide (48 ≤ c) = true := by simp; omega
    have t1 : ¬ c ≤ 57 := by omega
    have d1 : decide (c ≤ 57) = false := by simp; omega
    have t2 : 65 ≤ c := by omega
    have d2 : decide (65 ≤ c) = true := by simp; omega
    have t3 : ¬ c ≤ 90 := by omega
    have d3 : decide (c ≤ 90) = false := by simp; omega
    have t4 : 97 ≤ c := by omega
    have d4 : decide (97 ≤ c) = true := by simp; omega
    have t5 : c ≤ 122 := by omega
    have d5 : decide (c ≤ 122) = true := by simp; omega
    have t6 : ¬ 128 ≤ c := by omega
    have d6 : decide (128 ≤ c) = false := by simp; omega
    have e1 : (c == 95) = false := by simp; omega
    have e2 : decide (c = 95) = false := by simp; omega
    have hw : wordR c = true := by simp [wordR]; omega
    rw [hw]
    clear hw e2
    go_enter Try.func78, Try.ntmps78
    go_wp2
    go_ret
    exact ⟨rfl, rfl⟩
  · obtain ⟨ha1, ha2⟩ := ha
    have t0 : 48 ≤ c := by omega
    have d0 : decide (48 ≤ c) = true := by simp; omega
    have t1 : ¬ c ≤ 57 := by omega
    have d1 : decide (c ≤ 57) = false := by simp; omega
    have t2 : 65 ≤ c := by omega
    have d2 : decide (65 ≤ c) = true := by simp; omega
    have t3 : ¬ c ≤ 90 := by omega
    have d3 : decide (c ≤ 90) = false := by simp; omega
    have t4 : 97 ≤ c := by omega
    have d4 : decide (97 ≤ c) = true := by simp; omega
    have t5 : ¬ c ≤ 122 := by omega
    have d5 : decide (c ≤ 122) = false := by simp; omega
    have t6 : ¬ 128 ≤ c := by omega
    have d6 : decide (128 ≤ c) = false := by simp; omega
    have e1 : (c == 95) = false := by simp; omega
    have e2 : decide (c = 95) = false := by simp; omega
    have hw : wordR c = false := by simp [wordR]; omega
    rw [hw]
    clear hw e2
    go_enter Try.func78, Try.ntmps78
    go_wp2
    go_ret
    exact ⟨rfl, rfl⟩
  · have ha1 := ha
    have t0 : 48 ≤ c := by omega
    have d0 : decide (48 ≤ c) = true := by simp; omega
    have t1 : ¬ c ≤ 57 := by omega
    have d1 : decide (c ≤ 57) = false := by simp; omega
    have t2 : 65 ≤ c := by omega
    have d2 : decide (65 ≤ c) = true := by simp; omega
    have t3 : ¬ c ≤ 90 := by omega
    have d3 : decide (c ≤ 90) = false := by simp; omega
    have t4 : 97 ≤ c := by omega
    have d4 : decide (97 ≤ c) = true := by simp; omega
    have t5 : ¬ c ≤ 122 := by omega
    have d5 : decide (c ≤ 122) = false := by simp; omega
    have t6 : 128 ≤ c := by omega
    have d6 : decide (128 ≤ c) = true := by simp; omega
    have e1 : (c == 95) = false := by simp; omega
    have e2 : decide (c = 95) = false := by simp; omega
    have hw : wordR c = true := by simp [wordR]; omega
    rw [hw]
    clear hw e2
    go_enter Try.func78, Try.ntmps78
    go_wp2
    go_ret
    exact ⟨rfl, rfl⟩
theorem wclass_eq (c : Int) (big : Bool) (w : World) :
    Calls Try.prog 62 #[.int .i32 c, .bool big] w fun e w' => e = .returned (.int .i64 (cls big c)) ∧ w = w' := by
  by_cases h1 : c = 32
  · have e1 : (c == 32) = true := by simp [h1]
    have hc : cls big c = 0 := by simp [cls, h1]
    rw [hc]
    clear hc h1
    go_enter Try.func62, Try.ntmps62
    go_wp2
    go_ret
    exact ⟨rfl, rfl⟩
  have e1 : (c == 32) = false := by simp [h1]
  by_cases h2 : c = 9
  · have e2 : (c == 9) = true := by simp [h2]
    have hc : cls big c = 0 := by simp [cls, h2]
    rw [hc]
    clear hc h1 h2
    go_enter Try.func62, Try.ntmps62
    go_wp2
    go_ret
    exact ⟨rfl, rfl⟩
  have e2 : (c == 9) = false := by simp [h2]
  cases big with
  | true =>
    have hc : cls true c = 1 := by simp [cls, h1, h2]
    rw [hc]
    clear hc h1 h2
    go_enter Try.func62, Try.ntmps62
    go_wp2
    go_ret
    exact ⟨rfl, rfl⟩
  | false =>
    obtain ⟨b, hb⟩ : ∃ b, wordR c = b := ⟨_, rfl⟩
    have hc : cls false c = if b = true then 1 else 2 := by simp [cls, h1, h2, hb]
    rw [hc]
    have HW := Lib.hid (wword_any c)
    rw [hb] at HW
    clear hc h1 h2 hb
    go_enter Try.func62, Try.ntmps62
    cases b
    · go_wp2_with (go_at_call 78; refine (HW.out _).mono ?_; rintro e w' ⟨rfl, rfl⟩)
      go_ret
      exact ⟨rfl, rfl⟩
    · go_wp2_with (go_at_call 78; refine (HW.out _).mono ?_; rintro e w' ⟨rfl, rfl⟩)
      go_ret
      exact ⟨rfl, rfl⟩
theorem wclass_any (c : Int) (big : Bool) (w : World) :
    Calls Try.prog 62 #[.int .i32 c, .bool big] w fun e w' => e = .returned (.int .i64 (cls big c)) ∧ Below w.heap.size w w' :=
  (wclass_eq c big w).mono (by rintro e w' ⟨rfl, rfl⟩; exact ⟨rfl, Below.refl _ _⟩)
def blankB (c : Int) : Bool := cls false c == 0
theorem cls_blank (c : Int) : (cls true c == 0) = blankB c := by
  unfold blankB cls
  by_cases h : c = 32 ∨ c = 9
  · rw [if_pos h, if_pos h]
  · rw [if_neg h, if_neg h]; by_cases h2 : wordR c = true <;> simp [h2]
theorem wblank_eq (c : Int) (w : World) :
    Calls Try.prog 82 #[.int .i32 c] w fun e w' => e = .returned (.bool (blankB c)) ∧ w = w' := by
  have hb := cls_blank c
  have H := Lib.hid (wclass_eq c true)
  obtain ⟨k, hk⟩ : ∃ k, cls true c = k := ⟨_, rfl⟩
  rw [hk] at hb H
  rw [← hb]
  clear hb hk
  go_enter Try.func82, Try.ntmps82
  go_wp2_with (go_at_call 62; refine (H.out _).mono ?_; rintro e w' ⟨rfl, rfl⟩)
  go_ret
  exact ⟨rfl, rfl⟩
theorem clipped_eq (x : Int) (n : Nat) (w : World) (hn : n ≤ 9223372036854775807) (hx : i64b x) :
    Calls Try.prog 15 #[.int .i64 x, .int .i64 (n : Nat)] w fun e w' => e = .returned (.int .i64 (clipN n x : Nat)) ∧ w = w' := by
  obtain ⟨hx1, hx2⟩ := hx
  have hc : max (min x ((n : Int) - 1)) 0 = ((clipN n x : Nat) : Int) := by unfold clipN; omega
  obtain ⟨k, hk⟩ : ∃ k, clipN n x = k := ⟨_, rfl⟩
  rw [hk] at hc ⊢
  clear hk
  go_enter Try.func15, Try.ntmps15
  go_wp2
  go_ret
  exact ⟨ret_int (by first | exact hc | (simp; omega) | rfl), rfl⟩
end Go.Proofs.Ytikdojebnbmpoaa.U
