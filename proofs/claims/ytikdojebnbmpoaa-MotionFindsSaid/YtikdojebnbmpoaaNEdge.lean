/-
  The program's isEdge. (MADE by wip/tools/gen_edge.py.)
-/
import Derived.Test.YtikdojebnbmpoaaNWordB
namespace Go.Proofs.Ytikdojebnbmpoaa.U
open Go.RowKit
set_option linter.unusedVariables false
set_option linter.unusedSimpArgs false
set_option maxRecDepth 100000
set_option maxHeartbeats 1000000 in
theorem wedgeB (a : Option Addr) (m c : Nat) (x : List Int) (j : Nat) (big : Bool) (w : World) (h : Rd .i32 w a m c x) (hj : j < m) :
    Calls Try.prog 80 #[.slice a m c, .int .i64 (j : Nat), Value.int .i64 (-1), .bool big] w fun e w' => e = .returned (.bool ((cls big (x.getD j 0) != 0) && (decide (j = 0) || (cls big (x.getD (j - 1) 0) != cls big (x.getD j 0))))) ∧ w = w' := by
  have hms := h.small
  obtain ⟨rb, ro, rfl, hrb, hc⟩ := h.all_ (by omega)
  have c0 := hc j hj
  have c1 : ∀ (hn : ¬ j = 0), w.cell? ⟨rb, ro + (j - 1), none⟩ = some (.int .i32 (x.getD (j - 1) 0)) := fun hn => hc (j - 1) (by omega)
  obtain ⟨r0, hr0⟩ : ∃ r, x.getD j 0 = r := ⟨_, rfl⟩
  obtain ⟨r1, hr1⟩ : ∃ r, x.getD (j - 1) 0 = r := ⟨_, rfl⟩
  rw [hr0] at c0 ⊢
  rw [hr1] at c1 ⊢
  obtain ⟨k0, hk0⟩ : ∃ k, cls big r0 = k := ⟨_, rfl⟩
  obtain ⟨k1, hk1⟩ : ∃ k, cls big r1 = k := ⟨_, rfl⟩
  rw [hk0, hk1]
  have HK0 := Lib.hid hk0
  have HK1 := Lib.hid hk1
  clear hr0 hr1 hc h hk0 hk1
  by_cases hz : k0 = 0
  · have n0 : (k0 != 0) = false := by simp [hz]
    have n1 : (k0 == 0) = true := by simp [hz]
    rw [n0, Bool.false_and]
    clear c1 hz n0
    go_enter Try.func80, Try.ntmps80
    go_wp2_with (go_at_call 62; refine (wclass_eq _ _ _).mono ?_; rintro e w' ⟨rfl, hw⟩; subst hw; rw [HK0.out])
    go_ret
    exact ⟨rfl, rfl⟩
  have n0 : (k0 != 0) = true := by simp [hz]
  have n1 : (k0 == 0) = false := by simp [hz]
  rw [n0, Bool.true_and]
  clear n0
  by_cases hj0 : j = 0
  · have d0 : decide (j = 0) = true := by simp [hj0]
    rw [d0, Bool.true_or]
    have gg : True := trivial
    · 
      have s0 : (j : Int) + -1 = -1 := by omega
      clear c1 hz hj0 d0
      go_enter Try.func80, Try.ntmps80
      go_wp2_with (go_at_call 62; refine (wclass_eq _ _ _).mono ?_; rintro e w' ⟨rfl, hw⟩; subst hw; rw [HK0.out])
      go_ret
      exact ⟨rfl, rfl⟩
  · have c1 := c1 hj0
    have d0 : decide (j = 0) = false := by simp [hj0]
    rw [d0, Bool.false_or]
    obtain ⟨j1, hj1⟩ : ∃ j1, j - 1 = j1 := ⟨_, rfl⟩
    rw [hj1] at c1
    have hj1m : j1 < m := by omega
    · 
      have s0 : (j : Int) + -1 = (j1 : Int) := by omega
      have s2 : decide ((j1 : Int) < 0) = false := by simp
      have s3 : ¬ (j1 : Int) < 0 := by omega
      have s4 : ((j1 : Int) == (m : Int)) = false := by simp; omega
      clear hz d0 hj1
      have tok : True := trivial
      go_enter Try.func80, Try.ntmps80
      go_wp2_with (first
        | (go_at_call 62; have _t := tok; refine (wclass_eq _ _ _).mono ?_; clear tok _t; rintro e w' ⟨rfl, hw⟩; subst hw; rw [HK0.out])
        | (go_at_call 62; refine (wclass_eq _ _ _).mono ?_; rintro e w' ⟨rfl, hw⟩; subst hw; rw [HK1.out]))
      go_ret
      exact ⟨rfl, rfl⟩
set_option maxHeartbeats 1000000 in
theorem wedgeE (a : Option Addr) (m c : Nat) (x : List Int) (j : Nat) (big : Bool) (w : World) (h : Rd .i32 w a m c x) (hj : j < m) :
    Calls Try.prog 80 #[.slice a m c, .int .i64 (j : Nat), Value.int .i64 1, .bool big] w fun e w' => e = .returned (.bool ((cls big (x.getD j 0) != 0) && (decide (j + 1 = m) || (cls big (x.getD (j + 1) 0) != cls big (x.getD j 0))))) ∧ w = w' := by
  have hms := h.small
  obtain ⟨rb, ro, rfl, hrb, hc⟩ := h.all_ (by omega)
  have c0 := hc j hj
  have c1 : ∀ (hn : ¬ j + 1 = m), w.cell? ⟨rb, ro + (j + 1), none⟩ = some (.int .i32 (x.getD (j + 1) 0)) := fun hn => hc (j + 1) (by omega)
  obtain ⟨r0, hr0⟩ : ∃ r, x.getD j 0 = r := ⟨_, rfl⟩
  obtain ⟨r1, hr1⟩ : ∃ r, x.getD (j + 1) 0 = r := ⟨_, rfl⟩
  rw [hr0] at c0 ⊢
  rw [hr1] at c1 ⊢
  obtain ⟨k0, hk0⟩ : ∃ k, cls big r0 = k := ⟨_, rfl⟩
  obtain ⟨k1, hk1⟩ : ∃ k, cls big r1 = k := ⟨_, rfl⟩
  rw [hk0, hk1]
  have HK0 := Lib.hid hk0
  have HK1 := Lib.hid hk1
  clear hr0 hr1 hc h hk0 hk1
  by_cases hz : k0 = 0
  · have n0 : (k0 != 0) = false := by simp [hz]
    have n1 : (k0 == 0) = true := by simp [hz]
    rw [n0, Bool.false_and]
    clear c1 hz n0
    go_enter Try.func80, Try.ntmps80
    go_wp2_with (go_at_call 62; refine (wclass_eq _ _ _).mono ?_; rintro e w' ⟨rfl, hw⟩; subst hw; rw [HK0.out])
    go_ret
    exact ⟨rfl, rfl⟩
  have n0 : (k0 != 0) = true := by simp [hz]
  have n1 : (k0 == 0) = false := by simp [hz]
  rw [n0, Bool.true_and]
  clear n0
  by_cases hj0 : j + 1 = m
  · have d0 : decide (j + 1 = m) = true := by simp [hj0]
    rw [d0, Bool.true_or]
    have gg : True := trivial
    · 
      have s0 : (j : Int) + 1 = (m : Int) := by omega
      have s2 : decide ((m : Int) < 0) = false := by simp
      have s3 : ¬ (m : Int) < 0 := by omega
      have s4 : ((m : Int) == (m : Int)) = true := by simp
      clear c1 hz hj0 d0
      go_enter Try.func80, Try.ntmps80
      go_wp2_with (go_at_call 62; refine (wclass_eq _ _ _).mono ?_; rintro e w' ⟨rfl, hw⟩; subst hw; rw [HK0.out])
      go_ret
      exact ⟨rfl, rfl⟩
  · have c1 := c1 hj0
    have d0 : decide (j + 1 = m) = false := by simp [hj0]
    rw [d0, Bool.false_or]
    obtain ⟨j1, hj1⟩ : ∃ j1, j + 1 = j1 := ⟨_, rfl⟩
    rw [hj1] at c1
    have hj1m : j1 < m := by omega
    · 
      have s0 : (j : Int) + 1 = (j1 : Int) := by omega
      have s2 : decide ((j1 : Int) < 0) = false := by simp
      have s3 : ¬ (j1 : Int) < 0 := by omega
      have s4 : ((j1 : Int) == (m : Int)) = false := by simp; omega
      clear hz d0 hj1
      have tok : True := trivial
      go_enter Try.func80, Try.ntmps80
      go_wp2_with (first
        | (go_at_call 62; have _t := tok; refine (wclass_eq _ _ _).mono ?_; clear tok _t; rintro e w' ⟨rfl, hw⟩; subst hw; rw [HK0.out])
        | (go_at_call 62; refine (wclass_eq _ _ _).mono ?_; rintro e w' ⟨rfl, hw⟩; subst hw; rw [HK1.out]))
      go_ret
      exact ⟨rfl, rfl⟩
end Go.Proofs.Ytikdojebnbmpoaa.U
