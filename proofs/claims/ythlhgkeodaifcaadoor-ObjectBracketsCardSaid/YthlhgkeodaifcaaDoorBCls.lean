/-
  The classes of a line's runes, of a text's lines, as the closures tell them.
-/
import Derived.Test.YthlhgkeodaifcaaDoorBObjW
import Derived.Test.YthlhgkeodaifcaaDoorBObjB
import Derived.BigQuiet
namespace Go.Proofs.YthlhgkeodaifcaaDoor.U
open Go.RowKit
set_option linter.unusedVariables false
set_option linter.unusedSimpArgs false
set_option maxRecDepth 100000

theorem word1_any (Lb Bb : Nat) (ra : Option Addr) (m rc : Nat) (x : List Int) (big : Bool) (k : Nat) (w : World) (h : Rd .i32 w ra m rc x) (hL : w.cell? ⟨Lb, 0, none⟩ = some (.slice ra m rc)) (hB : w.cell? ⟨Bb, 0, none⟩ = some (.bool big)) (hk : k < m) :
    Calls Tryd.prog 35 #[.int .i64 (k : Nat), .pointer (some ⟨Lb, 0, none⟩), .pointer (some ⟨Bb, 0, none⟩)] w fun e w' => e = .returned (.int .i64 (clsAt big x k)) ∧ Below w.heap.size w w' := by
  have hms := h.small
  obtain ⟨rb, ro, rfl, hrb, c0⟩ := h.at_ (i := k) hk
  unfold clsAt
  obtain ⟨r, hr⟩ : ∃ r, x.getD k 0 = r := ⟨_, rfl⟩
  rw [hr] at c0 ⊢
  have d0 : ¬ (k : Int) < 0 := by omega
  have d1 : decide ((k : Int) < 0) = false := by simp
  clear hr h
  go_enter Tryd.func35, Tryd.ntmps35
  go_wp2_with fail
  go_quiet (first | (go_at_call 36; refine Calls.quiet_of_same ((wclass_eq _ _ _).mono fun e w' h => ⟨h.1, h.2.symm⟩)))
  go_wp2_with fail
  go_ret
  exact ⟨rfl, bdrewN (Below.refl _ _) _⟩
theorem block1_any (F : Nat → Prop) (Ba : Nat) (a : Option Addr) (n c : Nat) (L : List (List Int)) (k : Nat) (w : World) (h : RdL F w a n c L) (hA : w.cell? ⟨Ba, 0, none⟩ = some (.slice a n c)) (hk : k < n) :
    Calls Tryd.prog 39 #[.int .i64 (k : Nat), .pointer (some ⟨Ba, 0, none⟩)] w fun e w' => e = .returned (.int .i64 (clsL L k)) ∧ Below w.heap.size w w' := by
  have hl := h.len
  have hsm := h.small
  obtain ⟨b, off, ra, rc, rfl, -, hbl, l0, hrd⟩ := okP.line (p := (k, 0)) h ⟨by simp only; omega, by simp⟩ (Below.refl _ w)
  simp only at l0 hrd
  have hms := hrd.small
  obtain ⟨cl, hcl⟩ : ∃ y, clsL L k = y := ⟨_, rfl⟩
  rw [hcl]
  unfold clsL at hcl
  obtain ⟨m, hm⟩ : ∃ m, (lnL L k).length = m := ⟨_, rfl⟩
  rw [hm] at hcl l0 hms
  have d0 : ¬ (k : Int) < 0 := by omega
  have d1 : decide ((k : Int) < 0) = false := by simp
  by_cases h0 : m = 0
  · rw [if_pos h0] at hcl
    have e0 : (m : Int) ≤ 1 := by omega
    have e1 : decide ((m : Int) ≤ 1) = true := by simp; omega
    have e2 : min (m : Int) 1 = 0 := by omega
    subst hcl
    clear h hl hrd hm h0
    go_enter Tryd.func39, Tryd.ntmps39
    go_wp2_with fail
    go_ret
    exact ⟨rfl, Below.refl _ _⟩
  · rw [if_neg h0] at hcl
    have e2 : min (m : Int) 1 = 1 := by omega
    subst hcl
    clear h hl hrd hm h0
    go_enter Tryd.func39, Tryd.ntmps39
    go_wp2_with fail
    go_ret
    exact ⟨rfl, Below.refl _ _⟩
end Go.Proofs.YthlhgkeodaifcaaDoor.U
