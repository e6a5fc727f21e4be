/-
  The contract of Find, as the laws want it (FindC: a premise here, the program's theorem in the end); few lines.
-/
import Derived.Test.YthlhgkeodaifcaaDoorBBase
import Derived.Test.YthlhgkeodaifcaaDoorNAt
import Derived.Test.YthlhgkeodaifcaaDoorBLawW
namespace Go.Proofs.YthlhgkeodaifcaaDoor.U
open Go.RowKit
set_option linter.unusedVariables false
set_option linter.unusedSimpArgs false
set_option maxRecDepth 100000

def i32b (i : Int) : Prop := -2147483648 ≤ i ∧ i ≤ 2147483647
/-- what Find tells -/
def fdV (r : Pl × Pl × Int × Bool) : Value := .tuple #[plV r.1, plV r.2.1, .int .i64 r.2.2.1, .bool r.2.2.2]
/-- the pairs, as the program's text lays them, lie in their variable -/
def prsT : List Int := [40, 41, 91, 93, 123, 125, 60, 62]
def Gl (w : World) : Prop := ∀ i, i < 8 → w.cell? ⟨0, i, none⟩ = some (.int .i32 (prsT.getD i 0))
theorem Gl.lt {w : World} (h : Gl w) : 0 < w.heap.size := block_lt_of_cell (h 0 (by omega))
theorem Gl.up {w w' : World} (h : Gl w) (hb : Below w.heap.size w w') : Gl w' := fun i hi => (hb.cell (p := ⟨0, i, none⟩) h.lt).trans (h i hi)
def FindC (f : FuncId) : Prop := ∀ (F : Nat → Prop) (a : Option Addr) (n c : Nat) (L : List (List Int)) (q : Po) (key : Int) (around : Bool) (w : World), Gl w → RdL F w a n c L → i64p q → i32b key → sizeN (lens L) ≤ 262144 →
  Calls Tryd.prog f #[.slice a n c, q.v, .int .i32 key, .bool around] w fun e w' => e = .returned (fdV (fdR L (clipP L q.l q.c) key around)) ∧ Below w.heap.size w w'
def smallO (L : List (List Int)) : Bool := decide (L.length ≤ 30) && smallL L && decide ((places L).length ≤ 300)
theorem smallO_size {L : List (List Int)} (h : smallO L = true) : sizeN (lens L) ≤ 262144 := by
  unfold smallO at h
  simp only [Bool.and_eq_true] at h
  exact smallL_wide h.1.2
theorem smallO_any (F : Nat → Prop) (a : Option Addr) (n c : Nat) (L : List (List Int)) (w : World) (h : RdL F w a n c L) (hw : WideL L) :
    Calls Tryd.prog 8 #[.slice a n c] w fun e w' => e = .returned (.bool (smallO L)) ∧ Below w.heap.size w w' := by
  have hl := h.len
  have hsm0 := h.small
  have HS := Lib.hid (small_wide F a n c L w h hw)
  unfold smallO
  rw [hl]
  by_cases h30 : n ≤ 30
  · have d0 : decide (n ≤ 30) = true := by simp [h30]
    have d1 : decide ((n : Int) ≤ 30) = true := by simp; omega
    rw [d0, Bool.true_and]
    obtain ⟨sm, hsm⟩ : ∃ sm, smallL L = sm := ⟨_, rfl⟩
    rw [hsm] at HS ⊢
    cases sm with
    | false =>
      rw [Bool.false_and]
      clear h hsm hl
      go_enter Tryd.func8, Tryd.ntmps8
      go_wp2_with (go_at_call 17; refine HS.out.mono ?_; rintro e w2 ⟨rfl, hw2⟩; subst hw2)
      go_ret
      exact ⟨rfl, Below.refl _ _⟩
    | true =>
      rw [Bool.true_and]
      have HP := Lib.hid (rplaces_any F a n c L w h (smallL_wide hsm))
      obtain ⟨np, hnp⟩ : ∃ np, (places L).length = np := ⟨_, rfl⟩
      rw [hnp]
      have hnp2 : np ≤ 262144 := by have := places_len L; have := smallL_wide hsm; omega
      have HNP := Lib.hid hnp
      have hd : decide ((np : Int) ≤ 300) = decide (np ≤ 300) := by by_cases e : np ≤ 300 <;> simp [e] <;> omega
      obtain ⟨d, hdd⟩ : ∃ d, decide (np ≤ 300) = d := ⟨_, rfl⟩
      rw [hdd] at hd ⊢
      clear h hsm hl hnp hdd
      go_enter Tryd.func8, Tryd.ntmps8
      go_wp2_with (first
        | (go_at_call 17; refine HS.out.mono ?_; rintro e w2 ⟨rfl, hw2⟩; subst hw2)
        | (go_at_call 16; refine HP.out.mono ?_; rintro e w2 ⟨a', n', c', rfl, hp⟩; have hn' : n' = np := (by have h1 := hp.out.1.len; have h2 := HNP.out; omega); subst hn'))
      go_ret
      exact ⟨ret_bool (by first | exact hd | rfl | simp), hp.out.2⟩
  · have d0 : decide (n ≤ 30) = false := by simp; omega
    have d1 : decide ((n : Int) ≤ 30) = false := by simp; omega
    rw [d0, Bool.false_and, Bool.false_and]
    clear h hl h30
    go_enter Tryd.func8, Tryd.ntmps8
    go_wp2_with fail
    go_ret
    exact ⟨rfl, Below.refl _ _⟩
end Go.Proofs.YthlhgkeodaifcaaDoor.U
