/-
  Has an alternative ended? Runes that are laid and taken.
-/
import Derived.Test.YtkjiobbkbhmijaaRSees
namespace Go.Proofs.Ytkjiobbkbhmijaa.U
open Go.RowKit
set_option linter.unusedVariables false
set_option linter.unusedSimpArgs false
set_option maxRecDepth 100000

theorem rd1 (W : World) (c : Int) (hc : (Lit.int .i32 c).wf = true) : Rd .i32 (W.alloc (.cells #[.int .i32 c] 21)) (some ⟨W.heap.size, 0, none⟩) 1 1 [c] := rd_lit W [c] _ 1 rfl rfl (by omega) (fun x hx => by simp at hx; rw [hx]; exact hc)
theorem rd2 (W : World) (c d : Int) (hc : (Lit.int .i32 c).wf = true) (hd : (Lit.int .i32 d).wf = true) : Rd .i32 (W.alloc (.cells #[.int .i32 c, .int .i32 d] 21)) (some ⟨W.heap.size, 0, none⟩) 2 2 [c, d] :=
  rd_lit W [c, d] _ 2 rfl rfl (by omega) (fun x hx => by simp at hx; rcases hx with rfl | rfl <;> assumption)
theorem bal (W : World) (o : Obj) : Below W.heap.size W (W.alloc o) := (Below.refl _ W).alloc (Nat.le_refl _) o

def CellsE (w : World) (br i q : Nat) (a : Option Addr) (cap : Nat) (w' : World) : Prop := w'.cell? ⟨br, 0, none⟩ = some (.slice a q cap) ∧ w'.cell? ⟨br, 1, none⟩ = some (.int .i64 (i : Nat)) ∧ Below w.heap.size w w'

set_option maxHeartbeats 1000000 in
theorem ended_any (br : Nat) (p l : List Int) (n o : Nat) (w : World) (h : RdS w br p l n o) :
    Calls Try.prog 42 #[.pointer (some ⟨br, 0, none⟩)] w fun e w' => e = .returned (.bool (ended l)) ∧ Below w.heap.size w w' := by
  have hlt := h.lt
  obtain ⟨a, cap, i, e0, e1, e2, e3, fz, hr, hin, hd, hi, hn, hp, ho⟩ := h.cells
  have hsm := hr.small
  obtain ⟨q, hq⟩ : ∃ q, p.length = q := ⟨_, rfl⟩
  rw [hq] at e0 hi hsm
  have hll : l.length = q - i := by rw [hd, ← hq]; simp
  have HS : ∀ W : World, Below w.heap.size w W → ∀ (c d : Int), (Lit.int .i32 c).wf = true → (Lit.int .i32 d).wf = true → ∀ W1 : World, Below (W.alloc (.cells #[.int .i32 c, .int .i32 d] 21)).heap.size (W.alloc (.cells #[.int .i32 c, .int .i32 d] 21)) W1 → Calls Try.prog 45 #[.pointer (some ⟨br, 0, none⟩), .slice (some ⟨W.heap.size, 0, none⟩) 2 2] W1 fun e w' =>
      e = .returned (.bool (pre [c, d] l)) ∧ Below w.heap.size w w' ∧ w'.cell? ⟨br, 0, none⟩ = some (.slice a q cap) ∧ w'.cell? ⟨br, 1, none⟩ = some (.int .i64 (i : Nat)) := by
    intro W hW c d hc hd W1 hW1
    have h0 : Below w.heap.size w (W.alloc (.cells #[.int .i32 c, .int .i32 d] 21)) := hW.trans ((bal W _).mono hW.size)
    have h1 : Below w.heap.size w W1 := h0.trans (hW1.mono h0.size)
    refine (sees_any br p l [c, d] n o 2 2 _ _ (h.below h1) ((rd2 W c d hc hd).below hW1)).mono ?_
    rintro e w' ⟨rfl, hb⟩
    have h2 := h1.trans (hb.mono h1.size)
    exact ⟨rfl, h2, (h2.cell (p := ⟨br, 0, none⟩) hlt).trans e0, (h2.cell (p := ⟨br, 1, none⟩) hlt).trans e1⟩
  have HS' := Lib.hid HS
  clear h hr hin fz HS
  by_cases hz : l = []
  · have hiq : i = q := by subst hz; simp at hll; omega
    subst hiq
    have hE : ended l = true := by subst hz; rfl
    have g1 : ((i : Int) == (i : Int)) = true := by simp
    rw [hE]
    clear hz hE hll hd hq
    go_enter Try.func42, Try.ntmps42
    go_wp2
    go_region
    all_goals
      go_wp2
      go_ret
      exact ⟨rfl, by first | exact Below.refl _ _ | exact (Below.refl _ _).drew⟩
  · have hiq : ¬ i = q := by
      intro e
      exact hz (List.eq_nil_of_length_eq_zero (by omega))
    have g1 : ((i : Int) == (q : Int)) = false := by simp; omega
    have hie : l.isEmpty = false := by cases l <;> simp_all
    obtain ⟨b1, hb1⟩ : ∃ b1, pre [92, 124] l = b1 := ⟨_, rfl⟩
    obtain ⟨b2, hb2⟩ : ∃ b2, pre [92, 41] l = b2 := ⟨_, rfl⟩
    have hE : ended l = (b1 || b2) := by unfold ended; rw [hb1, hb2, hie]; rfl
    rw [hE]
    have HH := Lib.hid hb1
    have HH2 := Lib.hid hb2
    clear hz hE hll hd hq hb1 hb2 hie
    go_enter Try.func42, Try.ntmps42
    go_wp2
    cases b1
    · first
        | (go_region_with (first
          | (go_at_call 45; refine (HS'.out _ (by first | exact Below.refl _ _ | exact (Below.refl _ _).drew) 92 124 (by decide) (by decide) _ (by first | exact Below.refl _ _ | exact (Below.refl _ _).drew)).mono ?_; rw [HH.out]; rintro e w1 ⟨rfl, kb, k0, k1⟩)
          | (go_at_call 45; refine (HS'.out _ (by first | exact kb | exact kb.drew) 92 41 (by decide) (by decide) _ (by first | exact Below.refl _ _ | exact (Below.refl _ _).drew)).mono ?_; rw [HH2.out]; rintro e w2 ⟨rfl, mb, m0, m1⟩)))
        | fail
      all_goals
        go_wp2
        go_ret
        exact ⟨rfl, by first | exact mb | exact mb.drew⟩
    · first
        | (go_region_with (go_at_call 45; refine (HS'.out _ (by first | exact Below.refl _ _ | exact (Below.refl _ _).drew) 92 124 (by decide) (by decide) _ (by first | exact Below.refl _ _ | exact (Below.refl _ _).drew)).mono ?_; rw [HH.out]; rintro e w1 ⟨rfl, kb, k0, k1⟩))
        | fail
      all_goals
        go_wp2
        go_ret
        exact ⟨rfl, by first | exact kb | exact kb.drew⟩
end Go.Proofs.Ytkjiobbkbhmijaa.U
