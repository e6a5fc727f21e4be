/-
  What Take, Cut and Join are to do, as contracts that the document's own and the program's have alike.
-/
import Derived.Test.YtfldjoiohejilaaJJoinC
namespace Go.Proofs.Ytfldjoiohejilaa.U
open Go.RowKit
set_option linter.unusedVariables false
set_option linter.unusedSimpArgs false
set_option maxRecDepth 100000

def TakeC (f : FuncId) : Prop := ∀ (F : Nat → Prop) (a : Option Addr) (n c : Nat) (L : List (List Int)) (r : Rgn) (w : World), RdL F w a n c L → sizeN (lens L) ≤ 1048576 → i64r r →
  Calls Try.prog f #[.slice a n c, r.v] w fun e w' => ∃ ra m rc, e = .returned (.tuple #[rgV (takeR L r).1.1 ra m rc, .int .i64 (takeR L r).2]) ∧ FreshL w.heap.size w' ra m rc (takeR L r).1.2 ∧ Below w.heap.size w w'
def CutC (f : FuncId) : Prop := ∀ (F : Nat → Prop) (a : Option Addr) (n c : Nat) (L : List (List Int)) (r : Rgn) (w : World), RdL F w a n c L → sizeN (lens L) ≤ 1048576 → i64r r →
  Calls Try.prog f #[.slice a n c, r.v] w fun e w' => ∃ ra m rc, e = .returned (.tuple #[.slice ra m rc, plV (cutR L r).2.1, .int .i64 (cutR L r).2.2]) ∧ RdL (fun x => w.heap.size ≤ x) w' ra m rc (cutR L r).1 ∧ Below w.heap.size w w'
def JoinC (f : FuncId) : Prop := ∀ (F : Nat → Prop) (a : Option Addr) (n c : Nat) (L : List (List Int)) (at_ m : Int) (w : World), RdL F w a n c L → sizeN (lens L) ≤ 1048576 → i64b at_ → i64b m →
  Calls Try.prog f #[.slice a n c, .int .i64 at_, .int .i64 m] w fun e w' => ∃ ra k rc, e = .returned (.tuple #[.slice ra k rc, plV (joinR13 L at_ m).2.1, .int .i64 (joinR13 L at_ m).2.2]) ∧ RdL (fun x => w.heap.size ≤ x) w' ra k rc (joinR13 L at_ m).1 ∧ Below w.heap.size w w'
theorem rtakeC : TakeC 14 := by
  intro F a n c L r w h hs hr
  by_cases h0 : thereR L r = 0
  · obtain ⟨hL, p, q, hrv, hp, hq, ho1, ho2, hk1, hk2⟩ := there_ok h0
    have hv : r.v = rgnV p q r.k := by rw [hrv]; rfl
    have ht : takeR L r = ((r.k, takeL L p q r.k), 0) := by unfold takeR; rw [if_pos h0, hp, hq]
    rw [hv, ht]
    refine (rtake_ok F a n c L p q r.k w h hs ho1 ho2 hk1 hk2).mono ?_
    rintro e w' ⟨ra, rc, rfl, h1, h2⟩
    exact ⟨ra, _, rc, rfl, h1, h2⟩
  · have ht : takeR L r = ((0, []), thereR L r) := by unfold takeR; rw [if_neg h0]
    rw [ht]
    refine (rtake_no F a n c L r w h hr h0).mono ?_
    rintro e w' ⟨rfl, h2⟩
    exact ⟨none, 0, 0, rfl, FreshL.nil _ _, h2⟩
theorem rcutC : CutC 19 := by
  intro F a n c L r w h hs hr
  by_cases h0 : thereR L r = 0
  · obtain ⟨hL, p, q, hrv, hp, hq, ho1, ho2, hk1, hk2⟩ := there_ok h0
    have hv : r.v = rgnV p q r.k := by rw [hrv]; rfl
    have ht : cutR L r = (cutM L p q r.k, cutQ (cutM L p q r.k) p q r.k, 0) := by unfold cutR; rw [if_pos h0, hp, hq]
    rw [hv, ht]
    refine (rcut_ok F a n c L p q r.k w h hs ho1 ho2 hk1 hk2).mono ?_
    rintro e w' ⟨ra, rc, rfl, h1, h2⟩
    exact ⟨ra, _, rc, rfl, h1, h2⟩
  · have ht : cutR L r = ([], (0, 0), thereR L r) := by unfold cutR; rw [if_neg h0]
    rw [ht]
    refine (rcut_no F a n c L r w h hr h0).mono ?_
    rintro e w' ⟨rfl, h2⟩
    exact ⟨none, 0, 0, rfl, RdL.none0 _ _, h2⟩
theorem rjoinC : JoinC 29 := by
  intro F a n c L at_ m w h hs ha hm
  have hl := h.len
  by_cases h0 : at_ < 0 ∨ (L.length : Int) ≤ at_ ∨ (L.length : Int) - at_ < max 2 m
  · have ht : joinR13 L at_ m = ([], (0, 0), 2) := by unfold joinR13; rw [if_pos h0]
    rw [ht]
    rw [hl] at h0
    refine (rjoin_no a n c F L at_ m w h ha hm h0).mono ?_
    rintro e w' ⟨rfl, h2⟩
    exact ⟨none, 0, 0, rfl, RdL.none0 _ _, h2⟩
  · obtain ⟨A, hA⟩ : ∃ A : Nat, at_ = A := ⟨at_.toNat, by omega⟩
    obtain ⟨N, hN⟩ : ∃ N : Nat, max 2 m = (N : Int) := ⟨(max 2 m).toNat, by omega⟩
    have ht : joinR13 L at_ m = (joinM L A N, clipP (joinM L A N) (A : Int) (joinC L A (N - 1) : Int), 0) := by
      unfold joinR13
      rw [if_neg h0, hN, hA, Int.toNat_natCast, Int.toNat_natCast]
    rw [ht]
    subst hA
    refine (rjoin_ok F a n c L A N m w h hs hm hN (by omega)).mono ?_
    rintro e w' ⟨ra, rc, rfl, h1, h2⟩
    exact ⟨ra, _, rc, rfl, h1, h2⟩
end Go.Proofs.Ytfldjoiohejilaa.U
