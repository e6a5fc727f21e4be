/-
  The program's behind, ahead: functions that yield places.
-/
import Derived.Test.YtikdojebnbmpoaaNStep
import Derived.Test.YtikdojebnbmpoaaNAt
import Derived.Test.YtikdojebnbmpoaaNRange
import Derived.Test.YtikdojebnbmpoaaNWordB
import Derived.Shelf.Abstract
import Derived.Shelf.RegionOpen
import Derived.OwnWalkIn
import Derived.TacticsInMore
import Derived.LoopNIn
import Derived.LoopIn
namespace Go.Proofs.Ytikdojebnbmpoaa.U
open Go.RowKit Go.Shelf
set_option linter.unusedVariables false
set_option linter.unusedSimpArgs false
set_option maxRecDepth 100000
attribute [local go_sem] Oper.semAt_some

theorem beh_nil (p : Pl) : behL [] p = [] := rfl
theorem beh_last (L : List (List Int)) : behL L (lastP L) = [] := by
  by_cases h : L = []
  · subst h; rfl
  · unfold behL
    rw [List.filter_eq_nil_iff]
    intro x hx
    rw [lastP_max h hx]; simp
theorem beh_step {L : List (List Int)} {p : Pl} (hp : p ∈ places L) (hl : p ≠ lastP L) : behL L p = sucP L p :: behL L (sucP L p) ∧ okP L (sucP L p) := by
  obtain ⟨i, hi1, hi2⟩ := List.mem_iff_getElem.1 hp
  have hi : (places L)[i]? = some p := List.getElem?_eq_some_iff.2 ⟨hi1, hi2⟩
  obtain ⟨h1, h2⟩ := suc_step hi hl
  have h3 := (List.getElem?_eq_some_iff.1 h1)
  obtain ⟨h4, h5⟩ := h3
  refine ⟨?_, h2⟩
  rw [beh_drop hi, beh_drop h1, List.drop_eq_getElem_cons h4, h5]
theorem bef_first (L : List (List Int)) : befL L (0, 0) = [] := by
  unfold befL
  rw [List.reverse_eq_nil_iff, List.filter_eq_nil_iff]
  intro x hx
  rw [first_min hx]; simp
theorem bef_step {L : List (List Int)} {p : Pl} (hp : p ∈ places L) (hl : p ≠ (0, 0)) : befL L p = preP L p :: befL L (preP L p) ∧ okP L (preP L p) ∧ (p.2 = 0 → 0 < p.1) := by
  obtain ⟨i, hi1, hi2⟩ := List.mem_iff_getElem.1 hp
  have hi : (places L)[i]? = some p := List.getElem?_eq_some_iff.2 ⟨hi1, hi2⟩
  obtain ⟨h0, h1, h2⟩ := pre_step hi hl
  obtain ⟨k, rfl⟩ : ∃ k, i = k + 1 := ⟨i - 1, by omega⟩
  rw [Nat.add_sub_cancel] at h1
  obtain ⟨h4, h5⟩ := (List.getElem?_eq_some_iff.1 h1)
  refine ⟨?_, places_mem.1 (List.mem_of_getElem? h1), h2⟩
  rw [bef_take hi, bef_take h1, List.take_succ_eq_append_getElem h4, h5, List.reverse_append]
  rfl
/-- a place that is at hand, or the only one of no lines -/
def InP (L : List (List Int)) (p : Pl) : Prop := (L = [] ∧ p = (0, 0)) ∨ p ∈ places L
theorem InP.clip (L : List (List Int)) (u v : Int) : InP L (clipP L u v) := by
  by_cases h : L = []
  · exact Or.inl ⟨h, by rw [clipP, if_pos h]⟩
  · exact Or.inr (clipP_mem h u v)
theorem InP.of {L : List (List Int)} {p : Pl} (h : InP L p) (hl : p ≠ lastP L) : p ∈ places L := by
  rcases h with ⟨rfl, rfl⟩ | h
  · exact absurd rfl hl
  · exact h
theorem InP.of0 {L : List (List Int)} {p : Pl} (h : InP L p) (hl : p ≠ (0, 0)) : p ∈ places L := by
  rcases h with ⟨_, rfl⟩ | h
  · exact absurd rfl hl
  · exact h

theorem behindC_any (a : Option Addr) (n c : Nat) (u v : Int) (w : World) :
    Calls Try.prog 79 #[.slice a n c, .agg #[.int .i64 u, .int .i64 v]] w fun e w' =>
      e = .returned (.func (.func 86) #[] #[.pointer (some ⟨w.heap.size, 0, none⟩), .pointer (some ⟨w.heap.size + 1, 0, none⟩)]) ∧ w' = (w.alloc (.cells #[.slice a n c] 22)).alloc (.cells #[.int .i64 u, .int .i64 v] 24) := by
  go_enter Try.func79, Try.ntmps79
  go_wp2
  go_ret
  exact ⟨rfl, rfl⟩
theorem aheadC_any (a : Option Addr) (n c : Nat) (u v : Int) (w : World) :
    Calls Try.prog 81 #[.slice a n c, .agg #[.int .i64 u, .int .i64 v]] w fun e w' =>
      e = .returned (.func (.func 87) #[] #[.pointer (some ⟨w.heap.size, 0, none⟩), .pointer (some ⟨w.heap.size + 1, 0, none⟩)]) ∧ w' = (w.alloc (.cells #[.slice a n c] 22)).alloc (.cells #[.int .i64 u, .int .i64 v] 24) := by
  go_enter Try.func81, Try.ntmps81
  go_wp2
  go_ret
  exact ⟨rfl, rfl⟩

def natV : Option Value → Nat
  | some (.int _ q) => q.toNat
  | _ => 0
def plOf (v : Value) (W : World) : Pl := match v with
  | .pointer (some ad) => (natV (W.cell? ⟨ad.block, 0, none⟩), natV (W.cell? ⟨ad.block, 1, none⟩))
  | _ => (0, 0)
theorem At.of {W B p} (h : At W B p) : plOf (.pointer (some ⟨B, 0, none⟩)) W = p := by
  obtain ⟨h0, h1, _⟩ := row2 h
  unfold plOf
  simp only [h0, h1, natV, Int.toNat_natCast]
end Go.Proofs.Ytikdojebnbmpoaa.U
