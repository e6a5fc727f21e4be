/-
  The program's Parse and Groups.
-/
import Derived.Test.YtkjiobbkbhmijaaRRead
namespace Go.Proofs.Ytkjiobbkbhmijaa.U
open Go.RowKit
set_option linter.unusedVariables false
set_option linter.unusedSimpArgs false
set_option maxRecDepth 100000

/-- what Parse leaves -/
def PrAns (w : World) (r : Rs (Re × Nat)) (e : Ending) (w' : World) : Prop :=
  match r with
  | .error c => e = .returned (.tuple #[.agg #[.int .i64 0, .int .i32 0, .slice none 0 0, .bool false, .int .i64 0, .int .i64 0, .slice none 0 0], .int .i64 c]) ∧ Below w.heap.size w w'
  | .ok (y, n) => ∃ k4 r4 sa4 sn4 sc4 nt4 l4 h4 pa4 pn4 pc4, e = .returned (.tuple #[.agg #[.int .i64 k4, .int .i32 r4, .slice sa4 sn4 sc4, .bool nt4, .int .i64 l4, .int .i64 h4, .slice pa4 pn4 pc4], .int .i64 0]) ∧ ReAt (New w w') w' [.int .i64 k4, .int .i32 r4, .slice sa4 sn4 sc4, .bool nt4, .int .i64 l4, .int .i64 h4, .slice pa4 pn4 pc4] y ∧ Below w.heap.size w w'
def grpsOf (r : Rs (Re × Nat)) : Nat :=
  match r with
  | .error _ => 0
  | .ok (_, n) => n
/-- a part as seven cells, whichever it is -/
theorem RdAns.open {w : World} {r : Rs (Re × Nat)} {e : Ending} {w' : World} (h : RdAns w r e w') : ∃ k4 r4 sa4 sn4 sc4 nt4 l4 h4 pa4 pn4 pc4 er, e = .returned (.tuple #[.agg #[.int .i64 k4, .int .i32 r4, .slice sa4 sn4 sc4, .bool nt4, .int .i64 l4, .int .i64 h4, .slice pa4 pn4 pc4], .int .i64 (grpsOf r : Nat), .int .i64 er]) ∧ Hid (Below w.heap.size w w' ∧ ∀ W : World, Below w'.heap.size w' W → PrAns w r (.returned (.tuple #[.agg #[.int .i64 k4, .int .i32 r4, .slice sa4 sn4 sc4, .bool nt4, .int .i64 l4, .int .i64 h4, .slice pa4 pn4 pc4], .int .i64 er])) W) := by
  match r, h with
  | .error c, ⟨he, hb⟩ =>
    subst he
    exact ⟨0, 0, none, 0, 0, false, 0, 0, none, 0, 0, c, rfl, hb, fun W hW => ⟨rfl, hb.trans (hW.mono hb.size)⟩⟩
  | .ok (y, n), ⟨k4, r4, sa4, sn4, sc4, nt4, l4, h4, pa4, pn4, pc4, he, hre, hb⟩ =>
    subst he
    exact ⟨k4, r4, sa4, sn4, sc4, nt4, l4, h4, pa4, pn4, pc4, 0, rfl, hb, fun W hW => ⟨k4, r4, sa4, sn4, sc4, nt4, l4, h4, pa4, pn4, pc4, rfl, ReAt.mono (fun k hk => ⟨hk.1, by have := hk.2; have := hW.size; omega⟩) y (ReAt.frF (Fr.of_below (fun _ => False) hW) (fun _ _ h => h) y hre), hb.trans (hW.mono hb.size)⟩⟩
set_option maxHeartbeats 1000000 in
theorem parse_any (a : Option Addr) (len cap : Nat) (p : List Int) (w : World) (hr : Rd .i32 w a len cap p) (hl : len ≤ 1000000) :
    Calls Try.prog 8 #[.slice a len cap] w (PrAns w (parse p)) := by
  obtain ⟨w1, hw1⟩ : ∃ w1, w.alloc (.cells #[.int .i64 0, .int .i32 0, .slice none 0 0, .bool false, .int .i64 0, .int .i64 0, .slice none 0 0] 26) = w1 := ⟨_, rfl⟩
  have hb1 : Below w.heap.size w w1 := by rw [← hw1]; exact bal _ _
  have hg1 : w1.heap[w.heap.size]? = some (.cells #[.int .i64 0, .int .i32 0, .slice none 0 0, .bool false, .int .i64 0, .int .i64 0, .slice none 0 0] 26 (0, 0)) := by rw [← hw1]; exact heap_alloc_new w _
  obtain ⟨r, hpr⟩ : ∃ r, parse p = r := ⟨_, rfl⟩
  have hrd := read_any a len cap p w1 (hr.below hb1) hl
  rw [hpr] at hrd ⊢
  have HRC := Lib.hid hrd
  have HG1 := Lib.hid hg1
  have HB1 := Lib.hid hb1
  have HW1 := Lib.hid hw1
  have HOPEN : Hid (∀ e w2, RdAns w1 r e w2 → ∃ k4 r4 sa4 sn4 sc4 nt4 l4 h4 pa4 pn4 pc4 er w3, e = .returned (.tuple #[.agg #[.int .i64 k4, .int .i32 r4, .slice sa4 sn4 sc4, .bool nt4, .int .i64 l4, .int .i64 h4, .slice pa4 pn4 pc4], .int .i64 (grpsOf r : Nat), .int .i64 er]) ∧ w2.alloc (.cells #[.int .i64 k4, .int .i32 r4, .slice sa4 sn4 sc4, .bool nt4, .int .i64 l4, .int .i64 h4, .slice pa4 pn4 pc4] 26) = w3 ∧ w3.heap[w2.heap.size]? = some (.cells #[.int .i64 k4, .int .i32 r4, .slice sa4 sn4 sc4, .bool nt4, .int .i64 l4, .int .i64 h4, .slice pa4 pn4 pc4] 26 (0, 0)) ∧ w3.heap[w.heap.size]? = some (.cells #[.int .i64 0, .int .i32 0, .slice none 0 0, .bool false, .int .i64 0, .int .i64 0, .slice none 0 0] 26 (0, 0)) ∧ w.heap.size < w2.heap.size ∧
      Hid (∀ W : World, Fr (fun j => j = w.heap.size) w3 W → PrAns w r (.returned (.tuple #[.agg #[.int .i64 k4, .int .i32 r4, .slice sa4 sn4 sc4, .bool nt4, .int .i64 l4, .int .i64 h4, .slice pa4 pn4 pc4], .int .i64 er])) W)) := by
    intro e w2 h
    obtain ⟨k4, r4, sa4, sn4, sc4, nt4, l4, h4, pa4, pn4, pc4, er, he, hb, hfin⟩ := h.open
    subst he
    have hs1 := heap_lt HG1.out
    have hs2 := hb.size
    refine ⟨k4, r4, sa4, sn4, sc4, nt4, l4, h4, pa4, pn4, pc4, er, _, rfl, rfl, heap_alloc_new w2 _, ?_, by omega, ?_⟩
    · rw [(bal w2 _).block _ (by omega), hb.block _ hs1]; exact HG1.out
    · intro W hW
      have h1 := hfin _ (bal w2 (.cells #[.int .i64 k4, .int .i32 r4, .slice sa4 sn4 sc4, .bool nt4, .int .i64 l4, .int .i64 h4, .slice pa4 pn4 pc4] 26))
      have hs3 := (bal w2 (.cells #[.int .i64 k4, .int .i32 r4, .slice sa4 sn4 sc4, .bool nt4, .int .i64 l4, .int .i64 h4, .slice pa4 pn4 pc4] 26)).size
      have hs4 := hW.size
      have hbl : Below w.heap.size w W := by
        have h5 := (((Fr.of_below (fun k => w.heap.size ≤ k) HB1.out).trans (Fr.of_below (fun _ => False) hb) (fun _ _ h => h.elim)).trans (Fr.of_below (fun _ => False) (bal w2 (.cells #[.int .i64 k4, .int .i32 r4, .slice sa4 sn4 sc4, .bool nt4, .int .i64 l4, .int .i64 h4, .slice pa4 pn4 pc4] 26))) (fun _ _ h => h.elim)).trans hW (fun k _ e => by omega)
        exact h5.below (Nat.le_refl _) (fun k hk => hk)
      match r, h1 with
      | .error c, ⟨h2, h3⟩ => exact ⟨h2, hbl⟩
      | .ok (y, n), ⟨k5, r5, sa5, sn5, sc5, nt5, l5, h5, pa5, pn5, pc5, he, hre, _⟩ =>
        exact ⟨k5, r5, sa5, sn5, sc5, nt5, l5, h5, pa5, pn5, pc5, he, ReAt.mono (fun k hk => ⟨by have := hk.1; omega, by have := hk.2; omega⟩) y (ReAt.frF hW (fun k hk e => by have := hk.1; omega) y hre), hbl⟩
  clear hr hg1 hb1 hw1 hrd hpr
  go_enter Try.func8, Try.ntmps8
  go_upto_region 1 with fail
  rw [HW1.out]
  go_upto_region 2 with (go_at_call 19; refine HRC.out.mono ?_; intro e w2 hh; obtain ⟨k4, r4, sa4, sn4, sc4, nt4, l4, h4, pa4, pn4, pc4, er, w3, he, hw3, hX, hR, hlt, HFIN⟩ := HOPEN.out e w2 hh; subst he; clear hh)
  obtain ⟨p0, p1, p2, p3, p4, p5, p6, -⟩ := row7 hX
  obtain ⟨a0, a1, a2, a3, a4, a5, a6, z0, z1, z2, z3, z4, z5, z6⟩ := row7 hR
  have hput := put7 hR (.int .i64 k4) (.int .i32 r4) (.slice sa4 sn4 sc4) (.bool nt4) (.int .i64 l4) (.int .i64 h4) (.slice pa4 pn4 pc4)
  have HEND := Lib.hid (HFIN.out _ hput.2)
  have n1 : ¬ w2.heap.size = w.heap.size := by omega
  clear hput hX hR
  go_wp2
  refine bodyPost_ret (v := .tuple #[.agg #[.int .i64 k4, .int .i32 r4, .slice sa4 sn4 sc4, .bool nt4, .int .i64 l4, .int .i64 h4, .slice pa4 pn4 pc4], .int .i64 er]) ?_ rfl ?_
  · rw [results_ct rfl]
    go_simp
  · with_reducible exact HEND.out
set_option maxHeartbeats 1000000 in
theorem groups_any (a : Option Addr) (len cap : Nat) (p : List Int) (w : World) (hr : Rd .i32 w a len cap p) (hl : len ≤ 1000000) :
    Calls Try.prog 11 #[.slice a len cap] w fun e w' => e = .returned (.int .i64 (grpsOf (parse p) : Nat)) ∧ Below w.heap.size w w' := by
  obtain ⟨r, hpr⟩ : ∃ r, parse p = r := ⟨_, rfl⟩
  have hrd := read_any a len cap p w hr hl
  rw [hpr] at hrd ⊢
  have HRC := Lib.hid hrd
  clear hr hrd hpr
  go_enter Try.func11, Try.ntmps11
  go_wp2_with (go_at_call 19; refine HRC.out.mono ?_; intro e w2 hh; obtain ⟨k4, r4, sa4, sn4, sc4, nt4, l4, h4, pa4, pn4, pc4, er, he, hfin⟩ := hh.open; subst he; have HB := Lib.hid hfin.1; clear hh hfin)
  go_ret
  exact ⟨rfl, HB.out.trans ((bal w2 _).mono HB.out.size)⟩
end Go.Proofs.Ytkjiobbkbhmijaa.U
