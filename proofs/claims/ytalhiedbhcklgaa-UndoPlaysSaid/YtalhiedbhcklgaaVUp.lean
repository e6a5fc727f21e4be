/-
  The closure that goes up one node.
-/
import Derived.Test.YtalhiedbhcklgaaVTm
namespace Go.Proofs.Ytalhiedbhcklgaa.U
open Go.RowKit
set_option linter.unusedVariables false
set_option linter.unusedSimpArgs false
set_option maxRecDepth 100000

/-- behind one step up: the number in its box -/
def UpP (w : World) (f x : Nat) (w' : World) : Prop :=
  Fr (fun k => k = f) w w' ∧ w'.heap[f]? = some (.cells #[.int .i64 (x : Nat)] 3 (0, 0))

set_option maxHeartbeats 4000000 in
theorem up_any {w : World} {bt f bp g nc c : Nat} {a : Option Addr} {t : Tr} {i : Nat} (hN : t.nodes.length ≤ 4096) (hi : i ≤ t.nodes.length) (q0 : w.cell? ⟨bt, 0, none⟩ = some (.slice (some ⟨g, 0, none⟩) (t.nodes.length + 1) nc)) (q1 : g < w.heap.size) (q2 : w.cell? ⟨g, i * 3, none⟩ = some (.slice a (t.chs i).length c)) (q3 : w.cell? ⟨g, i * 3 + 1, none⟩ = some (.int .i64 (t.up i : Nat))) (q4 : w.cell? ⟨g, i * 3 + 2, none⟩ = some (.int .i64 (t.lst i : Nat)))
    (hbt : bt < w.heap.size) (hf : w.heap[f]? = some (.cells #[.int .i64 (i : Nat)] 3 (0, 0))) (hfg : g ≠ f) (hp : w.cell? ⟨bp, 0, none⟩ = some (.pointer (some ⟨bt, 0, none⟩))) (hfp : bp ≠ f) :
    Calls Try.prog 52 #[.pointer (some ⟨f, 0, none⟩), .pointer (some ⟨bp, 0, none⟩)] w fun e w' => e = .returned (.slice a (t.chs i).length c) ∧ Hid (UpP w f (t.up i) w') := by
  have lf := heap_lt hf
  have cf : w.cell? ⟨f, 0, none⟩ = some (.int .i64 (i : Nat)) := cell_row hf 0
  have zf := frozen_row hf 0
  have lp := block_lt_of_cell hp
  have HFIN : Hid (∀ W, W = ((w.setCell ⟨f, 0, none⟩ (.int .i64 (t.up i : Nat))).alloc (.cells #[.slice a (t.chs i).length c, .int .i64 (t.up i : Nat), .int .i64 (t.lst i : Nat)] 79)).drew → UpP w f (t.up i) W) := by
    rintro W rfl
    have hfr : Fr (fun k => k = f) w ((w.setCell ⟨f, 0, none⟩ (.int .i64 (t.up i : Nat))).alloc (.cells #[.slice a (t.chs i).length c, .int .i64 (t.up i : Nat), .int .i64 (t.lst i : Nat)] 79)) := ((Fr.refl (fun k => k = f) w).setCell ⟨f, 0, none⟩ _ (fun _ => rfl)).alloc _
    exact ⟨hfr.drew, (Below.heap_alloc (w.setCell ⟨f, 0, none⟩ (.int .i64 (t.up i : Nat))) _ f (by simpa using lf)).trans (heap_set hf 0 (.int .i64 (t.up i : Nat)))⟩
  obtain ⟨L, hL⟩ : ∃ L, (t.chs i).length = L := ⟨_, rfl⟩
  obtain ⟨ui, hui⟩ : ∃ u, t.up i = u := ⟨_, rfl⟩
  obtain ⟨li, hli⟩ : ∃ u, t.lst i = u := ⟨_, rfl⟩
  obtain ⟨N, hNe⟩ : ∃ N, t.nodes.length + 1 = N := ⟨_, rfl⟩
  have hiN : (i : Int) < (N : Int) := by omega
  have hiN2 : i < N := by omega
  have hbf : ¬ bp = f := hfp
  have hgf : ¬ g = f := hfg
  rw [hL] at q2 ⊢
  rw [hL, hui, hli] at HFIN
  rw [hui]
  rw [hui] at q3
  rw [hli] at q4
  rw [hNe] at q0
  clear hfg hL hui hli hNe hf hfp
  go_enter Try.func52, Try.ntmps52
  go_wp2_with fail
  go_region_with (fail)
  all_goals
    go_wp2_with fail
    go_ret
    exact ⟨rfl, HFIN.out _ rfl⟩
end Go.Proofs.Ytalhiedbhcklgaa.U
