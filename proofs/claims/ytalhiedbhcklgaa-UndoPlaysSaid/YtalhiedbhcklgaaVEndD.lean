/-
  The contract of End, called or deferred.
-/
import Derived.Test.YtalhiedbhcklgaaVEndC
namespace Go.Proofs.Ytalhiedbhcklgaa.U
open Go.RowKit
set_option linter.unusedVariables false
set_option linter.unusedSimpArgs false
set_option maxRecDepth 100000

theorem end_mem {P F : Nat → Prop} {w : World} {bt : Nat} {t : Tr} (h : TreeC P F w bt t) :
    ∃ ga gc, w.cell? ⟨bt, 3, none⟩ = some (.slice ga t.group.length gc) ∧ (∃ u, w.cell? ⟨bt, 2, none⟩ = some u) ∧ w.frozen? ⟨bt, 2, none⟩ = false ∧ w.frozen? ⟨bt, 3, none⟩ = false ∧ bt < w.heap.size ∧
      ∀ ws, (w.setCell ⟨bt, 2, none⟩ (.bool false)).setCell ⟨bt, 3, none⟩ (.slice none 0 0) = ws →
        (t.group = [] → TreeA P w bt t.end_ ws) ∧ (t.group ≠ [] → Calls Try.prog 45 #[.pointer (some ⟨bt, 0, none⟩), .slice ga t.group.length gc] ws fun e w' => e = .returned (.tuple #[]) ∧ TreeA P w bt t.end_ w') := by
  obtain ⟨na, nc, ga0, gc0, c0, c1, c2, c3, z0, z1, z2, z3, hl⟩ := h.cells
  obtain ⟨ga, gc, F', d3, hT, hR⟩ := (h.setOpen false).takeGroup rfl
  have d3' : w.cell? ⟨bt, 3, none⟩ = some (.slice ga t.group.length gc) := by
    rw [World.cell?_setCell_other _ _ _ _ (by intro e; cases e)] at d3
    exact d3
  have hf : Fr P w ((w.setCell ⟨bt, 2, none⟩ (.bool false)).setCell ⟨bt, 3, none⟩ (.slice none 0 0)) := ((Fr.refl P w).setCell ⟨bt, 2, none⟩ _ (fun _ => h.inP)).setCell ⟨bt, 3, none⟩ _ (fun _ => h.inP)
  refine ⟨ga, gc, d3', ⟨_, c2⟩, z2, z3, hl, ?_⟩
  rintro ws rfl
  rw [Tr.end_grow]
  constructor
  · intro hg
    rw [if_pos hg]
    have e : ({ t with isOpen := false } : Tr) = { t with isOpen := false, group := [] } := by rw [hg]
    rw [e]
    exact TreeA.trans hf (TreeA.self hT)
  · intro hg
    rw [if_neg hg]
    refine (grow_any hT rfl rfl hR hg h.lim.2).mono ?_
    rintro e w' ⟨rfl, hA⟩
    exact ⟨rfl, TreeA.trans hf hA⟩

set_option maxHeartbeats 4000000 in
theorem end_any {P F : Nat → Prop} {w : World} {bt : Nat} {t : Tr} (h : TreeC P F w bt t) :
    (Calls Try.prog 25 #[.pointer (some ⟨bt, 0, none⟩)] w fun e w' => e = .returned (.tuple #[]) ∧ TreeA P w bt t.end_ w') ∧
    ∀ u, CallsD Try.prog 25 #[.pointer (some ⟨bt, 0, none⟩)] u w fun e u' w' => u' = u ∧ (e = .returned (.tuple #[]) ∧ TreeA P w bt t.end_ w') := by
  obtain ⟨ga, gc, c3, ⟨u2, c2⟩, z2, z3, hl, hrest⟩ := end_mem h
  obtain ⟨ws, hws⟩ : ∃ ws, (w.setCell ⟨bt, 2, none⟩ (.bool false)).setCell ⟨bt, 3, none⟩ (.slice none 0 0) = ws := ⟨_, rfl⟩
  obtain ⟨r1, r2⟩ := hrest ws hws
  have hgl : t.group.length ≤ 1048576 := h.lim.2.1
  obtain ⟨T, hT⟩ : ∃ T, t.end_ = T := ⟨_, rfl⟩
  rw [hT] at r1 r2 ⊢
  have HWS := Lib.hid hws
  clear h hrest hT hws
  by_cases hg : t.group = []
  · have HR := Lib.hid (r1 hg)
    rw [hg, List.length_nil] at c3
    clear r1 r2 hg hgl
    refine ⟨?_, fun u => ?_⟩
    · go_enter Try.func25, Try.ntmps25
      go_wp2_with fail
      rw [HWS.out]
      go_end0
      exact ⟨rfl, HR.out⟩
    · go_enter_d Try.func25, Try.ntmps25
      go_wp2_with fail
      rw [HWS.out]
      go_end0
      exact ⟨rfl, HR.out⟩
  · have HR := Lib.hid (r2 hg)
    have hgp : 0 < t.group.length := List.length_pos_iff.2 hg
    obtain ⟨n, hn⟩ : ∃ n, t.group.length = n := ⟨_, rfl⟩
    rw [hn] at c3 HR hgp hgl
    clear r1 r2 hg hn
    refine ⟨?_, fun u => ?_⟩
    · go_enter Try.func25, Try.ntmps25
      go_wp2_with fail
      rw [HWS.out]
      refine HR.out.mono ?_
      rintro e w' ⟨rfl, hA⟩
      go_wp2_with fail
      go_end0
      exact ⟨rfl, hA⟩
    · go_enter_d Try.func25, Try.ntmps25
      go_wp2_with fail
      rw [HWS.out]
      refine HR.out.mono ?_
      rintro e w' ⟨rfl, hA⟩
      go_wp2_with fail
      go_end0
      exact ⟨rfl, hA⟩
theorem end_nil (w : World) : Calls Try.prog 25 #[.pointer none] w fun e w' => e = .returned (.tuple #[]) ∧ w = w' := by
  go_enter Try.func25, Try.ntmps25
  go_wp2_with fail
  first | go_end0 | refine bodyPost_ret (results_none rfl _ _ _) rfl ?_
  exact ⟨rfl, rfl⟩
end Go.Proofs.Ytalhiedbhcklgaa.U
