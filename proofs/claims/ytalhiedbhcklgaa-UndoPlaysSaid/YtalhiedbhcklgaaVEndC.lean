/-
  The contract of grow.
-/
import Derived.Test.YtalhiedbhcklgaaVEndB
namespace Go.Proofs.Ytalhiedbhcklgaa.U
open Go.RowKit
set_option linter.unusedVariables false
set_option linter.unusedSimpArgs false
set_option maxRecDepth 100000

/-- ready for the new node -/
def Ready (P : Nat → Prop) (bt : Nat) (ga : Option Addr) (n gc : Nat) (cs : List Ch) (w0 : World) (T : Tr) (w : World) : Prop :=
  ∃ (P1 F : Nat → Prop) (t : Tr), TreeC P1 F w bt t ∧ t.isOpen = false ∧ t.group = [] ∧ RdCs F w ga n gc cs ∧ t.nodes.length < 4096 ∧ T = t.grown cs ∧ ∀ W, TreeA P1 w bt T W → TreeA P w0 bt T W

set_option maxHeartbeats 8000000 in
theorem grow_any {P F : Nat → Prop} {w0 : World} {bt : Nat} {t0 : Tr} (h0 : TreeC P F w0 bt t0) (hop0 : t0.isOpen = false) (hgr0 : t0.group = []) {ga : Option Addr} {n gc : Nat} {cs : List Ch} (hr0 : RdCs F w0 ga n gc cs) (hne : cs ≠ []) (hok : OkG cs) :
    Calls Try.prog 45 #[.pointer (some ⟨bt, 0, none⟩), .slice ga n gc] w0 fun e w' => e = .returned (.tuple #[]) ∧ TreeA P w0 bt (t0.growN cs) w' := by
  have HNE := Lib.hid hne
  have HOK := Lib.hid hok
  have HL00 := Lib.hid (lenT_any h0)
  have hle0 := h0.ok.1
  obtain ⟨na, nc0, ga0, gc0, a0, a1, _, _, za0, za1, _, _, al⟩ := h0.cells
  have HLESS : Hid (t0.nodes.length ≠ 4096 → Ready P bt ga n gc cs w0 (t0.growN cs) w0) := fun hl => ⟨P, F, t0, h0, hop0, hgr0, hr0, by have := h0.ok.1; omega, by unfold Tr.growN; rw [if_neg hl], fun W hW => hW⟩
  have HFULL : Hid (t0.nodes.length = 4096 → ∀ wf, ((w0.setCell ⟨bt, 0, none⟩ (.slice (some ⟨w0.heap.size, 0, none⟩) 1 1)).setCell ⟨bt, 1, none⟩ (.int .i64 0)).alloc (.cells #[.slice none 0 0, .int .i64 0, .int .i64 0] 79) = wf → Ready P bt ga n gc cs w0 (t0.growN cs) wf) := by
    intro hl wf hwf
    obtain ⟨hT, hF⟩ := reset_mem h0 hop0 hgr0 wf hwf
    have hrf : RdCs F wf ga n gc cs := hr0.frF hF (fun k hk e => h0.outF (e ▸ hk))
    have hFP : Fr P w0 wf := hF.mono (fun k _ e => by rw [e]; exact h0.inP)
    refine ⟨_, F, _, hT, rfl, rfl, hrf, by simp, by unfold Tr.growN; rw [if_pos hl], fun W hW => ?_⟩
    obtain ⟨P', F', q1, q2, q3⟩ := hW
    have hs := hF.size
    exact ⟨P', F', q1, hFP.trans q2 (fun k hk hp => by rcases hp with hp | hp; exact hp; omega), fun k hk => by rcases q3 k hk with (hp | hp) | hp; exact .inl hp; exact .inr (by omega); exact .inr (by omega)⟩
  obtain ⟨T, hT⟩ : ∃ T, t0.growN cs = T := ⟨_, rfl⟩
  rw [hT] at HLESS HFULL ⊢
  have hmk := makeNd w0
  obtain ⟨N0, hN0⟩ : ∃ N, t0.nodes.length = N := ⟨_, rfl⟩
  rw [hN0] at HLESS HFULL HL00 a0 hle0
  clear h0 hop0 hgr0 hr0 hT hN0 hne hok
  go_enter Try.func45, Try.ntmps45
  go_upto_if 6 with (go_at_call 34; refine HL00.out.mono ?_; rintro e w' ⟨rfl, rfl⟩)
  go_cut [13] (fun v13 wx => Hid (Ready P bt ga n gc cs w0 T wx))
  case first =>
    by_cases hN : N0 = 4096
    · have t1 : ((N0 : Int) == 4096) = true := by simp; omega
      have HR := Lib.hid (HFULL.out hN _ rfl)
      clear hN HLESS HFULL
      go_wp2_with fail
      go_meet
      exact HR
    · have t1 : ((N0 : Int) == 4096) = false := by simp; omega
      have HR := Lib.hid (HLESS.out hN)
      clear hN HLESS HFULL
      go_wp2_with fail
      go_meet
      exact HR
  case rest =>
    obtain ⟨P1, F1, t, h, hop, hgr, hr, hfull, hTe, hup⟩ := hcut.out
    clear hcut HLESS HFULL
    obtain ⟨g, nc, g', c', w1, c0, c1, hl, hrun, ⟨u1, d0⟩, z0, hl1, hrest0⟩ := grow_mem (h.below (Below.refl _ wc).drew) hop hgr (hr.below (Below.refl _ wc).drew) HNE.out HOK.out hfull
    obtain ⟨w2, hw2⟩ : ∃ w2, w1.setCell ⟨bt, 0, none⟩ (.slice (some ⟨g', 0, none⟩) (t.nodes.length + 2) c') = w2 := ⟨_, rfl⟩
    obtain ⟨e0, e1, hl2, ⟨u2, e2⟩, z2, hl2', hrest1⟩ := hrest0 w2 hw2
    obtain ⟨w3, hw3⟩ : ∃ w3, w2.setCell ⟨g', t.here * 3 + 2, none⟩ (.int .i64 ((t.nodes.length + 1 : Nat) : Int)) = w3 := ⟨_, rfl⟩
    obtain ⟨f0, f1, y1, hl3, hfin⟩ := hrest1 w3 hw3
    have HFIN : Hid (∀ W, W = (w3.setCell ⟨bt, 1, none⟩ (.int .i64 ((t.nodes.length + 1 : Nat) : Int))).drew → TreeA P w0 bt T W) := by
      rintro W rfl
      rw [← hTe] at hfin
      exact hup _ ((hfin.from_ (Below.refl _ wc).drew).drew)
    have hle := h.ok.2.1
    have b0 : wc.cell? ⟨bt, 0, none⟩ = some (.slice (some ⟨g, 0, none⟩) (t.nodes.length + 1) nc) := c0
    have b1 : wc.cell? ⟨bt, 1, none⟩ = some (.int .i64 (t.here : Nat)) := c1
    have bl : bt < wc.heap.size := hl
    have e0d : w2.drew.cell? ⟨bt, 0, none⟩ = some (.slice (some ⟨g', 0, none⟩) (t.nodes.length + 2) c') := e0
    have e1d : w2.drew.cell? ⟨bt, 1, none⟩ = some (.int .i64 (t.here : Nat)) := e1
    have e2d : w2.drew.cell? ⟨g', t.here * 3 + 2, none⟩ = some u2 := e2
    have z2d : w2.drew.frozen? ⟨g', t.here * 3 + 2, none⟩ = false := z2
    have l2d : bt < w2.drew.heap.size := hl2
    have l2d' : g' < w2.drew.heap.size := hl2'
    have w3d := hw3
    have f0d : w3.drew.cell? ⟨bt, 0, none⟩ = some (.slice (some ⟨g', 0, none⟩) (t.nodes.length + 2) c') := f0
    have f1d : w3.drew.cell? ⟨bt, 1, none⟩ = some (.int .i64 (t.here : Nat)) := f1
    have y1d : w3.drew.frozen? ⟨bt, 1, none⟩ = false := y1
    have l3d : bt < w3.drew.heap.size := hl3
    have HRUN := Lib.hid hrun
    clear h hop hgr hr hfin hrun c0 c1 hl e0 e1 e2 z2 f0 f1 y1 hl3 hw3 hrest0 hrest1 hTe hup hle0 HL00 a0 a1 za0 za1 al hmk
    obtain ⟨N, hN⟩ : ∃ N, t.nodes.length = N := ⟨_, rfl⟩
    obtain ⟨h, hh⟩ : ∃ h, t.here = h := ⟨_, rfl⟩
    rw [hN] at HFIN b0 e0d w3d f0d HRUN hw2 hfull hle
    rw [hh] at b1 e1d e2d z2d w3d f1d HRUN hle
    clear hN hh
    obtain ⟨N1, hN1⟩ : ∃ N1, N + 1 = N1 := ⟨_, rfl⟩
    obtain ⟨N2, hN2⟩ : ∃ N2, N + 2 = N2 := ⟨_, rfl⟩
    rw [hN1] at HFIN b0 w3d HRUN
    rw [hN2] at e0d f0d HRUN hw2
    have HL2 := Lib.hid (len_cell bt N2 N1 c' (some ⟨g', 0, none⟩) w2.drew e0d l2d (by omega) (by omega))
    have HL3 := Lib.hid (len_cell bt N2 N1 c' (some ⟨g', 0, none⟩) w3.drew f0d l3d (by omega) (by omega))
    have hidx : (h : Int) < (N2 : Int) := by omega
    have hidn : h < N2 := by omega
    have HW2 := Lib.hid hw2
    have HW3 := Lib.hid w3d
    clear hN1 hN2 hw2 w3d
    go_wp2_with fail
    go_cut [26] (fun v26 wx => Hid (wx = w2))
    case first =>
      go_region_law (refine step_append_run rfl (.tmp 18) (.tmp 25) _ _ rfl _ _ (by simp [Act.eval, Act.put]) (by simp [Act.eval, Act.put]) (HRUN.out _) ?_)
      all_goals
        go_wp2_with fail
        go_meet
        exact HW2.out
    case rest =>
      have hcut2 := hcut
      rw [hcut2.out]
      clear hcut
      clear hcut2 HRUN b0 b1 bl d0 z0 hl1
      go_wp2_with fail
      go_region_with (go_at_call 34; refine HL2.out.mono ?_; rintro e w' ⟨rfl, rfl⟩)
      all_goals
        rw [HW3.out]
        go_wp2_with (go_at_call 34; refine HL3.out.mono ?_; rintro e w' ⟨rfl, rfl⟩)
        go_end0
        exact ⟨rfl, HFIN.out _ rfl⟩
end Go.Proofs.Ytalhiedbhcklgaa.U
