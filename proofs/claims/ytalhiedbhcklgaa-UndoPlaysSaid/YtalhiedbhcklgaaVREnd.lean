/-
  The document's Begin, End, Add.
-/
import Derived.Test.YtalhiedbhcklgaaVRTm
import Derived.Test.YtalhiedbhcklgaaVAddW
import Derived.Test.YtalhiedbhcklgaaVChT
import Derived.Test.YtalhiedbhcklgaaVEndC
namespace Go.Proofs.Ytalhiedbhcklgaa.U
open Go.RowKit
set_option linter.unusedVariables false
set_option linter.unusedSimpArgs false
set_option maxRecDepth 100000

theorem radd_mem {P F : Nat → Prop} {w w1 : World} {bx : Nat} {t : Tr} {c : Ch} {e : Ending} (h : TreeR P F w bx t) (hok : OkC c) (hlim : t.group.length < 1048576) (hp : CopP w c e w1) :
    ∃ oa oc na nc ga gc, e = .returned (.agg #[.int .i64 c.pos, .slice oa c.old.length oc, .slice na c.now.length nc]) ∧ w1.cell? ⟨bx, 3, none⟩ = some (.slice ga t.group.length gc) ∧ w.cell? ⟨bx, 3, none⟩ = some (.slice ga t.group.length gc) ∧ bx < w1.heap.size ∧ Below w.heap.size w w1 ∧
      ∃ a' c' w2, (∀ ty, (Builtin.append_ #[41, 41] ty #[.slice ga t.group.length gc, .slice (some ⟨w1.heap.size, 0, none⟩) 1 1]).run Try.prog (w1.alloc (.cells #[.int .i64 c.pos, .slice oa c.old.length oc, .slice na c.now.length nc] 24)) = .ok (.slice a' (t.group.length + 1) c') w2) ∧
        w2.cell? ⟨bx, 3, none⟩ = some (.slice ga t.group.length gc) ∧ w2.frozen? ⟨bx, 3, none⟩ = false ∧ bx < w2.heap.size ∧ (∀ k, k < w.heap.size → ¬ P k → w2.heap[k]? = w.heap[k]?) ∧
        RTreeA P w bx { t with group := t.group ++ [c] } (w2.setCell ⟨bx, 3, none⟩ (.slice a' (t.group.length + 1) c')) := by
  obtain ⟨oa, oc, na, nc, rfl, f1, f2, hb⟩ := hp
  obtain ⟨nd, ga, ndc, gc, us, h1, h2, h3, h5, h6, h7, h8⟩ := h.ex
  have hlt := heap_lt h1
  have hb1 := (hb.block bx hlt).trans h1
  have hsz := hb.size
  have hu : ChAt (fun k => w.heap.size ≤ k ∧ k < w1.heap.size) w1 (.int .i64 c.pos, .slice oa c.old.length oc, .slice na c.now.length nc) c := ⟨oa, oc, na, nc, rfl, f1.freshL.rdl2 hok.2.1, f2.freshL.rdl2 hok.2.2.1⟩
  have h61 := h6.below hb
  have hglt := h6.lt
  obtain ⟨a', c', w2, hrun, hown, hfr, hnear⟩ := app_ch h61 hu (by omega) (by omega) (fun k hk e => (h8 k e).2 hk) (fun k hk e => by have := (hglt k e).2; omega)
  have hgbt : ∀ k, (Value.slice ga t.group.length gc).ownBlock = some k → k ≠ bx := fun k e => by
    obtain ⟨us', q1, _⟩ := h6
    exact row_block_apart q1 h1 (by decide) e
  have hb2 := (hfr.block bx (heap_lt hb1) (fun e => hgbt bx e.symm rfl)).trans hb1
  have hsz2 := hfr.size
  obtain ⟨w3, hw3⟩ : ∃ w3, w2.setCell ⟨bx, 3, none⟩ (.slice a' (t.group.length + 1) c') = w3 := ⟨_, rfl⟩
  have hf3 : Fr (fun k => k = bx) w2 w3 := by rw [← hw3]; exact (Fr.refl (fun k => k = bx) w2).setCell ⟨bx, 3, none⟩ _ (fun _ => rfl)
  have hb3 := heap_set hb2 3 (.slice a' (t.group.length + 1) c')
  rw [hw3] at hb3
  have hsz3 : w3.heap.size = w2.heap.size := by rw [← hw3]; simp
  have hkeep : ∀ k, k < w.heap.size → ¬ P k → w2.heap[k]? = w.heap[k]? := fun k hk hP => (hfr.block k (by omega) (fun e => hP (h8 k e.symm).1)).trans (hb.block k hk)
  refine ⟨oa, oc, na, nc, ga, gc, rfl, cell_row hb1 3, cell_row h1 3, heap_lt hb1, hb, a', c', w2, hrun, cell_row hb2 3, frozen_row hb2 3, heap_lt hb2, hkeep, ?_⟩
  rw [hw3]
  have hF0 : Fr (fun k => some k = (Value.slice ga t.group.length gc).ownBlock ∨ k = bx) w w3 := by
    have e1 : Fr (fun k => some k = (Value.slice ga t.group.length gc).ownBlock ∨ k = bx) w w1 := Fr.of_below _ hb
    have e2 : Fr (fun k => some k = (Value.slice ga t.group.length gc).ownBlock ∨ k = bx) w1 w2 := hfr.mono (fun k _ e => .inl e)
    have e3 : Fr (fun k => some k = (Value.slice ga t.group.length gc).ownBlock ∨ k = bx) w2 w3 := hf3.mono (fun k _ e => .inr e)
    exact (e1.trans e2 (fun _ _ h => h)).trans e3 (fun _ _ h => h)
  have hnodes := own_fr h2 hF0 (fun k e => by
    rintro (e1 | e1)
    · obtain ⟨us', q1, _⟩ := h6
      exact rows_apart h2 q1 (by decide) e e1
    · exact row_block_apart h2 h1 (by decide) e e1)
  have hFap : ∀ k, F k → ¬ (some k = (Value.slice ga t.group.length gc).ownBlock ∨ k = bx) := by
    rintro k hk (e | e)
    · exact (h8 k e.symm).2 hk
    · exact h.outF (e ▸ hk)
  have hown3 := hown.fr hf3 (fun k e => ?_) (fun k hk e => ?_)
  · refine ⟨fun k => P k ∨ (w.heap.size ≤ k ∧ k < w3.heap.size), fun k => F k ∨ (w.heap.size ≤ k ∧ k < w1.heap.size), ?_, hF0.mono (fun k _ e => ?_), fun k hk => ?_⟩
    · refine { ex := ⟨nd, a', ndc, c', us, ?_, hnodes, h3, fun i p hp => ?_, ?_, fun k e => ⟨.inl (h7 k e).1, ?_⟩, fun k e => ?_⟩, inP := .inl h.inP, outF := ?_, sub := ?_, lt := ?_ }
      · rw [hb3]
        simp
      · obtain ⟨a, cc, e1, e2⟩ := h5 i p hp
        exact ⟨a, cc, e1, (e2.frF hF0 hFap).mono (fun k hk => .inl hk)⟩
      · have e : (t.group ++ [c]).length = t.group.length + 1 := by simp
        show OwnCs 0 _ w3 (.slice a' (t.group ++ [c]).length c') (t.group ++ [c])
        rw [e]
        exact hown3
      · rintro (hk | hk)
        · exact (h7 k e).2 hk
        · have := (h2.lt k e).2; omega
      · have e0 : (t.group ++ [c]).length = t.group.length + 1 := by simp
        have e' : (Value.slice a' (t.group.length + 1) c').ownBlock = some k := by rw [← e0]; exact e
        rcases hnear with q | q
        · rw [q] at e'
          have := (hglt k e').2
          exact ⟨.inl (h8 k e').1, fun hk => by rcases hk with hk | hk; exact (h8 k e').2 hk; omega⟩
        · rw [q] at e'
          injection e' with e'
          have := hown.lt k (by rw [q, e'])
          exact ⟨.inr (by omega), fun hk => by rcases hk with hk | hk; (have := h.lt k (h.sub k hk); omega); omega⟩
      · rintro (hk | hk)
        · exact h.outF hk
        · omega
      · rintro k (hk | hk)
        · exact .inl (h.sub k hk)
        · exact .inr (by omega)
      · rintro k (hk | hk)
        · have := h.lt k hk; omega
        · exact hk.2
    · rcases e with e | e
      · exact (h8 k e.symm).1
      · rw [e]; exact h.inP
    · rcases hk with hk | hk
      · exact .inl hk
      · exact .inr hk.1
  · obtain ⟨us', q1, _⟩ := hown
    exact row_block_apart q1 hb2 (by decide) e
  · rcases hk with hk | hk
    · exact h.outF (e ▸ hk)
    · omega

theorem rbegin_any {P F : Nat → Prop} {w : World} {bx : Nat} {t : Tr} (h : TreeR P F w bx t) :
    Calls Try.prog 24 #[.pointer (some ⟨bx, 0, none⟩)] w fun e w' => e = .returned (.tuple #[]) ∧ RTreeA P w bx t.begin_ w' := by
  obtain ⟨na, nc, ga, gc, _, _, c2, _, _, _, z2, _, hl⟩ := h.cells
  have HF : Hid (RTreeA P w bx t.begin_ (w.setCell ⟨bx, 2, none⟩ (.bool true))) := ⟨P, F, h.setOpen true, (Fr.refl _ w).setCell ⟨bx, 2, none⟩ (.bool true) (fun _ => h.inP), fun k hk => .inl hk⟩
  obtain ⟨T, hT⟩ : ∃ T, t.begin_ = T := ⟨_, rfl⟩
  rw [hT] at HF ⊢
  clear h hT
  go_enter Try.func24, Try.ntmps24
  go_wp2_with fail
  go_end0
  exact ⟨rfl, HF.out⟩
/-- no group: the same blocks -/
theorem rend_quiet {P F : Nat → Prop} {w : World} {bx : Nat} {t : Tr} (h : TreeR P F w bx t) (hg : t.group = []) :
    Calls Try.prog 26 #[.pointer (some ⟨bx, 0, none⟩)] w fun e w' => e = .returned (.tuple #[]) ∧ TreeR P F w' bx { t with isOpen := false } ∧ Fr P w w' ∧ w.heap.size = w'.heap.size := by
  obtain ⟨na, nc, ga, gc, -, -, c2, c3, -, -, z2, -, hl⟩ := h.cells
  have HF : Hid (TreeR P F (w.setCell ⟨bx, 2, none⟩ (.bool false)) bx { t with isOpen := false } ∧ Fr P w (w.setCell ⟨bx, 2, none⟩ (.bool false)) ∧ w.heap.size = (w.setCell ⟨bx, 2, none⟩ (.bool false)).heap.size) := ⟨h.setOpen false, (Fr.refl _ w).setCell ⟨bx, 2, none⟩ (.bool false) (fun _ => h.inP), by simp⟩
  rw [hg, List.length_nil] at c3
  obtain ⟨T, hT⟩ : ∃ T : Tr, ({ t with isOpen := false } : Tr) = T := ⟨_, rfl⟩
  rw [hT] at HF ⊢
  clear h hT hg
  go_enter Try.func26, Try.ntmps26
  go_wp2_with fail
  exact bodyPost_ret (results_none rfl _ _ _) rfl ⟨rfl, HF.out⟩

set_option maxHeartbeats 8000000 in
theorem rend_any {P F : Nat → Prop} {w0 : World} {bx : Nat} {t0 : Tr} (h0 : TreeR P F w0 bx t0) (hle0 : t0.nodes.length ≤ 4096) (hgl0 : t0.group.length ≤ 1048576) :
    Calls Try.prog 26 #[.pointer (some ⟨bx, 0, none⟩)] w0 fun e w' => e = .returned (.tuple #[]) ∧ RTreeA P w0 bx t0.end_ w' := by
  by_cases hg : t0.group = []
  · refine (rend_quiet h0 hg).mono ?_
    rintro e w' ⟨rfl, q1, q2, q3⟩
    refine ⟨rfl, P, F, ?_, q2, fun k hk => .inl hk⟩
    unfold Tr.end_
    rw [if_pos hg]
    exact q1
  obtain ⟨w1, hw1⟩ : ∃ w1, w0.setCell ⟨bx, 2, none⟩ (.bool false) = w1 := ⟨_, rfl⟩
  have h1 : TreeR P F w1 bx { t0 with isOpen := false } := by rw [← hw1]; exact h0.setOpen false
  have hF1 : Fr P w0 w1 := by rw [← hw1]; exact (Fr.refl _ w0).setCell ⟨bx, 2, none⟩ (.bool false) (fun _ => h0.inP)
  obtain ⟨na, nc0, ga0, gc0, a0, a1, -, a3, za0, za1, -, -, al⟩ := h1.cells
  have hgp : 0 < t0.group.length := List.length_pos_iff.2 hg
  have hend : t0.end_ = if t0.nodes.length = 4096 then ⟨[(0, t0.group)], 1, false, []⟩ else ⟨t0.nodes ++ [(t0.here, t0.group)], t0.nodes.length + 1, false, []⟩ := by
    unfold Tr.end_
    rw [if_neg hg]
  have HLESS : Hid (t0.nodes.length ≠ 4096 → ∃ t, TreeR P F w1 bx t ∧ t.isOpen = false ∧ t.nodes.length < 1048576 ∧ t0.end_ = ⟨t.nodes ++ [(t.here, t.group)], t.nodes.length + 1, false, []⟩ ∧ Fr P w0 w1) := fun hl => ⟨_, h1, rfl, by simp only; omega, by rw [hend, if_neg hl], hF1⟩
  have HFULL : Hid (t0.nodes.length = 4096 → ∀ wf, (w1.setCell ⟨bx, 0, none⟩ (.slice none 0 0)).setCell ⟨bx, 1, none⟩ (.int .i64 0) = wf → ∃ t, TreeR P F wf bx t ∧ t.isOpen = false ∧ t.nodes.length < 1048576 ∧ t0.end_ = ⟨t.nodes ++ [(t.here, t.group)], t.nodes.length + 1, false, []⟩ ∧ Fr P w0 wf) := by
    intro hl wf hwf
    refine ⟨_, by rw [← hwf]; exact h1.reset.setHere 0, rfl, by simp, by rw [hend, if_pos hl]; simp, ?_⟩
    rw [← hwf]
    exact (hF1.setCell ⟨bx, 0, none⟩ _ (fun _ => h0.inP)).setCell ⟨bx, 1, none⟩ _ (fun _ => h0.inP)
  obtain ⟨T, hT⟩ : ∃ T, t0.end_ = T := ⟨_, rfl⟩
  rw [hT] at HLESS HFULL ⊢
  obtain ⟨N0, hN0⟩ : ∃ N, t0.nodes.length = N := ⟨_, rfl⟩
  obtain ⟨G0, hG0⟩ : ∃ N, t0.group.length = N := ⟨_, rfl⟩
  simp only at a0 a1 a3
  rw [hN0] at HLESS HFULL a0 hle0
  rw [hG0] at a3 hgp hgl0
  obtain ⟨_, _, gg0, gn0, -, -, b2, b3, -, -, y2, -, yl⟩ := h0.cells
  rw [hG0] at b3
  have t0' : ((G0 : Int) == 0) = false := by simp; omega
  have HW1 := Lib.hid hw1
  clear h0 h1 hF1 hT hN0 hG0 hg hend hw1
  go_enter Try.func26, Try.ntmps26
  go_upto_region 2 with fail
  rw [HW1.out]
  clear b2 b3 y2 yl
  go_upto_if 16 with fail
  go_cut [16] (fun v16 wx => Hid (∃ t, TreeR P F wx bx t ∧ t.isOpen = false ∧ t.nodes.length < 1048576 ∧ T = ⟨t.nodes ++ [(t.here, t.group)], t.nodes.length + 1, false, []⟩ ∧ Fr P w0 wx))
  case first =>
    by_cases hN : N0 = 4096
    · have t1 : ((N0 : Int) == 4096) = true := by simp; omega
      have HR := Lib.hid (HFULL.out hN _ rfl)
      clear hN HLESS HFULL
      go_wp2_with fail
      go_meet
      exact HR
    · have t1 : ((N0 : Int) == 4096) = false := by simp; omega
      have HR := Lib.hid (HLESS.out hN)
      clear hN HLESS HFULL
      go_wp2_with fail
      go_meet
      exact HR
  case rest =>
    obtain ⟨t, h, hop, hfull, hTe, hF⟩ := hcut.out
    clear hcut HLESS HFULL
    obtain ⟨na, nc, ga, gc, g', c', w1', c0, c1, c3, hl, hrun, ⟨u1, d0⟩, z0, hl1, hrest0⟩ := rgrow_mem (h.below (Below.refl _ wc).drew) hop hfull
    obtain ⟨w2, hw2⟩ : ∃ w2, w1'.setCell ⟨bx, 0, none⟩ (.slice (some ⟨g', 0, none⟩) (t.nodes.length + 1) c') = w2 := ⟨_, rfl⟩
    obtain ⟨e0, ⟨u2, e1⟩, z2, ⟨u3, e3⟩, z3, hl2, hfin⟩ := hrest0 w2 hw2
    have HFIN : Hid (∀ W, W = (w2.setCell ⟨bx, 1, none⟩ (.int .i64 ((t.nodes.length + 1 : Nat) : Int))).setCell ⟨bx, 3, none⟩ (.slice none 0 0) → RTreeA P w0 bx T W) := by
      rintro W rfl
      rw [← hTe] at hfin
      exact (hfin.from_ (Below.refl _ wc).drew).trans hF
    have b0 : wc.cell? ⟨bx, 0, none⟩ = some (.slice na t.nodes.length nc) := c0
    have b1 : wc.cell? ⟨bx, 1, none⟩ = some (.int .i64 (t.here : Nat)) := c1
    have b3 : wc.cell? ⟨bx, 3, none⟩ = some (.slice ga t.group.length gc) := c3
    have bl : bx < wc.heap.size := hl
    have HRUN := Lib.hid hrun
    clear h hop hfin hrun c0 c1 c3 hl hrest0 hTe hF a0 a1 a3 za0 za1 al HW1
    obtain ⟨N, hN⟩ : ∃ N, t.nodes.length = N := ⟨_, rfl⟩
    obtain ⟨h, hh⟩ : ∃ h, t.here = h := ⟨_, rfl⟩
    obtain ⟨G, hG⟩ : ∃ G, t.group.length = G := ⟨_, rfl⟩
    rw [hN] at HFIN b0 HRUN hw2 hfull e0
    rw [hh] at b1 HRUN
    rw [hG] at b3 HRUN
    clear hN hh hG
    obtain ⟨N1, hN1⟩ : ∃ N1, N + 1 = N1 := ⟨_, rfl⟩
    rw [hN1] at HFIN HRUN hw2 e0
    have HW2 := Lib.hid hw2
    clear hN1 hw2
    go_upto_region 5 with fail
    go_cut [38] (fun v38 wx => Hid (wx = w2))
    case first =>
      go_region_law (refine step_append_run rfl (.tmp 27) (.tmp 37) _ _ rfl _ _ (by simp [Act.eval, Act.put]) (by simp [Act.eval, Act.put]) (HRUN.out _) ?_)
      all_goals
        go_wp2_with fail
        go_meet
        exact HW2.out
    case rest =>
      have hcut2 := hcut
      rw [hcut2.out]
      clear hcut hcut2 HRUN b0 b1 b3 bl d0 z0 hl1
      go_wp2_with fail
      go_end0
      exact ⟨rfl, HFIN.out _ rfl⟩
end Go.Proofs.Ytalhiedbhcklgaa.U
