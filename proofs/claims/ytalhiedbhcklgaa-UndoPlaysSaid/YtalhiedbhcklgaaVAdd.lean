/-
  What Add's append leaves of the tree.
-/
import Derived.Test.YtalhiedbhcklgaaVEndD
import Derived.Test.YtalhiedbhcklgaaVList
import Derived.Deep.RegionHeld3
namespace Go.Proofs.Ytalhiedbhcklgaa.U
open Go.RowKit
set_option linter.unusedVariables false
set_option linter.unusedSimpArgs false
set_option maxRecDepth 100000

theorem add_mem {P F : Nat → Prop} {w w1 : World} {bt : Nat} {t : Tr} {c : Ch} {e : Ending} (h : TreeC P F w bt t) (hok : OkC c) (hlim : t.group.length < 1048576) (hp : CopP w c e w1) :
    ∃ oa oc na nc ga gc, e = .returned (.agg #[.int .i64 c.pos, .slice oa c.old.length oc, .slice na c.now.length nc]) ∧ w1.cell? ⟨bt, 3, none⟩ = some (.slice ga t.group.length gc) ∧ w.cell? ⟨bt, 3, none⟩ = some (.slice ga t.group.length gc) ∧ bt < w1.heap.size ∧ Below w.heap.size w w1 ∧
      ∃ a' c' w2, (∀ ty, (Builtin.append_ #[41, 41] ty #[.slice ga t.group.length gc, .slice (some ⟨w1.heap.size, 0, none⟩) 1 1]).run Try.prog (w1.alloc (.cells #[.int .i64 c.pos, .slice oa c.old.length oc, .slice na c.now.length nc] 24)) = .ok (.slice a' (t.group.length + 1) c') w2) ∧
        w2.cell? ⟨bt, 3, none⟩ = some (.slice ga t.group.length gc) ∧ w2.frozen? ⟨bt, 3, none⟩ = false ∧ bt < w2.heap.size ∧ (∀ k, k < w.heap.size → ¬ P k → w2.heap[k]? = w.heap[k]?) ∧
        TreeA P w bt { t with group := t.group ++ [c] } (w2.setCell ⟨bt, 3, none⟩ (.slice a' (t.group.length + 1) c')) := by
  obtain ⟨oa, oc, na, nc, rfl, f1, f2, hb⟩ := hp
  obtain ⟨nd, ga, ndc, gc, us, h1, h2, h3, h4, h5, h6, h7, h8⟩ := h.ex
  have hlt := heap_lt h1
  have hb1 := (hb.block bt hlt).trans h1
  have hsz := hb.size
  have hu : ChAt (fun k => w.heap.size ≤ k ∧ k < w1.heap.size) w1 (.int .i64 c.pos, .slice oa c.old.length oc, .slice na c.now.length nc) c := ⟨oa, oc, na, nc, rfl, f1.freshL.rdl2 hok.2.1, f2.freshL.rdl2 hok.2.2.1⟩
  have h61 := h6.below hb
  have hglt := h6.lt
  obtain ⟨a', c', w2, hrun, hown, hfr, hnear⟩ := app_ch h61 hu (by omega) (by omega) (fun k hk e => (h8 k e).2 hk) (fun k hk e => by have := (hglt k e).2; omega)
  have hgbt : ∀ k, (Value.slice ga t.group.length gc).ownBlock = some k → k ≠ bt := fun k e => by
    obtain ⟨us', q1, _⟩ := h6
    exact row_block_apart q1 h1 (by decide) e
  have hb2 := (hfr.block bt (heap_lt hb1) (fun e => hgbt bt e.symm rfl)).trans hb1
  have hsz2 := hfr.size
  obtain ⟨w3, hw3⟩ : ∃ w3, w2.setCell ⟨bt, 3, none⟩ (.slice a' (t.group.length + 1) c') = w3 := ⟨_, rfl⟩
  have hf3 : Fr (fun k => k = bt) w2 w3 := by rw [← hw3]; exact (Fr.refl (fun k => k = bt) w2).setCell ⟨bt, 3, none⟩ _ (fun _ => rfl)
  have hb3 := heap_set hb2 3 (.slice a' (t.group.length + 1) c')
  rw [hw3] at hb3
  have hsz3 : w3.heap.size = w2.heap.size := by rw [← hw3]; simp
  have hkeep : ∀ k, k < w.heap.size → ¬ P k → w2.heap[k]? = w.heap[k]? := fun k hk hP => (hfr.block k (by omega) (fun e => hP (h8 k e.symm).1)).trans (hb.block k hk)
  refine ⟨oa, oc, na, nc, ga, gc, rfl, cell_row hb1 3, cell_row h1 3, heap_lt hb1, hb, a', c', w2, hrun, cell_row hb2 3, frozen_row hb2 3, heap_lt hb2, hkeep, ?_⟩
  rw [hw3]
  have hF0 : Fr (fun k => some k = (Value.slice ga t.group.length gc).ownBlock ∨ k = bt) w w3 := by
    have e1 : Fr (fun k => some k = (Value.slice ga t.group.length gc).ownBlock ∨ k = bt) w w1 := Fr.of_below _ hb
    have e2 : Fr (fun k => some k = (Value.slice ga t.group.length gc).ownBlock ∨ k = bt) w1 w2 := hfr.mono (fun k _ e => .inl e)
    have e3 : Fr (fun k => some k = (Value.slice ga t.group.length gc).ownBlock ∨ k = bt) w2 w3 := hf3.mono (fun k _ e => .inr e)
    exact (e1.trans e2 (fun _ _ h => h)).trans e3 (fun _ _ h => h)
  have hnodes := own_fr h2 hF0 (fun k e => by
    rintro (e1 | e1)
    · obtain ⟨us', q1, _⟩ := h6
      exact rows_apart h2 q1 (by decide) e e1
    · exact row_block_apart h2 h1 (by decide) e e1)
  have hFap : ∀ k, F k → ¬ (some k = (Value.slice ga t.group.length gc).ownBlock ∨ k = bt) := by
    rintro k hk (e | e)
    · exact (h8 k e.symm).2 hk
    · exact h.outF (e ▸ hk)
  have hown3 := hown.fr hf3 (fun k e => ?_) (fun k hk e => ?_)
  · refine ⟨fun k => P k ∨ (w.heap.size ≤ k ∧ k < w3.heap.size), fun k => F k ∨ (w.heap.size ≤ k ∧ k < w1.heap.size), ?_, hF0.mono (fun k _ e => ?_), fun k hk => ?_⟩
    · refine { ex := ⟨nd, a', ndc, c', us, ?_, hnodes, h3, ?_, fun i p hp => ?_, ?_, fun k e => ⟨.inl (h7 k e).1, ?_⟩, fun k e => ?_⟩, inP := .inl h.inP, outF := ?_, sub := ?_, lt := ?_, ok := h.ok, lim := ⟨h.lim.1, ?_⟩ }
      · rw [hb3]
        simp
      · rw [Tr.lst_same (t := { t with group := t.group ++ [c] }) (u := t) rfl]; exact h4
      · obtain ⟨a, cc, e1, e2⟩ := h5 i p hp
        exact ⟨a, cc, by rw [Tr.lst_same (t := { t with group := t.group ++ [c] }) (u := t) rfl]; exact e1, (e2.frF hF0 hFap).mono (fun k hk => .inl hk)⟩
      · have e : (t.group ++ [c]).length = t.group.length + 1 := by simp
        show OwnCs 0 _ w3 (.slice a' (t.group ++ [c]).length c') (t.group ++ [c])
        rw [e]
        exact hown3
      · rintro (hk | hk)
        · exact (h7 k e).2 hk
        · have := (h2.lt k e).2; omega
      · have e0 : (t.group ++ [c]).length = t.group.length + 1 := by simp
        have e' : (Value.slice a' (t.group.length + 1) c').ownBlock = some k := by rw [← e0]; exact e
        rcases hnear with q | q
        · rw [q] at e'
          have := (hglt k e').2
          exact ⟨.inl (h8 k e').1, fun hk => by rcases hk with hk | hk; exact (h8 k e').2 hk; omega⟩
        · rw [q] at e'
          injection e' with e'
          have := hown.lt k (by rw [q, e'])
          exact ⟨.inr (by omega), fun hk => by rcases hk with hk | hk; (have := h.lt k (h.sub k hk); omega); omega⟩
      · rintro (hk | hk)
        · exact h.outF hk
        · omega
      · rintro k (hk | hk)
        · exact .inl (h.sub k hk)
        · exact .inr (by omega)
      · rintro k (hk | hk)
        · have := h.lt k hk; omega
        · exact hk.2
      · refine ⟨by simp; omega, fun x hx => ?_⟩
        rcases List.mem_append.1 hx with hx | hx
        · exact h.lim.2.2 x hx
        · simp at hx; subst hx; exact hok
    · rcases e with e | e
      · exact (h8 k e.symm).1
      · rw [e]; exact h.inP
    · rcases hk with hk | hk
      · exact .inl hk
      · exact .inr hk.1
  · obtain ⟨us', q1, _⟩ := hown
    exact row_block_apart q1 hb2 (by decide) e
  · rcases hk with hk | hk
    · exact h.outF (e ▸ hk)
    · omega
theorem Tr.end_begin (t : Tr) (c : Ch) : Tr.end_ { t.begin_ with group := t.group ++ [c] } = Tr.end_ { t with group := t.group ++ [c] } := by
  unfold Tr.end_ Tr.begin_
  rfl
end Go.Proofs.Ytalhiedbhcklgaa.U
