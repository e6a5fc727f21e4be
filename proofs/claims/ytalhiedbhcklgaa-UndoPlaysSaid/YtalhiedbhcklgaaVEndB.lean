/-
  A tree that is full is forgotten; the contracts of grow, End.
-/
import Derived.Test.YtalhiedbhcklgaaVEnd
namespace Go.Proofs.Ytalhiedbhcklgaa.U
open Go.RowKit
set_option linter.unusedVariables false
set_option linter.unusedSimpArgs false
set_option maxRecDepth 100000

def Tr.growN (t : Tr) (cs : List Ch) : Tr := if t.nodes.length = 4096 then Tr.grown ⟨[], 0, false, []⟩ cs else t.grown cs
theorem Tr.end_grow (t : Tr) : t.end_ = if t.group = [] then { t with isOpen := false } else Tr.growN { t with isOpen := false, group := [] } t.group := by
  unfold Tr.end_ Tr.growN Tr.grown
  split
  · rfl
  · split <;> rfl
theorem makeNd (w : World) : (Instr.makeSlice 71 (.int .i64 1) (.int .i64 1)).run Try.prog w = .ok (.slice (some ⟨w.heap.size, 0, none⟩) 1 1) (w.alloc (.cells #[.slice none 0 0, .int .i64 0, .int .i64 0] 79)) := by
  obtain ⟨i, hi, hz0, hz1, hz2⟩ := info_parts infoNd
  have hr := run_make (P := Try.prog) w 71 79 i _ Try.underlying71 hi hz0 .i64 .i64 1 1 (by omega) (Int.le_refl _) (by rw [hz2]; omega) (by omega)
  have e : madeCells (Value.agg #[.slice none 0 0, .int .i64 0, .int .i64 0]).cells ((1 : Int).toNat * i.size) = #[.slice none 0 0, .int .i64 0, .int .i64 0] := by
    rw [hz1]
    show madeCells #[.slice none 0 0, .int .i64 0, .int .i64 0] 3 = _
    unfold madeCells
    rw [show Array.range 3 = #[0, 1, 2] from rfl]
    simp
  rw [e] at hr
  exact hr
/-- a tree that is full is forgotten -/
theorem reset_mem {P F : Nat → Prop} {w : World} {bt : Nat} {t : Tr} (h : TreeC P F w bt t) (hop : t.isOpen = false) (hgr : t.group = []) :
    ∀ wf, ((w.setCell ⟨bt, 0, none⟩ (.slice (some ⟨w.heap.size, 0, none⟩) 1 1)).setCell ⟨bt, 1, none⟩ (.int .i64 0)).alloc (.cells #[.slice none 0 0, .int .i64 0, .int .i64 0] 79) = wf →
      TreeC (fun k => P k ∨ k = w.heap.size) F wf bt ⟨[], 0, false, []⟩ ∧ Fr (fun k => k = bt) w wf := by
  intro wf hwf
  obtain ⟨na, ga, nc, gc, us, h1, h2, h3, h4, h5, h6, h7, h8⟩ := h.ex
  have hlt := heap_lt h1
  obtain ⟨wa, hwa⟩ : ∃ wa, (w.setCell ⟨bt, 0, none⟩ (.slice (some ⟨w.heap.size, 0, none⟩) 1 1)).setCell ⟨bt, 1, none⟩ (.int .i64 0) = wa := ⟨_, rfl⟩
  rw [hwa] at hwf
  have hsa : wa.heap.size = w.heap.size := by rw [← hwa]; simp
  have f1 : Fr (fun k => k = bt) w wa := by
    rw [← hwa]
    exact ((Fr.refl (fun k => k = bt) w).setCell ⟨bt, 0, none⟩ _ (fun _ => rfl)).setCell ⟨bt, 1, none⟩ _ (fun _ => rfl)
  have f0 : Fr (fun k => k = bt) w wf := by rw [← hwf]; exact f1.alloc _
  have hb1 := heap_set (heap_set h1 0 (.slice (some ⟨w.heap.size, 0, none⟩) 1 1)) 1 (.int .i64 0)
  rw [hwa] at hb1
  have hb2 := (Below.heap_alloc wa (.cells #[.slice none 0 0, .int .i64 0, .int .i64 0] 79) bt (by omega)).trans hb1
  rw [hwf] at hb2
  have hgf : wf.heap[w.heap.size]? = some (.cells #[.slice none 0 0, .int .i64 0, .int .i64 0] 79 (0, 0)) := by rw [← hwf, ← hsa]; exact heap_alloc_new wa _
  have hown := own_of (B := 0) (n := 1) (cap := 1) (size := 3) hgf (Nat.zero_le _) (Nat.le_refl _) (by unfold maxLen; omega) rfl
  have hsf := f0.size
  have hgl := heap_lt hgf
  refine ⟨{ ex := ⟨some ⟨w.heap.size, 0, none⟩, ga, 1, gc, [(.slice none 0 0, .int .i64 0, .int .i64 0)], ?_, hown, rfl, rfl, fun i p hp => by simp at hp, ?_, ?_, ?_⟩, inP := .inl h.inP, outF := h.outF, sub := fun k hk => .inl (h.sub k hk), lt := ?_, ok := Tr.zero_ok, lim := ⟨by simp, by simp [OkG]⟩ }, f0⟩
  · rw [hb2]
    simp [hop, hgr]
  · have h6' := h6.fr f0 (fun k e e2 => ?_) (fun k hk e => h.outF (e ▸ hk))
    · rw [hgr] at h6'
      exact h6'
    · obtain ⟨us', q1, _⟩ := h6
      exact row_block_apart q1 h1 (by decide) e e2
  · intro k e
    have e2 : w.heap.size = k := by simpa [Value.ownBlock] using e
    exact ⟨.inr e2.symm, fun hk => by have := h.lt k (h.sub k hk); omega⟩
  · intro k e
    have e2 : (Value.slice ga t.group.length gc).ownBlock = some k := by rw [hgr]; exact e
    exact ⟨.inl (h8 k e2).1, (h8 k e2).2⟩
  · rintro k (hk | hk)
    · have := h.lt k hk; omega
    · omega
end Go.Proofs.Ytalhiedbhcklgaa.U
