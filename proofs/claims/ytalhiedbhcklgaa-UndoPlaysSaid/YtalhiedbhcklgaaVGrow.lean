/-
  A group becomes a node: what grow's appends and stores leave of the tree.
-/
import Derived.Test.YtalhiedbhcklgaaVTm
namespace Go.Proofs.Ytalhiedbhcklgaa.U
open Go.RowKit
set_option linter.unusedVariables false
set_option linter.unusedSimpArgs false
set_option maxRecDepth 100000

/-- behind a call on the tree -/
def TreeA (P : Nat → Prop) (w : World) (bt : Nat) (t : Tr) (w' : World) : Prop :=
  ∃ P' F' : Nat → Prop, TreeC P' F' w' bt t ∧ Fr P w w' ∧ ∀ k, P' k → P k ∨ w.heap.size ≤ k
theorem TreeA.drew {P : Nat → Prop} {w w' : World} {bt : Nat} {t : Tr} (h : TreeA P w bt t w') : TreeA P w bt t w'.drew := by
  obtain ⟨P', F', h1, h2, h3⟩ := h
  exact ⟨P', F', h1.below (Below.refl _ _).drew, h2.drew, h3⟩
theorem TreeA.from_ {P : Nat → Prop} {w w0 w' : World} {bt : Nat} {t : Tr} (h : TreeA P w0 bt t w') (hb : Below w.heap.size w w0) : TreeA P w bt t w' := by
  obtain ⟨P', F', h1, h2, h3⟩ := h
  exact ⟨P', F', h1, (Fr.of_below P hb).trans h2 (fun _ _ h => h), fun k hk => by have := hb.size; rcases h3 k hk with h | h; exact .inl h; exact .inr (by omega)⟩
theorem TreeA.trans {P : Nat → Prop} {w w0 w' : World} {bt : Nat} {t : Tr} (hf : Fr P w w0) (h : TreeA P w0 bt t w') : TreeA P w bt t w' := by
  obtain ⟨P', F', h1, h2, h3⟩ := h
  exact ⟨P', F', h1, hf.trans h2 (fun _ _ h => h), fun k hk => by have := hf.size; rcases h3 k hk with h | h; exact .inl h; exact .inr (by omega)⟩
theorem TreeA.self {P F : Nat → Prop} {w : World} {bt : Nat} {t : Tr} (h : TreeC P F w bt t) : TreeA P w bt t w := ⟨P, F, h, Fr.refl _ _, fun k hk => .inl hk⟩

def Tr.grown (t : Tr) (cs : List Ch) : Tr := ⟨t.nodes ++ [(t.here, cs)], t.nodes.length + 1, false, []⟩
theorem Tr.grown_ok {t : Tr} (h : t.Ok) {cs : List Ch} (hne : cs ≠ []) (hf : t.nodes.length < 4096) : (t.grown cs).Ok := by
  refine ⟨by simp [Tr.grown]; omega, by simp [Tr.grown], fun i p hp => ?_⟩
  simp only [Tr.grown] at hp
  by_cases hi : i < t.nodes.length
  · rw [List.getElem?_append_left hi] at hp; exact h.2.2 i p hp
  · rw [List.getElem?_append_right (by omega)] at hp
    have hi0 : i - t.nodes.length = 0 := by
      have := (List.getElem?_eq_some_iff.1 hp).1
      simp at this; omega
    rw [hi0] at hp
    simp at hp
    subst hp
    exact ⟨by have := h.2.1; simp only; omega, hne⟩

theorem grow_mem {P F : Nat → Prop} {w : World} {bt : Nat} {t : Tr} (h : TreeC P F w bt t) (hop : t.isOpen = false) (hgr : t.group = []) {ga : Option Addr} {n gc : Nat} {cs : List Ch} (hr : RdCs F w ga n gc cs) (hne : cs ≠ []) (hok : OkG cs) (hfull : t.nodes.length < 4096) :
    ∃ g nc g' c' w1, w.cell? ⟨bt, 0, none⟩ = some (.slice (some ⟨g, 0, none⟩) (t.nodes.length + 1) nc) ∧ w.cell? ⟨bt, 1, none⟩ = some (.int .i64 (t.here : Nat)) ∧ bt < w.heap.size ∧
      (∀ ty, (Builtin.append_ #[71, 71] ty #[.slice (some ⟨g, 0, none⟩) (t.nodes.length + 1) nc, .slice (some ⟨w.heap.size, 0, none⟩) 1 1]).run Try.prog (w.alloc (.cells #[.slice ga n gc, .int .i64 (t.here : Nat), .int .i64 0] 79)) = .ok (.slice (some ⟨g', 0, none⟩) (t.nodes.length + 2) c') w1) ∧
      (∃ u, w1.cell? ⟨bt, 0, none⟩ = some u) ∧ w1.frozen? ⟨bt, 0, none⟩ = false ∧ bt < w1.heap.size ∧
      ∀ w2, w1.setCell ⟨bt, 0, none⟩ (.slice (some ⟨g', 0, none⟩) (t.nodes.length + 2) c') = w2 →
        w2.cell? ⟨bt, 0, none⟩ = some (.slice (some ⟨g', 0, none⟩) (t.nodes.length + 2) c') ∧ w2.cell? ⟨bt, 1, none⟩ = some (.int .i64 (t.here : Nat)) ∧ bt < w2.heap.size ∧ (∃ u, w2.cell? ⟨g', t.here * 3 + 2, none⟩ = some u) ∧ w2.frozen? ⟨g', t.here * 3 + 2, none⟩ = false ∧ g' < w2.heap.size ∧
        ∀ w3, w2.setCell ⟨g', t.here * 3 + 2, none⟩ (.int .i64 ((t.nodes.length + 1 : Nat) : Int)) = w3 →
          w3.cell? ⟨bt, 0, none⟩ = some (.slice (some ⟨g', 0, none⟩) (t.nodes.length + 2) c') ∧ w3.cell? ⟨bt, 1, none⟩ = some (.int .i64 (t.here : Nat)) ∧ w3.frozen? ⟨bt, 1, none⟩ = false ∧ bt < w3.heap.size ∧
          TreeA P w bt (t.grown cs) (w3.setCell ⟨bt, 1, none⟩ (.int .i64 ((t.nodes.length + 1 : Nat) : Int))) := by
  obtain ⟨na, ga0, nc, gc0, us, h1, h2, h3, h4, h5, h6, h7, h8⟩ := h.ex
  have hcl := hr.len
  have hle := h.ok.2.1
  obtain ⟨g, rfl⟩ := own_some h2 (by omega)
  obtain ⟨i0, hi0, hz0, hz1, hz2⟩ := info_parts infoNd
  obtain ⟨wa, hwa⟩ : ∃ wa, w.alloc (.cells #[.slice ga n gc, .int .i64 (t.here : Nat), .int .i64 0] 79) = wa := ⟨_, rfl⟩
  have hba : Below w.heap.size w wa := by rw [← hwa]; exact (Below.refl _ _).alloc (Nat.le_refl _) _
  have hga : wa.heap[w.heap.size]? = some (.cells #[.slice ga n gc, .int .i64 (t.here : Nat), .int .i64 0] 79 (0, 0)) := by rw [← hwa]; exact heap_alloc_new w _
  have hsa : wa.heap.size = w.heap.size + 1 := by rw [← hwa]; simp
  have h2a := own_fr h2 (Fr.of_below (fun _ => False) hba) (fun _ _ h => h)
  obtain ⟨v', w1, hrun, hown, hfr, hnear⟩ := run_append_own_k (P := Try.prog) wa 0 71 79 i0 _ 3 40 Try.underlying71 hi0 hz0 hz1 hz2 rfl (by decide) (.slice (some ⟨g, 0, none⟩) (t.nodes.length + 1) nc) (t.nodes.length + 1) (trip us) h2a (some ⟨w.heap.size, 0, none⟩) 1 1 [.slice ga n gc, .int .i64 (t.here : Nat), .int .i64 0] rfl
    (fun _ => ⟨_, rfl, fun j y hy => by rw [add_lit, cell_row hga, Nat.zero_add]; simpa using hy⟩) (by intro u hu; simp only [List.mem_cons, List.not_mem_nil, or_false] at hu; rcases hu with rfl | rfl | rfl <;> rfl) (by unfold maxLen; omega) (by omega) (by omega)
  obtain ⟨a', c', rfl⟩ := own_slice hown
  obtain ⟨g', rfl⟩ := own_some hown (by omega)
  have hgg : g' = g ∨ g' = w.heap.size + 1 := by
    rcases hnear with e | e
    · left; simpa [Value.ownBlock] using e
    · right; rw [← hsa]; simpa [Value.ownBlock] using e
  obtain ⟨nt, hnt⟩ : ∃ nt : Tri, (.slice ga n gc, .int .i64 (t.here : Nat), .int .i64 0) = nt := ⟨_, rfl⟩
  have hrow1 : w1.ownsRow 0 79 3 (.slice (some ⟨g', 0, none⟩) (t.nodes.length + 2) c') (t.nodes.length + 2) (trip (us ++ [nt])) := by
    rw [trip_snoc, ← hnt]
    exact hown
  have hgP := h7 g rfl
  have hf1 : Fr (fun k => some k = (Value.slice (some ⟨g, 0, none⟩) (t.nodes.length + 1) nc).ownBlock) w w1 := (Fr.of_below _ hba).trans hfr (fun _ _ h => h)
  have hf1P : Fr P w w1 := hf1.mono (fun k _ e => by cases e; exact hgP.1)
  have hsz1 := hfr.size
  have hbtg : bt ≠ g := fun e => row_block_apart h2 h1 (by decide) (k := g) rfl e.symm
  have hbt1 : w1.heap[bt]? = w.heap[bt]? := hf1.block bt (heap_lt h1) (fun e => hbtg (by cases e; rfl))
  have hb1 := hbt1.trans h1
  have hbtg' : bt ≠ g' := by rcases hgg with e | e; (· omega); (· have := heap_lt h1; omega)
  refine ⟨g, nc, g', c', w1, cell_row h1 0, cell_row h1 1, heap_lt h1, by rw [hwa]; exact hrun, ⟨_, cell_row hb1 0⟩, frozen_row hb1 0, heap_lt hb1, ?_⟩
  intro w2 hw2
  have hb2 : w2.heap[bt]? = some (.cells #[.slice (some ⟨g', 0, none⟩) (t.nodes.length + 2) c', .int .i64 (t.here : Nat), .bool t.isOpen, .slice ga0 t.group.length gc0] 73 (0, 0)) := by rw [← hw2]; exact heap_set hb1 0 _
  have hf2 : Fr (fun k => k = bt) w1 w2 := by rw [← hw2]; exact (Fr.refl _ w1).setCell ⟨bt, 0, none⟩ _ (fun _ => rfl)
  have hrow2 := own_fr hrow1 hf2 (fun k e e2 => hbtg' ((by simpa [Value.ownBlock] using e : g' = k).trans e2).symm)
  have husl : (us ++ [nt]).length = t.nodes.length + 2 := by simp [h3]
  obtain ⟨x, hx⟩ : ∃ x, (us ++ [nt])[t.here]? = some x := ⟨_, List.getElem?_eq_getElem (by omega)⟩
  have hc2 := own_cell hrow2 (trip_at2 hx)
  refine ⟨cell_row hb2 0, cell_row hb2 1, heap_lt hb2, ⟨_, hc2.1⟩, hc2.2.1, hc2.2.2, ?_⟩
  intro w3 hw3
  have hf3 : Fr (fun k => k = g') w2 w3 := by rw [← hw3]; exact (Fr.refl _ w2).setCell ⟨g', t.here * 3 + 2, none⟩ _ (fun _ => rfl)
  have hb3 : w3.heap[bt]? = some (.cells #[.slice (some ⟨g', 0, none⟩) (t.nodes.length + 2) c', .int .i64 (t.here : Nat), .bool t.isOpen, .slice ga0 t.group.length gc0] 73 (0, 0)) := (hf3.block bt (heap_lt hb2) (fun e => hbtg' e)).trans hb2
  have hrow3 : w3.ownsRow 0 79 3 (.slice (some ⟨g', 0, none⟩) (t.nodes.length + 2) c') (t.nodes.length + 2) (trip ((us ++ [nt]).set t.here (x.1, x.2.1, .int .i64 ((t.nodes.length + 1 : Nat) : Int)))) := by
    rw [← trip_set2 _ _ _ _ hx, ← hw3]
    exact own_set hrow2 (by omega) _
  refine ⟨cell_row hb3 0, cell_row hb3 1, frozen_row hb3 1, heap_lt hb3, ?_⟩
  obtain ⟨w4, hw4⟩ : ∃ w4, w3.setCell ⟨bt, 1, none⟩ (.int .i64 ((t.nodes.length + 1 : Nat) : Int)) = w4 := ⟨_, rfl⟩
  rw [hw4]
  have hf4 : Fr (fun k => k = bt) w3 w4 := by rw [← hw4]; exact (Fr.refl _ w3).setCell ⟨bt, 1, none⟩ _ (fun _ => rfl)
  have hb4 : w4.heap[bt]? = some (.cells #[.slice (some ⟨g', 0, none⟩) (t.nodes.length + 2) c', .int .i64 ((t.nodes.length + 1 : Nat) : Int), .bool t.isOpen, .slice ga0 t.group.length gc0] 73 (0, 0)) := by rw [← hw4]; exact heap_set hb3 1 _
  have hrow4 := own_fr hrow3 hf4 (fun k e => row_block_apart hrow3 hb3 (by decide) e)
  have hs2 := hf2.size
  have hs3 := hf3.size
  have hs4 := hf4.size
  -- the frame of all
  have hFr : Fr (fun k => P k ∨ k = g') w w4 := by
    have e1 : Fr (fun k => P k ∨ k = g') w w1 := hf1P.mono (fun k _ hk => Or.inl hk)
    have e2 : Fr (fun k => P k ∨ k = g') w1 w2 := hf2.mono (fun k _ e => Or.inl (by rw [e]; exact h.inP))
    have e3 : Fr (fun k => P k ∨ k = g') w2 w3 := hf3.mono (fun k _ e => Or.inr e)
    have e4 : Fr (fun k => P k ∨ k = g') w3 w4 := hf4.mono (fun k _ e => Or.inl (by rw [e]; exact h.inP))
    exact ((e1.trans e2 (fun _ _ h => h)).trans e3 (fun _ _ h => h)).trans e4 (fun _ _ h => h)
  have hFrP : Fr P w w4 := hFr.mono (fun k hk hp => by
    rcases hp with hp | hp
    · exact hp
    · rcases hgg with e | e
      · rw [hp, e]; exact hgP.1
      · omega)
  have hFg' : ¬ F g' := by
    rcases hgg with e | e
    · rw [e]; exact hgP.2
    · intro hk; have := h.lt _ (h.sub _ hk); omega
  have hFapart : ∀ k, F k → ¬ (k = g ∨ k = g' ∨ k = bt) := by
    rintro k hk (e | e | e)
    · rw [e] at hk; exact hgP.2 hk
    · rw [e] at hk; exact hFg' hk
    · rw [e] at hk; exact h.outF hk
  have hFrF : Fr (fun k => k = g ∨ k = g' ∨ k = bt) w w4 := by
    have e1 : Fr (fun k => k = g ∨ k = g' ∨ k = bt) w w1 := hf1.mono (fun k _ e => .inl (by cases e; rfl))
    have e2 : Fr (fun k => k = g ∨ k = g' ∨ k = bt) w1 w2 := hf2.mono (fun k _ e => .inr (.inr e))
    have e3 : Fr (fun k => k = g ∨ k = g' ∨ k = bt) w2 w3 := hf3.mono (fun k _ e => .inr (.inl e))
    have e4 : Fr (fun k => k = g ∨ k = g' ∨ k = bt) w3 w4 := hf4.mono (fun k _ e => .inr (.inr e))
    exact ((e1.trans e2 (fun _ _ h => h)).trans e3 (fun _ _ h => h)).trans e4 (fun _ _ h => h)
  have hx1 : ∀ i p, t.nodes[i]? = some p → ∃ a c, ((us ++ [nt]).set t.here (x.1, x.2.1, .int .i64 ((t.nodes.length + 1 : Nat) : Int)))[i + 1]? = some (.slice a p.2.length c, .int .i64 (p.1 : Nat), .int .i64 ((t.grown cs).lst (i + 1) : Nat)) ∧ RdCs F w4 a p.2.length c p.2 := by
    intro i p hp
    have hi := (List.getElem?_eq_some_iff.1 hp).1
    obtain ⟨a, c, e1, e2⟩ := h5 i p hp
    have e1' : (us ++ [nt])[i + 1]? = some (.slice a p.2.length c, .int .i64 (p.1 : Nat), .int .i64 (t.lst (i + 1) : Nat)) := by rw [List.getElem?_append_left (by omega)]; exact e1
    refine ⟨a, c, ?_, e2.frF hFrF hFapart⟩
    have hl := Tr.lst_app t (t.here, cs) (t.nodes.length + 1) false [] (i + 1)
    unfold Tr.grown
    rw [hl]
    by_cases he : t.here = i + 1
    · rw [if_pos he, he, List.getElem?_set_self (by omega)]
      rw [he, e1'] at hx
      injection hx with hx
      rw [← hx]
    · rw [if_neg he, List.getElem?_set_ne (by omega)]
      exact e1'
  refine ⟨fun k => P k ∨ k = g', F, ?_, hFrP, fun k hk => ?_⟩
  · refine { ex := ⟨some ⟨g', 0, none⟩, ga0, c', gc0, (us ++ [nt]).set t.here (x.1, x.2.1, .int .i64 ((t.nodes.length + 1 : Nat) : Int)), ?_, ?_, ?_, ?_, ?_, ?_, ?_, ?_⟩, inP := .inl h.inP, outF := h.outF, sub := fun k hk => .inl (h.sub k hk), lt := ?_, ok := Tr.grown_ok h.ok hne hfull, lim := ⟨?_, by simp [Tr.grown, OkG]⟩ }
    · rw [hb4]
      simp [Tr.grown, hop, hgr]
    · have e : (t.grown cs).nodes.length + 1 = t.nodes.length + 2 := by simp [Tr.grown]
      rw [e]
      exact hrow4
    · simp [Tr.grown, h3]
    · have hl := Tr.lst_app t (t.here, cs) (t.nodes.length + 1) false [] 0
      unfold Tr.grown
      rw [hl]
      have h40 : (us ++ [nt])[0]? = some (.slice none 0 0, .int .i64 0, .int .i64 (t.lst 0 : Nat)) := by rw [List.getElem?_append_left (by omega)]; exact h4
      by_cases he : t.here = 0
      · rw [if_pos he, he, List.getElem?_set_self (by omega)]
        rw [he, h40] at hx
        injection hx with hx
        rw [← hx]
      · rw [if_neg he, List.getElem?_set_ne (by omega)]
        exact h40
    · intro i p hp
      simp only [Tr.grown] at hp
      by_cases hi : i < t.nodes.length
      · rw [List.getElem?_append_left hi] at hp
        exact hx1 i p hp
      · rw [List.getElem?_append_right (by omega)] at hp
        have hi0 : i = t.nodes.length := by
          have := (List.getElem?_eq_some_iff.1 hp).1
          simp at this; omega
        subst hi0
        simp at hp
        subst hp
        have hl := Tr.lst_app t (t.here, cs) (t.nodes.length + 1) false [] (t.nodes.length + 1)
        refine ⟨ga, gc, ?_, ?_⟩
        · unfold Tr.grown
          rw [hl, if_neg (by simp only; omega), Tr.lst_top h.ok (by omega), List.getElem?_set_ne (by omega), List.getElem?_append_right (by omega), h3, Nat.sub_self, ← hnt, ← hcl]
          rfl
        · have := hr.frF hFrF hFapart
          rw [← hcl] at this
          exact this
    · have h6' : OwnCs 0 F w4 (.slice ga0 t.group.length gc0) t.group := by
        refine h6.fr hFrF (fun k e => ?_) hFapart
        obtain ⟨cur, hcur⟩ := h6.type e
        rintro (e1 | e1 | e1)
        · rw [e1] at hcur
          obtain ⟨c2, hc2⟩ := own_heap h2 (k := g) rfl
          rw [hc2] at hcur
          simp at hcur
        · rcases hgg with e2 | e2
          · rw [e1, e2] at hcur
            obtain ⟨c2, hc2⟩ := own_heap h2 (k := g) rfl
            rw [hc2] at hcur
            simp at hcur
          · have := heap_lt hcur; omega
        · rw [e1, h1] at hcur
          simp at hcur
      have e : (t.grown cs).group = t.group := by simp [Tr.grown, hgr]
      rw [e]
      exact h6'
    · intro k e
      have e2 : g' = k := by simpa [Value.ownBlock] using e
      rw [← e2]
      exact ⟨.inr rfl, hFg'⟩
    · intro k e
      have e2 : (t.grown cs).group.length = t.group.length := by simp [Tr.grown, hgr]
      rw [e2] at e
      exact ⟨.inl (h8 k e).1, (h8 k e).2⟩
    · rintro k (hk | hk)
      · have := h.lt k hk; omega
      · have := (hrow4.lt g' rfl).2; omega
    · intro p hp
      simp only [Tr.grown] at hp
      rcases List.mem_append.1 hp with hp | hp
      · exact h.lim.1 p hp
      · simp at hp; subst hp; exact hok
  · rcases hk with hk | hk
    · exact .inl hk
    · rcases hgg with e | e
      · rw [hk, e]; exact .inl hgP.1
      · exact .inr (by omega)
end Go.Proofs.Ytalhiedbhcklgaa.U
