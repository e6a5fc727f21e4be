/-
  The document's tree in memory.
-/
import Derived.Test.YtalhiedbhcklgaaVGrow
namespace Go.Proofs.Ytalhiedbhcklgaa.U
open Go.RowKit
set_option linter.unusedVariables false
set_option linter.unusedSimpArgs false
set_option maxRecDepth 100000

theorem infoRN : (Try.prog.info? 76).map (fun i => (i.zero, i.size, i.bytes)) = some (some (.agg #[.int .i64 0, .slice none 0 0]), 2, 32) := by kernel_rfl
abbrev Two := Value × Value
def twoL (u : Two) : List Value := [u.1, u.2]
def twos (us : List Two) : List Value := us.flatMap twoL
theorem twos_cons (u : Two) (us : List Two) : twos (u :: us) = twoL u ++ twos us := by simp [twos]
theorem twos_snoc (us : List Two) (u : Two) : twos (us ++ [u]) = twos us ++ twoL u := by simp [twos]
theorem twos_len (us : List Two) : (twos us).length = us.length * 2 := by
  induction us with
  | nil => rfl
  | cons u r ih => rw [twos_cons, List.length_append, ih]; simp [twoL]; omega
theorem twos_at : ∀ (us : List Two) (i j : Nat) (u : Two), us[i]? = some u → j < 2 → (twos us)[i * 2 + j]? = (twoL u)[j]?
  | y :: r, 0, j, u, h, hj => by
    simp at h
    subst h
    rw [twos_cons, Nat.zero_mul, Nat.zero_add, List.getElem?_append_left (by simp [twoL]; omega)]
  | y :: r, i + 1, j, u, h, hj => by
    rw [twos_cons, List.getElem?_append_right (by simp [twoL]; omega)]
    have e2 : (i + 1) * 2 + j - (twoL y).length = i * 2 + j := by simp [twoL]; omega
    rw [e2]
    exact twos_at r i j u (by simpa using h) hj
theorem twos_at0 {us : List Two} {i : Nat} {u : Two} (h : us[i]? = some u) : (twos us)[i * 2]? = some u.1 := by simpa [twoL] using twos_at us i 0 u h (by omega)
theorem twos_at1 {us : List Two} {i : Nat} {u : Two} (h : us[i]? = some u) : (twos us)[i * 2 + 1]? = some u.2 := by simpa [twoL] using twos_at us i 1 u h (by omega)

/-- the document's tree in block bx; all its blocks are in P; what it only reads lies in F -/
structure TreeR (P F : Nat → Prop) (w : World) (bx : Nat) (t : Tr) : Prop where
  ex : ∃ (na ga : Option Addr) (nc gc : Nat) (us : List Two),
    w.heap[bx]? = some (.cells #[.slice na t.nodes.length nc, .int .i64 (t.here : Nat), .bool t.isOpen, .slice ga t.group.length gc] 43 (0, 0)) ∧
    w.ownsRow 0 76 2 (.slice na t.nodes.length nc) t.nodes.length (twos us) ∧ us.length = t.nodes.length ∧
    (∀ (i : Nat) (p : Nat × List Ch), t.nodes[i]? = some p → ∃ a c, us[i]? = some (.int .i64 (p.1 : Nat), .slice a p.2.length c) ∧ RdCs F w a p.2.length c p.2) ∧
    OwnCs 0 F w (.slice ga t.group.length gc) t.group ∧
    (∀ k, (Value.slice na t.nodes.length nc).ownBlock = some k → P k ∧ ¬ F k) ∧ (∀ k, (Value.slice ga t.group.length gc).ownBlock = some k → P k ∧ ¬ F k)
  inP : P bx
  outF : ¬ F bx
  sub : ∀ k, F k → P k
  lt : ∀ k, P k → k < w.heap.size
def RTreeA (P : Nat → Prop) (w : World) (bx : Nat) (t : Tr) (w' : World) : Prop :=
  ∃ P' F' : Nat → Prop, TreeR P' F' w' bx t ∧ Fr P w w' ∧ ∀ k, P' k → P k ∨ w.heap.size ≤ k
section
variable {P F G : Nat → Prop} {w w' : World} {bx : Nat} {t : Tr}
theorem TreeR.fr (h : TreeR P F w bx t) (hf : Fr G w w') (hd : ∀ k, P k → ¬ G k) : TreeR P F w' bx t := by
  obtain ⟨na, ga, nc, gc, us, h1, h2, h3, h5, h6, h7, h8⟩ := h.ex
  refine { ex := ⟨na, ga, nc, gc, us, (hf.block bx (heap_lt h1) (hd _ h.inP)).trans h1, own_fr h2 hf (fun k e => hd k (h7 k e).1), h3, fun i p hp => ?_, h6.fr hf (fun k e => hd k (h8 k e).1) (fun k hk => hd k (h.sub k hk)), h7, h8⟩, inP := h.inP, outF := h.outF, sub := h.sub, lt := fun k hk => Nat.lt_of_lt_of_le (h.lt k hk) hf.size }
  obtain ⟨a, c, e1, e2⟩ := h5 i p hp
  exact ⟨a, c, e1, e2.frF hf (fun k hk => hd k (h.sub k hk))⟩
theorem TreeR.below (h : TreeR P F w bx t) (hb : Below w.heap.size w w') : TreeR P F w' bx t := h.fr (Fr.of_below (fun _ => False) hb) (fun _ _ h => h)
theorem RTreeA.from_ {w0 : World} (h : RTreeA P w0 bx t w') (hb : Below w.heap.size w w0) : RTreeA P w bx t w' := by
  obtain ⟨P', F', h1, h2, h3⟩ := h
  exact ⟨P', F', h1, (Fr.of_below P hb).trans h2 (fun _ _ h => h), fun k hk => (h3 k hk).elim .inl (fun h => .inr (by have := hb.size; omega))⟩
theorem RTreeA.trans {w0 : World} (hf : Fr P w w0) (h : RTreeA P w0 bx t w') : RTreeA P w bx t w' := by
  obtain ⟨P', F', h1, h2, h3⟩ := h
  exact ⟨P', F', h1, hf.trans h2 (fun _ _ h => h), fun k hk => (h3 k hk).elim .inl (fun h => .inr (by have := hf.size; omega))⟩
theorem RTreeA.self (h : TreeR P F w bx t) : RTreeA P w bx t w := ⟨P, F, h, Fr.refl _ _, fun k hk => .inl hk⟩
theorem RTreeA.comp {w1 w2 : World} {t2 : Tr} (h1 : RTreeA P w bx t w1) (h2 : ∀ (P' F' : Nat → Prop), TreeR P' F' w1 bx t → RTreeA P' w1 bx t2 w2) : RTreeA P w bx t2 w2 := by
  obtain ⟨P', F', a1, a2, a3⟩ := h1
  obtain ⟨P2, F2, b1, b2, b3⟩ := h2 P' F' a1
  have hs := a2.size
  refine ⟨P2, F2, b1, a2.trans b2 (fun k hk hp => ?_), fun k hk => ?_⟩
  · rcases a3 k hp with h | h
    · exact h
    · omega
  · rcases b3 k hk with h | h
    · exact a3 k h
    · exact .inr (by omega)
/-- the tree's four cells -/
theorem TreeR.cells (h : TreeR P F w bx t) : ∃ na nc ga gc, w.cell? ⟨bx, 0, none⟩ = some (.slice na t.nodes.length nc) ∧ w.cell? ⟨bx, 1, none⟩ = some (.int .i64 (t.here : Nat)) ∧ w.cell? ⟨bx, 2, none⟩ = some (.bool t.isOpen) ∧ w.cell? ⟨bx, 3, none⟩ = some (.slice ga t.group.length gc) ∧
    w.frozen? ⟨bx, 0, none⟩ = false ∧ w.frozen? ⟨bx, 1, none⟩ = false ∧ w.frozen? ⟨bx, 2, none⟩ = false ∧ w.frozen? ⟨bx, 3, none⟩ = false ∧ bx < w.heap.size := by
  obtain ⟨na, ga, nc, gc, us, h1, _⟩ := h.ex
  exact ⟨na, nc, ga, gc, cell_row h1 0, cell_row h1 1, cell_row h1 2, cell_row h1 3, frozen_row h1 0, frozen_row h1 1, frozen_row h1 2, frozen_row h1 3, heap_lt h1⟩
/-- a node, read in a later world -/
theorem TreeR.node {W : World} {i : Nat} (h : TreeR P F w bx t) (hb : Below w.heap.size w W) (h0 : i ≠ 0) (hi : i ≤ t.nodes.length) :
    ∃ g nc a c, W.cell? ⟨bx, 0, none⟩ = some (.slice (some ⟨g, 0, none⟩) t.nodes.length nc) ∧ g < w.heap.size ∧ W.cell? ⟨g, (i - 1) * 2, none⟩ = some (.int .i64 (t.up i : Nat)) ∧ W.cell? ⟨g, (i - 1) * 2 + 1, none⟩ = some (.slice a (t.chs i).length c) ∧ RdCs F W a (t.chs i).length c (t.chs i) := by
  obtain ⟨na, ga, nc, gc, us, h1, h2, h3, h5, h6, h7, h8⟩ := h.ex
  have hj : i - 1 < t.nodes.length := by omega
  have hp := List.getElem?_eq_getElem hj
  obtain ⟨a, c, e1, e2⟩ := h5 (i - 1) _ hp
  have e3 : t.up i = (t.nodes[i - 1]'hj).1 := by unfold Tr.up; rw [List.getD_eq_getElem?_getD, hp, Option.getD_some]
  have e4 : t.chs i = (t.nodes[i - 1]'hj).2 := by unfold Tr.chs; rw [List.getD_eq_getElem?_getD, hp, Option.getD_some]
  obtain ⟨g, rfl⟩ := own_some h2 (by omega)
  have q0 := own_cell h2 (twos_at0 e1)
  have q1 := own_cell h2 (twos_at1 e1)
  rw [e3, e4]
  have tr : ∀ j, W.cell? ⟨g, j, none⟩ = w.cell? ⟨g, j, none⟩ := fun j => hb.cell (p := ⟨g, j, none⟩) q0.2.2
  exact ⟨g, nc, a, c, (hb.cell (p := ⟨bx, 0, none⟩) (heap_lt h1)).trans (cell_row h1 0), q0.2.2, (tr _).trans q0.1, (tr _).trans q1.1, e2.below hb⟩
/-- a store into the tree's own block, by which its row of nodes and its group stay -/
theorem TreeR.setOpen (h : TreeR P F w bx t) (b : Bool) : TreeR P F (w.setCell ⟨bx, 2, none⟩ (.bool b)) bx { t with isOpen := b } := by
  obtain ⟨na, ga, nc, gc, us, h1, h2, h3, h5, h6, h7, h8⟩ := h.ex
  have hf : Fr (fun k => k = bx) w (w.setCell ⟨bx, 2, none⟩ (.bool b)) := (Fr.refl _ w).setCell ⟨bx, 2, none⟩ (.bool b) (fun _ => rfl)
  refine { ex := ⟨na, ga, nc, gc, us, heap_set h1 2 _, own_fr h2 hf (fun k e => row_block_apart h2 h1 (by decide) e), h3, fun i p hp => ?_, h6.fr hf (fun k e e2 => ?_) (fun k hk e => h.outF (e ▸ hk)), h7, h8⟩, inP := h.inP, outF := h.outF, sub := h.sub, lt := fun k hk => by have := h.lt k hk; simpa using this }
  · obtain ⟨a, c, e1, e2⟩ := h5 i p hp
    exact ⟨a, c, e1, e2.frF hf (fun k hk e => h.outF (e ▸ hk))⟩
  · obtain ⟨us', q1, _⟩ := h6
    exact row_block_apart q1 h1 (by decide) e e2
theorem TreeR.setHere (h : TreeR P F w bx t) (n : Nat) : TreeR P F (w.setCell ⟨bx, 1, none⟩ (.int .i64 (n : Nat))) bx { t with here := n } := by
  obtain ⟨na, ga, nc, gc, us, h1, h2, h3, h5, h6, h7, h8⟩ := h.ex
  have hf : Fr (fun k => k = bx) w (w.setCell ⟨bx, 1, none⟩ (.int .i64 (n : Nat))) := (Fr.refl _ w).setCell ⟨bx, 1, none⟩ (.int .i64 (n : Nat)) (fun _ => rfl)
  refine { ex := ⟨na, ga, nc, gc, us, heap_set h1 1 _, own_fr h2 hf (fun k e => row_block_apart h2 h1 (by decide) e), h3, fun i p hp => ?_, h6.fr hf (fun k e e2 => ?_) (fun k hk e => h.outF (e ▸ hk)), h7, h8⟩, inP := h.inP, outF := h.outF, sub := h.sub, lt := fun k hk => by have := h.lt k hk; simpa using this }
  · obtain ⟨a, c, e1, e2⟩ := h5 i p hp
    exact ⟨a, c, e1, e2.frF hf (fun k hk e => h.outF (e ▸ hk))⟩
  · obtain ⟨us', q1, _⟩ := h6
    exact row_block_apart q1 h1 (by decide) e e2
/-- no nodes -/
theorem TreeR.reset (h : TreeR P F w bx t) : TreeR P F (w.setCell ⟨bx, 0, none⟩ (.slice none 0 0)) bx { t with nodes := [] } := by
  obtain ⟨na, ga, nc, gc, us, h1, h2, h3, h5, h6, h7, h8⟩ := h.ex
  have hf : Fr (fun k => k = bx) w (w.setCell ⟨bx, 0, none⟩ (.slice none 0 0)) := (Fr.refl _ w).setCell ⟨bx, 0, none⟩ (.slice none 0 0) (fun _ => rfl)
  refine { ex := ⟨none, ga, 0, gc, [], heap_set h1 0 _, World.ownsRow_nil _ _ _ _, rfl, fun i p hp => by simp at hp, h6.fr hf (fun k e e2 => ?_) (fun k hk e => h.outF (e ▸ hk)), fun k e => (by cases e), h8⟩, inP := h.inP, outF := h.outF, sub := h.sub, lt := fun k hk => by have := h.lt k hk; simpa using this }
  obtain ⟨us', q1, _⟩ := h6
  exact row_block_apart q1 h1 (by decide) e e2
/-- the group, closed, is a node more -/
theorem rgrow_mem (h : TreeR P F w bx t) (hop : t.isOpen = false) (hfull : t.nodes.length < 1048576) :
    ∃ na nc ga gc g' c' w1, w.cell? ⟨bx, 0, none⟩ = some (.slice na t.nodes.length nc) ∧ w.cell? ⟨bx, 1, none⟩ = some (.int .i64 (t.here : Nat)) ∧ w.cell? ⟨bx, 3, none⟩ = some (.slice ga t.group.length gc) ∧ bx < w.heap.size ∧
      (∀ ty, (Builtin.append_ #[40, 40] ty #[.slice na t.nodes.length nc, .slice (some ⟨w.heap.size, 0, none⟩) 1 1]).run Try.prog (w.alloc (.cells #[.int .i64 (t.here : Nat), .slice ga t.group.length gc] 76)) = .ok (.slice (some ⟨g', 0, none⟩) (t.nodes.length + 1) c') w1) ∧
      (∃ u, w1.cell? ⟨bx, 0, none⟩ = some u) ∧ w1.frozen? ⟨bx, 0, none⟩ = false ∧ bx < w1.heap.size ∧
      ∀ w2, w1.setCell ⟨bx, 0, none⟩ (.slice (some ⟨g', 0, none⟩) (t.nodes.length + 1) c') = w2 →
        w2.cell? ⟨bx, 0, none⟩ = some (.slice (some ⟨g', 0, none⟩) (t.nodes.length + 1) c') ∧ (∃ u, w2.cell? ⟨bx, 1, none⟩ = some u) ∧ w2.frozen? ⟨bx, 1, none⟩ = false ∧ (∃ u, w2.cell? ⟨bx, 3, none⟩ = some u) ∧ w2.frozen? ⟨bx, 3, none⟩ = false ∧ bx < w2.heap.size ∧
        RTreeA P w bx ⟨t.nodes ++ [(t.here, t.group)], t.nodes.length + 1, false, []⟩ ((w2.setCell ⟨bx, 1, none⟩ (.int .i64 ((t.nodes.length + 1 : Nat) : Int))).setCell ⟨bx, 3, none⟩ (.slice none 0 0)) := by
  obtain ⟨na, ga, nc, gc, us, h1, h2, h3, h5, h6, h7, h8⟩ := h.ex
  obtain ⟨i0, hi0, hz0, hz1, hz2⟩ := info_parts infoRN
  obtain ⟨wa, hwa⟩ : ∃ wa, w.alloc (.cells #[.int .i64 (t.here : Nat), .slice ga t.group.length gc] 76) = wa := ⟨_, rfl⟩
  have hba : Below w.heap.size w wa := by rw [← hwa]; exact (Below.refl _ _).alloc (Nat.le_refl _) _
  have hga : wa.heap[w.heap.size]? = some (.cells #[.int .i64 (t.here : Nat), .slice ga t.group.length gc] 76 (0, 0)) := by rw [← hwa]; exact heap_alloc_new w _
  have hsa : wa.heap.size = w.heap.size + 1 := by rw [← hwa]; simp
  have h2a := own_fr h2 (Fr.of_below (fun _ => False) hba) (fun _ _ h => h)
  obtain ⟨v', w1, hrun, hown, hfr, hnear⟩ := run_append_own_k (P := Try.prog) wa 0 40 76 i0 _ 2 32 Try.underlying40 hi0 hz0 hz1 hz2 rfl (by decide) (.slice na t.nodes.length nc) t.nodes.length (twos us) h2a (some ⟨w.heap.size, 0, none⟩) 1 1 [.int .i64 (t.here : Nat), .slice ga t.group.length gc] rfl
    (fun _ => ⟨_, rfl, fun j y hy => by rw [add_lit, cell_row hga, Nat.zero_add]; simpa using hy⟩) (by intro u hu; simp only [List.mem_cons, List.not_mem_nil, or_false] at hu; rcases hu with rfl | rfl <;> rfl) (by unfold maxLen; omega) (by omega) (by omega)
  obtain ⟨a', c', rfl⟩ := own_slice hown
  obtain ⟨g', rfl⟩ := own_some hown (by omega)
  have hgg : (Value.slice na t.nodes.length nc).ownBlock = some g' ∨ g' = w.heap.size + 1 := by
    rcases hnear with e | e
    · left; rw [← e]; rfl
    · right; rw [← hsa]; simpa [Value.ownBlock] using e
  have hf1 : Fr (fun k => some k = (Value.slice na t.nodes.length nc).ownBlock) w w1 := (Fr.of_below _ hba).trans hfr (fun _ _ h => h)
  have hsz1 := hfr.size
  have hnoF : ∀ k, (Value.slice na t.nodes.length nc).ownBlock = some k → P k ∧ ¬ F k := h7
  have hbtg : ∀ k, (Value.slice na t.nodes.length nc).ownBlock = some k → k ≠ bx := fun k e => row_block_apart h2 h1 (by decide) e
  have hbt1 : w1.heap[bx]? = w.heap[bx]? := hf1.block bx (heap_lt h1) (fun e => hbtg bx e.symm rfl)
  have hb1 := hbt1.trans h1
  have hbtg' : g' ≠ bx := by rcases hgg with e | e; (· exact hbtg g' e); (· have := heap_lt h1; omega)
  refine ⟨na, nc, ga, gc, g', c', w1, cell_row h1 0, cell_row h1 1, cell_row h1 3, heap_lt h1, by rw [hwa]; exact hrun, ⟨_, cell_row hb1 0⟩, frozen_row hb1 0, heap_lt hb1, ?_⟩
  intro w2 hw2
  have hb2 : w2.heap[bx]? = some (.cells #[.slice (some ⟨g', 0, none⟩) (t.nodes.length + 1) c', .int .i64 (t.here : Nat), .bool t.isOpen, .slice ga t.group.length gc] 43 (0, 0)) := by rw [← hw2]; exact heap_set hb1 0 _
  refine ⟨cell_row hb2 0, ⟨_, cell_row hb2 1⟩, frozen_row hb2 1, ⟨_, cell_row hb2 3⟩, frozen_row hb2 3, heap_lt hb2, ?_⟩
  obtain ⟨w4, hw4⟩ : ∃ w4, (w2.setCell ⟨bx, 1, none⟩ (.int .i64 ((t.nodes.length + 1 : Nat) : Int))).setCell ⟨bx, 3, none⟩ (.slice none 0 0) = w4 := ⟨_, rfl⟩
  rw [hw4]
  have hb4 : w4.heap[bx]? = some (.cells #[.slice (some ⟨g', 0, none⟩) (t.nodes.length + 1) c', .int .i64 ((t.nodes.length + 1 : Nat) : Int), .bool t.isOpen, .slice none 0 0] 43 (0, 0)) := by
    rw [← hw4]
    exact heap_set (heap_set hb2 1 _) 3 _
  have hf4 : Fr (fun k => k = bx) w1 w4 := by
    rw [← hw4, ← hw2]
    exact (((Fr.refl (fun k => k = bx) w1).setCell ⟨bx, 0, none⟩ _ (fun _ => rfl)).setCell ⟨bx, 1, none⟩ _ (fun _ => rfl)).setCell ⟨bx, 3, none⟩ _ (fun _ => rfl)
  have hs4 := hf4.size
  have hrow4 := own_fr hown hf4 (fun k e e2 => hbtg' ((by simpa [Value.ownBlock] using e : g' = k).trans e2))
  have hgb : ∀ k, (Value.slice ga t.group.length gc).ownBlock = some k → k ≠ bx ∧ (Value.slice na t.nodes.length nc).ownBlock ≠ some k := fun k e => by
    obtain ⟨us', q1, _⟩ := h6
    exact ⟨row_block_apart q1 h1 (by decide) e, fun e2 => rows_apart h2 q1 (by decide) e2 e.symm⟩
  have hFrF : Fr (fun k => some k = (Value.slice na t.nodes.length nc).ownBlock ∨ k = bx) w w4 := (hf1.mono (fun k _ e => .inl e)).trans (hf4.mono (fun k _ e => .inr e)) (fun _ _ h => h)
  have hFr : Fr P w w4 := hFrF.mono (fun k _ hp => by rcases hp with hp | hp; exact (h7 k hp.symm).1; exact hp ▸ h.inP)
  have hFd : ∀ k, F k → ¬ (some k = (Value.slice na t.nodes.length nc).ownBlock ∨ k = bx) := fun k hk e => by
    rcases e with e | e
    · exact (h7 k e.symm).2 hk
    · exact h.outF (e ▸ hk)
  have hG := h6.fr hFrF (fun k e e2 => by rcases e2 with e2 | e2; exact (hgb k e).2 e2.symm; exact (hgb k e).1 e2) hFd
  have hGr := hG.rd (G := fun k => F k ∨ (Value.slice ga t.group.length gc).ownBlock = some k) (fun k e => .inr e) (fun k hk => .inl hk)
  refine ⟨fun k => P k ∨ k = g', fun k => F k ∨ (Value.slice ga t.group.length gc).ownBlock = some k, ?_, hFr, fun k hk => ?_⟩
  · refine { ex := ⟨some ⟨g', 0, none⟩, none, c', 0, us ++ [(.int .i64 (t.here : Nat), .slice ga t.group.length gc)], ?_, ?_, ?_, ?_, OwnCs.nil _ _ _, ?_, fun k e => (by cases e)⟩, inP := .inl h.inP, outF := ?_, sub := ?_, lt := ?_ }
    · rw [hb4]
      simp [hop]
    · rw [twos_snoc]
      simpa [twoL] using hrow4
    · simp [h3]
    · intro i p hp
      by_cases hi : i < t.nodes.length
      · rw [List.getElem?_append_left hi] at hp
        obtain ⟨a, c, e1, e2⟩ := h5 i p hp
        exact ⟨a, c, by rw [List.getElem?_append_left (by omega)]; exact e1, (e2.frF hFrF hFd).mono (fun k hk => .inl hk)⟩
      · have hil := (List.getElem?_eq_some_iff.1 hp).1
        simp only [List.length_append, List.length_cons, List.length_nil] at hil
        obtain rfl : i = t.nodes.length := by omega
        rw [List.getElem?_append_right (by omega), Nat.sub_self] at hp
        simp at hp
        subst hp
        exact ⟨ga, gc, by rw [List.getElem?_append_right (by omega), h3, Nat.sub_self]; rfl, hGr⟩
    · intro k e
      have e2 : g' = k := by simpa [Value.ownBlock] using e
      subst e2
      refine ⟨.inr rfl, fun hk => ?_⟩
      rcases hk with hk | hk
      · rcases hgg with e3 | e3
        · exact (h7 _ e3).2 hk
        · have := h.lt _ (h.sub _ hk); omega
      · rcases hgg with e3 | e3
        · exact (hgb _ hk).2 e3
        · have := h.lt _ (h8 _ hk).1; omega
    · rintro (hk | hk)
      · exact h.outF hk
      · exact (hgb _ hk).1 rfl
    · rintro k (hk | hk)
      · exact .inl (h.sub k hk)
      · exact .inl (h8 k hk).1
    · rintro k (hk | hk)
      · have := h.lt k hk; omega
      · have := (hrow4.lt g' rfl).2; omega
  · rcases hk with hk | hk
    · exact .inl hk
    · rcases hgg with e | e
      · rw [hk]; exact .inl (h7 _ e).1
      · exact .inr (by omega)
end
end Go.Proofs.Ytalhiedbhcklgaa.U
