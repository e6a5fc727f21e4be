/-
  The program's tree in memory.
-/
import Derived.Test.YtalhiedbhcklgaaVTurn
namespace Go.Proofs.Ytalhiedbhcklgaa.U
open Go.RowKit
set_option linter.unusedVariables false
set_option linter.unusedSimpArgs false
set_option maxRecDepth 100000

theorem infoNd : (Try.prog.info? 79).map (fun i => (i.zero, i.size, i.bytes)) = some (some (.agg #[.slice none 0 0, .int .i64 0, .int .i64 0]), 3, 40) := by kernel_rfl

theorem own_set {w : World} {B g n c s i : Nat} {e : TypeId} {xs : List Value} (h : w.ownsRow B e s (.slice (some ⟨g, 0, none⟩) n c) n xs) (hi : i < n * s) (v : Value) : (w.setCell ⟨g, i, none⟩ v).ownsRow B e s (.slice (some ⟨g, 0, none⟩) n c) n (xs.set i v) := by
  obtain ⟨h1, h2⟩ := h
  refine ⟨by simp [h1], ?_⟩
  rcases h2 with ⟨e0, _⟩ | ⟨g', cap, cur, ev, hB, hg, hn, hc, hs, ht⟩
  · cases e0
  · injection ev with ev1 ev2 ev3
    injection ev1 with ev1
    injection ev1 with ev1
    subst ev1 ev3
    refine .inr ⟨g, c, _, rfl, hB, heap_set hg i v, hn, hc, by simpa using hs, ?_⟩
    rw [Array.toList_setIfInBounds, List.take_set, ht]
theorem own_cell {w : World} {B g n c s i : Nat} {e : TypeId} {xs : List Value} {v : Value} (h : w.ownsRow B e s (.slice (some ⟨g, 0, none⟩) n c) n xs) (hv : xs[i]? = some v) : w.cell? ⟨g, i, none⟩ = some v ∧ w.frozen? ⟨g, i, none⟩ = false ∧ g < w.heap.size := by
  obtain ⟨h1, h2⟩ := h
  rcases h2 with ⟨e0, _⟩ | ⟨g', cap, cur, ev, hB, hg, hn, hc, hs, ht⟩
  · cases e0
  · injection ev with ev1 ev2 ev3
    injection ev1 with ev1
    injection ev1 with ev1
    subst ev1 ev3
    refine ⟨?_, frozen_row hg i, heap_lt hg⟩
    rw [cell_row hg, ← Array.getElem?_toList]
    rw [← ht, List.getElem?_take] at hv
    split at hv
    · exact hv
    · cases hv

theorem Tr.lst_same {t u : Tr} (h : t.nodes = u.nodes) (k : Nat) : t.lst k = u.lst k := by
  have key : ∀ i, t.lastAt k i = u.lastAt k i := by
    intro i
    induction i with
    | zero => rfl
    | succ i ih =>
      unfold Tr.lastAt Tr.up
      rw [ih, h]
  unfold Tr.lst
  rw [key, h]
/-- what the limits of a group are -/
def OkG (cs : List Ch) : Prop := cs.length ≤ 1048576 ∧ ∀ x ∈ cs, OkC x
def Tr.Lim (t : Tr) : Prop := (∀ p ∈ t.nodes, OkG p.2) ∧ OkG t.group

/-- the program's tree in block bt; all its blocks are in P; what it only reads lies in F -/
structure TreeC (P F : Nat → Prop) (w : World) (bt : Nat) (t : Tr) : Prop where
  ex : ∃ (na ga : Option Addr) (nc gc : Nat) (us : List Tri),
    w.heap[bt]? = some (.cells #[.slice na (t.nodes.length + 1) nc, .int .i64 (t.here : Nat), .bool t.isOpen, .slice ga t.group.length gc] 73 (0, 0)) ∧
    w.ownsRow 0 79 3 (.slice na (t.nodes.length + 1) nc) (t.nodes.length + 1) (trip us) ∧ us.length = t.nodes.length + 1 ∧
    us[0]? = some (.slice none 0 0, .int .i64 0, .int .i64 (t.lst 0 : Nat)) ∧
    (∀ (i : Nat) (p : Nat × List Ch), t.nodes[i]? = some p → ∃ a c, us[i + 1]? = some (.slice a p.2.length c, .int .i64 (p.1 : Nat), .int .i64 (t.lst (i + 1) : Nat)) ∧ RdCs F w a p.2.length c p.2) ∧
    OwnCs 0 F w (.slice ga t.group.length gc) t.group ∧
    (∀ k, (Value.slice na (t.nodes.length + 1) nc).ownBlock = some k → P k ∧ ¬ F k) ∧ (∀ k, (Value.slice ga t.group.length gc).ownBlock = some k → P k ∧ ¬ F k)
  inP : P bt
  outF : ¬ F bt
  sub : ∀ k, F k → P k
  lt : ∀ k, P k → k < w.heap.size
  ok : t.Ok
  lim : t.Lim

theorem OwnCs.type {B : Nat} {F : Nat → Prop} {w : World} {v : Value} {cs : List Ch} (h : OwnCs B F w v cs) {k : Nat} (hk : v.ownBlock = some k) : ∃ cur, w.heap[k]? = some (.cells cur 24 (0, 0)) := by
  obtain ⟨us, h1, _⟩ := h
  exact own_heap h1 hk

section
variable {P F G : Nat → Prop} {w w' : World} {bt : Nat} {t : Tr}
theorem TreeC.fr (h : TreeC P F w bt t) (hf : Fr G w w') (hd : ∀ k, P k → ¬ G k) : TreeC P F w' bt t := by
  obtain ⟨na, ga, nc, gc, us, h1, h2, h3, h4, h5, h6, h7, h8⟩ := h.ex
  refine { ex := ⟨na, ga, nc, gc, us, (hf.block bt (heap_lt h1) (hd _ h.inP)).trans h1, own_fr h2 hf (fun k e => hd k (h7 k e).1), h3, h4, fun i p hp => ?_, h6.fr hf (fun k e => hd k (h8 k e).1) (fun k hk => hd k (h.sub k hk)), h7, h8⟩, inP := h.inP, outF := h.outF, sub := h.sub, lt := fun k hk => Nat.lt_of_lt_of_le (h.lt k hk) hf.size, ok := h.ok, lim := h.lim }
  obtain ⟨a, c, e1, e2⟩ := h5 i p hp
  exact ⟨a, c, e1, e2.frF hf (fun k hk => hd k (h.sub k hk))⟩
theorem TreeC.below (h : TreeC P F w bt t) (hb : Below w.heap.size w w') : TreeC P F w' bt t := h.fr (Fr.of_below (fun _ => False) hb) (fun _ _ h => h)
theorem TreeC.wide {P' : Nat → Prop} (h : TreeC P F w bt t) (hp : ∀ k, P k → P' k) (hl : ∀ k, P' k → k < w.heap.size) : TreeC P' F w bt t := by
  obtain ⟨na, ga, nc, gc, us, h1, h2, h3, h4, h5, h6, h7, h8⟩ := h.ex
  exact { ex := ⟨na, ga, nc, gc, us, h1, h2, h3, h4, h5, h6, fun k e => ⟨hp k (h7 k e).1, (h7 k e).2⟩, fun k e => ⟨hp k (h8 k e).1, (h8 k e).2⟩⟩, inP := hp _ h.inP, outF := h.outF, sub := fun k hk => hp k (h.sub k hk), lt := hl, ok := h.ok, lim := h.lim }
/-- the tree's four cells -/
theorem TreeC.cells (h : TreeC P F w bt t) : ∃ na nc ga gc, w.cell? ⟨bt, 0, none⟩ = some (.slice na (t.nodes.length + 1) nc) ∧ w.cell? ⟨bt, 1, none⟩ = some (.int .i64 (t.here : Nat)) ∧ w.cell? ⟨bt, 2, none⟩ = some (.bool t.isOpen) ∧ w.cell? ⟨bt, 3, none⟩ = some (.slice ga t.group.length gc) ∧
    w.frozen? ⟨bt, 0, none⟩ = false ∧ w.frozen? ⟨bt, 1, none⟩ = false ∧ w.frozen? ⟨bt, 2, none⟩ = false ∧ w.frozen? ⟨bt, 3, none⟩ = false ∧ bt < w.heap.size := by
  obtain ⟨na, ga, nc, gc, us, h1, _⟩ := h.ex
  exact ⟨na, nc, ga, gc, cell_row h1 0, cell_row h1 1, cell_row h1 2, cell_row h1 3, frozen_row h1 0, frozen_row h1 1, frozen_row h1 2, frozen_row h1 3, heap_lt h1⟩
/-- a store into the tree's own block -/
theorem TreeC.setOpen (h : TreeC P F w bt t) (b : Bool) : TreeC P F (w.setCell ⟨bt, 2, none⟩ (.bool b)) bt { t with isOpen := b } := by
  obtain ⟨na, ga, nc, gc, us, h1, h2, h3, h4, h5, h6, h7, h8⟩ := h.ex
  have hf : Fr (fun k => k = bt) w (w.setCell ⟨bt, 2, none⟩ (.bool b)) := (Fr.refl _ w).setCell ⟨bt, 2, none⟩ (.bool b) (fun _ => rfl)
  refine { ex := ⟨na, ga, nc, gc, us, heap_set h1 2 _, own_fr h2 hf (fun k e => row_block_apart h2 h1 (by decide) e), h3, by rw [Tr.lst_same (t := { t with isOpen := b }) (u := t) rfl]; exact h4, fun i p hp => ?_, h6.fr hf (fun k e e2 => ?_) (fun k hk e => h.outF (e ▸ hk)), h7, h8⟩, inP := h.inP, outF := h.outF, sub := h.sub, lt := fun k hk => by have := h.lt k hk; simpa using this, ok := h.ok, lim := h.lim }
  · obtain ⟨a, c, e1, e2⟩ := h5 i p hp
    exact ⟨a, c, by rw [Tr.lst_same (t := { t with isOpen := b }) (u := t) rfl]; exact e1, e2.frF hf (fun k hk e => h.outF (e ▸ hk))⟩
  · obtain ⟨us', q1, _⟩ := h6
    exact row_block_apart q1 h1 (by decide) e e2
theorem TreeC.setHere (h : TreeC P F w bt t) (n : Nat) (hn : n ≤ t.nodes.length) : TreeC P F (w.setCell ⟨bt, 1, none⟩ (.int .i64 (n : Nat))) bt { t with here := n } := by
  obtain ⟨na, ga, nc, gc, us, h1, h2, h3, h4, h5, h6, h7, h8⟩ := h.ex
  have hf : Fr (fun k => k = bt) w (w.setCell ⟨bt, 1, none⟩ (.int .i64 (n : Nat))) := (Fr.refl _ w).setCell ⟨bt, 1, none⟩ (.int .i64 (n : Nat)) (fun _ => rfl)
  have hl : ∀ j i, Tr.lastAt { t with here := n } j i = t.lastAt j i := by
    intro j i
    induction i with
    | zero => rfl
    | succ i ih => unfold Tr.lastAt; rw [ih]; rfl
  have hl2 : ∀ j, Tr.lst { t with here := n } j = t.lst j := fun j => hl j _
  refine { ex := ⟨na, ga, nc, gc, us, heap_set h1 1 _, own_fr h2 hf (fun k e => row_block_apart h2 h1 (by decide) e), h3, by rw [hl2]; exact h4, fun i p hp => ?_, h6.fr hf (fun k e e2 => ?_) (fun k hk e => h.outF (e ▸ hk)), h7, h8⟩, inP := h.inP, outF := h.outF, sub := h.sub, lt := fun k hk => by have := h.lt k hk; simpa using this, ok := ⟨h.ok.1, hn, h.ok.2.2⟩, lim := h.lim }
  · obtain ⟨a, c, e1, e2⟩ := h5 i p hp
    exact ⟨a, c, by rw [hl2]; exact e1, e2.frF hf (fun k hk e => h.outF (e ▸ hk))⟩
  · obtain ⟨us', q1, _⟩ := h6
    exact row_block_apart q1 h1 (by decide) e e2
/-- the group is taken out -/
theorem TreeC.takeGroup (h : TreeC P F w bt t) (hg : t.isOpen = false) : ∃ ga gc F', w.cell? ⟨bt, 3, none⟩ = some (.slice ga t.group.length gc) ∧ TreeC P F' (w.setCell ⟨bt, 3, none⟩ (.slice none 0 0)) bt { t with group := [] } ∧ RdCs F' (w.setCell ⟨bt, 3, none⟩ (.slice none 0 0)) ga t.group.length gc t.group := by
  obtain ⟨na, ga, nc, gc, us, h1, h2, h3, h4, h5, h6, h7, h8⟩ := h.ex
  have hf : Fr (fun k => k = bt) w (w.setCell ⟨bt, 3, none⟩ (.slice none 0 0)) := (Fr.refl _ w).setCell ⟨bt, 3, none⟩ (.slice none 0 0) (fun _ => rfl)
  have hgb : ∀ k, (Value.slice ga t.group.length gc).ownBlock = some k → k ≠ bt := fun k e => by
    obtain ⟨us', q1, _⟩ := h6
    exact row_block_apart q1 h1 (by decide) e
  have h6' := h6.fr hf (fun k e e2 => hgb k e e2) (fun k hk e => h.outF (e ▸ hk))
  refine ⟨ga, gc, fun k => F k ∨ (Value.slice ga t.group.length gc).ownBlock = some k, cell_row h1 3, ?_, h6'.rd (fun k e => .inr e) (fun k hk => .inl hk)⟩
  refine { ex := ⟨na, none, nc, 0, us, heap_set h1 3 _, own_fr h2 hf (fun k e => row_block_apart h2 h1 (by decide) e), h3, by rw [Tr.lst_same (t := { t with group := [] }) (u := t) rfl]; exact h4, fun i p hp => ?_, OwnCs.nil _ _ _, fun k e => ⟨(h7 k e).1, fun hk => ?_⟩, fun k e => by cases e⟩, inP := h.inP, outF := fun hk => ?_, sub := fun k hk => ?_, lt := fun k hk => by have := h.lt k hk; simpa using this, ok := h.ok, lim := ⟨h.lim.1, by simp [OkG]⟩ }
  · obtain ⟨a, c, e1, e2⟩ := h5 i p hp
    exact ⟨a, c, by rw [Tr.lst_same (t := { t with group := [] }) (u := t) rfl]; exact e1, (e2.frF hf (fun k hk e => h.outF (e ▸ hk))).mono (fun k hk => .inl hk)⟩
  · rcases hk with hk | hk
    · exact (h7 k e).2 hk
    · obtain ⟨us', q1, _⟩ := h6
      exact rows_apart h2 q1 (by decide) e hk.symm
  · rcases hk with hk | hk
    · exact h.outF hk
    · exact hgb _ hk rfl
  · rcases hk with hk | hk
    · exact h.sub k hk
    · exact (h8 k hk).1
/-- a node, read in a later world -/
theorem TreeC.node {W : World} {i : Nat} (h : TreeC P F w bt t) (hb : Below w.heap.size w W) (h0 : i ≠ 0) (hi : i ≤ t.nodes.length) :
    ∃ g nc a c, W.cell? ⟨bt, 0, none⟩ = some (.slice (some ⟨g, 0, none⟩) (t.nodes.length + 1) nc) ∧ g < w.heap.size ∧ W.cell? ⟨g, i * 3, none⟩ = some (.slice a (t.chs i).length c) ∧ W.cell? ⟨g, i * 3 + 1, none⟩ = some (.int .i64 (t.up i : Nat)) ∧ W.cell? ⟨g, i * 3 + 2, none⟩ = some (.int .i64 (t.lst i : Nat)) ∧ RdCs F W a (t.chs i).length c (t.chs i) := by
  obtain ⟨na, ga, nc, gc, us, h1, h2, h3, h4, h5, h6, h7, h8⟩ := h.ex
  obtain ⟨j, rfl⟩ : ∃ j, i = j + 1 := ⟨i - 1, by omega⟩
  have hj : j < t.nodes.length := by omega
  have hp := List.getElem?_eq_getElem hj
  obtain ⟨a, c, e1, e2⟩ := h5 j _ hp
  have e3 : t.up (j + 1) = (t.nodes[j]'hj).1 := by unfold Tr.up; rw [Nat.add_sub_cancel, List.getD_eq_getElem?_getD, hp, Option.getD_some]
  have e4 : t.chs (j + 1) = (t.nodes[j]'hj).2 := by unfold Tr.chs; rw [Nat.add_sub_cancel, List.getD_eq_getElem?_getD, hp, Option.getD_some]
  obtain ⟨g, rfl⟩ := own_some h2 (by omega)
  have q0 := own_cell h2 (trip_at0 e1)
  have q1 := own_cell h2 (trip_at1 e1)
  have q2 := own_cell h2 (trip_at2 e1)
  rw [e3, e4]
  have tr : ∀ j, W.cell? ⟨g, j, none⟩ = w.cell? ⟨g, j, none⟩ := fun j => hb.cell (p := ⟨g, j, none⟩) q0.2.2
  exact ⟨g, nc, a, c, (hb.cell (p := ⟨bt, 0, none⟩) (heap_lt h1)).trans (cell_row h1 0), q0.2.2, (tr _).trans q0.1, (tr _).trans q1.1, (tr _).trans q2.1, e2.below hb⟩
/-- the last node that stands on the one where it is -/
theorem TreeC.lastc {W : World} {i : Nat} (h : TreeC P F w bt t) (hb : Below w.heap.size w W) (hi : i ≤ t.nodes.length) :
    ∃ g nc, W.cell? ⟨bt, 0, none⟩ = some (.slice (some ⟨g, 0, none⟩) (t.nodes.length + 1) nc) ∧ g < w.heap.size ∧ W.cell? ⟨g, i * 3 + 2, none⟩ = some (.int .i64 (t.lst i : Nat)) := by
  by_cases h0 : i = 0
  · subst h0
    obtain ⟨na, ga, nc, gc, us, h1, h2, h3, h4, h5, h6, h7, h8⟩ := h.ex
    obtain ⟨g, rfl⟩ := own_some h2 (by omega)
    have q2 := own_cell h2 (trip_at2 h4)
    exact ⟨g, nc, (hb.cell (p := ⟨bt, 0, none⟩) (heap_lt h1)).trans (cell_row h1 0), q2.2.2, (hb.cell (p := ⟨g, 0 * 3 + 2, none⟩) q2.2.2).trans q2.1⟩
  · obtain ⟨g, nc, a, c, q0, q1, q2, q3, q4, q5⟩ := h.node hb h0 hi
    exact ⟨g, nc, q0, q1, q4⟩
end
end Go.Proofs.Ytalhiedbhcklgaa.U
