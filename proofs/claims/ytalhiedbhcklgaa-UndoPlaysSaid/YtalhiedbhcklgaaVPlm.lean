/-
  What UndoPlays holds: both trees, what is kept apart from them, changes that were told and are written over.
-/
import Derived.Test.YtalhiedbhcklgaaVRTo
import Derived.Test.YtalhiedbhcklgaaVRAdd
import Derived.Test.YtalhiedbhcklgaaVArg
namespace Go.Proofs.Ytalhiedbhcklgaa.U
open Go.RowKit
set_option linter.unusedVariables false
set_option linter.unusedSimpArgs false
set_option maxRecDepth 100000

section
variable {B s n c i0 : Nat} {w w' : World} {a : Option Addr} {ls : List Nat}
theorem MineG.app2 {i m : Nat} (h : MineG B s w a n c ls i) (hm : ls[i]? = some m) (hB : B ≤ w.heap.size) (hs : s ≤ w.heap.size) (hmb : m ≤ 1048576) (z : Int) (hgs : ∀ k, (Value.slice a n c).ownBlock = some k → k < s) :
    ∃ g ra rc a' c' w3, a = some ⟨g, 0, none⟩ ∧ g < w.heap.size ∧ w.cell? ⟨g, i, none⟩ = some (.slice ra m rc) ∧
      (∀ ty, (Builtin.append_ #[52, 52] ty #[.slice ra m rc, .slice (some ⟨w.heap.size, 0, none⟩) 1 1]).run Try.prog (w.alloc (.cells #[.int .i32 z] 21)) = .ok (.slice a' (m + 1) c') w3) ∧
      (∃ u, w3.cell? ⟨g, i, none⟩ = some u) ∧ w3.frozen? ⟨g, i, none⟩ = false ∧ g < w3.heap.size ∧
      MineG B s (w3.setCell ⟨g, i, none⟩ (.slice a' (m + 1) c')) a n c ls (i + 1) ∧ ∃ G : Nat → Prop, Fr G w w3 ∧ Fr G w (w3.setCell ⟨g, i, none⟩ (.slice a' (m + 1) c')) ∧ ∀ b, G b → B ≤ b ∧ b < s ∧ ∀ cur, w.heap[b]? ≠ some (.cells cur 24 (0, 0)) := by
  obtain ⟨g, ra, rc, rfl, hgl, hgB, hcell, _⟩ := h.get (Nat.le_refl _) hm
  obtain ⟨vs, h1, h2, h3, h4⟩ := h
  obtain ⟨i0, hi0, hz0, hz1, hz2⟩ := info_parts infoI
  obtain ⟨v, e1, xs, e2, e9⟩ := h3 i m (Nat.le_refl _) hm
  have hil : i < vs.length := (List.getElem?_eq_some_iff.1 e1).1
  rcases h1.2 with ⟨ev, e0⟩ | ⟨g', cap, cur, ev, hgB', hgw, hnc, hcm, hcs, htk⟩
  · injection ev with ev1; cases ev1
  injection ev with ev1 ev2 ev3
  injection ev1 with ev1
  injection ev1 with ev1
  subst ev1 ev3
  have hv : v = .slice ra m rc := by
    have h9 : w.cell? ⟨g, i, none⟩ = some v := by
      rw [cell_row hgw, ← e1, ← htk, List.getElem?_take, if_pos (by have := h1.1; omega)]
      simp
    rw [hcell] at h9
    cases h9
    rfl
  subst hv
  obtain ⟨w2, hw2⟩ : ∃ w2, w.alloc (.cells #[.int .i32 z] 21) = w2 := ⟨_, rfl⟩
  have hb2 : Below w.heap.size w w2 := by rw [← hw2]; exact (Below.refl _ _).alloc (Nat.le_refl _) _
  have hg2 : w2.heap[w.heap.size]? = some (.cells #[.int .i32 z] 21 (0, 0)) := by rw [← hw2]; exact heap_alloc_new w _
  have hsz2 : w2.heap.size = w.heap.size + 1 := by rw [← hw2]; simp
  have f02 : Fr (fun _ => False) w w2 := Fr.of_below (fun _ => False) hb2
  have e22 := own_fr e2 f02 (fun _ _ h => h)
  have h12 := own_fr h1 f02 (fun _ _ h => h)
  obtain ⟨v', w3, hrun, hown, hfr, hnear⟩ := run_append_own_k (P := Try.prog) w2 B 52 21 i0 _ 1 4 Try.underlying52 hi0 hz0 hz1 hz2 rfl (by decide) (.slice ra m rc) m xs e22 (some ⟨w.heap.size, 0, none⟩) 1 1 [.int .i32 z] rfl
    (fun _ => ⟨_, rfl, fun j u hu => by rw [add_lit, cell_row hg2, Nat.zero_add]; simpa using hu⟩) (by intro u hu; simp only [List.mem_singleton] at hu; subst hu; rfl) (by unfold maxLen; omega) (by omega) (by omega)
  obtain ⟨a', c', rfl⟩ := own_slice hown
  have h13 := own_fr h12 hfr (fun k e hk => rows_apart h12 e22 (by decide) e hk)
  rcases h13.2 with ⟨ev', e0⟩ | ⟨g', cap', cur', ev', hgB', hgw3, hnc', hcm', hcs', htk'⟩
  · injection ev' with ev1; cases ev1
  injection ev' with ev1 ev2 ev3
  injection ev1 with ev1
  injection ev1 with ev1
  subst ev1 ev3
  have hvl : vs.length = n := by have := h1.1; omega
  refine ⟨g, ra, rc, a', c', w3, rfl, hgl, hcell, by rw [hw2]; exact hrun, ⟨_, (cell_row hgw3 i).trans (Array.getElem?_eq_getElem (by omega))⟩, frozen_row hgw3 i, heap_lt hgw3, ?_, ?_⟩
  · have fset : Fr (fun x => x = g) w3 (w3.setCell ⟨g, i, none⟩ (.slice a' (m + 1) c')) := (Fr.refl _ _).setCell _ _ (fun _ => rfl)
    refine ⟨vs.set i (.slice a' (m + 1) c'), ⟨by simp; omega, .inr ⟨g, c, _, rfl, hgB, heap_set hgw3 i _, hnc, hcm, by simpa using hcs', ?_⟩⟩, by simp [h2], ?_, ?_⟩
    · rw [Array.toList_setIfInBounds, List.take_set, htk']
    · intro j q hj hq
      obtain ⟨u, f1, ys, f2, f3⟩ := h3 j q (by omega) hq
      refine ⟨u, by rw [List.getElem?_set_ne (by omega)]; exact f1, ys, ?_, f3⟩
      have f4 := own_fr (own_fr f2 f02 (fun _ _ h => h)) hfr (fun b e hb => h4 i j _ _ (Nat.le_refl _) (by omega) e1 f1 b hb.symm e)
      exact own_fr f4 fset (fun b e => row_block_apart f4 hgw3 (by decide) e)
    · intro j j' vj vj' hj hjj f1 f2
      rw [List.getElem?_set_ne (by omega)] at f1 f2
      exact h4 j j' vj vj' (by omega) hjj f1 f2
  · have fset : Fr (fun x => x = g) w3 (w3.setCell ⟨g, i, none⟩ (.slice a' (m + 1) c')) := (Fr.refl _ _).setCell _ _ (fun _ => rfl)
    refine ⟨fun b => b = g ∨ some b = (Value.slice ra m rc).ownBlock, (Fr.of_below (fun b => b = g ∨ some b = (Value.slice ra m rc).ownBlock) hb2).trans hfr (fun _ _ h => .inr h), ((Fr.of_below (fun b => b = g ∨ some b = (Value.slice ra m rc).ownBlock) hb2).trans hfr (fun _ _ h => .inr h)).trans fset (fun _ _ h => .inl h), ?_⟩
    rintro b (e | e)
    · subst e
      refine ⟨hgB, hgs _ rfl, fun cur2 e3 => ?_⟩
      rw [hgw] at e3
      simp at e3
    · refine ⟨(e2.lt b e.symm).1, e9 b e.symm, fun cur2 e3 => ?_⟩
      obtain ⟨c2, hc2⟩ := own_heap e2 e.symm
      rw [hc2] at e3
      simp at e3
end
theorem FreshR.mineG {lo hi n c : Nat} {w : World} {a : Option Addr} {L : List (List Int)} (h : FreshR lo hi w a n c L) : MineG lo hi w a n c (lens L) 0 := by
  obtain ⟨vs, h1, h2, h3, h4, h5⟩ := h
  refine ⟨vs, h1, by rw [lens_len]; exact h2, fun i m _ hm => ?_, fun i j vi vj _ => h4 i j vi vj⟩
  unfold lens at hm
  rw [List.getElem?_map] at hm
  cases hx : L[i]? with
  | none => rw [hx] at hm; cases hm
  | some x =>
    rw [hx] at hm
    cases hm
    obtain ⟨v, e1, e2, e3⟩ := h3 i x hx
    exact ⟨v, e1, _, e2, e3⟩
theorem FreshR.lt {lo hi n c : Nat} {w : World} {a : Option Addr} {L : List (List Int)} (h : FreshR lo hi w a n c L) : ∀ k, (Value.slice a n c).ownBlock = some k → k < hi := by
  obtain ⟨vs, h1, h2, h3, h4, h5⟩ := h
  exact h5

/-- changes that are to be written over, from the k-th on as they were told -/
structure ToW (s e : Nat) (us : List Tri) (th : Nat → Nat) (cs : List Ch) (w : World) (a : Option Addr) (n c k : Nat) : Prop where
  row : w.ownsRow s 24 3 (.slice a n c) n (trip us)
  len : us.length = cs.length
  mono : ∀ i, s ≤ th i ∧ th i ≤ th (i + 1) ∧ th i ≤ e
  ch : ∀ (i : Nat) (u : Tri) (x : Ch), k ≤ i → us[i]? = some u → cs[i]? = some x → FreshC (th i) (th (i + 1)) w u x
  le : e ≤ w.heap.size
  rowE : ∀ b, (Value.slice a n c).ownBlock = some b → b < e
theorem ToW.of {s n c : Nat} {w : World} {a : Option Addr} {cs : List Ch} (h : FreshCs s w a n c cs) : ∃ us th, ToW s w.heap.size us th cs w a n c 0 := by
  obtain ⟨us, th, h1, h2, h3, h4⟩ := h
  exact ⟨us, th, h1, h2, h3, fun i u x _ e1 e2 => h4 i u x e1 e2, Nat.le_refl _, fun b eb => (h1.lt b eb).2⟩
theorem th_mono {th : Nat → Nat} (h : ∀ i, th i ≤ th (i + 1)) {i j : Nat} (hij : i ≤ j) : th i ≤ th j := by
  induction j with
  | zero => obtain rfl : i = 0 := by omega
            exact Nat.le_refl _
  | succ j ih =>
    by_cases e : i = j + 1
    · subst e; exact Nat.le_refl _
    · exact Nat.le_trans (ih (by omega)) (h j)
section
variable {s e n c k : Nat} {us : List Tri} {th : Nat → Nat} {cs : List Ch} {w w' : World} {a : Option Addr} {G : Nat → Prop}
theorem ToW.step {k' : Nat} (h : ToW s e us th cs w a n c k) (hf : Fr G w w') (hrow : ∀ b, (Value.slice a n c).ownBlock = some b → ¬ G b) (hk : k ≤ k') (hG : ∀ i, k' ≤ i → ∀ b, th i ≤ b → b < th (i + 1) → ¬ G b) : ToW s e us th cs w' a n c k' := by
  refine ⟨own_fr h.row hf hrow, h.len, h.mono, fun i u x hi e1 e2 => ?_, Nat.le_trans h.le hf.size, h.rowE⟩
  · obtain ⟨oa, oc, na, nc, eu, f1, f2⟩ := h.ch i u x (by omega) e1 e2
    exact ⟨oa, oc, na, nc, eu, f1.fr hf (hG i hi), f2.fr hf (hG i hi)⟩
theorem ToW.rowT (h : ToW s e us th cs w a n c k) (hT : ∀ b, G b → ∀ cur, w.heap[b]? ≠ some (.cells cur 24 (0, 0))) : ∀ b, (Value.slice a n c).ownBlock = some b → ¬ G b := fun b eb hg => by
  obtain ⟨cur, hc⟩ := own_heap h.row eb
  exact hT b hg cur hc
theorem ToW.below (h : ToW s e us th cs w a n c k) (hb : Below w.heap.size w w') : ToW s e us th cs w' a n c k :=
  h.step (Fr.of_below (fun _ => False) hb) (fun _ _ h => h) (Nat.le_refl _) (fun _ _ _ _ _ h => h)
/-- the k-th change, its old lines as rows to be written over -/
theorem ToW.get {x : Ch} (h : ToW s e us th cs w a n c k) (hx : cs[k]? = some x) :
    ∃ ab oa oc u, a = some ⟨ab, 0, none⟩ ∧ us[k]? = some u ∧ u.2.1 = .slice oa x.old.length oc ∧ MineG (th k) (th (k + 1)) w oa x.old.length oc (lens x.old) 0 ∧ (∀ b, (Value.slice oa x.old.length oc).ownBlock = some b → b < th (k + 1)) := by
  have hi := (List.getElem?_eq_some_iff.1 hx).1
  obtain ⟨u, hu⟩ : ∃ u, us[k]? = some u := ⟨_, List.getElem?_eq_getElem (by have := h.len; omega)⟩
  obtain ⟨oa, oc, na, nc, eu, f1, f2⟩ := h.ch k u x (Nat.le_refl _) hu hx
  have hn : 0 < n := by have h1 := h.row.1; have h2 := h.len; rw [trip_len] at h1; omega
  obtain ⟨ab, rfl⟩ := own_some h.row hn
  exact ⟨ab, oa, oc, u, rfl, hu, by rw [eu], f1.mineG, f1.lt⟩
theorem ToW.cell {u : Tri} {ab j : Nat} (h : ToW s e us th cs w (some ⟨ab, 0, none⟩) n c k) (hu : us[j]? = some u) : w.cell? ⟨ab, j * 3 + 1, none⟩ = some u.2.1 ∧ ab < w.heap.size := by
  obtain ⟨c1, _, c3⟩ := own_cell h.row (trip_at1 hu)
  exact ⟨c1, c3⟩
theorem ToW.next (h : ToW s e us th cs w a n c k) : ToW s e us th cs w a n c (k + 1) :=
  ⟨h.row, h.len, h.mono, fun i u x hi e1 e2 => h.ch i u x (by omega) e1 e2, h.le, h.rowE⟩
end

theorem Tr.end_lim {t : Tr} (h : t.Lim) : t.end_.Lim := by
  unfold Tr.end_
  split
  · exact h
  · split
    · exact ⟨fun p hp => by simp at hp; subst hp; exact h.2, by simp [OkG]⟩
    · refine ⟨fun p hp => ?_, by simp [OkG]⟩
      rcases List.mem_append.1 hp with hp | hp
      · exact h.1 p hp
      · simp at hp; subst hp; exact h.2
theorem Tr.add_group (t : Tr) (c : Ch) : (t.add c).group.length ≤ t.group.length + 1 := by
  unfold Tr.add
  split
  · omega
  · split
    · simp
    · rw [Tr.end_group]; simp
theorem Tr.undo_group (t : Tr) : t.undo.1.group = [] := by
  unfold Tr.undo
  split
  · exact t.end_group
  · exact t.end_group
theorem Tr.redo_group (t : Tr) : t.redo.1.group = [] := by
  unfold Tr.redo
  split
  · exact t.end_group
  · exact t.end_group
theorem Tr.goTo_group (t : Tr) (v : Int) : (t.goTo v).1.group = [] := by
  unfold Tr.goTo
  split
  · exact t.end_group
  · exact t.end_group

/-- both trees; D is kept apart from them -/
structure PlS (B : Nat) (w wr : World) (bt bx : Nat) (t1 t2 : Tr) (D : Nat → Prop) : Prop where
  ex : ∃ (P F Q G : Nat → Prop), TreeC P F wr bt t1 ∧ TreeR Q G wr bx t2 ∧ (∀ k, P k → B ≤ k) ∧ (∀ k, Q k → B ≤ k) ∧ (∀ k, P k → ¬ Q k) ∧ ∀ k, D k → k < wr.heap.size ∧ ¬ P k ∧ ¬ Q k
  bel : Below B w wr
  le : B ≤ wr.heap.size
section
variable {B bt bx : Nat} {w wr w' : World} {t1 t2 : Tr} {D D' : Nat → Prop}
theorem PlS.turn (h : PlS B w wr bt bx t1 t2 D) (hb : Below wr.heap.size wr w') (hD : ∀ k, D' k → D k ∨ (wr.heap.size ≤ k ∧ k < w'.heap.size)) : PlS B w w' bt bx t1 t2 D' := by
  obtain ⟨P, F, Q, G, h1, h2, h3, h4, h5, h6⟩ := h.ex
  have hs := hb.size
  refine ⟨⟨P, F, Q, G, h1.below hb, h2.below hb, h3, h4, h5, fun k hk => ?_⟩, h.bel.trans (hb.mono h.le), Nat.le_trans h.le hb.size⟩
  rcases hD k hk with hd | hd
  · obtain ⟨a1, a2, a3⟩ := h6 k hd; exact ⟨by omega, a2, a3⟩
  · exact ⟨hd.2, fun hp => by have := h1.lt k hp; omega, fun hq => by have := h2.lt k hq; omega⟩
theorem PlS.below (h : PlS B w wr bt bx t1 t2 D) (hb : Below wr.heap.size wr w') : PlS B w w' bt bx t1 t2 D := h.turn hb (fun k hk => .inl hk)
/-- what is kept apart is written over -/
theorem PlS.fr {G : Nat → Prop} (h : PlS B w wr bt bx t1 t2 D) (hf : Fr G wr w') (hG : ∀ k, G k → D k) (hDB : ∀ k, D k → B ≤ k) : PlS B w w' bt bx t1 t2 D := by
  obtain ⟨P, F, Q, G2, h1, h2, h3, h4, h5, h6⟩ := h.ex
  have hs := hf.size
  exact ⟨⟨P, F, Q, G2, h1.fr hf (fun k hk hg => (h6 k (hG k hg)).2.1 hk), h2.fr hf (fun k hk hg => (h6 k (hG k hg)).2.2 hk), h3, h4, h5, fun k hk => ⟨by have := (h6 k hk).1; omega, (h6 k hk).2⟩⟩, h.bel.trans (hf.below h.le (fun k hg => hDB k (hG k hg))), Nat.le_trans h.le hs⟩
theorem PlS.prog (h : PlS B w wr bt bx t1 t2 D) : ∃ (P F : Nat → Prop), TreeC P F wr bt t1 ∧ (∀ k, D k → ¬ P k) ∧ (∀ k, P k → B ≤ k) ∧ (∀ t' w', TreeA P wr bt t' w' → PlS B w w' bt bx t' t2 D ∧ Fr P wr w') ∧
    (∀ t' cs e w', MovP P wr bt t' cs e w' → ∃ a c s, e = .returned (.tuple #[.slice a cs.length c, .int .i64 0]) ∧ FreshCs s w' a cs.length c cs ∧ wr.heap.size ≤ s ∧ s ≤ w'.heap.size ∧ PlS B w w' bt bx t' t2 (fun k => s ≤ k ∧ k < w'.heap.size)) := by
  obtain ⟨P, F, Q, G, h1, h2, h3, h4, h5, h6⟩ := h.ex
  have key : ∀ (P' F' : Nat → Prop) t' w', TreeC P' F' w' bt t' → Fr P wr w' → (∀ k, P' k → P k ∨ wr.heap.size ≤ k) → ∀ D' : Nat → Prop, (∀ k, D' k → k < w'.heap.size ∧ ¬ P' k ∧ ¬ Q k) → PlS B w w' bt bx t' t2 D' := by
    intro P' F' t' w' q1 q2 q3 D' hD'
    have hs := q2.size
    refine ⟨⟨P', F', Q, G, q1, h2.fr q2 (fun k hk hp => h5 k hp hk), fun k hk => ?_, h4, fun k hk hq => ?_, hD'⟩, h.bel.trans (q2.below h.le h3), Nat.le_trans h.le hs⟩
    · rcases q3 k hk with h' | h'
      · exact h3 k h'
      · exact Nat.le_trans h.le h'
    · rcases q3 k hk with h' | h'
      · exact h5 k h' hq
      · have := h2.lt k hq; omega
  refine ⟨P, F, h1, fun k hk => (h6 k hk).2.1, h3, fun t' w' ht => ?_, fun t' cs e w' hm => ?_⟩
  · obtain ⟨P', F', q1, q2, q3⟩ := ht
    have hs := q2.size
    refine ⟨key P' F' t' w' q1 q2 q3 D (fun k hk => ⟨by have := (h6 k hk).1; omega, fun hp => ?_, (h6 k hk).2.2⟩), q2⟩
    rcases q3 k hp with h' | h'
    · exact (h6 k hk).2.1 h'
    · have := (h6 k hk).1; omega
  · obtain ⟨a, c, P', F', s, rfl, f1, f2, f3, f4, f5, f6⟩ := hm
    have hsz : s ≤ w'.heap.size := by
      obtain ⟨us, th, _, _, hth, _⟩ := f1
      have := (hth 0)
      omega
    exact ⟨a, c, s, rfl, f1, f2, hsz, key P' F' t' w' f3 f5 f6 _ (fun k hk => ⟨hk.2, fun hp => by have := f4 k hp; omega, fun hq => by have := h2.lt k hq; omega⟩)⟩
theorem PlS.ref (h : PlS B w wr bt bx t1 t2 D) : ∃ (Q G : Nat → Prop), TreeR Q G wr bx t2 ∧ (∀ k, D k → ¬ Q k) ∧ ∀ t' w', RTreeA Q wr bx t' w' → PlS B w w' bt bx t1 t' D ∧ Fr Q wr w' := by
  obtain ⟨P, F, Q, G, h1, h2, h3, h4, h5, h6⟩ := h.ex
  refine ⟨Q, G, h2, fun k hk => (h6 k hk).2.2, fun t' w' ht => ?_⟩
  obtain ⟨Q', G', q1, q2, q3⟩ := ht
  have hs := q2.size
  refine ⟨⟨⟨P, F, Q', G', h1.fr q2 (fun k hk hq => h5 k hk hq), q1, h3, fun k hk => ?_, fun k hk hq => ?_, fun k hk => ⟨by have := (h6 k hk).1; omega, (h6 k hk).2.1, fun hq => ?_⟩⟩, h.bel.trans (q2.below h.le h4), Nat.le_trans h.le hs⟩, q2⟩
  · rcases q3 k hk with h' | h'
    · exact h4 k h'
    · exact Nat.le_trans h.le h'
  · rcases q3 k hq with h' | h'
    · exact h5 k hk h'
    · have := h1.lt k hk; omega
  · rcases q3 k hq with h' | h'
    · exact (h6 k hk).2.2 h'
    · have := (h6 k hk).1; omega
theorem PlS.refc (h : PlS B w wr bt bx t1 t2 D) : ∃ nb nc, wr.cell? ⟨bx, 0, none⟩ = some (.slice nb t2.nodes.length nc) ∧ wr.cell? ⟨bx, 1, none⟩ = some (.int .i64 (t2.here : Nat)) ∧ bx < wr.heap.size := by
  obtain ⟨P, F, Q, G, h1, h2, _⟩ := h.ex
  obtain ⟨nb, nc, _, _, c0, c1, _, _, _, _, _, _, hl⟩ := h2.cells
  exact ⟨nb, nc, c0, c1, hl⟩
theorem PlS.ok (h : PlS B w wr bt bx t1 t2 D) : t1.Ok ∧ t1.Lim := by
  obtain ⟨P, F, Q, G, h1, _⟩ := h.ex
  exact ⟨h1.ok, h1.lim⟩
end

theorem okc_back {cs : List Ch} (h : ∀ x ∈ cs, OkC x) : ∀ x ∈ backC cs, OkC x := by
  intro x hx
  unfold backC at hx
  rw [List.mem_reverse, List.mem_map] at hx
  obtain ⟨y, hy, rfl⟩ := hx
  exact (h y hy).turn
theorem Tr.way_all {t : Tr} (h : t.Ok) (hl : t.Lim) : ∀ (s a b : Nat), a + b ≤ s → a ≤ t.nodes.length → b ≤ t.nodes.length → ∀ x ∈ t.way a b, OkC x
  | s, a, b, hs, ha, hb => by
    rcases Nat.lt_trichotomy a b with hab | hab | hab
    · have hu := Tr.up_lt h (n := b) (by omega) hb
      rw [Tr.way_down h hb hab]
      have h1 := (Tr.chs_ok hl (i := b) (by omega) hb).2
      cases s with
      | zero => omega
      | succ s =>
        have h2 := Tr.way_all h hl s a (t.up b) (by omega) ha (by omega)
        intro x hx
        rcases List.mem_append.1 hx with hx | hx
        · exact h2 x hx
        · exact h1 x hx
    · subst hab
      rw [Tr.way_self h]
      intro x hx
      cases hx
    · have hu := Tr.up_lt h (n := a) (by omega) ha
      rw [Tr.way_up h ha hab]
      have h1 := okc_back (Tr.chs_ok hl (i := a) (by omega) ha).2
      cases s with
      | zero => omega
      | succ s =>
        have h2 := Tr.way_all h hl s (t.up a) b (by omega) (by omega) hb
        intro x hx
        rcases List.mem_append.1 hx with hx | hx
        · exact h1 x hx
        · exact h2 x hx

/-- the number that a move answers -/
def erOf (r : Tr × Option (List Ch)) (er : Int) : Int := match r.2 with
  | none => er
  | some _ => 0
/-- the program's move is done, the document's not yet -/
def MidS (B : Nat) (w : World) (bt bx : Nat) (t1 t2 : Tr) (wx : World) (a : Option Addr) (m c : Nat) (cs : List Ch) (gd : Nat) (ob : Obj) : Prop :=
  ∃ s e us th, PlS B w wx bt bx t1 t2 (fun k => s ≤ k ∧ k < e) ∧ B ≤ s ∧ ToW s e us th cs wx a m c 0 ∧ m = cs.length ∧ RdCs (fun k => s ≤ k ∧ k < e) wx a m c cs ∧ wx.heap[gd]? = some ob
/-- both moves are done -/
def MvS (B : Nat) (w : World) (bt bx : Nat) (wx : World) (a : Option Addr) (m c : Nat) (b : Option Addr) (m2 c2 : Nat) (g0 : Nat) : Prop :=
  ∃ t s e cs us th, PlS B w wx bt bx t t (fun k => s ≤ k ∧ k < e) ∧ B ≤ s ∧ ToW s e us th cs wx a m c 0 ∧ m = cs.length ∧ RdCs (fun k => s ≤ k ∧ k < e) wx a m c cs ∧ (∃ G, RdCs G wx b m2 c2 cs) ∧ t.group.length ≤ g0 ∧ ∀ x ∈ cs, OkC x
section
variable {B bt bx : Nat} {w wr wx : World} {t t1 : Tr} {D : Nat → Prop}
theorem fresh_nil_tow (w : World) : ToW w.heap.size w.heap.size [] (fun _ => w.heap.size) [] w none 0 0 0 :=
  ⟨World.ownsRow_nil _ _ _ _, rfl, fun i => ⟨Nat.le_refl _, Nat.le_refl _, Nat.le_refl _⟩, fun i u x _ h => by simp at h, Nat.le_refl _, fun b eb => by cases eb⟩
theorem MvS.quiet {g0 : Nat} (h : PlS B w wx bt bx t t D) (hg : t.group.length ≤ g0) : MvS B w bt bx wx none 0 0 none 0 0 g0 :=
  ⟨t, wx.heap.size, wx.heap.size, [], [], _, h.turn (Below.refl _ _) (fun k hk => by omega), h.le, fresh_nil_tow wx, rfl, RdCs.none0 _ _, ⟨fun _ => False, RdCs.none0 _ _⟩, hg, fun x hx => by cases hx⟩
theorem mv_prog {f : Nat} {args : Array Value} {r : Tr × Option (List Ch)} {er : Int} {gd : Nat} {ob : Obj} (h : PlS B w wr bt bx t t (fun k => k = gd)) (hob : wr.heap[gd]? = some ob) (hc : ∀ P F, TreeC P F wr bt t → Calls Try.prog f args wr (MoveR P wr bt r er)) (hok : ∀ cs, r.2 = some cs → ∀ x ∈ cs, OkC x) :
    Calls Try.prog f args wr fun e w' => ∃ a m c, e = .returned (.tuple #[.slice a m c, .int .i64 (erOf r er)]) ∧ Hid (MidS B w bt bx r.1 t w' a m c (r.2.getD []) gd ob) := by
  obtain ⟨P, F, h1, h2, h3, h4, h5⟩ := h.prog
  refine (hc P F h1).mono ?_
  intro e w' hm
  obtain ⟨r1, r2⟩ := r
  have hgd := heap_lt hob
  cases r2 with
  | none =>
    obtain ⟨rfl, hA⟩ := hm
    obtain ⟨q1, q2⟩ := h4 _ _ hA
    exact ⟨none, 0, 0, rfl, w'.heap.size, w'.heap.size, [], _, q1.turn (Below.refl _ _) (fun k hk => by omega), q1.le, fresh_nil_tow w', rfl, RdCs.none0 _ _, (q2.block gd hgd (h2 gd rfl)).trans hob⟩
  | some cs =>
    have hm2 : MovP P wr bt r1 cs e w' := hm
    have hf : Fr P wr w' := by obtain ⟨_, _, _, _, _, _, _, _, _, _, hf, _⟩ := hm2; exact hf
    obtain ⟨a, c, s, rfl, q1, q2, q3, q4⟩ := h5 _ _ _ _ hm2
    obtain ⟨us, th, hw⟩ := ToW.of q1
    exact ⟨a, cs.length, c, rfl, s, w'.heap.size, us, th, q4, Nat.le_trans h.le q2, hw, rfl, q1.rd (hok cs rfl), (hf.block gd hgd (h2 gd rfl)).trans hob⟩
theorem mv_ref {f : Nat} {args : Array Value} {r : Tr × Option (List Ch)} {er : Int} {gd g0 m c : Nat} {ob : Obj} {a : Option Addr} (h : MidS B w bt bx r.1 t wx a m c (r.2.getD []) gd ob) (hc : ∀ Q G, TreeR Q G wx bx t → Calls Try.prog f args wx (RMoveR Q wx bx r er)) (hok : ∀ cs, r.2 = some cs → ∀ x ∈ cs, OkC x) (hg : r.1.group.length ≤ g0) :
    Calls Try.prog f args wx fun e w' => ∃ b m2 c2, e = .returned (.tuple #[.slice b m2 c2, .int .i64 (erOf r er)]) ∧ Hid (MvS B w bt bx w' a m c b m2 c2 g0) := by
  obtain ⟨s, e, us, th, p1, p2, p3, p4, p5, _⟩ := h
  obtain ⟨Q, G, h1, h2, h3⟩ := p1.ref
  refine (hc Q G h1).mono ?_
  intro e' w' hm
  have key : ∀ (b : Option Addr) (m2 c2 : Nat), RTreeA Q wx bx r.1 w' → (∃ G, RdCs G w' b m2 c2 (r.2.getD [])) → (∀ x ∈ r.2.getD [], OkC x) → MvS B w bt bx w' a m c b m2 c2 g0 := by
    intro b m2 c2 hA hr ho
    obtain ⟨q1, q2⟩ := h3 _ _ hA
    refine ⟨r.1, s, e, r.2.getD [], us, th, q1, p2, p3.step q2 (fun b' eb hq => ?_) (Nat.le_refl _) (fun i _ b' hb1 hb2 hq => ?_), p4, p5.frF q2 h2, hr, hg, ho⟩
    · exact h2 b' ⟨(p3.row.lt b' eb).1, p3.rowE b' eb⟩ hq
    · have m1 := (p3.mono i).1
      have m2 := (p3.mono (i + 1)).2.2
      exact h2 b' ⟨by omega, by omega⟩ hq
  obtain ⟨r1, r2⟩ := r
  cases r2 with
  | none =>
    obtain ⟨rfl, hA⟩ := hm
    exact ⟨none, 0, 0, rfl, key none 0 0 hA ⟨fun _ => False, RdCs.none0 _ _⟩ (fun x hx => by cases hx)⟩
  | some cs =>
    obtain ⟨b, m2, c2, rfl, rfl, hr, hA⟩ := hm
    exact ⟨b, cs.length, c2, rfl, key b cs.length c2 hA hr (hok cs rfl)⟩
theorem pl_prog {f : Nat} {args : Array Value} {t' : Tr} {gd : Nat} {ob : Obj} (h : PlS B w wr bt bx t t1 (fun k => k = gd)) (hob : wr.heap[gd]? = some ob) (hc : ∀ P F, TreeC P F wr bt t → (∀ k, P k → B ≤ k) → Calls Try.prog f args wr fun e w' => e = .returned (.tuple #[]) ∧ TreeA P wr bt t' w') :
    Calls Try.prog f args wr fun e w' => e = .returned (.tuple #[]) ∧ Hid (PlS B w w' bt bx t' t1 (fun k => k = gd) ∧ w'.heap[gd]? = some ob) := by
  obtain ⟨P, F, h1, h2, h3, h4, h5⟩ := h.prog
  refine (hc P F h1 h3).mono ?_
  rintro e w' ⟨rfl, hA⟩
  obtain ⟨q1, q2⟩ := h4 _ _ hA
  exact ⟨rfl, q1, (q2.block gd (heap_lt hob) (h2 gd rfl)).trans hob⟩
theorem pl_ref {f : Nat} {args : Array Value} {t' : Tr} {gd : Nat} (h : PlS B w wr bt bx t1 t (fun k => k = gd)) (hc : ∀ Q G, TreeR Q G wr bx t → Calls Try.prog f args wr fun e w' => e = .returned (.tuple #[]) ∧ RTreeA Q wr bx t' w') :
    Calls Try.prog f args wr fun e w' => e = .returned (.tuple #[]) ∧ Hid (PlS B w w' bt bx t1 t' (fun k => k = gd)) := by
  obtain ⟨Q, G, h1, h2, h3⟩ := h.ref
  refine (hc Q G h1).mono ?_
  rintro e w' ⟨rfl, hA⟩
  exact ⟨rfl, (h3 _ _ hA).1⟩
/-- changes that are written over: the state of the inner loop -/
structure InnS (B : Nat) (w : World) (bt bx : Nat) (t : Tr) (s e : Nat) (us : List Tri) (th : Nat → Nat) (cs : List Ch) (ab m c k : Nat) (oa : Option Addr) (ol oc : Nat) (ls : List Nat) (j : Nat) (wr : World) : Prop where
  pl : PlS B w wr bt bx t t (fun k => s ≤ k ∧ k < e)
  tw : ToW s e us th cs wr (some ⟨ab, 0, none⟩) m c (k + 1)
  mg : MineG (th k) (th (k + 1)) wr oa ol oc ls j
theorem InnS.app {s e ab m c k ol oc j lj : Nat} {us : List Tri} {th : Nat → Nat} {cs : List Ch} {oa : Option Addr} {ls : List Nat} {u : Tri} (hBs : B ≤ s) (h : InnS B w bt bx t s e us th cs ab m c k oa ol oc ls j wr) (hu : us[k]? = some u) (hm : ls[j]? = some lj) (hmb : lj ≤ 1048576) (hgs : ∀ b, (Value.slice oa ol oc).ownBlock = some b → b < th (k + 1)) (z : Int) :
    ∃ g ra rc a' c' w3, oa = some ⟨g, 0, none⟩ ∧ g < wr.heap.size ∧ wr.cell? ⟨g, j, none⟩ = some (.slice ra lj rc) ∧
      (∀ ty, (Builtin.append_ #[52, 52] ty #[.slice ra lj rc, .slice (some ⟨wr.heap.size, 0, none⟩) 1 1]).run Try.prog (wr.alloc (.cells #[.int .i32 z] 21)) = .ok (.slice a' (lj + 1) c') w3) ∧
      (∃ u, w3.cell? ⟨g, j, none⟩ = some u) ∧ w3.frozen? ⟨g, j, none⟩ = false ∧ g < w3.heap.size ∧ w3.cell? ⟨ab, k * 3 + 1, none⟩ = some u.2.1 ∧ ab < w3.heap.size ∧
      InnS B w bt bx t s e us th cs ab m c k oa ol oc ls (j + 1) (w3.setCell ⟨g, j, none⟩ (.slice a' (lj + 1) c')) := by
  have hk := h.tw.mono k
  have hk1 := h.tw.mono (k + 1)
  have hle := h.tw.le
  obtain ⟨g, ra, rc, a', c', w3, e1, e2, e3, e4, e5, e6, e7, e8, G, f1, f2, f3⟩ := h.mg.app2 hm (by omega) (by omega) hmb z hgs
  have hT : ∀ b, G b → ∀ cur, wr.heap[b]? ≠ some (.cells cur 24 (0, 0)) := fun b hb => (f3 b hb).2.2
  have hGi : ∀ i, k + 1 ≤ i → ∀ b, th i ≤ b → b < th (i + 1) → ¬ G b := fun i hi b hb1 _ hg => by
    have h1 := (f3 b hg).2.1
    have h2 := th_mono (fun i => (h.tw.mono i).2.1) hi
    omega
  have to3 := h.tw.step f1 (h.tw.rowT hT) (Nat.le_refl _) hGi
  have cw := to3.cell hu
  refine ⟨g, ra, rc, a', c', w3, e1, e2, e3, e4, e5, e6, e7, cw.1, cw.2, h.pl.fr f2 (fun b hb => ⟨by have := (f3 b hb).1; omega, by have := (f3 b hb).2.1; omega⟩) (fun b hb => by omega), h.tw.step f2 (h.tw.rowT hT) (Nat.le_refl _) hGi, e8⟩
theorem InnS.drew {s e ab m c k ol oc j : Nat} {us : List Tri} {th : Nat → Nat} {cs : List Ch} {oa : Option Addr} {ls : List Nat} (h : InnS B w bt bx t s e us th cs ab m c k oa ol oc ls j wr) : InnS B w bt bx t s e us th cs ab m c k oa ol oc ls j wr.drew :=
  ⟨h.pl.below (Below.refl _ _).drew, h.tw.below (Below.refl _ _).drew, h.mg.below (Below.refl _ _).drew⟩
/-- what each move tells is right -/
theorem undo_okc {t : Tr} (h : t.Ok) (hl : t.Lim) : ∀ cs, t.undo.2 = some cs → ∀ x ∈ cs, OkC x := by
  intro cs hcs
  have hek := Tr.end_ok h
  unfold Tr.undo at hcs
  split at hcs
  · cases hcs
  · next h0 =>
    cases hcs
    exact okc_back (Tr.chs_ok (Tr.end_lim hl) h0 hek.2.1).2
theorem redo_okc {t : Tr} (h : t.Ok) (hl : t.Lim) : ∀ cs, t.redo.2 = some cs → ∀ x ∈ cs, OkC x := by
  intro cs hcs
  unfold Tr.redo at hcs
  split at hcs
  · cases hcs
  · next h0 =>
    cases hcs
    exact (Tr.chs_ok (Tr.end_lim hl) h0 (Tr.last_le _ _)).2
theorem goTo_okc {t : Tr} (h : t.Ok) (hl : t.Lim) (v : Int) : ∀ cs, (t.goTo v).2 = some cs → ∀ x ∈ cs, OkC x := by
  intro cs hcs
  have hek := Tr.end_ok h
  unfold Tr.goTo at hcs
  split at hcs
  · cases hcs
  · next h0 =>
    cases hcs
    exact Tr.way_all hek (Tr.end_lim hl) _ _ _ (Nat.le_refl _) hek.2.1 (by omega)
end
end Go.Proofs.Ytalhiedbhcklgaa.U
