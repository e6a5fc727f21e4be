/-
  The program's registers in memory.
-/
import Derived.Test.YtleidcegbfnmkaaHLeaf
namespace Go.Proofs.Ytleidcegbfnmkaa.U
open Go.RowKit
set_option linter.unusedVariables false
set_option linter.unusedSimpArgs false
set_option maxRecDepth 100000

/-- rows that lie in blocks of G alone, each apart -/
def RowsO (G : Nat → Prop) (w : World) (vs : List Value) (L : List (List Int)) : Prop :=
  vs.length = L.length ∧ (∀ (i : Nat) (x : List Int), L[i]? = some x → ∃ v, vs[i]? = some v ∧ w.ownsRow 0 21 1 v x.length (ints x) ∧ (∀ k, v.ownBlock = some k → G k) ∧ ∀ y ∈ x, (Lit.int .i32 y).wf = true) ∧
    (∀ (i j : Nat) (vi vj : Value), i < j → vs[i]? = some vi → vs[j]? = some vj → ∀ k, vi.ownBlock = some k → vj.ownBlock ≠ some k)
def OwnL (G : Nat → Prop) (w : World) (a : Option Addr) (n c : Nat) (L : List (List Int)) : Prop :=
  ∃ vs, w.ownsRow 0 39 1 (.slice a n c) n vs ∧ (∀ k, (Value.slice a n c).ownBlock = some k → G k) ∧ RowsO G w vs L
section
variable {F G G2 : Nat → Prop} {w w' : World} {vs us : List Value} {L M : List (List Int)} {a : Option Addr} {n c : Nat}
theorem RowsO.fr (h : RowsO G w vs L) (hf : Fr F w w') (hd : ∀ k, G k → ¬ F k) : RowsO G w' vs L :=
  ⟨h.1, fun i x hx => by obtain ⟨v, e1, e2, e3, e4⟩ := h.2.1 i x hx; exact ⟨v, e1, own_fr e2 hf (fun k e => hd k (e3 k e)), e3, e4⟩, h.2.2⟩
theorem RowsO.mono (h : RowsO G w vs L) (hg : ∀ k, k < w.heap.size → G k → G2 k) : RowsO G2 w vs L :=
  ⟨h.1, fun i x hx => by obtain ⟨v, e1, e2, e3, e4⟩ := h.2.1 i x hx; exact ⟨v, e1, e2, fun k e => hg k (e2.lt k e).2 (e3 k e), e4⟩, h.2.2⟩
theorem RowsO.nil : RowsO G w [] [] := ⟨rfl, fun i x h => by simp at h, fun i j vi vj _ h => by simp at h⟩
theorem RowsO.append (h : RowsO G w vs L) (k : RowsO G2 w us M) (hd : ∀ x, G x → ¬ G2 x) : RowsO (fun x => G x ∨ G2 x) w (vs ++ us) (L ++ M) := by
  have hl := h.1
  have kl := k.1
  refine ⟨by simp [hl, kl], fun i x hx => ?_, fun i j vi vj hij e1 e2 b eb => ?_⟩
  · by_cases hi : i < L.length
    · rw [List.getElem?_append_left hi] at hx
      obtain ⟨v, e1, e2, e3, e4⟩ := h.2.1 i x hx
      exact ⟨v, by rw [List.getElem?_append_left (by omega)]; exact e1, e2, fun b e => .inl (e3 b e), e4⟩
    · rw [List.getElem?_append_right (by omega)] at hx
      obtain ⟨v, e1, e2, e3, e4⟩ := k.2.1 _ x hx
      exact ⟨v, by rw [List.getElem?_append_right (by omega), hl]; exact e1, e2, fun b e => .inr (e3 b e), e4⟩
  · have hj := (List.getElem?_eq_some_iff.1 e2).1
    rw [List.length_append] at hj
    by_cases hi : i < vs.length
    · rw [List.getElem?_append_left hi] at e1
      obtain ⟨v, f1, f2, f3, f4⟩ := h.2.1 i _ (List.getElem?_eq_getElem (l := L) (i := i) (by omega))
      rw [e1] at f1
      cases f1
      by_cases hj2 : j < vs.length
      · rw [List.getElem?_append_left hj2] at e2
        exact h.2.2 i j vi vj hij e1 e2 b eb
      · rw [List.getElem?_append_right (by omega)] at e2
        obtain ⟨u, g1, g2, g3, g4⟩ := k.2.1 (j - vs.length) _ (List.getElem?_eq_getElem (l := M) (i := j - vs.length) (by omega))
        rw [e2] at g1
        cases g1
        exact fun e => hd b (f3 b eb) (g3 b e)
    · rw [List.getElem?_append_right (by omega)] at e1 e2
      exact k.2.2 (i - vs.length) (j - vs.length) vi vj (by omega) e1 e2 b eb
theorem RowsO.drop (h : RowsO G w vs L) (m : Nat) : RowsO G w (vs.drop m) (L.drop m) := by
  refine ⟨by simp [h.1], fun i x hx => ?_, fun i j vi vj hij e1 e2 => ?_⟩
  · rw [List.getElem?_drop] at hx
    obtain ⟨v, e1, e2⟩ := h.2.1 _ x hx
    exact ⟨v, by rw [List.getElem?_drop]; exact e1, e2⟩
  · rw [List.getElem?_drop] at e1 e2
    exact h.2.2 _ _ vi vj (by omega) e1 e2
theorem RowsO.at_ (h : RowsO G w vs L) : RowsAt G w vs L := ⟨h.1, fun i x hx => by
  obtain ⟨v, e1, e2, e3, e4⟩ := h.2.1 i x hx
  obtain ⟨ra, rc, rfl⟩ := own_slice e2
  exact ⟨ra, rc, e1, own_rd e2 e4, InF.own e2 e3⟩⟩
theorem OwnL.len (h : OwnL G w a n c L) : L.length = n := by
  obtain ⟨vs, h1, h2, h3⟩ := h
  have := h1.1
  have := h3.1
  omega
theorem OwnL.fr (h : OwnL G w a n c L) (hf : Fr F w w') (hd : ∀ k, G k → ¬ F k) : OwnL G w' a n c L := by
  obtain ⟨vs, h1, h2, h3⟩ := h
  exact ⟨vs, own_fr h1 hf (fun k e => hd k (h2 k e)), h2, h3.fr hf hd⟩
theorem OwnL.below (h : OwnL G w a n c L) (hb : Below w.heap.size w w') : OwnL G w' a n c L := h.fr (Fr.of_below (fun _ => False) hb) (fun _ _ h => h)
theorem OwnL.mono (h : OwnL G w a n c L) (hg : ∀ k, k < w.heap.size → G k → G2 k) : OwnL G2 w a n c L := by
  obtain ⟨vs, h1, h2, h3⟩ := h
  exact ⟨vs, h1, fun k e => hg k (h1.lt k e).2 (h2 k e), h3.mono hg⟩
theorem OwnL.rdl (h : OwnL G w a n c L) : RdL G w a n c L := by
  obtain ⟨vs, h1, h2, h3⟩ := h
  exact ⟨vs, Rc.own h1, InF.own h1 h2, h3.at_⟩
theorem OwnL.nil : OwnL G w none 0 0 [] := ⟨[], World.ownsRow_nil _ _ _ _, fun k e => (by cases e), RowsO.nil⟩
theorem FreshL.own {B : Nat} (h : FreshL B w a n c L) (hw : ∀ x ∈ L, ∀ y ∈ x, (Lit.int .i32 y).wf = true) : OwnL (fun k => B ≤ k ∧ k < w.heap.size) w a n c L := by
  obtain ⟨vs, h1, h2, h3, h4⟩ := h
  refine ⟨vs, own_mono h1 (Nat.zero_le _), fun k e => h1.lt k e, h2, fun i x hx => ?_, h4⟩
  obtain ⟨v, e1, e2⟩ := h3 i x hx
  exact ⟨v, e1, own_mono e2 (Nat.zero_le _), fun k e => e2.lt k e, hw x (List.mem_of_getElem? hx)⟩
theorem OwnL.small (h : OwnL G w a n c L) : n ≤ 9223372036854775807 := h.rdl.small
end
/-- the program's registers in memory, opened -/
structure GsO (P : Nat → Prop) (w : World) (bx : Nat) (H : Nat → Rg) (last : Nat) (V : Nat → Option Addr × Nat) (G : Nat → Nat → Prop) : Prop where
  row : ∃ cs, w.heap[bx]? = some (.cells cs 59 (0, 0)) ∧ cs.size = 75
  lc : w.cell? ⟨bx, 74, none⟩ = some (.int .i64 (last : Nat))
  ok : OkH H last
  kc : ∀ i, i < 37 → w.cell? ⟨bx, i * 2, none⟩ = some (.int .i64 (H i).k)
  vc : ∀ i, i < 37 → w.cell? ⟨bx, i * 2 + 1, none⟩ = some (.slice (V i).1 (H i).L.length (V i).2)
  own : ∀ i, i < 37 → OwnL (G i) w (V i).1 (H i).L.length (V i).2 (H i).L
  ap : ∀ i j, i < 37 → j < 37 → i ≠ j → ∀ k, G i k → ¬ G j k
  gp : ∀ i, i < 37 → ∀ k, G i k → P k ∧ k ≠ bx
  box : P bx
  lt : ∀ k, P k → k < w.heap.size
def GSt (P : Nat → Prop) (w : World) (bx : Nat) (s : List Nm) : Prop := ∃ H last V G, GsO P w bx H last V G ∧ s = allH H last
/-- what a call leaves -/
def AfG (P : Nat → Prop) (w w' : World) (bx : Nat) (s : List Nm) : Prop := ∃ P', GSt P' w' bx s ∧ Fr P w w' ∧ ∀ k, P' k → P k ∨ w.heap.size ≤ k
section
variable {P F : Nat → Prop} {w w' : World} {bx : Nat} {H : Nat → Rg} {last : Nat} {V : Nat → Option Addr × Nat} {G : Nat → Nat → Prop} {s : List Nm}
theorem cell_block {w w' : World} {b i : Nat} (h : w'.heap[b]? = w.heap[b]?) : w'.cell? ⟨b, i, none⟩ = w.cell? ⟨b, i, none⟩ := World.cell?_of_block (a := ⟨b, i, none⟩) h
theorem GsO.fr (h : GsO P w bx H last V G) (hf : Fr F w w') (hd : ∀ k, P k → ¬ F k) : GsO P w' bx H last V G := by
  have hb := hf.block bx (h.lt bx h.box) (hd bx h.box)
  obtain ⟨cs, r1, r2⟩ := h.row
  exact ⟨⟨cs, hb.trans r1, r2⟩, (cell_block hb).trans h.lc, h.ok, fun i hi => (cell_block hb).trans (h.kc i hi), fun i hi => (cell_block hb).trans (h.vc i hi), fun i hi => (h.own i hi).fr hf (fun k hk => hd k (h.gp i hi k hk).1), h.ap, h.gp, h.box, fun k hk => Nat.lt_of_lt_of_le (h.lt k hk) hf.size⟩
theorem GsO.below (h : GsO P w bx H last V G) (hb : Below w.heap.size w w') : GsO P w' bx H last V G := h.fr (Fr.of_below (fun _ => False) hb) (fun _ _ h => h)
theorem GSt.fr (h : GSt P w bx s) (hf : Fr F w w') (hd : ∀ k, P k → ¬ F k) : GSt P w' bx s := by
  obtain ⟨H, last, V, G, h1, h2⟩ := h
  exact ⟨H, last, V, G, h1.fr hf hd, h2⟩
theorem GSt.below (h : GSt P w bx s) (hb : Below w.heap.size w w') : GSt P w' bx s := h.fr (Fr.of_below (fun _ => False) hb) (fun _ _ h => h)
theorem GSt.lt (h : GSt P w bx s) : ∀ k, P k → k < w.heap.size := by obtain ⟨_, _, _, _, h, _⟩ := h; exact h.lt
theorem GSt.box (h : GSt P w bx s) : P bx := by obtain ⟨_, _, _, _, h, _⟩ := h; exact h.box
theorem GSt.ok (h : GSt P w bx s) : OkS s := by obtain ⟨_, _, _, _, h, rfl⟩ := h; exact all_ok h.ok
theorem GSt.names (h : GSt P w bx s) : OkN s := by obtain ⟨_, _, _, _, h, rfl⟩ := h; exact all_names _ _
theorem GSt.same (h : GSt P w bx s) (hb : Below w.heap.size w w') : AfG P w w' bx s := ⟨P, h.below hb, Fr.of_below _ hb, fun k hk => .inl hk⟩
theorem GsO.frozen (h : GsO P w bx H last V G) (i : Nat) : w.frozen? ⟨bx, i, none⟩ = false := by
  obtain ⟨cs, r1, r2⟩ := h.row
  exact frozen_row r1 i
/-- a register holds something now: W is where what it holds lies ready, the three stores are still to come -/
theorem GsO.put {W : World} {i : Nat} {r : Rg} {a : Option Addr} {c : Nat} (h : GsO P w bx H last V G) (hi : i < 37) (hf : Fr (G i) w W) (hr : OwnL (fun k => G i k ∨ w.heap.size ≤ k) W a r.L.length c r.L) (hok : OkH (updH H i r) i) :
    GSt (fun k => P k ∨ (w.heap.size ≤ k ∧ k < W.heap.size)) (((W.setCell ⟨bx, i * 2, none⟩ (.int .i64 r.k)).setCell ⟨bx, i * 2 + 1, none⟩ (.slice a r.L.length c)).setCell ⟨bx, 74, none⟩ (.int .i64 (i : Nat))) bx (allH (updH H i r) i) := by
  obtain ⟨cs, r1, r2⟩ := h.row
  have hbx := h.lt bx h.box
  have hnG : ¬ G i bx := fun e => (h.gp i hi bx e).2 rfl
  have hbW := hf.block bx hbx hnG
  have rW := hbW.trans r1
  have hs := hf.size
  generalize hW' : (((W.setCell ⟨bx, i * 2, none⟩ (.int .i64 r.k)).setCell ⟨bx, i * 2 + 1, none⟩ (.slice a r.L.length c)).setCell ⟨bx, 74, none⟩ (.int .i64 (i : Nat))) = W'
  have row : W'.heap[bx]? = some (.cells (((cs.setIfInBounds (i * 2) (.int .i64 r.k)).setIfInBounds (i * 2 + 1) (.slice a r.L.length c)).setIfInBounds 74 (.int .i64 (i : Nat))) 59 (0, 0)) := by
    rw [← hW']
    exact heap_set (heap_set (heap_set rW _ _) _ _) _ _
  have fset : Fr (fun x => x = bx) W W' := by
    rw [← hW']
    exact (((Fr.refl (fun x => x = bx) W).setCell ⟨bx, i * 2, none⟩ _ (fun _ => rfl)).setCell ⟨bx, i * 2 + 1, none⟩ _ (fun _ => rfl)).setCell ⟨bx, 74, none⟩ _ (fun _ => rfl)
  have cell : ∀ j, W'.cell? ⟨bx, j, none⟩ = (((cs.setIfInBounds (i * 2) (.int .i64 r.k)).setIfInBounds (i * 2 + 1) (.slice a r.L.length c)).setIfInBounds 74 (.int .i64 (i : Nat)))[j]? := fun j => cell_row row j
  have old : ∀ j, w.cell? ⟨bx, j, none⟩ = cs[j]? := fun j => cell_row r1 j
  refine ⟨updH H i r, i, fun j => if j = i then (a, c) else V j, fun j => if j = i then (fun k => (G i k ∨ w.heap.size ≤ k) ∧ k < W.heap.size) else G j, ?_, rfl⟩
  refine ⟨⟨_, row, by simp [r2]⟩, ?_, hok, fun j hj => ?_, fun j hj => ?_, fun j hj => ?_, fun j l hj hl hne k hk => ?_, fun j hj k hk => ?_, .inl h.box, fun k hk => ?_⟩
  · rw [cell, Array.getElem?_setIfInBounds_self_of_lt (by simp [r2])]
  · rw [cell, Array.getElem?_setIfInBounds_ne (by omega), Array.getElem?_setIfInBounds_ne (by omega)]
    unfold updH
    by_cases e : j = i
    · subst e
      rw [if_pos rfl, Array.getElem?_setIfInBounds_self_of_lt (by omega)]
    · rw [if_neg e, Array.getElem?_setIfInBounds_ne (by omega), ← old]
      exact h.kc j hj
  · rw [cell, Array.getElem?_setIfInBounds_ne (by omega)]
    unfold updH
    by_cases e : j = i
    · subst e
      simp only [if_pos rfl]
      rw [Array.getElem?_setIfInBounds_self_of_lt (by simp; omega)]
      simp
    · simp only [if_neg e]
      rw [Array.getElem?_setIfInBounds_ne (by omega), Array.getElem?_setIfInBounds_ne (by omega), ← old]
      exact h.vc j hj
  · unfold updH
    by_cases e : j = i
    · subst e
      simp only [if_pos rfl]
      have h2 : OwnL (fun k => (G j k ∨ w.heap.size ≤ k) ∧ k < W.heap.size) W a r.L.length c r.L := hr.mono (fun k h1 h2 => ⟨h2, h1⟩)
      simpa using h2.fr fset (fun k hk e => by
        subst e
        rcases hk.1 with q | q
        · exact hnG q
        · omega)
    · simp only [if_neg e]
      refine ((h.own j hj).fr hf (fun k hk => h.ap j i hj hi e k hk)).fr fset (fun k hk e => ?_)
      exact (h.gp j hj k hk).2 e
  · by_cases e1 : j = i <;> by_cases e2 : l = i
    · omega
    · simp only [e1, if_true, if_neg e2] at hk ⊢
      intro hk2
      rcases hk.1 with q | q
      · exact h.ap i l hi hl (by omega) k q hk2
      · have := h.lt k (h.gp l hl k hk2).1
        omega
    · simp only [e2, if_true, if_neg e1] at hk ⊢
      intro hk2
      rcases hk2.1 with q | q
      · exact h.ap j i hj hi e1 k hk q
      · have := h.lt k (h.gp j hj k hk).1
        omega
    · simp only [if_neg e1, if_neg e2] at hk ⊢
      exact h.ap j l hj hl hne k hk
  · by_cases e1 : j = i
    · simp only [e1, if_true] at hk
      rcases hk.1 with q | q
      · exact ⟨.inl (h.gp i hi k q).1, (h.gp i hi k q).2⟩
      · exact ⟨.inr ⟨q, hk.2⟩, by omega⟩
    · simp only [if_neg e1] at hk
      exact ⟨.inl (h.gp j hj k hk).1, (h.gp j hj k hk).2⟩
  · have h9 := fset.size
    rcases hk with q | q
    · have := h.lt k q
      omega
    · omega
/-- lines are deleted: the registers 1 to 9 shift, and 1 holds r now -/
theorem GsO.shift {N0 : Nat → Prop} {W : World} {cs cs1 : Array Value} {r : Rg} {a : Option Addr} {c : Nat} (h : GsO P w bx H last V G) (r0 : w.heap[bx]? = some (.cells cs 59 (0, 0))) (hf : Fr (fun k => k = bx) w W) (r1 : W.heap[bx]? = some (.cells cs1 59 (0, 0))) (hcs : cs1.size = 75)
    (hmv : ∀ j, 6 ≤ j → j < 22 → cs1[j]? = cs[j - 2]?) (hst : ∀ j, j < 6 ∨ 22 ≤ j → cs1[j]? = cs[j]?)
    (hN : ∀ k, N0 k → ¬ P k) (hr : OwnL N0 W a r.L.length c r.L) (hok : OkH (updH (shH H) 2 r) 2) :
    ∃ P', GSt P' (((W.setCell ⟨bx, 4, none⟩ (.int .i64 r.k)).setCell ⟨bx, 5, none⟩ (.slice a r.L.length c)).setCell ⟨bx, 74, none⟩ (.int .i64 2)) bx (allH (updH (shH H) 2 r) 2) ∧ ∀ k, P' k → P k ∨ (N0 k ∧ k < W.heap.size) := by
  have hbx := h.lt bx h.box
  have hs := hf.size
  generalize hW' : (((W.setCell ⟨bx, 4, none⟩ (.int .i64 r.k)).setCell ⟨bx, 5, none⟩ (.slice a r.L.length c)).setCell ⟨bx, 74, none⟩ (.int .i64 2)) = W'
  have row : W'.heap[bx]? = some (.cells (((cs1.setIfInBounds 4 (.int .i64 r.k)).setIfInBounds 5 (.slice a r.L.length c)).setIfInBounds 74 (.int .i64 2)) 59 (0, 0)) := by
    rw [← hW']
    exact heap_set (heap_set (heap_set r1 _ _) _ _) _ _
  have fset : Fr (fun x => x = bx) W W' := by
    rw [← hW']
    exact (((Fr.refl (fun x => x = bx) W).setCell ⟨bx, 4, none⟩ _ (fun _ => rfl)).setCell ⟨bx, 5, none⟩ _ (fun _ => rfl)).setCell ⟨bx, 74, none⟩ _ (fun _ => rfl)
  have cell : ∀ j, W'.cell? ⟨bx, j, none⟩ = (((cs1.setIfInBounds 4 (.int .i64 r.k)).setIfInBounds 5 (.slice a r.L.length c)).setIfInBounds 74 (.int .i64 2))[j]? := fun j => cell_row row j
  have old : ∀ j, w.cell? ⟨bx, j, none⟩ = cs[j]? := fun j => cell_row r0 j
  let N : Nat → Prop := fun k => N0 k ∧ k < W.heap.size
  refine ⟨fun k => P k ∨ N k, ⟨updH (shH H) 2 r, 2, fun j => if j = 2 then (a, c) else if 3 ≤ j ∧ j ≤ 10 then V (j - 1) else V j, fun j => if j = 2 then N else if 3 ≤ j ∧ j ≤ 10 then G (j - 1) else if j = 10 then G 10 else G j, ?_, rfl⟩, fun k hk => hk⟩
  have sub : ∀ j, j < 37 → j ≠ 2 → ∃ l, l < 37 ∧ (j ≤ 1 → l = j) ∧ (3 ≤ j ∧ j ≤ 10 → l = j - 1) ∧ (10 < j → l = j) := fun j hj h2 => by
    by_cases e : 3 ≤ j ∧ j ≤ 10
    · exact ⟨j - 1, by omega, by omega, fun _ => rfl, by omega⟩
    · exact ⟨j, hj, fun _ => rfl, fun e2 => absurd e2 e, fun _ => rfl⟩
  refine ⟨⟨_, row, by simp [hcs]⟩, ?_, hok, fun j hj => ?_, fun j hj => ?_, fun j hj => ?_, fun j l hj hl hne k hk => ?_, fun j hj k hk => ?_, .inl h.box, fun k hk => ?_⟩
  · rw [cell, Array.getElem?_setIfInBounds_self_of_lt (by simp [hcs])]; rfl
  · rw [cell, Array.getElem?_setIfInBounds_ne (by omega), Array.getElem?_setIfInBounds_ne (by omega)]
    unfold updH
    by_cases e : j = 2
    · subst e
      rw [if_pos rfl, Array.getElem?_setIfInBounds_self_of_lt (by omega)]
    · rw [if_neg e, Array.getElem?_setIfInBounds_ne (by omega)]
      unfold shH
      by_cases e2 : 3 ≤ j ∧ j ≤ 10
      · rw [if_pos e2, hmv _ (by omega) (by omega), ← old, show j * 2 - 2 = (j - 1) * 2 by omega]
        exact h.kc (j - 1) (by omega)
      · rw [if_neg e2, hst _ (by omega), ← old]
        exact h.kc j hj
  · rw [cell, Array.getElem?_setIfInBounds_ne (by omega)]
    unfold updH
    by_cases e : j = 2
    · subst e
      simp only [if_pos rfl]
      rw [Array.getElem?_setIfInBounds_self_of_lt (by simp; omega)]
      simp
    · simp only [if_neg e]
      rw [Array.getElem?_setIfInBounds_ne (by omega), Array.getElem?_setIfInBounds_ne (by omega)]
      unfold shH
      by_cases e2 : 3 ≤ j ∧ j ≤ 10
      · simp only [if_pos e2]
        rw [hmv _ (by omega) (by omega), ← old, show j * 2 + 1 - 2 = (j - 1) * 2 + 1 by omega]
        exact h.vc (j - 1) (by omega)
      · simp only [if_neg e2]
        rw [hst _ (by omega), ← old]
        exact h.vc j hj
  · unfold updH
    by_cases e : j = 2
    · subst e
      simp only [if_pos rfl]
      have h2 : OwnL N W a r.L.length c r.L := hr.mono (fun k h1 h2 => ⟨h2, h1⟩)
      simpa using h2.fr fset (fun k hk e => hN k hk.1 (by rw [e]; exact h.box))
    · simp only [if_neg e]
      unfold shH
      by_cases e2 : 3 ≤ j ∧ j ≤ 10
      · simp only [if_pos e2]
        exact ((h.own (j - 1) (by omega)).fr hf (fun k hk e => (h.gp (j - 1) (by omega) k hk).2 e)).fr fset (fun k hk e => (h.gp (j - 1) (by omega) k hk).2 e)
      · have e3 : ¬ j = 10 := by omega
        simp only [if_neg e2, if_neg e3]
        exact ((h.own j hj).fr hf (fun k hk e => (h.gp j hj k hk).2 e)).fr fset (fun k hk e => (h.gp j hj k hk).2 e)
  · by_cases e1 : j = 2 <;> by_cases e2 : l = 2
    · omega
    · simp only [e1, if_true, if_neg e2] at hk ⊢
      intro hk2
      by_cases f2 : 3 ≤ l ∧ l ≤ 10
      · simp only [if_pos f2] at hk2
        exact hN k hk.1 (h.gp (l - 1) (by omega) k hk2).1
      · simp only [if_neg f2, if_neg (show ¬ l = 10 by omega)] at hk2
        exact hN k hk.1 (h.gp l hl k hk2).1
    · simp only [e2, if_true, if_neg e1] at hk ⊢
      intro hk2
      by_cases f2 : 3 ≤ j ∧ j ≤ 10
      · simp only [if_pos f2] at hk
        exact hN k hk2.1 (h.gp (j - 1) (by omega) k hk).1
      · simp only [if_neg f2, if_neg (show ¬ j = 10 by omega)] at hk
        exact hN k hk2.1 (h.gp j hj k hk).1
    · simp only [if_neg e1, if_neg e2] at hk ⊢
      by_cases f1 : 3 ≤ j ∧ j ≤ 10 <;> by_cases f2 : 3 ≤ l ∧ l ≤ 10
      · simp only [if_pos f1, if_pos f2] at hk ⊢
        exact h.ap (j - 1) (l - 1) (by omega) (by omega) (by omega) k hk
      · simp only [if_pos f1, if_neg f2, if_neg (show ¬ l = 10 by omega)] at hk ⊢
        exact h.ap (j - 1) l (by omega) hl (by omega) k hk
      · simp only [if_neg f1, if_pos f2, if_neg (show ¬ j = 10 by omega)] at hk ⊢
        exact h.ap j (l - 1) hj (by omega) (by omega) k hk
      · simp only [if_neg f1, if_neg f2, if_neg (show ¬ j = 10 by omega), if_neg (show ¬ l = 10 by omega)] at hk ⊢
        exact h.ap j l hj hl hne k hk
  · by_cases e1 : j = 2
    · simp only [e1, if_true] at hk
      exact ⟨.inr hk, fun e => hN k hk.1 (by rw [e]; exact h.box)⟩
    · simp only [if_neg e1] at hk
      by_cases f1 : 3 ≤ j ∧ j ≤ 10
      · simp only [if_pos f1] at hk
        exact ⟨.inl (h.gp (j - 1) (by omega) k hk).1, (h.gp (j - 1) (by omega) k hk).2⟩
      · simp only [if_neg f1, if_neg (show ¬ j = 10 by omega)] at hk
        exact ⟨.inl (h.gp j hj k hk).1, (h.gp j hj k hk).2⟩
  · have h9 := fset.size
    rcases hk with q | q
    · have := h.lt k q
      omega
    · exact Nat.lt_of_lt_of_le q.2 h9
end
end Go.Proofs.Ytleidcegbfnmkaa.U
