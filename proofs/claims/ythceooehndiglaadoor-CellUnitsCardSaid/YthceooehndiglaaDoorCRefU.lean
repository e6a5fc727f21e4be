/-
  What the document's Units gathers: words and steps. No walk here.
-/
import Derived.Test.YthceooehndiglaaDoorCUnits
import Derived.Test.YthceooehndiglaaDoorCLaws1
namespace Go.Proofs.YthceooehndiglaaDoor.U
open Go.RowKit
set_option linter.unusedVariables false
set_option linter.unusedSimpArgs false

/-- the Text of a unit lies in a row of the call's own, from block B on -/
def OwnT (W : World) (B : Nat) (x : UV) : Prop := W.ownsRow B 21 1 x.val x.tl (x.tx.map (Value.int .i32))
/-- all texts: the last one's row lies apart from those ahead -/
def TX (W : World) (n0 : Nat) (vs : List UV) : Prop := ∃ mB, n0 ≤ mB ∧ mB ≤ W.heap.size ∧ ∀ p y, vs = p ++ [y] → OwnT W mB y ∧ ∀ x ∈ p, OwnT W n0 x ∧ ∀ k, x.val.ownBlock = some k → k < mB
def RG (line : List Int) (tab n0 i : Nat) (W : World) (v : Value) (vs : List UV) : Prop :=
  W.ownsRow n0 39 5 v vs.length (flat vs) ∧ vs.map UV.u = unitsN line tab i ∧ (∀ x ∈ vs, x.tx = textM line x.u) ∧ TX W n0 vs

theorem unitsN_len {line : List Int} {tab : Nat} : ∀ i, (unitsN line tab i).length ≤ i
  | 0 => Nat.le_refl _
  | i + 1 => by
    have ih := unitsN_len (line := line) (tab := tab) i
    rw [unitsN_succ]
    by_cases hj : joins line (unitsN line tab i) i = true
    · rcases snoc_cases (unitsN line tab i) with e | ⟨p, x, e⟩
      · rw [e] at hj; simp [joins, openU_nil] at hj
      · rw [e] at hj ih ⊢
        rw [stepU_join hj]
        simp only [List.length_append, List.length_cons, List.length_nil] at ih ⊢
        omega
    · rw [stepU_new (by simpa using hj)]
      simp only [List.length_append, List.length_cons, List.length_nil]
      omega

theorem RG.len {line tab n0 i W v vs} (h : RG line tab n0 i W v vs) : vs.length = (unitsN line tab i).length := by rw [← h.2.1]; simp
theorem RG.len_le {line tab n0 i W v vs} (h : RG line tab n0 i W v vs) : vs.length ≤ i := by rw [h.len]; exact unitsN_len i
theorem RG.start {line tab n0 W} (h : n0 ≤ W.heap.size) : RG line tab n0 0 W (.slice none 0 0) [] :=
  ⟨World.ownsRow_nil _ _ _ _, rfl, by simp, n0, Nat.le_refl _, h, fun p y e => by simp at e⟩
theorem TX.all {W n0 vs} (h : TX W n0 vs) : ∀ x ∈ vs, OwnT W n0 x := by
  intro x hx
  obtain ⟨mB, h1, h2, h3⟩ := h
  rcases snoc_cases vs with rfl | ⟨p, y, rfl⟩
  · simp at hx
  · obtain ⟨k1, k2⟩ := h3 p y rfl
    rcases List.mem_append.1 hx with hx | hx
    · exact (k2 x hx).1
    · simp only [List.mem_singleton] at hx; subst hx; exact own_mono k1 h1
theorem RG.below {line tab n0 i W W' v vs} (h : RG line tab n0 i W v vs) (hb : Below W.heap.size W W') : RG line tab n0 i W' v vs := by
  obtain ⟨h1, h2, h3, mB, k1, k2, k3⟩ := h
  refine ⟨own_block h1 (fun k e => hb.block k (h1.lt k e).2), h2, h3, mB, k1, Nat.le_trans k2 hb.size, fun p y e => ?_⟩
  obtain ⟨j1, j2⟩ := k3 p y e
  exact ⟨own_block j1 (fun k e => hb.block k (World.ownsRow.lt j1 k e).2), fun x hx => ⟨own_block (j2 x hx).1 (fun k e => hb.block k (World.ownsRow.lt (j2 x hx).1 k e).2), (j2 x hx).2⟩⟩

/-- A new unit behind. -/
theorem RG.push {line tab n0 i W X tmp W' v v' vs y mB} (h : RG line tab n0 i W v vs) (hj : joins line (unitsN line tab i) i = false) (hb : Below W.heap.size W X) (hn0 : n0 ≤ W.heap.size)
    (hyu : y.u = newU line tab (unitsN line tab i) i) (hyt : y.tx = textM line y.u) (hm : W.heap.size ≤ mB) (hm2 : mB ≤ X.heap.size) (hy : OwnT X mB y)
    (hg : (X.alloc tmp).grownBy W' v.ownBlock) (hown : W'.ownsRow n0 39 5 v' (vs.length + 1) (flat vs ++ y.cells)) : RG line tab n0 (i + 1) W' v' (vs ++ [y]) := by
  have hX := h.below hb
  have hrow := hX.1
  have all := TX.all h.2.2.2
  have kept : ∀ {B : Nat} {x : UV}, OwnT X B x → OwnT W' B x := fun hx => own_block hx (fun k e =>
    (hg.block k (by have := (World.ownsRow.lt hx k e).2; simp; omega) (rows_apart hx hrow (by decide) e)).trans (Below.heap_alloc _ _ _ (World.ownsRow.lt hx k e).2))
  refine ⟨by rw [List.length_append, flat_snoc]; exact hown, ?_, ?_, mB, by omega, ?_, ?_⟩
  · rw [unitsN_succ, stepU_new hj, List.map_append, h.2.1, ← hyu]; rfl
  · intro x hx
    rcases List.mem_append.1 hx with hx | hx
    · exact h.2.2.1 x hx
    · simp only [List.mem_singleton] at hx; subst hx; exact hyt
  · have := hg.size
    simp at this
    omega
  · intro p z e
    obtain ⟨rfl, e'⟩ := List.append_inj' e rfl
    obtain rfl : y = z := by simpa using e'
    refine ⟨kept hy, fun x hx => ⟨kept (own_block (all x hx) (fun k e => hb.block k (World.ownsRow.lt (all x hx) k e).2)), fun k e => ?_⟩⟩
    have := (World.ownsRow.lt (all x hx) k e).2
    omega

/-- What is owned, one of its cells written. -/
theorem own_set {w : World} {B : Nat} {e : TypeId} {s g n cap m : Nat} {xs : List Value} (h : w.ownsRow B e s (.slice (some ⟨g, 0, none⟩) n cap) m xs) {j : Nat} (hj : j < xs.length) (u : Value) :
    (w.setCell ⟨g, j, none⟩ u).ownsRow B e s (.slice (some ⟨g, 0, none⟩) n cap) m (xs.set j u) := by
  obtain ⟨h1, h2⟩ := h
  rcases h2 with ⟨hv, _⟩ | ⟨g', c, cur, hv, hB, hh, hnc, hcm, hcs, hx⟩
  · cases hv
  · simp only [Value.slice.injEq, Option.some.injEq, Addr.mk.injEq, and_true] at hv
    obtain ⟨rfl, rfl, rfl⟩ := hv
    refine ⟨by simpa using h1, .inr ⟨g, cap, cur.setIfInBounds j u, rfl, hB, set_at hh j u, hnc, hcm, by simpa using hcs, ?_⟩⟩
    rw [Array.toList_setIfInBounds, List.take_set, hx]

theorem flat_set (p : List UV) (y : UV) (j : Nat) (u : Value) (hj : j < 5) : (flat (p ++ [y])).set (p.length * 5 + j) u = flat p ++ y.cells.set j u := by
  rw [flat_snoc, List.set_append_right _ _ (by rw [flat_len]; omega), flat_len]
  congr 2
  omega
theorem flat_get (p : List UV) (y : UV) (j : Nat) (hj : j < 5) : (flat (p ++ [y]))[p.length * 5 + j]? = y.cells[j]? := by
  rw [flat_snoc, List.getElem?_append_right (by rw [flat_len]; omega), flat_len]
  congr 1
  omega
theorem own_cell {w : World} {B : Nat} {e : TypeId} {s g n cap m : Nat} {xs : List Value} (h : w.ownsRow B e s (.slice (some ⟨g, 0, none⟩) n cap) m xs) {j : Nat} {u : Value} (hu : xs[j]? = some u) : w.cell? ⟨g, j, none⟩ = some u ∧ w.frozen? ⟨g, j, none⟩ = false := by
  obtain ⟨h1, h2⟩ := h
  rcases h2 with ⟨hv, _⟩ | ⟨g', c, cur, hv, hB, hh, hnc, hcm, hcs, hx⟩
  · cases hv
  · simp only [Value.slice.injEq, Option.some.injEq, Addr.mk.injEq, and_true] at hv
    obtain ⟨rfl, rfl, rfl⟩ := hv
    have hj : j < xs.length := (List.getElem?_eq_some_iff.1 hu).1
    refine ⟨?_, by simp [World.frozen?, hh]⟩
    rw [cell_of_row _ _ _ _ _ _ hh, ← Array.getElem?_toList, ← hu, ← hx, List.getElem?_take, if_pos (by rw [← hx] at hj; simp at hj; omega)]

/-- what is shown of a new unit -/
theorem text_zero_new {line : List Int} {i c d : Nat} (h9 : rn line i ≠ 9) (hz : zeroB (rn line i) = true) (hi : i < line.length) : textM line ⟨i, i + 1, c, d⟩ = [32, rn line i] := by
  unfold textM
  simp only
  rw [if_neg h9, if_pos hz]
  congr 1
  rw [List.drop_take, show i + 1 - i = 1 from by omega, rn, List.getD_eq_getElem?_getD, List.getElem?_eq_getElem hi, List.drop_eq_getElem_cons hi]
  rfl
theorem text_rest_new {line : List Int} {i c d : Nat} (h9 : rn line i ≠ 9) (hz : zeroB (rn line i) = false) : textM line ⟨i, i + 1, c, d⟩ = showM (rn line i) := by
  unfold textM
  simp only
  rw [if_neg h9, if_neg (by simp [hz]), List.drop_eq_nil_of_le (by simp; omega)]
  simp
theorem text_tab_new {line : List Int} {i c d : Nat} (h9 : rn line i = 9) : textM line ⟨i, i + 1, c, d⟩ = List.replicate d 32 := by
  unfold textM
  simp only
  rw [if_pos h9]
/-- .. of a longer one -/
theorem text_join {line : List Int} {u : Un} {i : Nat} (h9 : rn line u.fr ≠ 9) (h1 : u.fr < u.to) (hi : i < line.length) (hto : u.to = i) : textM line { u with to := i + 1 } = textM line u ++ [rn line i] := by
  unfold textM
  simp only
  rw [if_neg h9, if_neg h9]
  have key : ∀ m, m ≤ i → (line.take (i + 1)).drop m = (line.take u.to).drop m ++ [rn line i] := fun m hm => by
    rw [hto, List.take_add_one, List.drop_append_of_le_length (by simp; omega), rn, List.getD_eq_getElem?_getD, List.getElem?_eq_getElem hi]
    simp
  split
  · rw [key u.fr (by omega)]; simp
  · rw [key (u.fr + 1) (by omega), List.append_assoc]

theorem textM_len {line : List Int} {tab : Nat} (ht : 1 ≤ tab ∧ tab ≤ 64) {u : Un} (h1 : u.to ≤ line.length) (h2 : u.wd = width1 line tab u.col u.fr) : (textM line u).length ≤ line.length + 64 := by
  have hw : u.wd ≤ 64 := by rw [h2]; exact width1_le ht
  have hs : (showM (rn line u.fr)).length ≤ 2 := by rw [show_len]; split <;> omega
  unfold textM
  split
  · simp; omega
  · split
    · simp; omega
    · simp; omega
theorem news_one (w : World) (x : Value) (t : TypeId) : ∀ j u, [x][j]? = some u → (w.alloc (.cells #[x] t)).cell? ((⟨w.heap.size, 0, none⟩ : Addr).add j) = some u := by
  intro j u hu
  match j, hu with
  | 0, hu =>
    simp only [List.getElem?_cons_zero, Option.some.injEq] at hu
    subst hu
    show (w.alloc (.cells #[x] t)).cell? ⟨w.heap.size, 0, none⟩ = some x
    rw [cell_of_row _ _ 0 _ t (0, 0) (heap_alloc_new w _)]
    rfl

/-- A unit goes on. -/
theorem RG.join {line tab n0 i W1 W2 W3 g n cap p y y' v' mB tmp} (h1 : W1.ownsRow n0 39 5 (.slice (some ⟨g, 0, none⟩) n cap) (p.length + 1) (flat p ++ y.cells.set 1 (.int .i64 ((i + 1 : Nat) : Int))))
    (hu : p.map UV.u ++ [y.u] = unitsN line tab i) (ht : ∀ x ∈ p, x.tx = textM line x.u) (hjn : joins line (unitsN line tab i) i = true) (hi : i < line.length)
    (hmB : n0 ≤ mB) (hy : OwnT W1 mB y) (hp : ∀ x ∈ p, OwnT W1 n0 x ∧ ∀ k, x.val.ownBlock = some k → k < mB) (hms : mB ≤ W1.heap.size)
    (hg : (W1.alloc tmp).grownBy W2 y.val.ownBlock) (hv : v' = y'.val) (hy2 : OwnT W2 mB y') (hyu : y'.u = { y.u with to := i + 1 }) (hyt : y'.tx = y.tx ++ [rn line i]) (hyx : y.tx = textM line y.u)
    (hW3 : W3 = W2.setCell ⟨g, p.length * 5 + 4, none⟩ v') : RG line tab n0 (i + 1) W3 (.slice (some ⟨g, 0, none⟩) n cap) (p ++ [y']) := by
  subst hv
  have hrow2 : W2.ownsRow n0 39 5 (.slice (some ⟨g, 0, none⟩) n cap) (p.length + 1) (flat p ++ y.cells.set 1 (.int .i64 ((i + 1 : Nat) : Int))) := own_block h1 (fun k e =>
    (hg.block k (by have := (h1.lt k e).2; simp; omega) (rows_apart h1 hy (by decide) e)).trans (Below.heap_alloc _ _ _ (h1.lt k e).2))
  have hjl : p.length * 5 + 4 < (flat p ++ y.cells.set 1 (.int .i64 ((i + 1 : Nat) : Int))).length := by simp [flat_len, UV.cells]
  have hrow3 := own_set hrow2 hjl y'.val
  have e3 : (flat p ++ y.cells.set 1 (.int .i64 ((i + 1 : Nat) : Int))).set (p.length * 5 + 4) y'.val = flat (p ++ [y']) := by
    rw [List.set_append_right _ _ (by rw [flat_len]; omega), flat_len, flat_snoc, show p.length * 5 + 4 - p.length * 5 = 4 from by omega]
    congr 1
    simp only [UV.cells, hyu, UV.val, List.set_cons_succ, List.set_cons_zero]
  rw [e3] at hrow3
  have m := marks_le (line := line) (us := p.map UV.u) (u := y.u) (i := i) (by rw [hu]; exact hjn)
  have hgd := good line tab i
  rw [← hu] at hgd
  have hy5 := hgd.each (p.map UV.u) y.u [] rfl
  have hlast : y.u.to = i := by
    have hi0 : i ≠ 0 := fun h => by have := hgd.zero h; simp at this
    obtain ⟨p', u', e, hto⟩ := hgd.last hi0
    obtain ⟨_, e'⟩ := List.append_inj' e rfl
    obtain rfl : y.u = u' := by simpa using e'
    exact hto
  have ub : ∀ {B : Nat} {x : UV}, OwnT W2 B x → OwnT W3 B x := fun hx => by
    refine own_block hx (fun k e => ?_)
    rw [hW3]
    refine Below.heap_setCell _ _ _ _ (fun e2 => ?_)
    have := rows_apart hx hrow2 (by decide) e
    simp only [Value.ownBlock] at this
    exact this (by rw [e2])
  refine ⟨by rw [hW3, List.length_append]; exact hrow3, ?_, ?_, mB, hmB, ?_, ?_⟩
  · rw [unitsN_succ, ← hu, stepU_join (by rw [hu]; exact hjn), List.map_append, List.map_cons, List.map_nil, hyu]
  · intro x hx
    rcases List.mem_append.1 hx with hx | hx
    · exact ht x hx
    · simp only [List.mem_singleton] at hx
      subst hx
      rw [hyt, hyx, hyu, text_join m.2.1 hy5.2.2.1 hi hlast]
  · rw [hW3]
    have := hg.size
    simp at this
    simp [World.setCell]
    omega
  · intro q z e
    obtain ⟨rfl, e'⟩ := List.append_inj' e rfl
    obtain rfl : y' = z := by simpa using e'
    refine ⟨ub hy2, fun x hx => ⟨ub (own_block (hp x hx).1 (fun k e => ?_)), (hp x hx).2⟩⟩
    have hk := (World.ownsRow.lt (hp x hx).1 k e).2
    refine (hg.block k (by simp; omega) (fun e2 => ?_)).trans (Below.heap_alloc _ _ _ hk)
    have h3 := (World.ownsRow.lt hy k e2.symm).1
    have h4 := (hp x hx).2 k e
    omega
end Go.Proofs.YthceooehndiglaaDoor.U
