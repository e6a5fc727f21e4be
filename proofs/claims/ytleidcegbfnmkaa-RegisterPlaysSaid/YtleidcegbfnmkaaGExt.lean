/-
  Lines joined: a line goes on with what can be read; lines that can be read behind lines of one's own.
-/
import Derived.Test.YtleidcegbfnmkaaGSet
namespace Go.Proofs.Ytleidcegbfnmkaa.U
open Go.RowKit
set_option linter.unusedVariables false
set_option linter.unusedSimpArgs false
set_option maxRecDepth 100000

/-- lines that can be read, behind lines of one's own -/
theorem app_rows (w : World) (B : Nat) (a : Option Addr) (n c : Nat) (L : List (List Int)) (b : Option Addr) (m d : Nat) (M : List (List Int)) (G : Nat → Prop) (h : FreshL B w a n c L) (hw : ∀ x ∈ L, ∀ y ∈ x, (Lit.int .i32 y).wf = true) (k : RdL G w b m d M) (hG : ∀ x, (Value.slice a n c).ownBlock = some x → ¬ G x) (hGB : ∀ x, G x → B ≤ x) (hB : B ≤ w.heap.size) (hn : n + m ≤ 1099511627776) :
    ∃ a' c' w', (∀ ty, (Builtin.append_ #[29, 29] ty #[.slice a n c, .slice b m d]).run Try.prog w = .ok (.slice a' (n + m) c') w') ∧ RdL (fun x => B ≤ x) w' a' (n + m) c' (L ++ M) ∧ Below B w w' := by
  obtain ⟨vs, h1, h2, h3, _⟩ := h
  obtain ⟨us, k1, k2, k3⟩ := k
  obtain ⟨i0, hi0, hz0, hz1, hz2⟩ := info_parts infoS
  have hul : us.length = m * 1 := k1.1
  obtain ⟨v', w', hrun, hown, hfr, hnear⟩ := run_append_own_k (P := Try.prog) w B 29 39 i0 _ 1 24 Try.underlying29 hi0 hz0 hz1 hz2 rfl (by decide) (.slice a n c) n vs h1 b m d us hul
    (fun hp => k1.src hp) k3.one1 (by unfold maxLen; omega) (by omega) hB
  obtain ⟨a', c', rfl⟩ := own_slice hown
  have hlv : RowsAt (fun x => B ≤ x ∧ some x ≠ (Value.slice a n c).ownBlock) w vs L := ⟨h2, fun i x hx => by
    obtain ⟨v, e1, e2⟩ := h3 i x hx
    obtain ⟨ra, rc, rfl⟩ := own_slice e2
    exact ⟨ra, rc, e1, own_rd e2 (hw x (List.mem_of_getElem? hx)), InF.own e2 (fun k e => ⟨(e2.lt k e).1, rows_apart e2 h1 (by decide) e⟩)⟩⟩
  have g1 := (hlv.frF hfr (fun x hx e => hx.2 e)).mono (G := fun x => B ≤ x) (fun x hx => hx.1)
  have g2 := (k3.frF hfr (fun x hx e => hG x e.symm hx)).mono (G := fun x => B ≤ x) hGB
  exact ⟨a', c', w', hrun, ⟨vs ++ us, Rc.own hown, InF.own hown (fun k e => (hown.lt k e).1), g1.append g2⟩, hfr.below hB (fun x e => (h1.lt x e.symm).1)⟩
/-- the last line goes on with what can be read -/
theorem fresh_ext (w1 w : World) (B k c : Nat) (a : Option Addr) (D : List (List Int)) (y z : List Int) (za : Option Addr) (zn zc : Nat) (h : FreshL B w1 a (k + 1) c (D ++ [y])) (hb : Below w1.heap.size w1 w) (hB : B ≤ w1.heap.size) (hz : Rd .i32 w za zn zc z) (hy : y.length + zn ≤ 2097152) :
    ∃ g ra rc a' c' w3, a = some ⟨g, 0, none⟩ ∧ g < w1.heap.size ∧ w.cell? ⟨g, k, none⟩ = some (.slice ra y.length rc) ∧
      (∀ ty, (Builtin.append_ #[39, 39] ty #[.slice ra y.length rc, .slice za zn zc]).run Try.prog w = .ok (.slice a' (y.length + zn) c') w3) ∧
      (∃ u, w3.cell? ⟨g, k, none⟩ = some u) ∧ w3.frozen? ⟨g, k, none⟩ = false ∧ g < w3.heap.size ∧
      FreshL B (w3.setCell ⟨g, k, none⟩ (.slice a' (y.length + zn) c')) a (k + 1) c (D ++ [y ++ z]) ∧ Below B w (w3.setCell ⟨g, k, none⟩ (.slice a' (y.length + zn) c')) ∧ Fr (fun x => x < w1.heap.size) w (w3.setCell ⟨g, k, none⟩ (.slice a' (y.length + zn) c')) := by
  have hzl : z.length = zn := hz.1
  have hDl : D.length = k := by have := h.len; simp at this; omega
  have hs := hb.size
  obtain ⟨vs0, h10, h20, h30, h40⟩ := h
  have hlo : ∀ x, (Value.slice a (k + 1) c).ownBlock = some x → x < w1.heap.size := fun x e => (h10.lt x e).2
  have hlr : ∀ (i : Nat) (v : Value) (x : List Int), vs0[i]? = some v → w1.ownsRow B 21 1 v x.length (ints x) → ∀ q, v.ownBlock = some q → q < w1.heap.size := fun i v x _ e q eq => (e.lt q eq).2
  have f01 : Fr (fun _ => False) w1 w := Fr.of_below (fun _ => False) hb
  have h : ∃ vs, w.ownsRow B 39 1 (.slice a (k + 1) c) (k + 1) vs ∧ vs.length = (D ++ [y]).length ∧ (∀ (i : Nat) (x : List Int), (D ++ [y])[i]? = some x → ∃ v, vs[i]? = some v ∧ w.ownsRow B 21 1 v x.length (ints x) ∧ ∀ q, v.ownBlock = some q → q < w1.heap.size) ∧
    (∀ (i j : Nat) (vi vj : Value), i < j → vs[i]? = some vi → vs[j]? = some vj → ∀ k, vi.ownBlock = some k → vj.ownBlock ≠ some k) := by
    refine ⟨vs0, own_fr h10 f01 (fun _ _ h => h), h20, fun i x hx => ?_, h40⟩
    obtain ⟨v, e1, e2⟩ := h30 i x hx
    exact ⟨v, e1, own_fr e2 f01 (fun _ _ h => h), fun q eq => (e2.lt q eq).2⟩
  clear h10 h20 h30 h40 hlr
  obtain ⟨vs, h1, h2, h3, h4⟩ := h
  obtain ⟨i0, hi0, hz0, hz1, hz2⟩ := info_parts infoI
  have hyk : (D ++ [y])[k]? = some y := by rw [List.getElem?_append_right (by omega), hDl]; simp
  obtain ⟨v, e1, e2, e2l⟩ := h3 k y hyk
  obtain ⟨ra, rc, rfl⟩ := own_slice e2
  obtain ⟨v', w3, hrun, hown, hfr, hnear⟩ := run_append_own_k (P := Try.prog) w B 39 21 i0 _ 1 4 Try.underlying39 hi0 hz0 hz1 hz2 rfl (by decide) (.slice ra y.length rc) y.length (ints y) e2 za zn zc (ints z) (by simp [ints, hzl])
    (fun hp => Rd_cells hz hp) (ints1 _ _) (by unfold maxLen; omega) (by omega) (by omega)
  obtain ⟨a', c', rfl⟩ := own_slice hown
  have h13 := own_fr h1 hfr (fun k e hk => rows_apart h1 e2 (by decide) e hk)
  rcases h1.2 with ⟨_, e0⟩ | ⟨g, cap, cur, ev, hgB, hgw, hnc, hcm, hcs, htk⟩
  · omega
  injection ev with ev1 ev2 ev3
  subst ev1 ev3
  rcases h13.2 with ⟨_, e0⟩ | ⟨g', cap', cur', ev', hgB', hgw3, hnc', hcm', hcs', htk'⟩
  · omega
  injection ev' with ev1 ev2 ev3
  injection ev1 with ev1
  injection ev1 with ev1
  subst ev1 ev3
  have hvl : vs.length = k + 1 := by rw [h2]; simp [hDl]
  have hgl : g < w1.heap.size := hlo g (by simp [Value.ownBlock])
  have hcell : w.cell? ⟨g, k, none⟩ = some (.slice ra y.length rc) := by
    rw [cell_row hgw, ← e1, ← htk, List.getElem?_take, if_pos (by omega)]
    simp
  have fset : Fr (fun x => x = g) w3 (w3.setCell ⟨g, k, none⟩ (.slice a' (y.length + zn) c')) := (Fr.refl _ _).setCell _ _ (fun _ => rfl)
  refine ⟨g, ra, rc, a', c', w3, rfl, hgl, hcell, hrun, ⟨_, (cell_row hgw3 k).trans (Array.getElem?_eq_getElem (by omega))⟩, frozen_row hgw3 k, heap_lt hgw3, ?_, ?_, ?_⟩
  · have far : ∀ {B' n' : Nat} {u : Value} {xs : List Value}, w3.ownsRow B' 21 1 u n' xs → (w3.setCell ⟨g, k, none⟩ (.slice a' (y.length + zn) c')).ownsRow B' 21 1 u n' xs := fun ho => own_fr ho fset (fun b e => row_block_apart ho hgw3 (by decide) e)
    refine ⟨vs.set k (.slice a' (y.length + zn) c'), ⟨by simp; omega, .inr ⟨g, c, _, rfl, hgB, heap_set hgw3 k _, hnc, hcm, by simpa using hcs', ?_⟩⟩, by simp [h2], ?_, ?_⟩
    · rw [Array.toList_setIfInBounds, List.take_set, htk']
    · intro i x hx
      by_cases hi : i < D.length
      · rw [List.getElem?_append_left hi] at hx
        have hx2 : (D ++ [y])[i]? = some x := by rw [List.getElem?_append_left hi]; exact hx
        obtain ⟨u, f1, f2, f2l⟩ := h3 i x hx2
        refine ⟨u, by rw [List.getElem?_set_ne (by omega)]; exact f1, far (own_fr f2 hfr (fun b e hb => ?_))⟩
        exact h4 i k _ _ (by omega) f1 e1 b e hb.symm
      · have hie : i = k := by
          have := (List.getElem?_eq_some_iff.1 hx).1
          simp at this; omega
        subst hie
        rw [List.getElem?_append_right (by omega), hDl] at hx
        simp at hx
        subst hx
        refine ⟨_, by rw [List.getElem?_set_self (by omega)], far ?_⟩
        have : (y ++ z).length = y.length + zn := by simp [hzl]
        rw [this]
        simpa [ints] using hown
    · intro i j vi vj hij f1 f2 b eb
      have hj := (List.getElem?_eq_some_iff.1 f2).1
      rw [List.length_set] at hj
      rw [List.getElem?_set_ne (by omega)] at f1
      by_cases hjk : j = k
      · subst hjk
        rw [List.getElem?_set_self (by omega)] at f2
        cases f2
        have hi : i < D.length := by omega
        rcases hnear with e | e
        · rw [e]; exact h4 i j _ _ hij f1 e1 b eb
        · rw [e]
          intro e3
          injection e3 with e3
          obtain ⟨u, f3, f4, f5⟩ := h3 i _ (List.getElem?_eq_getElem (l := D ++ [y]) (i := i) (by simp; omega))
          rw [f1] at f3
          cases f3
          have := (f4.lt b eb).2
          omega
      · rw [List.getElem?_set_ne (by omega)] at f2
        exact h4 i j vi vj hij f1 f2 b eb
  · exact (hfr.below (by omega) (fun x e => (e2.lt x e.symm).1)).setCell hgB _
  · exact (hfr.mono (fun x _ e => e2l x e.symm)).trans fset (fun x _ e => by rw [e]; exact hgl)
end Go.Proofs.Ytleidcegbfnmkaa.U
