/-
  Lines of one's own go on: the last line, and with lines of one's own behind it.
-/
import Derived.Test.YtleidcegbfnmkaaHPlace
import Derived.Test.YtleidcegbfnmkaaGJoinB
namespace Go.Proofs.Ytleidcegbfnmkaa.U
open Go.RowKit
set_option linter.unusedVariables false
set_option linter.unusedSimpArgs false
set_option maxRecDepth 100000

/-- lines of one's own behind lines of one's own -/
theorem own_app (w : World) (G G2 : Nat → Prop) (a : Option Addr) (n c : Nat) (L : List (List Int)) (b : Option Addr) (m d : Nat) (us : List Value) (M : List (List Int)) (h : OwnL G w a n c L) (k1 : Rc w b m d 1 us) (k3 : RowsO G2 w us M) (hd : ∀ x, G x → ¬ G2 x) (hn : n + m ≤ 1099511627776) :
    ∃ a' c' w', (∀ ty, (Builtin.append_ #[29, 29] ty #[.slice a n c, .slice b m d]).run Try.prog w = .ok (.slice a' (n + m) c') w') ∧ OwnL (fun x => G x ∨ G2 x ∨ w.heap.size ≤ x) w' a' (n + m) c' (L ++ M) ∧ Fr G w w' := by
  obtain ⟨vs, h1, h2, h3⟩ := h
  obtain ⟨i0, hi0, hz0, hz1, hz2⟩ := info_parts infoS
  have hul : us.length = m * 1 := k1.1
  obtain ⟨v', w', hrun, hown, hfr, hnear⟩ := run_append_own_k (P := Try.prog) w 0 29 39 i0 _ 1 24 Try.underlying29 hi0 hz0 hz1 hz2 rfl (by decide) (.slice a n c) n vs h1 b m d us hul
    (fun hp => k1.src hp) k3.at_.one1 (by unfold maxLen; omega) (by omega) (Nat.zero_le _)
  obtain ⟨a', c', rfl⟩ := own_slice hown
  have hfG : Fr G w w' := hfr.mono (fun x _ e => h2 x e.symm)
  have g1 : RowsO (fun x => G x) w' vs L := by
    refine ⟨h3.1, fun i x hx => ?_, h3.2.2⟩
    obtain ⟨v, e1, e2, e3, e4⟩ := h3.2.1 i x hx
    exact ⟨v, e1, own_fr e2 hfr (fun k e hk => rows_apart e2 h1 (by decide) e hk), e3, e4⟩
  have g2 : RowsO G2 w' us M := k3.fr hfG (fun x hx e => hd x e hx)
  refine ⟨a', c', w', hrun, ⟨vs ++ us, hown, fun k e => ?_, (g1.append g2 hd).mono (fun k _ hk => by rcases hk with q | q; exact .inl q; exact .inr (.inl q))⟩, hfG⟩
  rcases hnear with q | q
  · exact .inl (h2 k (q ▸ e))
  · rw [q] at e
    cases e
    exact .inr (.inr (Nat.le_refl _))
/-- the last line goes on with what can be read -/
theorem own_ext (w : World) (G : Nat → Prop) (k c : Nat) (a : Option Addr) (D : List (List Int)) (y z : List Int) (za : Option Addr) (zn zc : Nat) (h : OwnL G w a (k + 1) c (D ++ [y])) (hz : Rd .i32 w za zn zc z) (hzw : ∀ q ∈ z, (Lit.int .i32 q).wf = true) (hy : y.length + zn ≤ 2097152) :
    ∃ g ra rc a' c' w3, a = some ⟨g, 0, none⟩ ∧ g < w.heap.size ∧ w.cell? ⟨g, k, none⟩ = some (.slice ra y.length rc) ∧
      (∀ ty, (Builtin.append_ #[39, 39] ty #[.slice ra y.length rc, .slice za zn zc]).run Try.prog w = .ok (.slice a' (y.length + zn) c') w3) ∧
      (∃ u, w3.cell? ⟨g, k, none⟩ = some u) ∧ w3.frozen? ⟨g, k, none⟩ = false ∧ g < w3.heap.size ∧ Fr G w w3 ∧
      OwnL (fun x => G x ∨ w.heap.size ≤ x) (w3.setCell ⟨g, k, none⟩ (.slice a' (y.length + zn) c')) a (k + 1) c (D ++ [y ++ z]) ∧ Fr G w (w3.setCell ⟨g, k, none⟩ (.slice a' (y.length + zn) c')) := by
  have hzl : z.length = zn := hz.1
  have hDl : D.length = k := by have := h.len; simp at this; omega
  obtain ⟨vs, h1, hG1, h2, h3, h4⟩ := h
  obtain ⟨i0, hi0, hz0, hz1, hz2⟩ := info_parts infoI
  have hyk : (D ++ [y])[k]? = some y := by rw [List.getElem?_append_right (by omega), hDl]; simp
  obtain ⟨v, e1, e2, e2G, e2w⟩ := h3 k y hyk
  obtain ⟨ra, rc, rfl⟩ := own_slice e2
  obtain ⟨v', w3, hrun, hown, hfr, hnear⟩ := run_append_own_k (P := Try.prog) w 0 39 21 i0 _ 1 4 Try.underlying39 hi0 hz0 hz1 hz2 rfl (by decide) (.slice ra y.length rc) y.length (ints y) e2 za zn zc (ints z) (by simp [ints, hzl])
    (fun hp => Rd_cells hz hp) (ints1 _ _) (by unfold maxLen; omega) (by omega) (by omega)
  obtain ⟨a', c', rfl⟩ := own_slice hown
  have hfG : Fr G w w3 := hfr.mono (fun x _ e => e2G x e.symm)
  have h13 := own_fr h1 hfr (fun k e hk => rows_apart h1 e2 (by decide) e hk)
  rcases h1.2 with ⟨_, e0⟩ | ⟨g, cap, cur, ev, hgB, hgw, hnc, hcm, hcs, htk⟩
  · omega
  injection ev with ev1 ev2 ev3
  subst ev1 ev3
  rcases h13.2 with ⟨_, e0⟩ | ⟨g', cap', cur', ev', hgB', hgw3, hnc', hcm', hcs', htk'⟩
  · omega
  injection ev' with ev1 ev2 ev3
  injection ev1 with ev1
  injection ev1 with ev1
  subst ev1 ev3
  have hvl : vs.length = k + 1 := by rw [h2]; simp [hDl]
  have hgG : G g := hG1 g (by simp [Value.ownBlock])
  have hcell : w.cell? ⟨g, k, none⟩ = some (.slice ra y.length rc) := by
    rw [cell_row hgw, ← e1, ← htk, List.getElem?_take, if_pos (by omega)]
    simp
  have fset : Fr (fun x => x = g) w3 (w3.setCell ⟨g, k, none⟩ (.slice a' (y.length + zn) c')) := (Fr.refl _ _).setCell _ _ (fun _ => rfl)
  refine ⟨g, ra, rc, a', c', w3, rfl, heap_lt hgw, hcell, hrun, ⟨_, (cell_row hgw3 k).trans (Array.getElem?_eq_getElem (by omega))⟩, frozen_row hgw3 k, heap_lt hgw3, hfG, ?_, ?_⟩
  · have far : ∀ {B' n' : Nat} {u : Value} {xs : List Value}, w3.ownsRow B' 21 1 u n' xs → (w3.setCell ⟨g, k, none⟩ (.slice a' (y.length + zn) c')).ownsRow B' 21 1 u n' xs := fun ho => own_fr ho fset (fun b e => row_block_apart ho hgw3 (by decide) e)
    refine ⟨vs.set k (.slice a' (y.length + zn) c'), ⟨by simp; omega, .inr ⟨g, c, _, rfl, hgB, heap_set hgw3 k _, hnc, hcm, by simpa using hcs', ?_⟩⟩, fun q e => .inl (hG1 q e), by simp [h2], ?_, ?_⟩
    · rw [Array.toList_setIfInBounds, List.take_set, htk']
    · intro i x hx
      by_cases hi : i < D.length
      · rw [List.getElem?_append_left hi] at hx
        have hx2 : (D ++ [y])[i]? = some x := by rw [List.getElem?_append_left hi]; exact hx
        obtain ⟨u, f1, f2, f2G, f2w⟩ := h3 i x hx2
        refine ⟨u, by rw [List.getElem?_set_ne (by omega)]; exact f1, far (own_fr f2 hfr (fun b e hb => ?_)), fun q e => .inl (f2G q e), f2w⟩
        exact h4 i k _ _ (by omega) f1 e1 b e hb.symm
      · have hie : i = k := by
          have := (List.getElem?_eq_some_iff.1 hx).1
          simp at this; omega
        subst hie
        rw [List.getElem?_append_right (by omega), hDl] at hx
        simp at hx
        subst hx
        refine ⟨_, by rw [List.getElem?_set_self (by omega)], far ?_, fun q e => ?_, fun q hq => ?_⟩
        · have : (y ++ z).length = y.length + zn := by simp [hzl]
          rw [this]
          simpa [ints] using hown
        · rcases hnear with p | p
          · exact .inl (e2G q (p ▸ e))
          · rw [p] at e
            cases e
            exact .inr (Nat.le_refl _)
        · rcases List.mem_append.1 hq with p | p
          · exact e2w q p
          · exact hzw q p
    · intro i j vi vj hij f1 f2 b eb
      have hj := (List.getElem?_eq_some_iff.1 f2).1
      rw [List.length_set] at hj
      rw [List.getElem?_set_ne (by omega)] at f1
      by_cases hjk : j = k
      · subst hjk
        rw [List.getElem?_set_self (by omega)] at f2
        cases f2
        have hi : i < D.length := by omega
        rcases hnear with e | e
        · rw [e]; exact h4 i j _ _ hij f1 e1 b eb
        · rw [e]
          intro e3
          injection e3 with e3
          obtain ⟨u, f3, f4, f5⟩ := h3 i _ (List.getElem?_eq_getElem (l := D ++ [y]) (i := i) (by simp; omega))
          rw [f1] at f3
          cases f3
          have := (f4.lt b eb).2
          omega
      · rw [List.getElem?_set_ne (by omega)] at f2
        exact h4 i j vi vj hij f1 f2 b eb
  · exact hfG.trans fset (fun x _ e => by rw [e]; exact hgG)
/-- the boxes of joined stand, whatever is written below them -/
theorem nin_fr (w : World) (v0 v1 u0 u1 : Value) : ∀ (F : Nat → Prop) W, Fr F (((w.alloc (.cells #[v0, v1] 31)).alloc (.cells #[u0, u1] 31)).alloc (.cells #[.int .i64 0, .slice none 0 0] 31)) W → (∀ k, w.heap.size ≤ k → k < w.heap.size + 3 → ¬ F k) → Nin w.heap.size v0 v1 u0 u1 W := by
  intro F W hW hF
  obtain ⟨w2, hw2⟩ : ∃ w2, (w.alloc (.cells #[v0, v1] 31)).alloc (.cells #[u0, u1] 31) = w2 := ⟨_, rfl⟩
  have hsz : w2.heap.size = w.heap.size + 2 := by rw [← hw2]; simp
  rw [hw2] at hW
  have hsz3 : (w2.alloc (.cells #[.int .i64 0, .slice none 0 0] 31)).heap.size = w.heap.size + 3 := by simp [hsz]
  have q1 : w2.heap[w.heap.size]? = some (.cells #[v0, v1] 31 (0, 0)) := by
    rw [← hw2, Below.heap_alloc _ _ _ (by simp), heap_alloc_new]
  have q2 : w2.heap[w.heap.size + 1]? = some (.cells #[u0, u1] 31 (0, 0)) := by
    have := heap_alloc_new (w.alloc (.cells #[v0, v1] 31)) (.cells #[u0, u1] 31)
    rw [hw2] at this
    simpa using this
  have q3 := heap_alloc_new w2 (.cells #[.int .i64 0, .slice none 0 0] 31)
  rw [hsz] at q3
  have h1 := (hW.block w.heap.size (by omega) (hF _ (by omega) (by omega))).trans ((Below.heap_alloc _ _ _ (by omega)).trans q1)
  have h2 := (hW.block (w.heap.size + 1) (by omega) (hF _ (by omega) (by omega))).trans ((Below.heap_alloc _ _ _ (by omega)).trans q2)
  have h3 := (hW.block (w.heap.size + 2) (by omega) (hF _ (by omega) (by omega))).trans q3
  exact ⟨cell_row h1 0, cell_row h1 1, cell_row h2 0, cell_row h2 1, cell_row h3 0, cell_row h3 1, frozen_row h3 0, frozen_row h3 1, heap_lt h1, heap_lt h2, heap_lt h3⟩
end Go.Proofs.Ytleidcegbfnmkaa.U
