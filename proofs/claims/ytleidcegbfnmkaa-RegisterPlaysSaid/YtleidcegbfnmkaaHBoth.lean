/-
  Both registers side by side, and blocks of the law's own; lines of the law's own that are written over.
-/
import Derived.Test.YtleidcegbfnmkaaHLawR
namespace Go.Proofs.Ytleidcegbfnmkaa.U
open Go.RowKit
set_option linter.unusedVariables false
set_option linter.unusedSimpArgs false
set_option maxRecDepth 100000

/-- the program's registers hold s, the document's hold x; blocks D belong to neither -/
def PlG (w0 w : World) (bt bx : Nat) (s x : List Nm) (D : Nat → Prop) : Prop :=
  Below w0.heap.size w0 w ∧ (∀ k, D k → w0.heap.size ≤ k ∧ k < w.heap.size) ∧
    ∃ P Q, GSt P w bt s ∧ RSt Q w bx x ∧ (∀ k, P k → w0.heap.size ≤ k) ∧ (∀ k, Q k → w0.heap.size ≤ k) ∧ (∀ k, P k → ¬ Q k) ∧ (∀ k, P k → ¬ D k) ∧ (∀ k, Q k → ¬ D k)
section
variable {w0 w w' : World} {bt bx : Nat} {s x : List Nm} {D D' : Nat → Prop}
theorem PlG.bel (h : PlG w0 w bt bx s x D) : Below w0.heap.size w0 w := h.1
theorem PlG.ok (h : PlG w0 w bt bx s x D) : OkS s := by obtain ⟨_, _, _, _, h, _⟩ := h; exact h.ok
theorem PlG.turn (h : PlG w0 w bt bx s x D) (hb : Below w.heap.size w w') (hD' : ∀ k, D' k → (D k ∨ w.heap.size ≤ k) ∧ k < w'.heap.size) : PlG w0 w' bt bx s x D' := by
  obtain ⟨h0, hD, P, Q, h1, h2, p1, p2, p3, p4, p5⟩ := h
  refine ⟨h0.trans (hb.mono h0.size), fun k hk => ⟨?_, (hD' k hk).2⟩, P, Q, h1.below hb, h2.below hb, p1, p2, p3, fun k hp hd => ?_, fun k hp hd => ?_⟩
  · rcases (hD' k hk).1 with q | q
    · exact (hD k q).1
    · exact Nat.le_trans h0.size q
  · rcases (hD' k hd).1 with q | q
    · exact p4 k hp q
    · have := h1.lt k hp; omega
  · rcases (hD' k hd).1 with q | q
    · exact p5 k hp q
    · have := h2.lt k hp; omega
theorem PlG.below (h : PlG w0 w bt bx s x D) (hb : Below w.heap.size w w') : PlG w0 w' bt bx s x D := h.turn hb (fun k hk => ⟨.inl hk, Nat.lt_of_lt_of_le (h.2.1 k hk).2 hb.size⟩)
theorem PlG.less (h : PlG w0 w bt bx s x D) (hD : ∀ k, D' k → D k) : PlG w0 w bt bx s x D' := h.turn (Below.refl _ _) (fun k hk => ⟨.inl (hD k hk), (h.2.1 k (hD k hk)).2⟩)
theorem PlG.mine (h : PlG w0 w bt bx s x D) (hf : Fr D w w') : PlG w0 w' bt bx s x D := by
  obtain ⟨h0, hD, P, Q, h1, h2, p1, p2, p3, p4, p5⟩ := h
  exact ⟨h0.trans (hf.below h0.size (fun k hk => (hD k hk).1)), fun k hk => ⟨(hD k hk).1, Nat.lt_of_lt_of_le (hD k hk).2 hf.size⟩, P, Q, h1.fr hf p4, h2.fr hf p5, p1, p2, p3, p4, p5⟩
/-- the program's Put -/
theorem PlG.put {F : Nat → Prop} {r k : Int} {a : Option Addr} {n c : Nat} {L : List (List Int)} {d : Bool} (h : PlG w0 w bt bx s x D) (hr : RdL F w a n c L) (hs : sizeR L ≤ 1048576) (hwr : (Lit.int .i32 r).wf = true) :
    Calls Try.prog 15 #[.pointer (some ⟨bt, 0, none⟩), .int .i32 r, .agg #[.int .i64 k, .slice a n c], .bool d] w fun e w' => e = .returned (.int .i64 (putR s r ⟨k, L⟩ d).2) ∧ PlG w0 w' bt bx (putR s r ⟨k, L⟩ d).1 x D ∧ Fr (fun k => w0.heap.size ≤ k ∧ ¬ D k) w w' := by
  obtain ⟨h0, hD, P, Q, h1, h2, p1, p2, p3, p4, p5⟩ := h
  refine (pput_whole F P bt s r k a n c L d w h1 hr hs hwr).mono ?_
  rintro e w' ⟨he, P', a1, a2, a3⟩
  have hs0 := h0.size
  refine ⟨he, ⟨h0.trans (a2.below hs0 p1), fun k hk => ⟨(hD k hk).1, Nat.lt_of_lt_of_le (hD k hk).2 a2.size⟩, P', Q, a1, h2.fr a2 (fun k hq hp => p3 k hp hq), fun k hk => ?_, p2, fun k hk => ?_, fun k hk => ?_, p5⟩, a2.mono (fun k _ hp => ⟨p1 k hp, fun hd => p4 k hp hd⟩)⟩
  · rcases a3 k hk with q | q
    · exact p1 k q
    · omega
  · rcases a3 k hk with q | q
    · exact p3 k q
    · exact fun hq => by have := h2.lt k hq; omega
  · rcases a3 k hk with q | q
    · exact p4 k q
    · exact fun hd => by have := (hD k hd).2; omega
/-- the document's Put -/
theorem PlG.rput {F : Nat → Prop} {r k : Int} {a : Option Addr} {n c : Nat} {L : List (List Int)} {d : Bool} (h : PlG w0 w bt bx s x D) (hx : OkS x) (hr : RdL F w a n c L) (hs : sizeR L ≤ 1048576) :
    Calls Try.prog 16 #[.pointer (some ⟨bx, 0, none⟩), .int .i32 r, .agg #[.int .i64 k, .slice a n c], .bool d] w fun e w' => e = .returned (.int .i64 (putR x r ⟨k, L⟩ d).2) ∧ PlG w0 w' bt bx s (putR x r ⟨k, L⟩ d).1 D ∧ Fr (fun k => w0.heap.size ≤ k ∧ ¬ D k) w w' := by
  obtain ⟨h0, hD, P, Q, h1, h2, p1, p2, p3, p4, p5⟩ := h
  refine (rputR_any F r k a n c L d w h2 hx hr hs).mono ?_
  rintro e w' ⟨he, Q', a1, a2, a3⟩
  have hs0 := h0.size
  have hq : Q bx := h2.box
  have a2' : Fr Q w w' := a2.mono (fun k _ e => by rw [e]; exact hq)
  refine ⟨he, ⟨h0.trans (a2'.below hs0 p2), fun k hk => ⟨(hD k hk).1, Nat.lt_of_lt_of_le (hD k hk).2 a2.size⟩, P, Q', h1.fr a2' p3, a1, p1, fun k hk => ?_, fun k hp hk => ?_, p4, fun k hk => ?_⟩, a2'.mono (fun k _ hp => ⟨p2 k hp, fun hd => p5 k hp hd⟩)⟩
  · rcases a3 k hk with q | q
    · exact p2 k q
    · omega
  · rcases a3 k hk with q | q
    · exact p3 k hp q
    · have := h1.lt k hp; omega
  · rcases a3 k hk with q | q
    · exact p5 k q
    · exact fun hd => by have := (hD k hd).2; omega
theorem PlG.get {n : Int} {g : Rg} {er : Int} (h : PlG w0 w bt bx s x D) (hwf : (Lit.int .i32 n).wf = true) (hg : getR s n = (g, er)) :
    Calls Try.prog 11 #[.pointer (some ⟨bt, 0, none⟩), .int .i32 n] w fun e w' => ∃ a c, e = .returned (.tuple #[.agg #[.int .i64 g.k, .slice a g.L.length c], .int .i64 er]) ∧ FreshL w.heap.size w' a g.L.length c g.L ∧ (∀ x ∈ g.L, ∀ y ∈ x, (Lit.int .i32 y).wf = true) ∧ Below w.heap.size w w' := by
  obtain ⟨h0, hD, P, Q, h1, h2, p1, p2, p3, p4, p5⟩ := h
  have h9 := pget_any P bt s n w h1 hwf
  rw [hg] at h9
  exact h9
theorem PlG.rget {n : Int} {g : Rg} {er : Int} (h : PlG w0 w bt bx s x D) (hx : OkS x) (hg : getR x n = (g, er)) :
    Calls Try.prog 12 #[.pointer (some ⟨bx, 0, none⟩), .int .i32 n] w fun e w' => ∃ a c, e = .returned (.tuple #[.agg #[.int .i64 g.k, .slice a g.L.length c], .int .i64 er]) ∧ RdL (fun x => w.heap.size ≤ x) w' a g.L.length c g.L ∧ Below w.heap.size w w' := by
  obtain ⟨h0, hD, P, Q, h1, h2, p1, p2, p3, p4, p5⟩ := h
  have h9 := rgetR_any n w h2 hx
  rw [hg] at h9
  exact h9
theorem PlG.all (h : PlG w0 w bt bx s x D) :
    Calls Try.prog 18 #[.pointer (some ⟨bt, 0, none⟩)] w fun e w' => ∃ a c, e = .returned (.slice a s.length c) ∧ RdN (fun k => w.heap.size ≤ k) w' a s.length c s ∧ Below w.heap.size w w' := by
  obtain ⟨h0, hD, P, Q, h1, h2, p1, p2, p3, p4, p5⟩ := h
  exact pall_any P bt s w h1
/-- the document's list -/
theorem PlG.list (h : PlG w0 w bt bx s x D) : ∃ a c, w.cell? ⟨bx, 0, none⟩ = some (.slice a x.length c) ∧ bx < w.heap.size ∧ ∃ F, RdN F w a x.length c x := by
  obtain ⟨h0, hD, P, Q, h1, h2, p1, p2, p3, p4, p5⟩ := h
  obtain ⟨a, c, q1, q2, q3, q4⟩ := h2
  exact ⟨a, c, by rw [cell_row q1]; rfl, heap_lt q1, _, q2⟩
end
/-- both are new -/
theorem pl_new {w w1 : World} {bt : Nat} {P : Nat → Prop} (h1 : GSt P w1 bt []) (hb : Below w.heap.size w w1) (hp : ∀ k, P k → w.heap.size ≤ k) :
    PlG w (w1.alloc (.cells #[.slice none 0 0] 28)) bt w1.heap.size [] [] (fun _ => False) := by
  have hg := heap_alloc_new w1 (.cells #[.slice none 0 0] 28)
  have hb1 : Below w1.heap.size w1 (w1.alloc (.cells #[.slice none 0 0] 28)) := (Below.refl _ _).alloc (Nat.le_refl _) _
  have hs := hb.size
  exact ⟨hb.trans (hb1.mono hs), fun _ h => h.elim, P, fun k => k = w1.heap.size, h1.below hb1, ⟨none, 0, hg, RdN.none0 _ _, rfl, fun k e => by rw [e]; exact heap_lt hg⟩, hp, fun k e => by omega, fun k hp e => by have := h1.lt k hp; omega, fun _ _ h => h, fun _ _ h => h⟩
/-- rows of the law's own from the i0-th on, whatever lies in them -/
def MineO (G : Nat → Prop) (w : World) (a : Option Addr) (n c : Nat) (ls : List Nat) (i0 : Nat) : Prop :=
  ∃ vs, w.ownsRow 0 39 1 (.slice a n c) n vs ∧ (∀ k, (Value.slice a n c).ownBlock = some k → G k) ∧ vs.length = ls.length ∧ (∀ (i m : Nat), i0 ≤ i → ls[i]? = some m → ∃ v xs, vs[i]? = some v ∧ w.ownsRow 0 21 1 v m xs ∧ ∀ k, v.ownBlock = some k → G k) ∧
    (∀ (i j : Nat) (vi vj : Value), i0 ≤ i → i < j → vs[i]? = some vi → vs[j]? = some vj → ∀ k, vi.ownBlock = some k → vj.ownBlock ≠ some k)
section
variable {F G : Nat → Prop} {w w' : World} {a : Option Addr} {n c i0 : Nat} {ls : List Nat} {L : List (List Int)}
theorem OwnL.mineO (h : OwnL G w a n c L) : MineO G w a n c (lens L) 0 := by
  obtain ⟨vs, h1, h2, h3, h4, h5⟩ := h
  refine ⟨vs, h1, h2, by rw [lens_len]; exact h3, fun i m _ hm => ?_, fun i j vi vj _ => h5 i j vi vj⟩
  unfold lens at hm
  rw [List.getElem?_map] at hm
  cases hx : L[i]? with
  | none => rw [hx] at hm; cases hm
  | some x =>
    rw [hx] at hm
    cases hm
    obtain ⟨v, e1, e2, e3, _⟩ := h4 i x hx
    exact ⟨v, _, e1, e2, e3⟩
theorem MineO.fr (h : MineO G w a n c ls i0) (hf : Fr F w w') (hd : ∀ k, G k → ¬ F k) : MineO G w' a n c ls i0 := by
  obtain ⟨vs, h1, h2, h3, h4, h5⟩ := h
  exact ⟨vs, own_fr h1 hf (fun k e => hd k (h2 k e)), h2, h3, fun i m hi hm => by obtain ⟨v, xs, e1, e2, e3⟩ := h4 i m hi hm; exact ⟨v, xs, e1, own_fr e2 hf (fun k e => hd k (e3 k e)), e3⟩, h5⟩
theorem MineO.len (h : MineO G w a n c ls i0) : ls.length = n := by
  obtain ⟨vs, h1, h2, h3, _⟩ := h
  have := h1.1
  omega
theorem MineO.get {i m : Nat} (h : MineO G w a n c ls i0) (hi0 : i0 ≤ i) (hm : ls[i]? = some m) : ∃ g ra rc, a = some ⟨g, 0, none⟩ ∧ g < w.heap.size ∧ G g ∧ w.cell? ⟨g, i, none⟩ = some (.slice ra m rc) ∧ w.frozen? ⟨g, i, none⟩ = false ∧ (∃ xs, w.ownsRow 0 21 1 (.slice ra m rc) m xs) ∧ (∀ k, (Value.slice ra m rc).ownBlock = some k → G k) := by
  obtain ⟨vs, h1, h2, h3, h4, _⟩ := h
  obtain ⟨v, xs, e1, e2, e3⟩ := h4 i m hi0 hm
  have hi : i < vs.length := (List.getElem?_eq_some_iff.1 e1).1
  obtain ⟨ra, rc, rfl⟩ := own_slice e2
  rcases h1.2 with ⟨e, e0⟩ | ⟨g, cap, cur, e, hb, hg, hn, hc, hs, ht⟩
  · have := h1.1; omega
  · injection e with q1 q2 q3
    subst q1
    refine ⟨g, ra, rc, rfl, heap_lt hg, h2 g (by simp [Value.ownBlock]), ?_, frozen_row hg i, ⟨xs, e2⟩, e3⟩
    rw [cell_row hg, ← e1, ← ht, List.getElem?_take, if_pos (by have := h1.1; omega)]
    simp
/-- a row cut to nothing -/
theorem own_zero {m rc : Nat} {ra : Option Addr} {xs : List Value} {e : TypeId} (h : w.ownsRow 0 e 1 (.slice ra m rc) m xs) : w.ownsRow 0 e 1 (.slice ra 0 rc) 0 [] := by
  rcases h.2 with ⟨e1, e0⟩ | ⟨g, cap, cur, e1, hb, hg, hn, hc, hs, ht⟩
  · injection e1 with q1 q2 q3
    subst q1 q3
    exact World.ownsRow_nil _ _ _ _
  · injection e1 with q1 q2 q3
    subst q1 q3
    exact ⟨rfl, .inr ⟨g, rc, cur, rfl, hb, hg, Nat.zero_le _, hc, hs, by simp⟩⟩
/-- the i-th row is written over by two numbers -/
theorem MineO.cut {i m : Nat} (h : MineO G w a n c ls i) (hm : ls[i]? = some m) (W : World) (hW : W = (w.alloc (.cells #[.int .i32 7, .int .i32 7] 21)).drew) :
    ∃ g ra rc a' c' w3, a = some ⟨g, 0, none⟩ ∧ g < w.heap.size ∧ w.cell? ⟨g, i, none⟩ = some (.slice ra m rc) ∧ W.cell? ⟨g, i, none⟩ = some (.slice ra m rc) ∧
      (∀ ty, (Builtin.append_ #[39, 39] ty #[.slice ra 0 rc, .slice (some ⟨w.heap.size, 0, none⟩) 2 2]).run Try.prog W = .ok (.slice a' 2 c') w3) ∧
      (∃ u, w3.cell? ⟨g, i, none⟩ = some u) ∧ w3.frozen? ⟨g, i, none⟩ = false ∧ g < w3.heap.size ∧ Fr G w w3 ∧
      MineO G (w3.setCell ⟨g, i, none⟩ (.slice a' 2 c')) a n c ls (i + 1) ∧ Fr G w (w3.setCell ⟨g, i, none⟩ (.slice a' 2 c')) := by
  have hbW : Below w.heap.size w W := by rw [hW]; exact ((Below.refl _ _).alloc (Nat.le_refl _) _).drew
  obtain ⟨g, ra, rc, rfl, hgl, hgG, hcell, _, ⟨xs, hrow⟩, hrG⟩ := h.get (Nat.le_refl _) hm
  obtain ⟨vs, h1, h2, h3, h4, h5⟩ := h
  obtain ⟨v, xs2, e1, e2, e3⟩ := h4 i m (Nat.le_refl _) hm
  have hv : v = .slice ra m rc := by
    have hi : i < vs.length := (List.getElem?_eq_some_iff.1 e1).1
    rcases h1.2 with ⟨e, e0⟩ | ⟨g', cap, cur, e, hb, hg, hn, hc, hs, ht⟩
    · cases e
    · injection e with q1 q2 q3
      injection q1 with q1
      injection q1 with q1
      subst q1
      have hc2 := hcell
      rw [cell_row hg] at hc2
      have h6 : (cur.toList.take (n * 1))[i]? = some (.slice ra m rc) := by
        rw [List.getElem?_take, if_pos (by have := h1.1; omega)]
        simpa using hc2
      rw [ht, e1] at h6
      exact Option.some.inj h6
  subst hv
  have h1W := own_fr h1 (Fr.of_below (fun _ => False) hbW) (fun _ _ h => h)
  have hrW := own_fr (own_zero hrow) (Fr.of_below (fun _ => False) hbW) (fun _ _ h => h)
  have hnew : W.heap[w.heap.size]? = some (.cells #[.int .i32 7, .int .i32 7] 21 (0, 0)) := by rw [hW]; exact heap_alloc_new w _
  obtain ⟨i0, hi0, hz0, hz1, hz2⟩ := info_parts infoI
  obtain ⟨v', w3, hrun, hown, hfr, hnear⟩ := run_append_own_k (P := Try.prog) W 0 39 21 i0 _ 1 4 Try.underlying39 hi0 hz0 hz1 hz2 rfl (by decide) (.slice ra 0 rc) 0 [] hrW (some ⟨w.heap.size, 0, none⟩) 2 2 [.int .i32 7, .int .i32 7] rfl
    (fun _ => ⟨_, rfl, src_of (off := 0) (m := 2) (cur := [.int .i32 7, .int .i32 7]) hnew⟩) (fun u hu => by simp only [List.mem_cons, List.not_mem_nil, or_false] at hu; rcases hu with rfl | rfl <;> rfl) (by unfold maxLen; omega) (by omega) (Nat.zero_le _)
  obtain ⟨a', c', rfl⟩ := own_slice hown
  have hob : ∀ k, (Value.slice ra 0 rc).ownBlock = some k → (Value.slice ra m rc).ownBlock = some k := fun k e => by
    cases ra with
    | none => cases e
    | some ad => exact e
  have hfG : Fr G w w3 := (Fr.of_below G hbW).trans (hfr.mono (fun x _ e => hrG x (hob x e.symm))) (fun _ _ h => h)
  have hapart : ∀ k, (Value.slice (some ⟨g, 0, none⟩) n c).ownBlock = some k → ¬ some k = (Value.slice ra 0 rc).ownBlock := fun k e e2 => rows_apart h1 hrow (by decide) e (by rw [hob k e2.symm])
  have h13 := own_fr h1W hfr hapart
  rcases h13.2 with ⟨e, e0⟩ | ⟨g', cap', cur', ev', hgB', hgw3, hnc', hcm', hcs', htk'⟩
  · cases e
  injection ev' with q1 q2 q3
  injection q1 with q1
  injection q1 with q1
  subst q1 q3
  have hil : i < vs.length := (List.getElem?_eq_some_iff.1 e1).1
  have hvl := h1.1
  have fset : Fr (fun x => x = g) w3 (w3.setCell ⟨g, i, none⟩ (.slice a' 2 c')) := (Fr.refl _ _).setCell _ _ (fun _ => rfl)
  have far : ∀ {B' n' : Nat} {u : Value} {ys : List Value}, w3.ownsRow B' 21 1 u n' ys → (w3.setCell ⟨g, i, none⟩ (.slice a' 2 c')).ownsRow B' 21 1 u n' ys := fun ho => own_fr ho fset (fun b e => row_block_apart ho hgw3 (by decide) e)
  refine ⟨g, ra, rc, a', c', w3, rfl, hgl, hcell, (hbW.cell (p := ⟨g, i, none⟩) hgl).trans hcell, hrun, ⟨_, (cell_row hgw3 i).trans (Array.getElem?_eq_getElem (by omega))⟩, frozen_row hgw3 i, heap_lt hgw3, hfG, ?_, hfG.trans fset (fun x _ e => by rw [e]; exact hgG)⟩
  refine ⟨vs.set i (.slice a' 2 c'), ⟨by simp; omega, .inr ⟨g, c, _, rfl, Nat.zero_le _, heap_set hgw3 i _, hnc', hcm', by simpa using hcs', ?_⟩⟩, h2, by simp [h3], fun j q hj hq => ?_, fun j l vj vl hj hjl f1 f2 b eb => ?_⟩
  · rw [Array.toList_setIfInBounds, List.take_set, htk']
  · obtain ⟨u, ys, f1, f2, f3⟩ := h4 j q (by omega) hq
    refine ⟨u, ys, by rw [List.getElem?_set_ne (by omega)]; exact f1, far (own_fr (own_fr f2 (Fr.of_below (fun _ => False) hbW) (fun _ _ h => h)) hfr (fun b e hb => ?_)), f3⟩
    exact h5 i j _ _ (Nat.le_refl _) (by omega) e1 f1 b (hob b hb.symm) e
  · rw [List.getElem?_set_ne (by omega)] at f1 f2
    exact h5 j l vj vl (by omega) hjl f1 f2 b eb
/-- one number of the i-th row is written over -/
theorem MineO.put {i j m : Nat} (h : MineO G w a n c ls i0) (hi0 : i0 ≤ i) (hm : ls[i]? = some m) (hj : j < m) (u : Value) :
    ∃ g ra rc b, a = some ⟨g, 0, none⟩ ∧ g < w.heap.size ∧ w.cell? ⟨g, i, none⟩ = some (.slice ra m rc) ∧ ra = some ⟨b, 0, none⟩ ∧ (∃ u0, w.cell? ⟨b, j, none⟩ = some u0) ∧ w.frozen? ⟨b, j, none⟩ = false ∧ b < w.heap.size ∧ G b ∧ (∃ cur, w.heap[b]? = some (.cells cur 21 (0, 0))) ∧ MineO G (w.setCell ⟨b, j, none⟩ u) a n c ls i0 := by
  obtain ⟨g, ra, rc, rfl, hgl, hgG, hcell, _, ⟨xs, hrow⟩, hrG⟩ := h.get hi0 hm
  rcases hrow.2 with ⟨e, e0⟩ | ⟨b, cap, cur, e, hb, hg, hn, hc, hs, ht⟩
  · omega
  · injection e with q1 q2 q3
    subst q1 q3
    have hset : ∀ {B' n' : Nat} {v : Value} {ys : List Value}, w.ownsRow B' 21 1 v n' ys → ∃ zs, (w.setCell ⟨b, j, none⟩ u).ownsRow B' 21 1 v n' zs := by
      intro B' n' v ys ho
      have h9 : AnyRow B' w.heap.size w v n' := ⟨ys, ho, fun k e => (ho.lt k e).2⟩
      obtain ⟨zs, h10, _⟩ := h9.set b j u
      exact ⟨zs, h10⟩
    obtain ⟨vs, h1, h2, h3, h4, h5⟩ := h
    refine ⟨g, some ⟨b, 0, none⟩, rc, b, rfl, hgl, hcell, rfl, ⟨_, (cell_row hg j).trans (Array.getElem?_eq_getElem (by omega))⟩, frozen_row hg j, heap_lt hg, hrG b (by simp [Value.ownBlock]), ⟨cur, hg⟩, vs, own_fr h1 ((Fr.refl (fun k => k = b) _).setCell _ _ (fun _ => rfl)) (fun k e => row_block_apart h1 hg (by decide) e), h2, h3, fun l q hl hq => ?_, h5⟩
    obtain ⟨v, ys, f1, f2, f3⟩ := h4 l q hl hq
    obtain ⟨zs, f4⟩ := hset f2
    exact ⟨v, zs, f1, f4, f3⟩
end
end Go.Proofs.Ytleidcegbfnmkaa.U
