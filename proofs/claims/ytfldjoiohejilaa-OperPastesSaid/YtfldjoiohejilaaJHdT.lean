/-
  Lines whose row of headers is one's own, while the rows themselves may lie anywhere in rows of runes (a row may be a part of another one).
-/
import Derived.Test.YtfldjoiohejilaaKPasS
import Derived.Test.YtfldjoiohejilaaJTurn
namespace Go.Proofs.Ytfldjoiohejilaa.U
open Go.RowKit
set_option linter.unusedVariables false
set_option linter.unusedSimpArgs false
set_option maxRecDepth 100000

def RdT (B : Nat) (w : World) (ra : Option Addr) (m rc : Nat) (x : List Int) : Prop :=
  Rd .i32 w ra m rc x ∧ ∀ ad, 0 < m → ra = some ad → B ≤ ad.block ∧ ∃ cur, w.heap[ad.block]? = some (.cells cur 21 (0, 0))
def RowsT (B : Nat) (w : World) (vs : List Value) (L : List (List Int)) : Prop :=
  vs.length = L.length ∧ ∀ (i : Nat) (x : List Int), L[i]? = some x → ∃ ra m rc, vs[i]? = some (.slice ra m rc) ∧ RdT B w ra m rc x
def HdT (B : Nat) (w : World) (a : Option Addr) (n c : Nat) (L : List (List Int)) : Prop :=
  ∃ vs, w.ownsRow B 35 1 (.slice a n c) n vs ∧ RowsT B w vs L
theorem RdT.fr {F : Nat → Prop} {B : Nat} {w w' : World} {ra : Option Addr} {m rc : Nat} {x : List Int} (h : RdT B w ra m rc x) (hf : Fr F w w') (hd : ∀ k, F k → ∀ cur, w.heap[k]? ≠ some (.cells cur 21 (0, 0))) : RdT B w' ra m rc x := by
  refine ⟨h.1.frF (F := fun k => ∃ cur, w.heap[k]? = some (.cells cur 21 (0, 0))) (fun hp ad e => (h.2 ad hp e).2) hf (fun k hk hF => ?_), fun ad hp e => ?_⟩
  · obtain ⟨cur, hc⟩ := hk
    exact hd k hF cur hc
  · obtain ⟨h1, cur, hc⟩ := h.2 ad hp e
    exact ⟨h1, cur, (hf.block _ (heap_lt hc) (fun hF => hd _ hF cur hc)).trans hc⟩
theorem RdT.below {B : Nat} {w w' : World} {ra : Option Addr} {m rc : Nat} {x : List Int} (h : RdT B w ra m rc x) (hb : Below w.heap.size w w') : RdT B w' ra m rc x := h.fr (Fr.of_below (fun _ => False) hb) (fun _ h => h.elim)
theorem RdT.own {B : Nat} {w : World} {ra : Option Addr} {m rc : Nat} {x : List Int} (h : w.ownsRow B 21 1 (.slice ra m rc) m (ints x)) (hw : ∀ y ∈ x, (Lit.int .i32 y).wf = true) : RdT B w ra m rc x := by
  refine ⟨own_rd h hw, fun ad hp e => ?_⟩
  rcases h.2 with ⟨ev, e0⟩ | ⟨g, cap, cur, ev, hB, hg, -⟩
  · injection ev with e1
    rw [e1] at e
    cases e
  · injection ev with e1
    rw [e1] at e
    cases e
    exact ⟨hB, cur, hg⟩
theorem RdT.take {B : Nat} {w : World} {ra : Option Addr} {m rc : Nat} {x : List Int} (h : RdT B w ra m rc x) (n : Nat) (hn : n ≤ m) : RdT B w ra n rc (x.take n) :=
  ⟨h.1.take n hn, fun ad hp e => h.2 ad (by omega) e⟩
theorem RdT.drop {B : Nat} {w : World} {ra : Option Addr} {m rc : Nat} {x : List Int} (h : RdT B w ra m rc x) (n : Nat) (hn : n ≤ m) : RdT B w (if rc = n then ra else ra.map (·.add (n * 1))) (m - n) (rc - n) (x.drop n) := by
  refine ⟨h.1.drop n hn, fun ad hp e => ?_⟩
  split at e
  · exact h.2 ad (by omega) e
  · cases ra with
    | none => cases e
    | some a0 =>
      simp only [Option.map_some, Option.some.injEq] at e
      subst e
      rw [show (a0.add (n * 1)).block = a0.block from add_block _ _]
      exact h.2 a0 (by omega) rfl
theorem RowsT.below {B : Nat} {w w' : World} {vs : List Value} {L : List (List Int)} (h : RowsT B w vs L) (hb : Below w.heap.size w w') : RowsT B w' vs L :=
  ⟨h.1, fun i x hx => by obtain ⟨ra, m, rc, e1, e2⟩ := h.2 i x hx; exact ⟨ra, m, rc, e1, e2.below hb⟩⟩
theorem RowsT.one {B : Nat} {w : World} {ra : Option Addr} {m rc : Nat} {x : List Int} (h : RdT B w ra m rc x) : RowsT B w [.slice ra m rc] [x] := by
  refine ⟨rfl, fun i y hy => ?_⟩
  cases i with
  | zero => simp at hy; subst hy; exact ⟨ra, m, rc, rfl, h⟩
  | succ i => simp at hy
theorem RowsT.append {B : Nat} {w : World} {vs us : List Value} {L M : List (List Int)} (h : RowsT B w vs L) (k : RowsT B w us M) : RowsT B w (vs ++ us) (L ++ M) := by
  have hl := h.1
  refine ⟨by simp [hl, k.1], fun i x hx => ?_⟩
  by_cases hi : i < L.length
  · rw [List.getElem?_append_left hi] at hx
    obtain ⟨ra, m, rc, e1, e2⟩ := h.2 i x hx
    exact ⟨ra, m, rc, by rw [List.getElem?_append_left (by omega)]; exact e1, e2⟩
  · rw [List.getElem?_append_right (by omega)] at hx
    obtain ⟨ra, m, rc, e1, e2⟩ := k.2 _ x hx
    exact ⟨ra, m, rc, by rw [List.getElem?_append_right (by omega), hl]; exact e1, e2⟩
theorem HdT.below {B : Nat} {w w' : World} {a : Option Addr} {n c : Nat} {L : List (List Int)} (h : HdT B w a n c L) (hb : Below w.heap.size w w') : HdT B w' a n c L := by
  obtain ⟨vs, h1, h2⟩ := h
  exact ⟨vs, own_fr h1 (Fr.of_below (fun _ => False) hb) (fun _ _ h => h), h2.below hb⟩
theorem HdT.len {B : Nat} {w : World} {a : Option Addr} {n c : Nat} {L : List (List Int)} (h : HdT B w a n c L) : L.length = n := by
  obtain ⟨vs, h1, h2⟩ := h
  have := h1.1
  have := h2.1
  omega
theorem HdT.rdl {B : Nat} {w : World} {a : Option Addr} {n c : Nat} {L : List (List Int)} (h : HdT B w a n c L) : RdL (fun k => B ≤ k) w a n c L := by
  obtain ⟨vs, h1, h2⟩ := h
  refine ⟨vs, Rc.own h1, InF.own h1 (fun k e => (h1.lt k e).1), h2.1, fun i x hx => ?_⟩
  obtain ⟨ra, m, rc, e1, e2⟩ := h2.2 i x hx
  have hm := e2.1.1
  subst hm
  exact ⟨ra, rc, e1, e2.1, fun hp ad e => (e2.2 ad hp e).1⟩
theorem hdt_my {B : Nat} {w : World} {a : Option Addr} {n c : Nat} {L : List (List Int)} (h : MyL B w a n c L) (hw : ∀ x ∈ L, ∀ y ∈ x, (Lit.int .i32 y).wf = true) : HdT B w a n c L := by
  obtain ⟨vs, h1, h2, h3⟩ := h
  refine ⟨vs, h1, h2, fun i x hx => ?_⟩
  obtain ⟨v, e1, e2⟩ := h3 i x hx
  obtain ⟨ra, rc, rfl⟩ := own_slice e2
  exact ⟨ra, _, rc, e1, RdT.own e2 (hw x (List.mem_of_getElem? hx))⟩
theorem own_raiseT {w : World} {B : Nat} {e : TypeId} {s : Nat} {v : Value} {n : Nat} {xs : List Value} (h : w.ownsRow 0 e s v n xs) (hB : ∀ k, v.ownBlock = some k → B ≤ k) : w.ownsRow B e s v n xs := by
  refine ⟨h.1, ?_⟩
  rcases h.2 with h2 | ⟨g, cap, cur, ev, h3, h4⟩
  · exact .inl h2
  · exact .inr ⟨g, cap, cur, ev, hB g (by rw [ev]; rfl), h4⟩
theorem hdt_own {B : Nat} {G : Nat → Prop} {w : World} {a : Option Addr} {n c : Nat} {L : List (List Int)} (h : OwnL G w a n c L) (hG : ∀ k, G k → B ≤ k) : HdT B w a n c L := by
  obtain ⟨vs, h1, h2, h3⟩ := h
  refine ⟨vs, own_raiseT h1 (fun k e => hG k (h2 k e)), h3.1, fun i x hx => ?_⟩
  obtain ⟨v, e1, e2, e3, e4⟩ := h3.2.1 i x hx
  obtain ⟨ra, rc, rfl⟩ := own_slice e2
  exact ⟨ra, _, rc, e1, RdT.own (own_raiseT e2 (fun k e => hG k (e3 k e))) e4⟩
/-- blocks that hold no headers lie as they lay -/
def KeepT (w w' : World) : Prop := ∀ (k : Nat) (cs : Array Value) (t : TypeId), w.heap[k]? = some (.cells cs t (0, 0)) → t ≠ 35 → w'.heap[k]? = some (.cells cs t (0, 0))
theorem KeepT.pre {w w1 w2 : World} (hb : Below w.heap.size w w1) (h : KeepT w1 w2) : KeepT w w2 := fun k cs t e ne => h k cs t ((hb.block _ (heap_lt e)).trans e) ne
/-- rows behind rows -/
theorem hdt_app (w : World) (B : Nat) (a : Option Addr) (n c : Nat) (L : List (List Int)) (b : Option Addr) (m d : Nat) (us : List Value) (M : List (List Int)) (h : HdT B w a n c L) (k1 : Rc w b m d 1 us) (k3 : RowsT B w us M) (hB : B ≤ w.heap.size) (hn : n + m ≤ 1099511627776) :
    ∃ a' c' w', (∀ ty, (Builtin.append_ #[22, 22] ty #[.slice a n c, .slice b m d]).run Try.prog w = .ok (.slice a' (n + m) c') w') ∧ HdT B w' a' (n + m) c' (L ++ M) ∧ Below B w w' ∧ KeepT w w' := by
  obtain ⟨vs, h1, h2⟩ := h
  obtain ⟨i0, hi0, hz0, hz1, hz2⟩ := info_parts infoS
  have hul : us.length = m * 1 := k1.1
  obtain ⟨v', w', hrun, hown, hfr, hnear⟩ := run_append_own_k (P := Try.prog) w B 22 35 i0 _ 1 24 Try.underlying22 hi0 hz0 hz1 hz2 rfl (by decide) (.slice a n c) n vs h1 b m d us hul
    (fun hp => k1.src hp) (fun u hu => by
      obtain ⟨i, hi, e⟩ := List.getElem_of_mem hu
      have hiM : i < M.length := by have := k3.1; omega
      obtain ⟨ra, m', rc, e1, e2⟩ := k3.2 i _ (List.getElem?_eq_getElem hiM)
      rw [List.getElem?_eq_getElem hi, e] at e1
      cases e1
      rfl) (by unfold maxLen; omega) (by omega) hB
  obtain ⟨a', c', rfl⟩ := own_slice hown
  have hty : ∀ k, some k = (Value.slice a n c).ownBlock → ∀ cur, w.heap[k]? ≠ some (.cells cur 21 (0, 0)) := by
    intro k e cur hc
    exact row_block_apart h1 hc (by decide) e.symm rfl
  have far : ∀ {vs : List Value} {L : List (List Int)}, RowsT B w vs L → RowsT B w' vs L := fun hr =>
    ⟨hr.1, fun i x hx => by obtain ⟨ra, m, rc, e1, e2⟩ := hr.2 i x hx; exact ⟨ra, m, rc, e1, e2.fr hfr (fun k hk => hty k hk)⟩⟩
  exact ⟨a', c', w', hrun, ⟨vs ++ us, hown, (far h2).append (far k3)⟩, hfr.below hB (fun x e => (h1.lt x e.symm).1), fun k cs t e ne => (hfr.block k (heap_lt e) (fun hk => row_block_apart h1 e (fun q => ne q.symm) hk.symm rfl)).trans e⟩
theorem rc_one (w : World) (v : Value) (t : TypeId) : Rc (w.alloc (.cells #[v] t)) (some ⟨w.heap.size, 0, none⟩) 1 1 1 [v] := by
  refine ⟨rfl, Nat.le_refl _, by unfold maxLen; omega, fun e => (by cases e), fun _ => ⟨w.heap.size, 0, rfl, by simp, fun j u hu => ?_⟩⟩
  rw [cell_row (heap_alloc_new w _)]
  simpa using hu
theorem rc_two (w : World) (v u : Value) (t : TypeId) : Rc (w.alloc (.cells #[v, u] t)) (some ⟨w.heap.size, 0, none⟩) 2 2 1 [v, u] := by
  refine ⟨rfl, Nat.le_refl _, by unfold maxLen; omega, fun e => (by cases e), fun _ => ⟨w.heap.size, 0, rfl, by simp, fun j x hx => ?_⟩⟩
  rw [cell_row (heap_alloc_new w _)]
  simpa using hx
/-- one row, two rows, lines behind lines -/
theorem HdT.put1 {w : World} {B : Nat} {a : Option Addr} {n c : Nat} {L : List (List Int)} (h : HdT B w a n c L) {ra : Option Addr} {m rc : Nat} {x : List Int} (hr : RdT B w ra m rc x) (hB : B ≤ w.heap.size) (hn : n ≤ 549755813888) :
    ∃ a' c' w', (∀ ty, (Builtin.append_ #[22, 22] ty #[.slice a n c, .slice (some ⟨w.heap.size, 0, none⟩) 1 1]).run Try.prog (w.alloc (.cells #[.slice ra m rc] 35)) = .ok (.slice a' (n + 1) c') w') ∧ HdT B w' a' (n + 1) c' (L ++ [x]) ∧ Below B w w' ∧ KeepT w w' := by
  obtain ⟨a', c', w', h1, h2, h3, h4⟩ := hdt_app (w.alloc (.cells #[.slice ra m rc] 35)) B a n c L _ 1 1 _ [x] (h.below (bal _ _)) (rc_one w _ _) (RowsT.one (hr.below (bal _ _))) (by simp; omega) (by omega)
  exact ⟨a', c', w', h1, h2, ((bal w _).mono hB).trans h3, h4.pre (bal w _)⟩
theorem HdT.put2 {w : World} {B : Nat} {a : Option Addr} {n c : Nat} {L : List (List Int)} (h : HdT B w a n c L) {ra rb : Option Addr} {m rc k rd : Nat} {x y : List Int} (hr : RdT B w ra m rc x) (hs : RdT B w rb k rd y) (hB : B ≤ w.heap.size) (hn : n ≤ 549755813888) (W : World) (hW : W = w.alloc (.cells #[.slice ra m rc, .slice rb k rd] 35) ∨ W = (w.alloc (.cells #[.slice ra m rc, .slice rb k rd] 35)).drew) :
    ∃ a' c' w', (∀ ty, (Builtin.append_ #[22, 22] ty #[.slice a n c, .slice (some ⟨w.heap.size, 0, none⟩) 2 2]).run Try.prog W = .ok (.slice a' (n + 2) c') w') ∧ HdT B w' a' (n + 2) c' (L ++ [x, y]) ∧ Below B w w' ∧ KeepT w w' := by
  have hb2 : Below w.heap.size w W := by rcases hW with rfl | rfl; exact bal _ _; exact (bal _ _).drew
  have hrc : Rc W (some ⟨w.heap.size, 0, none⟩) 2 2 1 [.slice ra m rc, .slice rb k rd] := by
    rcases hW with rfl | rfl
    · exact rc_two w _ _ _
    · exact (rc_two w _ _ _).below (Below.refl _ _).drew
  obtain ⟨a', c', w', h1, h2, h3, h4⟩ := hdt_app W B a n c L _ 2 2 _ [x, y] (h.below hb2) hrc ((RowsT.one (hr.below hb2)).append (RowsT.one (hs.below hb2))) (by have := hb2.size; omega) (by omega)
  exact ⟨a', c', w', h1, h2, (hb2.mono hB).trans h3, h4.pre hb2⟩
theorem HdT.rest {w : World} {B : Nat} {a : Option Addr} {n c : Nat} {L : List (List Int)} (h : HdT B w a n c L) (F : Nat → Prop) {da : Option Addr} {dn dc : Nat} {M : List (List Int)} (hr : RdL F w da dn dc M) (hs : sizeN (lens M) ≤ 1048576) (hB : B ≤ w.heap.size) (hn : n ≤ 549755813888) :
    Calls Try.prog 12 #[.slice da dn dc] w fun e w1 => ∃ ta tc, e = .returned (.slice ta dn tc) ∧ Below w.heap.size w w1 ∧ ∃ a' c' w', (∀ ty, (Builtin.append_ #[22, 22] ty #[.slice a n c, .slice ta dn tc]).run Try.prog w1 = .ok (.slice a' (n + dn) c') w') ∧ HdT B w' a' (n + dn) c' (L ++ M) ∧ Below B w w' ∧ KeepT w w' := by
  refine (rtwin_any F da dn dc M w hr hs).mono ?_
  rintro e w1 ⟨ta, tc, rfl, hf, hb⟩
  have hdn : dn ≤ 1048576 := by have := hr.len; have := size_count M; omega
  obtain ⟨us, k1, k2⟩ := hdt_my (hf.my hB) (lines_wf (rdl_wf hr))
  obtain ⟨a', c', w', h1, h2, h3, h4⟩ := hdt_app w1 B a n c L ta dn tc us M (h.below hb) (Rc.own k1) k2 (by have := hb.size; omega) (by omega)
  exact ⟨ta, tc, rfl, hb, a', c', w', h1, h2, (hb.mono hB).trans h3, h4.pre hb⟩
end Go.Proofs.Ytfldjoiohejilaa.U
