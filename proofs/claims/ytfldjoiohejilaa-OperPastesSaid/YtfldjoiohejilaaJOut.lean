/-
  Lines that are gathered: rows of one's own, apart from one row that grows beside them.
-/
import Derived.Test.YtfldjoiohejilaaJTake
namespace Go.Proofs.Ytfldjoiohejilaa.U
open Go.RowKit
set_option linter.unusedVariables false
set_option linter.unusedSimpArgs false
set_option maxRecDepth 100000

/-- rows of one's own from B on, none of them in block D -/
def MyD (B : Nat) (D : Option Nat) (w : World) (a : Option Addr) (n c : Nat) (L : List (List Int)) : Prop :=
  ∃ vs, w.ownsRow B 35 1 (.slice a n c) n vs ∧ vs.length = L.length ∧ ∀ (i : Nat) x, L[i]? = some x → ∃ v, vs[i]? = some v ∧ w.ownsRow B 21 1 v x.length (ints x) ∧ ∀ g, v.ownBlock = some g → D ≠ some g
theorem FreshL.myd {B n c : Nat} {w : World} {a : Option Addr} {L : List (List Int)} (h : FreshL B w a n c L) : MyD B none w a n c L := by
  obtain ⟨vs, h1, h2, h3, _⟩ := h
  exact ⟨vs, h1, h2, fun i x hx => by obtain ⟨v, e1, e2⟩ := h3 i x hx; exact ⟨v, e1, e2, fun g _ e => by cases e⟩⟩
theorem MyD.my {B : Nat} {D : Option Nat} {w : World} {a : Option Addr} {n c : Nat} {L : List (List Int)} (h : MyD B D w a n c L) : MyL B w a n c L := by
  obtain ⟨vs, h1, h2, h3⟩ := h
  exact ⟨vs, h1, h2, fun i x hx => by obtain ⟨v, e1, e2, _⟩ := h3 i x hx; exact ⟨v, e1, e2⟩⟩
theorem MyL.myd {B : Nat} {w : World} {a : Option Addr} {n c : Nat} {L : List (List Int)} (h : MyL B w a n c L) : MyD B none w a n c L := by
  obtain ⟨vs, h1, h2, h3⟩ := h
  exact ⟨vs, h1, h2, fun i x hx => by obtain ⟨v, e1, e2⟩ := h3 i x hx; exact ⟨v, e1, e2, fun g _ e => by cases e⟩⟩
theorem MyD.below {B : Nat} {D : Option Nat} {w w' : World} {a : Option Addr} {n c : Nat} {L : List (List Int)} (h : MyD B D w a n c L) (hb : Below w.heap.size w w') : MyD B D w' a n c L := by
  obtain ⟨vs, h1, h2, h3⟩ := h
  exact ⟨vs, own_fr h1 (Fr.of_below (fun _ => False) hb) (fun _ _ h => h), h2, fun i x hx => by obtain ⟨v, e1, e2, e3⟩ := h3 i x hx; exact ⟨v, e1, own_fr e2 (Fr.of_below (fun _ => False) hb) (fun _ _ h => h), e3⟩⟩
theorem MyD.mono {B B' : Nat} {D : Option Nat} {w : World} {a : Option Addr} {n c : Nat} {L : List (List Int)} (h : MyD B D w a n c L) (hB : B' ≤ B) : MyD B' D w a n c L := by
  obtain ⟨vs, h1, h2, h3⟩ := h
  exact ⟨vs, own_mono h1 hB, h2, fun i x hx => by obtain ⟨v, e1, e2, e3⟩ := h3 i x hx; exact ⟨v, e1, own_mono e2 hB, e3⟩⟩
theorem MyD.len {B : Nat} {D : Option Nat} {w : World} {a : Option Addr} {n c : Nat} {L : List (List Int)} (h : MyD B D w a n c L) : L.length = n := h.my.len
/-- one row, written out behind nothing -/
theorem myd_one {w : World} {B : Nat} {D : Option Nat} {v : Value} {x : List Int} (hB : B ≤ w.heap.size) (hv : w.ownsRow B 21 1 v x.length (ints x)) (hD : ∀ g, v.ownBlock = some g → D ≠ some g) :
    MyD B D (w.alloc (.cells #[v] 35)) (some ⟨w.heap.size, 0, none⟩) 1 1 [x] := by
  refine ⟨[v], ?_, rfl, fun i y hy => ?_⟩
  · have := own_of (B := B) (n := 1) (cap := 1) (size := 1) (heap_alloc_new w (.cells #[v] 35)) hB (Nat.le_refl _) (by unfold maxLen; omega) rfl
    simpa using this
  · rcases i with _ | i
    · simp only [List.getElem?_cons_zero, Option.some.injEq] at hy ⊢
      subst hy
      exact ⟨v, rfl, hv.alloc _, hD⟩
    · simp at hy
/-- rows behind rows -/
theorem myd_app (w : World) (B : Nat) (D : Option Nat) (a : Option Addr) (n c : Nat) (L : List (List Int)) (b : Option Addr) (m d : Nat) (M : List (List Int)) (h : MyD B D w a n c L) (k : MyD B D w b m d M) (hB : B ≤ w.heap.size) (hn : n + m ≤ 1099511627776) :
    ∃ a' c' w', (∀ ty, (Builtin.append_ #[22, 22] ty #[.slice a n c, .slice b m d]).run Try.prog w = .ok (.slice a' (n + m) c') w') ∧ MyD B D w' a' (n + m) c' (L ++ M) ∧ Below B w w' ∧
      ∀ {B' : Nat} {u : Value} {q : Nat} {xs : List Value}, w.ownsRow B' 21 1 u q xs → w'.ownsRow B' 21 1 u q xs := by
  obtain ⟨vs, h1, h2, h3⟩ := h
  obtain ⟨us, k1, k2, k3⟩ := k
  obtain ⟨i0, hi0, hz0, hz1, hz2⟩ := info_parts infoS
  have hul : us.length = m * 1 := k1.1
  obtain ⟨v', w', hrun, hown, hfr, hnear⟩ := run_append_own_k (P := Try.prog) w B 22 35 i0 _ 1 24 Try.underlying22 hi0 hz0 hz1 hz2 rfl (by decide) (.slice a n c) n vs h1 b m d us hul
    (fun hp => (Rc.own k1).src hp) (fun u hu => by
      obtain ⟨i, hi, e⟩ := List.getElem_of_mem hu
      have hiM : i < M.length := by omega
      obtain ⟨v, e1, e2, _⟩ := k3 i _ (List.getElem?_eq_getElem hiM)
      rw [List.getElem?_eq_getElem hi, e] at e1
      cases e1
      obtain ⟨_, _, rfl⟩ := own_slice e2
      rfl) (by unfold maxLen; omega) (by omega) hB
  obtain ⟨a', c', rfl⟩ := own_slice hown
  have far : ∀ {B' : Nat} {u : Value} {q : Nat} {xs : List Value}, w.ownsRow B' 21 1 u q xs → w'.ownsRow B' 21 1 u q xs := fun ho => own_fr ho hfr (fun x e hx => rows_apart ho h1 (by decide) e hx)
  refine ⟨a', c', w', hrun, ⟨vs ++ us, hown, by simp [h2, k2], fun i x hx => ?_⟩, hfr.below hB (fun x e => (h1.lt x e.symm).1), far⟩
  by_cases hi : i < L.length
  · rw [List.getElem?_append_left hi] at hx
    obtain ⟨v, e1, e2, e3⟩ := h3 i x hx
    exact ⟨v, by rw [List.getElem?_append_left (by omega)]; exact e1, far e2, e3⟩
  · rw [List.getElem?_append_right (by omega)] at hx
    obtain ⟨v, e1, e2, e3⟩ := k3 _ x hx
    exact ⟨v, by rw [List.getElem?_append_right (by omega), h2]; exact e1, far e2, e3⟩
/-- the one row beside them grows -/
theorem myd_more (w : World) (B : Nat) (a : Option Addr) (n c : Nat) (L : List (List Int)) (oa : Option Addr) (N oc : Nat) (xs : List Int) (h : MyD B (Value.slice oa N oc).ownBlock w a n c L) (ho : w.ownsRow B 21 1 (.slice oa N oc) N (ints xs)) (b : Option Addr) (m d : Nat) (ys : List Int) (hr : Rd .i32 w b m d ys) (hB : B ≤ w.heap.size) (hn : N + m ≤ 17592186044416) :
    ∃ a' c' w', (∀ ty, (Builtin.append_ #[35, 35] ty #[.slice oa N oc, .slice b m d]).run Try.prog w = .ok (.slice a' (N + m) c') w') ∧ MyD B (Value.slice a' (N + m) c').ownBlock w' a n c L ∧ w'.ownsRow B 21 1 (.slice a' (N + m) c') (N + m) (ints (xs ++ ys)) ∧ Below B w w' := by
  obtain ⟨vs, h1, h2, h3⟩ := h
  obtain ⟨i0, hi0, hz0, hz1, hz2⟩ := info_parts infoI
  obtain ⟨v', w', hrun, hown, hfr, hnear⟩ := run_append_own_k (P := Try.prog) w B 35 21 i0 _ 1 4 Try.underlying35 hi0 hz0 hz1 hz2 rfl (by decide) (.slice oa N oc) N _ ho b m d (ints ys) (by simpa [ints] using hr.1) (fun hp => Rd_cells hr hp) (ints1 _ _) (by unfold maxLen; omega) (by omega) hB
  obtain ⟨a', c', rfl⟩ := own_slice hown
  refine ⟨a', c', w', hrun, ⟨vs, own_fr h1 hfr (fun x e hx => rows_apart ho h1 (by decide) hx.symm e.symm), h2, fun i x hx => ?_⟩, ?_, hfr.below hB (fun x e => (ho.lt x e.symm).1)⟩
  · obtain ⟨v, e1, e2, e3⟩ := h3 i x hx
    refine ⟨v, e1, own_fr e2 hfr (fun g e hx => e3 g e hx.symm), fun g e e' => ?_⟩
    rcases hnear with q | q
    · rw [q] at e'; exact e3 g e e'
    · rw [q] at e'
      have := (e2.lt g e).2
      simp at e'
      omega
  · unfold ints at hown ⊢
    rw [List.map_append]
    exact hown
end Go.Proofs.Ytfldjoiohejilaa.U
