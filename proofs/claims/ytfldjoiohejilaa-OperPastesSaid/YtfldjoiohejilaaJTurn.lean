/-
  Lines whose letters are turned, one rune behind the other. Plain mathematics.
  A rune written over in one of one's own lines: what lies in them behind it.
  The document's Turn of a region that is there.
-/
import Derived.Test.YtfldjoiohejilaaJPure
import Derived.Test.YtfldjoiohejilaaJTake
namespace Go.Proofs.Ytfldjoiohejilaa.U
open Go.RowKit
set_option linter.unusedVariables false
set_option linter.unusedSimpArgs false
set_option maxRecDepth 100000

/-- lines of which those ahead of line i are turned, and j runes of line i -/
def turnT (L : List (List Int)) (k : Int) (p q : Pl) (how : Int) (i j : Nat) : List (List Int) := (turnL L k p q how i).set i (turnX k p q how i (lnL L i) j)
theorem turnX_zero (k : Int) (p q : Pl) (how : Int) (i : Nat) (x : List Int) : turnX k p q how i x 0 = x := by simp [turnX]
theorem turnX_len (k : Int) (p q : Pl) (how : Int) (i : Nat) (x : List Int) (j : Nat) : (turnX k p q how i x j).length = x.length := by
  unfold turnX
  simp
  omega
theorem turnX_at {k : Int} {p q : Pl} {how : Int} {i : Nat} {x : List Int} {j : Nat} {z : Int} (h : x[j]? = some z) : (turnX k p q how i x j).getD j 0 = z := by
  obtain ⟨hj, e⟩ := List.getElem?_eq_some_iff.1 h
  unfold turnX
  rw [List.getD_eq_getElem?_getD, List.getElem?_append_right (by simp; omega)]
  simp only [List.length_mapIdx, List.length_take, Nat.min_eq_left (Nat.le_of_lt hj), Nat.sub_self, List.getElem?_drop, Nat.add_zero, h]
  rfl
theorem turnX_step {k : Int} {p q : Pl} {how : Int} {i : Nat} {x : List Int} {j : Nat} {z : Int} (h : x[j]? = some z) : (turnX k p q how i x j).set j (if regHas k p q (i, j) then turnC13 how z else z) = turnX k p q how i x (j + 1) := by
  obtain ⟨hj, e⟩ := List.getElem?_eq_some_iff.1 h
  unfold turnX
  have hl : ((x.take j).mapIdx fun c r => if regHas k p q (i, c) = true then turnC13 how r else r).length = j := by simp; omega
  rw [List.set_append_right _ _ (by rw [hl]; exact Nat.le_refl _), hl, Nat.sub_self, List.take_succ_eq_append_getElem hj, List.mapIdx_append, List.append_assoc]
  congr 1
  rw [List.drop_eq_getElem_cons hj]
  simp [e, Nat.min_eq_left (Nat.le_of_lt hj)]
theorem turnX_keep {k : Int} {p q : Pl} {how : Int} {i : Nat} {x : List Int} {j : Nat} {z : Int} (h : x[j]? = some z) (hr : regHas k p q (i, j) = false) : turnX k p q how i x (j + 1) = turnX k p q how i x j := by
  have h1 := turnX_step (k := k) (p := p) (q := q) (how := how) (i := i) h
  rw [hr] at h1
  simp only [Bool.false_eq_true, if_false] at h1
  rw [← h1]
  have h2 : (turnX k p q how i x j)[j]? = some z := by
    obtain ⟨hj, e⟩ := List.getElem?_eq_some_iff.1 h
    have h3 := turnX_at (k := k) (p := p) (q := q) (how := how) (i := i) h
    rw [List.getD_eq_getElem?_getD, List.getElem?_eq_getElem (by rw [turnX_len]; exact hj)] at h3
    rw [List.getElem?_eq_getElem (by rw [turnX_len]; exact hj)]
    simpa using h3
  apply List.ext_getElem?
  intro m
  by_cases hm : m = j
  · subst hm
    rw [h2, List.getElem?_set_self (by have := (List.getElem?_eq_some_iff.1 h2).1; exact this)]
  · rw [List.getElem?_set_ne (fun e => hm e.symm)]
end Go.Proofs.Ytfldjoiohejilaa.U

namespace Go.Proofs.Ytfldjoiohejilaa.U
open Go.RowKit
set_option linter.unusedVariables false
set_option linter.unusedSimpArgs false
set_option maxRecDepth 100000

theorem own_set {w : World} {B g n c s i : Nat} {e : TypeId} {xs : List Value} (h : w.ownsRow B e s (.slice (some ⟨g, 0, none⟩) n c) n xs) (hi : i < n * s) (v : Value) : (w.setCell ⟨g, i, none⟩ v).ownsRow B e s (.slice (some ⟨g, 0, none⟩) n c) n (xs.set i v) := by
  obtain ⟨h1, h2⟩ := h
  refine ⟨by simp [h1], ?_⟩
  rcases h2 with ⟨e0, _⟩ | ⟨g', cap, cur, ev, hB, hg, hn, hc, hs, ht⟩
  · cases e0
  · injection ev with ev1 ev2 ev3
    injection ev1 with ev1
    injection ev1 with ev1
    subst ev1 ev3
    refine .inr ⟨g, c, _, rfl, hB, heap_set hg i v, hn, hc, by simpa using hs, ?_⟩
    rw [Array.toList_setIfInBounds, List.take_set, ht]
theorem fresh_set {B : Nat} {w : World} {a : Option Addr} {n c : Nat} {L : List (List Int)} {i j : Nat} {x : List Int} (h : FreshL B w a n c L) (hB : B ≤ w.heap.size) (hx : L[i]? = some x) (hj : j < x.length) :
    ∃ g gr rc, a = some ⟨g, 0, none⟩ ∧ g < w.heap.size ∧ w.cell? ⟨g, i, none⟩ = some (.slice (some ⟨gr, 0, none⟩) x.length rc) ∧ B ≤ gr ∧ gr < w.heap.size ∧ gr ≠ g ∧ w.cell? ⟨gr, j, none⟩ = some (.int .i32 (x.getD j 0)) ∧ w.frozen? ⟨gr, j, none⟩ = false ∧
      ∀ z : Int, FreshL B (w.setCell ⟨gr, j, none⟩ (.int .i32 z)) a n c (L.set i (x.set j z)) ∧ Below B w (w.setCell ⟨gr, j, none⟩ (.int .i32 z)) := by
  obtain ⟨vs, h1, h2, h3, h4⟩ := h
  obtain ⟨v, e1, e2⟩ := h3 i x hx
  obtain ⟨ra, rc, rfl⟩ := own_slice e2
  obtain ⟨gr, rfl⟩ := own_some e2 (by omega)
  have hiL : i < L.length := (List.getElem?_eq_some_iff.1 hx).1
  have hn : 0 < n := by have := h1.1; omega
  obtain ⟨g, rfl⟩ := own_some h1 hn
  have hl1 := h1.lt g rfl
  have hl2 := e2.lt gr rfl
  obtain ⟨cur, hg⟩ := own_heap e2 (k := gr) rfl
  have hne : gr ≠ g := by
    intro e
    exact rows_apart e2 h1 (by decide) (k := gr) rfl (by rw [e]; rfl)
  have hcg : w.cell? ⟨g, i, none⟩ = some (.slice (some ⟨gr, 0, none⟩) x.length rc) := by
    have := (Rc.own h1).src hn
    obtain ⟨ad, ha, hc⟩ := this
    cases ha
    have := hc i _ e1
    rwa [add_lit, Nat.zero_add] at this
  have hcr : w.cell? ⟨gr, j, none⟩ = some (.int .i32 (x.getD j 0)) := by
    have := (Rc.own e2).src (by omega)
    obtain ⟨ad, ha, hc⟩ := this
    cases ha
    have := hc j (.int .i32 (x.getD j 0)) (by unfold ints; rw [List.getElem?_map, List.getD_eq_getElem?_getD, List.getElem?_eq_getElem hj]; rfl)
    rwa [add_lit, Nat.zero_add] at this
  refine ⟨g, gr, rc, rfl, hl1.2, hcg, hl2.1, hl2.2, hne, hcr, frozen_row hg j, fun z => ⟨?_, setCell_below (Below.refl _ _) _ _ _ hl2.1⟩⟩
  have hfr : Fr (fun k => k = gr) w (w.setCell ⟨gr, j, none⟩ (.int .i32 z)) := (Fr.refl (fun k => k = gr) w).setCell ⟨gr, j, none⟩ _ (fun _ => rfl)
  refine ⟨vs, own_fr h1 hfr (fun k e hk => by cases e; exact hne hk.symm), by simpa using h2, fun i' x' hx' => ?_, h4⟩
  by_cases hi : i' = i
  · subst hi
    rw [List.getElem?_set_self hiL] at hx'
    cases hx'
    refine ⟨_, e1, ?_⟩
    have hs := own_set e2 (i := j) (by omega) (.int .i32 z)
    have he : (ints x).set j (.int .i32 z) = ints (x.set j z) := by unfold ints; rw [List.map_set]
    rw [he] at hs
    simpa using hs
  · rw [List.getElem?_set_ne (fun e => hi e.symm)] at hx'
    obtain ⟨v', q1, q2⟩ := h3 i' x' hx'
    refine ⟨v', q1, own_fr q2 hfr (fun k e hk => ?_)⟩
    subst hk
    rcases Nat.lt_or_gt_of_ne hi with hlt | hlt
    · exact h4 i' i v' _ hlt q1 e1 k e rfl
    · exact h4 i i' _ v' hlt e1 q1 k rfl e
end Go.Proofs.Ytfldjoiohejilaa.U

namespace Go.Proofs.Ytfldjoiohejilaa.U
open Go.RowKit
set_option linter.unusedVariables false
set_option linter.unusedSimpArgs false
set_option maxRecDepth 100000

theorem turnL_set {L : List (List Int)} {k : Int} {p q : Pl} {how : Int} {i : Nat} (hi : i < L.length) (y : List Int) : (turnL L k p q how i).set i y = (L.take i).mapIdx (fun i x => turnX k p q how i x x.length) ++ y :: L.drop (i + 1) := by
  unfold turnL
  have hl : ((L.take i).mapIdx (fun i x => turnX k p q how i x x.length)).length = i := by simp; omega
  rw [List.set_append_right _ _ (by rw [hl]; exact Nat.le_refl _), hl, Nat.sub_self, List.drop_eq_getElem_cons hi]
  rfl
theorem turnT_zero {L : List (List Int)} {k : Int} {p q : Pl} {how : Int} {i : Nat} (hi : i < L.length) : turnT L k p q how i 0 = turnL L k p q how i := by
  unfold turnT
  rw [turnX_zero, turnL_set hi]
  unfold turnL lnL
  rw [List.drop_eq_getElem_cons hi, List.getD_eq_getElem?_getD, List.getElem?_eq_getElem hi]
  rfl
theorem turnT_end {L : List (List Int)} {k : Int} {p q : Pl} {how : Int} {i : Nat} (hi : i < L.length) : turnT L k p q how i (lnL L i).length = turnL L k p q how (i + 1) := by
  unfold turnT
  rw [turnL_set hi]
  unfold turnL
  rw [List.take_succ_eq_append_getElem hi, List.mapIdx_append, List.append_assoc]
  have hx : lnL L i = L[i] := by unfold lnL; rw [List.getD_eq_getElem?_getD, List.getElem?_eq_getElem hi]; rfl
  rw [hx]
  simp [Nat.min_eq_left (Nat.le_of_lt hi)]
theorem turnT_at {L : List (List Int)} {k : Int} {p q : Pl} {how : Int} {i j : Nat} (hi : i < L.length) : (turnT L k p q how i j)[i]? = some (turnX k p q how i (lnL L i) j) := by
  unfold turnT
  rw [List.getElem?_set_self (by unfold turnL; simp; omega)]
theorem turnT_set {L : List (List Int)} {k : Int} {p q : Pl} {how : Int} {i j : Nat} (y : List Int) : (turnT L k p q how i j).set i y = (turnL L k p q how i).set i y := by
  unfold turnT
  rw [List.set_set]
theorem fresh_cell {B : Nat} {w : World} {a : Option Addr} {n c : Nat} {L : List (List Int)} {i : Nat} {x : List Int} (h : FreshL B w a n c L) (hx : L[i]? = some x) : ∃ g ra rc, a = some ⟨g, 0, none⟩ ∧ g < w.heap.size ∧ w.cell? ⟨g, i, none⟩ = some (.slice ra x.length rc) := by
  obtain ⟨vs, h1, h2, h3, h4⟩ := h
  obtain ⟨v, e1, e2⟩ := h3 i x hx
  obtain ⟨ra, rc, rfl⟩ := own_slice e2
  have hiL : i < L.length := (List.getElem?_eq_some_iff.1 hx).1
  have hn : 0 < n := by have := h1.1; omega
  obtain ⟨g, rfl⟩ := own_some h1 hn
  obtain ⟨ad, ha, hc⟩ := (Rc.own h1).src hn
  cases ha
  have := hc i _ e1
  rw [add_lit, Nat.zero_add] at this
  exact ⟨g, ra, rc, rfl, (h1.lt g rfl).2, this⟩
/-- Turn, in the middle -/
structure TuS (w : World) (b : Nat) (p q : Pl) (k : Int) (M : List (List Int)) (ra : Option Addr) (n rc : Nat) (W : World) : Prop where
  rg : W.heap[b]? = some (.cells #[.int .i64 (p.1 : Nat), .int .i64 (p.2 : Nat), .int .i64 (q.1 : Nat), .int .i64 (q.2 : Nat), .int .i64 k] 26 (0, 0))
  fr : FreshL (b + 1) W ra n rc M
  hb : Below b w W
  l : b + 1 ≤ W.heap.size
theorem TuS.below {w : World} {b : Nat} {p q : Pl} {k : Int} {M : List (List Int)} {ra : Option Addr} {n rc : Nat} {W W' : World} (h : TuS w b p q k M ra n rc W) (hb : Below W.heap.size W W') : TuS w b p q k M ra n rc W' := by
  have := h.l
  have := hb.size
  exact ⟨(hb.block _ (by omega)).trans h.rg, h.fr.below hb, h.hb.trans (hb.mono (by omega)), by omega⟩
end Go.Proofs.Ytfldjoiohejilaa.U
