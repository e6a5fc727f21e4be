/-
  The document's brackets, over its pair. (MADE by wip/tools/gen_bbrs.py.)
-/
import Derived.Test.YthlhgkeodaifcaaDoorBPair
namespace Go.Proofs.YthlhgkeodaifcaaDoor.U
open Go.RowKit
set_option linter.unusedVariables false
set_option linter.unusedSimpArgs false
set_option maxRecDepth 100000

/-- what lies in the boxes of brackets: two places (S, S + 1), two results -/
def BrS (w : World) (S : Nat) (x1 x2 y1 y2 : Int) (W : World) : Prop := Below w.heap.size w W ∧ W.heap[S]? = some (.cells #[.int .i64 x1, .int .i64 x2] 24 (0, 0)) ∧ W.heap[S + 1]? = some (.cells #[.int .i64 y1, .int .i64 y2] 24 (0, 0)) ∧ W.heap[w.heap.size + 1]? = some (.cells #[.int .i64 0, .int .i64 0] 24 (0, 0)) ∧ W.heap[w.heap.size + 1 + 1]? = some (.cells #[.int .i64 0, .int .i64 0] 24 (0, 0)) ∧ w.heap.size + 1 + 1 < S
theorem BrS.below {w W W2 : World} {S : Nat} {x1 x2 y1 y2 : Int} (h : BrS w S x1 x2 y1 y2 W) (hb : Below W.heap.size W W2) : BrS w S x1 x2 y1 y2 W2 := by
  obtain ⟨h1, h2, h3, h4, h5, h6⟩ := h
  exact ⟨btr h1 hb, (hb.block _ (Array.getElem?_eq_some_iff.1 h2).1).trans h2, (hb.block _ (Array.getElem?_eq_some_iff.1 h3).1).trans h3, (hb.block _ (Array.getElem?_eq_some_iff.1 h4).1).trans h4, (hb.block _ (Array.getElem?_eq_some_iff.1 h5).1).trans h5, h6⟩
theorem BrS.setA {w W : World} {S : Nat} {x1 x2 y1 y2 : Int} (h : BrS w S x1 x2 y1 y2 W) (v : Int) : BrS w S x1 v y1 y2 (W.setCell ⟨S, 1, none⟩ (.int .i64 v)) := by
  obtain ⟨h1, h2, h3, h4, h5, h6⟩ := h
  have k1 : ¬ S + 1 = S := by omega
  have k2 : ¬ w.heap.size + 1 = S := by omega
  have k3 : ¬ w.heap.size + 1 + 1 = S := by omega
  exact ⟨setCell_below h1 _ _ _ (by omega), heap_set h2 1 _, (Below.heap_setCell _ _ _ _ k1).trans h3, (Below.heap_setCell _ _ _ _ k2).trans h4, (Below.heap_setCell _ _ _ _ k3).trans h5, h6⟩
theorem BrS.setA0 {w W : World} {S : Nat} {x1 x2 y1 y2 : Int} (h : BrS w S x1 x2 y1 y2 W) (v : Int) : BrS w S v x2 y1 y2 (W.setCell ⟨S, 0, none⟩ (.int .i64 v)) := by
  obtain ⟨h1, h2, h3, h4, h5, h6⟩ := h
  have k1 : ¬ S + 1 = S := by omega
  have k2 : ¬ w.heap.size + 1 = S := by omega
  have k3 : ¬ w.heap.size + 1 + 1 = S := by omega
  exact ⟨setCell_below h1 _ _ _ (by omega), heap_set h2 0 _, (Below.heap_setCell _ _ _ _ k1).trans h3, (Below.heap_setCell _ _ _ _ k2).trans h4, (Below.heap_setCell _ _ _ _ k3).trans h5, h6⟩
theorem BrS.setB {w W : World} {S : Nat} {x1 x2 y1 y2 : Int} (h : BrS w S x1 x2 y1 y2 W) (v : Int) : BrS w S x1 x2 y1 v (W.setCell ⟨S + 1, 1, none⟩ (.int .i64 v)) := by
  obtain ⟨h1, h2, h3, h4, h5, h6⟩ := h
  have k1 : ¬ S = S + 1 := by omega
  have k2 : ¬ w.heap.size + 1 = S + 1 := by omega
  have k3 : ¬ w.heap.size + 1 + 1 = S + 1 := by omega
  exact ⟨setCell_below h1 _ _ _ (by omega), (Below.heap_setCell _ _ _ _ k1).trans h2, heap_set h3 1 _, (Below.heap_setCell _ _ _ _ k2).trans h4, (Below.heap_setCell _ _ _ _ k3).trans h5, h6⟩
theorem BrS.setB0 {w W : World} {S : Nat} {x1 x2 y1 y2 : Int} (h : BrS w S x1 x2 y1 y2 W) (v : Int) : BrS w S x1 x2 v y2 (W.setCell ⟨S + 1, 0, none⟩ (.int .i64 v)) := by
  obtain ⟨h1, h2, h3, h4, h5, h6⟩ := h
  have k1 : ¬ S = S + 1 := by omega
  have k2 : ¬ w.heap.size + 1 = S + 1 := by omega
  have k3 : ¬ w.heap.size + 1 + 1 = S + 1 := by omega
  exact ⟨setCell_below h1 _ _ _ (by omega), (Below.heap_setCell _ _ _ _ k1).trans h2, heap_set h3 0 _, (Below.heap_setCell _ _ _ _ k2).trans h4, (Below.heap_setCell _ _ _ _ k3).trans h5, h6⟩
theorem BrS.pa {w W : World} {S : Nat} {x1 x2 y1 y2 : Int} (h : BrS w S x1 x2 y1 y2 W) : W.cell? ⟨S, 0, none⟩ = some (.int .i64 x1) ∧ W.cell? ⟨S, 1, none⟩ = some (.int .i64 x2) ∧ W.frozen? ⟨S, 0, none⟩ = false ∧ W.frozen? ⟨S, 1, none⟩ = false := row2 h.2.1
theorem BrS.pb {w W : World} {S : Nat} {x1 x2 y1 y2 : Int} (h : BrS w S x1 x2 y1 y2 W) : W.cell? ⟨S + 1, 0, none⟩ = some (.int .i64 y1) ∧ W.cell? ⟨S + 1, 1, none⟩ = some (.int .i64 y2) ∧ W.frozen? ⟨S + 1, 0, none⟩ = false ∧ W.frozen? ⟨S + 1, 1, none⟩ = false := row2 h.2.2.1
theorem BrS.r1 {w W : World} {S : Nat} {x1 x2 y1 y2 : Int} (h : BrS w S x1 x2 y1 y2 W) : W.cell? ⟨w.heap.size + 1, 0, none⟩ = some (.int .i64 0) ∧ W.cell? ⟨w.heap.size + 1, 1, none⟩ = some (.int .i64 0) ∧ W.frozen? ⟨w.heap.size + 1, 0, none⟩ = false ∧ W.frozen? ⟨w.heap.size + 1, 1, none⟩ = false := row2 h.2.2.2.1
theorem BrS.r2 {w W : World} {S : Nat} {x1 x2 y1 y2 : Int} (h : BrS w S x1 x2 y1 y2 W) : W.cell? ⟨w.heap.size + 1 + 1, 0, none⟩ = some (.int .i64 0) ∧ W.cell? ⟨w.heap.size + 1 + 1, 1, none⟩ = some (.int .i64 0) ∧ W.frozen? ⟨w.heap.size + 1 + 1, 0, none⟩ = false ∧ W.frozen? ⟨w.heap.size + 1 + 1, 1, none⟩ = false := row2 h.2.2.2.2.1
theorem brackets_in {L : List (List Int)} {p a b : Pl} {o c : Int} (h : pairP L p o c = some (a, b)) : bracketsP L p o c false =
    if b.2 = 0 ∧ b.1 = 0 then none
    else if (if a.2 + 1 = (lnL L a.1).length then ((a.1 + 1, 0) : Pl) else (a.1, a.2 + 1)).1 ≥ L.length ∨ aheadP (if b.2 = 0 then ((b.1 - 1, (lnL L (b.1 - 1)).length - 1) : Pl) else (b.1, b.2 - 1)) (if a.2 + 1 = (lnL L a.1).length then ((a.1 + 1, 0) : Pl) else (a.1, a.2 + 1)) = true then none
    else some (if a.2 + 1 = (lnL L a.1).length then ((a.1 + 1, 0) : Pl) else (a.1, a.2 + 1), if b.2 = 0 then ((b.1 - 1, (lnL L (b.1 - 1)).length - 1) : Pl) else (b.1, b.2 - 1)) := by
  unfold bracketsP
  rw [h]
  rfl
theorem brackets_no {L : List (List Int)} {p : Pl} {o c : Int} {around : Bool} (h : pairP L p o c = none) : bracketsP L p o c around = none := by
  unfold bracketsP
  rw [h]
def brsV (r : Option (Pl × Pl)) : Value := .tuple #[plV (r.getD ((0, 0), (0, 0))).1, plV (r.getD ((0, 0), (0, 0))).2, .bool r.isSome]
set_option maxHeartbeats 8000000 in
theorem rbrackets_early (F : Nat → Prop) (a : Option Addr) (n c : Nat) (L : List (List Int)) (p1 p2 : Nat) (o1 o2 : Int) (around : Bool) (w : World) (h : RdL F w a n c L) (hoo : o1 ≠ o2) (hz : sizeN (lens L) ≤ 262144) (he : (pairP L (p1, p2) o1 o2).isSome = false ∨ around = true) :
    Calls Tryd.prog 23 #[.slice a n c, .agg #[.int .i64 (p1 : Nat), .int .i64 (p2 : Nat)], .int .i32 o1, .int .i32 o2, .bool around] w fun e w' => e = .returned (brsV (bracketsP L (p1, p2) o1 o2 around)) ∧ Below w.heap.size w w' := by
  have hl := h.len
  have hsm := h.small
  obtain ⟨w0, hw0, hsz0, g1, g2, hb0⟩ := ltwo w (.cells #[.int .i64 (p1 : Nat), .int .i64 (p2 : Nat)] 24) (.cells #[.int .i64 0, .int .i64 0] 24)
  obtain ⟨w1, hw1, hsz1, g3, hb1'⟩ := lone w0 (.cells #[.int .i64 0, .int .i64 0] 24)
  rw [hsz0] at g3
  replace g1 := (hb1'.block _ (Array.getElem?_eq_some_iff.1 g1).1).trans g1
  replace g2 := (hb1'.block _ (Array.getElem?_eq_some_iff.1 g2).1).trans g2
  have hb1 : Below w.heap.size w w1 := btr hb0 hb1'
  obtain ⟨r, hr⟩ : ∃ r, pairP L (p1, p2) o1 o2 = r := ⟨_, rfl⟩
  have HPA := Lib.hid (rpair_any F a n c L p1 p2 o1 o2 w1 (h.below hb1) hoo hz)
  rw [hr] at HPA
  have HW1 : Hid (((w.alloc (.cells #[.int .i64 (p1 : Nat), .int .i64 (p2 : Nat)] 24)).alloc (.cells #[.int .i64 0, .int .i64 0] 24)).alloc (.cells #[.int .i64 0, .int .i64 0] 24) = w1) := by show _ = _; rw [hw0, hw1]
  have HB1 := Lib.hid hb1
  have G2 := Lib.hid g2
  have G3 : Hid (w1.heap[w.heap.size + 1 + 1]? = some (.cells #[.int .i64 0, .int .i64 0] 24 (0, 0))) := g3
  obtain ⟨x0, x1, -, -⟩ := row2 g1
  obtain ⟨br, hbr⟩ : ∃ y, bracketsP L (p1, p2) o1 o2 around = y := ⟨_, rfl⟩
  rw [hbr]
  obtain ⟨⟨⟨a1, a2⟩, ⟨b1, b2⟩⟩, hab⟩ : ∃ y, r.getD ((0, 0), (0, 0)) = y := ⟨_, rfl⟩
  obtain ⟨ok, hok⟩ : ∃ y, r.isSome = y := ⟨_, rfl⟩
  rw [hab, hok] at HPA
  unfold plV at HPA
  simp only at HPA
  have HBST : Hid (∀ (w3 w4 : World), Below w1.heap.size w1 w3 → Below w3.heap.size w3 w4 → w4.heap[w3.heap.size]? = some (.cells #[.int .i64 (a1 : Nat), .int .i64 (a2 : Nat)] 24 (0, 0)) → w4.heap[w3.heap.size + 1]? = some (.cells #[.int .i64 (b1 : Nat), .int .i64 (b2 : Nat)] 24 (0, 0)) → BrS w w3.heap.size (a1 : Nat) (a2 : Nat) (b1 : Nat) (b2 : Nat) w4) := by
    intro w3 w4 h3 h4 h5 h6
    have hlt := (Array.getElem?_eq_some_iff.1 G3.out).1
    have h34 := btr h3 h4
    exact ⟨btr HB1.out h34, h5, h6, (h34.block _ (Array.getElem?_eq_some_iff.1 G2.out).1).trans G2.out, (h34.block _ hlt).trans G3.out, by have := h3.size; omega⟩
  have hearly : ok = false ∨ around = true := by rw [← hok, ← hr]; exact he
  · have HRS : Hid (brsV br = .tuple #[.agg #[.int .i64 (a1 : Nat), .int .i64 (a2 : Nat)], .agg #[.int .i64 (b1 : Nat), .int .i64 (b2 : Nat)], .bool ok]) := by
      show _ = _
      have e : br = r := by
        rw [← hbr, ← hr]
        rcases hearly with h5 | h5
        · have : r = none := by rw [← hok] at h5; simpa using h5
          rw [hr, this, brackets_no (by rw [hr, this])]
        · rw [h5, brackets_around]
      rw [e]
      unfold brsV plV
      rw [hab, hok]
    clear h g1 g2 g3 hb0 hb1 hb1' hw0 hw1 hr hbr hab hok hl hoo hz hsz0 hsz1 he
    go_enter Tryd.func23, Tryd.ntmps23
    go_upto_region 1 with fail
    rw [HW1.out]
    go_upto_region 2 with (go_at_call 34; refine HPA.out.mono ?_; rintro e w3 ⟨rfl, hb3⟩)
    obtain ⟨w4, hw4, hsz4, g5, g6, hb4⟩ := ltwo w3 (.cells #[.int .i64 (a1 : Nat), .int .i64 (a2 : Nat)] 24) (.cells #[.int .i64 (b1 : Nat), .int .i64 (b2 : Nat)] 24)
    rw [hw4]
    have HA4 := Lib.hid (HBST.out w3 w4 hb3 hb4 g5 g6)
    obtain ⟨S, hS⟩ : ∃ S, w3.heap.size = S := ⟨_, rfl⟩
    rw [hS] at HA4
    rw [hS]
    obtain ⟨s0, s1, -, -⟩ := HA4.out.pa
    obtain ⟨t0, t1, -, -⟩ := HA4.out.pb
    obtain ⟨y0, y1, yf0, yf1⟩ := HA4.out.r1
    obtain ⟨z0, z1, zf0, zf1⟩ := HA4.out.r2
    have hS6 := HA4.out.2.2.2.2.2
    have n1 : ¬ S = w.heap.size + 1 := by omega
    have n2 : ¬ S = w.heap.size + 1 + 1 := by omega
    have n3 : ¬ S + 1 = w.heap.size + 1 := by omega
    have n4 : ¬ S + 1 = w.heap.size + 1 + 1 := by omega
    clear hw4 hsz4 g5 g6 hb4 hb3 hS hS6
    rcases hearly with rfl | rfl
    · go_wp2_with fail
      go_region
      all_goals
        go_wp2_with fail
        refine bodyPost_ret (v := .tuple #[.agg #[.int .i64 (a1 : Nat), .int .i64 (a2 : Nat)], .agg #[.int .i64 (b1 : Nat), .int .i64 (b2 : Nat)], .bool false]) ?_ rfl ⟨by rw [HRS.out], ?_⟩
        · rw [results_cct rfl]
          go_simp
        · have h2 := HA4.out.1
          (repeat' (first | exact h2 | omega | with_reducible refine Below.drew ?_ | with_reducible refine setCell_below ?_ _ _ _ ?_))
    · cases ok with
      | true =>
        go_wp2_with fail
        go_region
        all_goals
          go_wp2_with fail
          refine bodyPost_ret (v := .tuple #[.agg #[.int .i64 (a1 : Nat), .int .i64 (a2 : Nat)], .agg #[.int .i64 (b1 : Nat), .int .i64 (b2 : Nat)], .bool true]) ?_ rfl ⟨by rw [HRS.out], ?_⟩
          · rw [results_cct rfl]
            go_simp
          · have h2 := HA4.out.1
            (repeat' (first | exact h2 | omega | with_reducible refine Below.drew ?_ | with_reducible refine setCell_below ?_ _ _ _ ?_))
      | false =>
        go_wp2_with fail
        go_region
        all_goals
          go_wp2_with fail
          refine bodyPost_ret (v := .tuple #[.agg #[.int .i64 (a1 : Nat), .int .i64 (a2 : Nat)], .agg #[.int .i64 (b1 : Nat), .int .i64 (b2 : Nat)], .bool false]) ?_ rfl ⟨by rw [HRS.out], ?_⟩
          · rw [results_cct rfl]
            go_simp
          · have h2 := HA4.out.1
            (repeat' (first | exact h2 | omega | with_reducible refine Below.drew ?_ | with_reducible refine setCell_below ?_ _ _ _ ?_))
end Go.Proofs.YthlhgkeodaifcaaDoor.U
