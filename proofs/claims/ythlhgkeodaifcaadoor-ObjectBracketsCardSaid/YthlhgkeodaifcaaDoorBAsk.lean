/-
  What an object is asked with, as the program has it; its leaf methods. (MADE by wip/tools/gen_bask.py.)
-/
import Derived.Test.YthlhgkeodaifcaaDoorBLines
import Derived.Test.YthlhgkeodaifcaaDoorBProg
import Derived.Test.YthlhgkeodaifcaaDoorOBrP
import Derived.BigQuiet
namespace Go.Proofs.YthlhgkeodaifcaaDoor.U
open Go.RowKit
set_option linter.unusedVariables false
set_option linter.unusedSimpArgs false
set_option maxRecDepth 100000

/-- lines, a cursor's place in them, whether what is around is asked for -/
abbrev askL (a : Option Addr) (n c l q : Nat) (ar : Bool) : Value := .agg #[.slice a n c, .int .i64 (l : Nat), .int .i64 (q : Nat), .bool ar]
abbrev askO (a : Option Addr) (n c l q : Nat) (ar : Bool) : Obj := .cells #[.slice a n c, .int .i64 (l : Nat), .int .i64 (q : Nat), .bool ar] 44 (0, 0)
theorem row4 {w : World} {b : Nat} {ty : TypeId} {v0 v1 v2 v3 : Value} (h : w.heap[b]? = some (.cells #[v0, v1, v2, v3] ty (0, 0))) :
    w.cell? ⟨b, 0, none⟩ = some v0 ∧ w.cell? ⟨b, 1, none⟩ = some v1 ∧ w.cell? ⟨b, 2, none⟩ = some v2 ∧ w.cell? ⟨b, 3, none⟩ = some v3 :=
  ⟨by rw [cell_row h]; rfl, by rw [cell_row h]; rfl, by rw [cell_row h]; rfl, by rw [cell_row h]; rfl⟩
theorem keepO {W W' : World} {B : Nat} {o : Obj} (h : W.heap[B]? = some o) (hb : Below W.heap.size W W') : W'.heap[B]? = some o := (hb.block _ (Array.getElem?_eq_some_iff.1 h).1).trans h
theorem one1 (w : World) (o1 : Obj) : ∃ w1, w.alloc o1 = w1 ∧ w1.heap.size = w.heap.size + 1 ∧ w1.heap[w.heap.size]? = some o1 ∧ Below w.heap.size w w1 := lone w o1
theorem two2 (w : World) (o1 o2 : Obj) : ∃ w1, (w.alloc o1).alloc o2 = w1 ∧ w1.heap.size = w.heap.size + 2 ∧ w1.heap[w.heap.size]? = some o1 ∧ w1.heap[w.heap.size + 1]? = some o2 ∧ Below w.heap.size w w1 := ltwo w o1 o2
theorem three3 (w : World) (o1 o2 o3 : Obj) : ∃ w1, ((w.alloc o1).alloc o2).alloc o3 = w1 ∧ w1.heap.size = w.heap.size + 3 ∧ w1.heap[w.heap.size]? = some o1 ∧ w1.heap[w.heap.size + 1]? = some o2 ∧ w1.heap[w.heap.size + 1 + 1]? = some o3 ∧ Below w.heap.size w w1 := by
  obtain ⟨w0, hw0, hs0, g1, g2, hb0⟩ := ltwo w o1 o2
  obtain ⟨w1, hw1, hs1, g3, hb1⟩ := lone w0 o3
  rw [hs0] at g3
  exact ⟨w1, by rw [hw0, hw1], by omega, keepO g1 hb1, keepO g2 hb1, g3, btr hb0 hb1⟩

theorem inline_any (a : Option Addr) (n c l q : Nat) (ar : Bool) (v : Int) (w : World) :
    Calls Tryd.prog 38 #[askL a n c l q ar, .int .i64 v] w fun e w' => e = .returned (.agg #[.int .i64 (l : Nat), .int .i64 v]) ∧ Below w.heap.size w w' := by
  obtain ⟨w1, hw1, hsz, g1, g2, hb1⟩ := two2 w (askO a n c l q ar) (.cells #[.int .i64 0, .int .i64 0] 24)
  obtain ⟨x0, x1, x2, x3⟩ := row4 g1
  obtain ⟨a0, a1, z0, z1⟩ := row2 g2
  have HW1 := Lib.hid hw1
  have HB1 := Lib.hid hb1
  clear g1 g2 hw1 hb1
  go_enter Tryd.func38, Tryd.ntmps38
  go_upto_region 1 with fail
  rw [HW1.out]
  go_wp2
  refine bodyPost_ret (v := .agg #[.int .i64 (l : Nat), .int .i64 v]) ?_ rfl ⟨rfl, ?_⟩
  · rw [results_cell1 rfl]
    go_simp
  · (repeat' (first | exact HB1.out | omega | refine setCell_below ?_ _ _ _ ?_))
/-- is a place behind another one? -/
theorem behind_b (p1 p2 q1 q2 : Nat) (w : World) :
    Calls Tryd.prog 48 #[.agg #[.int .i64 (p1 : Nat), .int .i64 (p2 : Nat)], .agg #[.int .i64 (q1 : Nat), .int .i64 (q2 : Nat)]] w fun e w' => e = .returned (.bool (aheadP (q1, q2) (p1, p2))) ∧ Below w.heap.size w w' := by
  obtain ⟨w1, hw1, hsz, g1, g2, hb1⟩ := two2 w (.cells #[.int .i64 (p1 : Nat), .int .i64 (p2 : Nat)] 24) (.cells #[.int .i64 (q1 : Nat), .int .i64 (q2 : Nat)] 24)
  obtain ⟨x0, x1, -, -⟩ := row2 g1
  obtain ⟨a0, a1, -, -⟩ := row2 g2
  obtain ⟨r, hr⟩ : ∃ r, aheadP (q1, q2) (p1, p2) = r := ⟨_, rfl⟩
  rw [hr]
  have HR : Hid (aheadP (q1, q2) (p1, p2) = r) := hr
  have HW1 := Lib.hid hw1
  have HB1 := Lib.hid hb1
  clear g1 g2 hw1 hb1 hr
  by_cases h1 : q1 < p1
  · have d1 : decide ((q1 : Int) < (p1 : Int)) = true := by simp; omega
    have d2 : decide (q1 < p1) = true := by simp; omega
    have HT : Hid (r = true) := by show _ = _; rw [← HR.out, aheadP_iff]; left; exact h1
    go_enter Tryd.func48, Tryd.ntmps48
    go_upto_region 1 with fail
    rw [HW1.out]
    go_wp2
    go_ret
    exact ⟨by rw [HT.out]; rfl, HB1.out⟩
  have d1 : decide ((q1 : Int) < (p1 : Int)) = false := by simp; omega
  have d2 : decide (q1 < p1) = false := by simp; omega
  by_cases h2 : p1 = q1
  · subst h2
    by_cases h3 : q2 < p2
    · have e1 : decide ((q2 : Int) < (p2 : Int)) = true := by simp; omega
      have e2 : decide (q2 < p2) = true := by simp; omega
      have HT : Hid (r = true) := by show _ = _; rw [← HR.out, aheadP_iff]; right; exact ⟨rfl, h3⟩
      clear h1
      go_enter Tryd.func48, Tryd.ntmps48
      go_upto_region 1 with fail
      rw [HW1.out]
      go_wp2
      go_ret
      exact ⟨by rw [HT.out]; rfl, HB1.out⟩
    · have e1 : decide ((q2 : Int) < (p2 : Int)) = false := by simp; omega
      have e2 : decide (q2 < p2) = false := by simp; omega
      have HT : Hid (r = false) := by show _ = _; rw [← HR.out, ← Bool.not_eq_true, aheadP_iff]; simp only; omega
      clear h1 h3
      go_enter Tryd.func48, Tryd.ntmps48
      go_upto_region 1 with fail
      rw [HW1.out]
      go_wp2
      go_ret
      exact ⟨by rw [HT.out]; rfl, HB1.out⟩
  · have e1 : ((p1 : Int) == (q1 : Int)) = false := by simp; omega
    have e2 : (p1 == q1) = false := by simp; omega
    have e3 : ¬ (p1 : Int) = (q1 : Int) := by omega
    have HT : Hid (r = false) := by show _ = _; rw [← HR.out, ← Bool.not_eq_true, aheadP_iff]; simp only; omega
    clear h1 h2
    go_enter Tryd.func48, Tryd.ntmps48
    go_upto_region 1 with fail
    rw [HW1.out]
    go_wp2
    go_ret
    exact ⟨by rw [HT.out]; rfl, HB1.out⟩
set_option maxHeartbeats 1000000 in
theorem entry_in (F : Nat → Prop) (a : Option Addr) (n c l q : Nat) (ar : Bool) (L : List (List Int)) (x : List Int) (i : Nat) (s : Int) (w : World) (h : RdL F w a n c L) (hx : L[i]? = some x) (hs : s < 0) (m : Nat) (hm : x.length = m) :
    Calls Tryd.prog 52 #[askL a n c l q ar, .int .i64 (i : Nat), .int .i64 s] w fun e w' => e = .returned (.agg #[.int .i64 (i : Nat), .int .i64 ((m : Int) - 1)]) ∧ Below w.heap.size w w' := by
  have hln : i < n := by rw [← h.len]; exact (List.getElem?_eq_some_iff.1 hx).1
  have hsm := h.small
  obtain ⟨b, off, ra, rc, rfl, hbl, -, e0, hrd, -, -⟩ := h.get (Below.refl _ w) hx
  have hms := hrd.small
  rw [hm] at e0 hms
  have s0 : ¬ (i : Int) < 0 := by omega
  have s1 : decide ((i : Int) < 0) = false := by simp
  have s2 : decide (s < 0) = true := by simp; omega
  have s3 : decide ((0 : Int) ≤ (i : Int)) = true := by simp
  have s4 : IntKind.i64.wrap ((m : Int) - 1) = (m : Int) - 1 := by rw [IntKind.wrap_i64]; omega
  obtain ⟨w1, hw1, hsz, g1, g2, hb1⟩ := two2 w (askO (some ⟨b, off, none⟩) n c l q ar) (.cells #[.int .i64 0, .int .i64 0] 24)
  have hszz := hsz
  have HW1 := Lib.hid hw1
  have HB1 := Lib.hid hb1
  have G1 := Lib.hid g1
  have G2 := Lib.hid g2
  clear hw1 hb1 g1 g2 hsz h hx hrd hm
  go_enter Tryd.func52, Tryd.ntmps52
  go_upto_region 1 with fail
  rw [HW1.out]
  go_upto_region 2 with fail
  obtain ⟨w3, hw3, hsz3, g3, hb3⟩ := one1 w1 (.cells #[.int .i64 (i : Nat), .int .i64 0] 24)
  rw [hw3]
  have hx2 : Below w.heap.size w w3 := btr HB1.out hb3
  obtain ⟨x0, x1, x2, x3⟩ := row4 ((hb3.block _ (Array.getElem?_eq_some_iff.1 G1.out).1).trans G1.out)
  obtain ⟨b0, b1, z0, z1⟩ := row2 ((hb3.block _ (Array.getElem?_eq_some_iff.1 G2.out).1).trans G2.out)
  rw [hszz] at g3
  obtain ⟨y0, y1, f0, f1⟩ := row2 g3
  have HX2 := Lib.hid hx2
  have e1 : w3.cell? ⟨b, off + i, none⟩ = some (.slice ra m rc) := (HX2.out.cell (p := ⟨b, off + i, none⟩) hbl).trans e0
  have nb : ¬ b = w.heap.size + 2 := by omega
  clear hw3 g3 hb3 hsz3 hx2
  go_wp2_with fail
  refine bodyPost_ret (v := .agg #[.int .i64 (i : Nat), .int .i64 ((m : Int) - 1)]) ?_ rfl ⟨rfl, ?_⟩
  · rw [results_cell1 rfl]
    go_simp
  · (repeat' (first | exact HX2.out | omega | refine setCell_below ?_ _ _ _ ?_))
set_option maxHeartbeats 1000000 in
theorem entry_low (a : Option Addr) (n c l q : Nat) (ar : Bool) (v s : Int) (w : World) (hs : s < 0) (hv : v < 0) :
    Calls Tryd.prog 52 #[askL a n c l q ar, .int .i64 v, .int .i64 s] w fun e w' => e = .returned (.agg #[.int .i64 v, .int .i64 (0)]) ∧ Below w.heap.size w w' := by
  have s2 : decide (s < 0) = true := by simp; omega
  have s3 : decide (0 ≤ v) = false := by simp; omega
  have s4 : ¬ 0 ≤ v := by omega
  obtain ⟨w1, hw1, hsz, g1, g2, hb1⟩ := two2 w (askO a n c l q ar) (.cells #[.int .i64 0, .int .i64 0] 24)
  have hszz := hsz
  have HW1 := Lib.hid hw1
  have HB1 := Lib.hid hb1
  have G1 := Lib.hid g1
  have G2 := Lib.hid g2
  clear hw1 hb1 g1 g2 hsz 
  go_enter Tryd.func52, Tryd.ntmps52
  go_upto_region 1 with fail
  rw [HW1.out]
  go_upto_region 2 with fail
  obtain ⟨w3, hw3, hsz3, g3, hb3⟩ := one1 w1 (.cells #[.int .i64 v, .int .i64 0] 24)
  rw [hw3]
  have hx2 : Below w.heap.size w w3 := btr HB1.out hb3
  obtain ⟨x0, x1, x2, x3⟩ := row4 ((hb3.block _ (Array.getElem?_eq_some_iff.1 G1.out).1).trans G1.out)
  obtain ⟨b0, b1, z0, z1⟩ := row2 ((hb3.block _ (Array.getElem?_eq_some_iff.1 G2.out).1).trans G2.out)
  rw [hszz] at g3
  obtain ⟨y0, y1, f0, f1⟩ := row2 g3
  have HX2 := Lib.hid hx2
  clear hw3 g3 hb3 hsz3 hx2
  go_wp2_with fail
  refine bodyPost_ret (v := .agg #[.int .i64 v, .int .i64 (0)]) ?_ rfl ⟨rfl, ?_⟩
  · rw [results_cell1 rfl]
    go_simp
  · (repeat' (first | exact HX2.out | omega | refine setCell_below ?_ _ _ _ ?_))
set_option maxHeartbeats 1000000 in
theorem entry_high (a : Option Addr) (n c l q : Nat) (ar : Bool) (v s : Int) (w : World) (hs : ¬ s < 0) :
    Calls Tryd.prog 52 #[askL a n c l q ar, .int .i64 v, .int .i64 s] w fun e w' => e = .returned (.agg #[.int .i64 v, .int .i64 (0)]) ∧ Below w.heap.size w w' := by
  have s2 : decide (s < 0) = false := by simp; omega
  obtain ⟨w1, hw1, hsz, g1, g2, hb1⟩ := two2 w (askO a n c l q ar) (.cells #[.int .i64 0, .int .i64 0] 24)
  have hszz := hsz
  have HW1 := Lib.hid hw1
  have HB1 := Lib.hid hb1
  have G1 := Lib.hid g1
  have G2 := Lib.hid g2
  clear hw1 hb1 g1 g2 hsz 
  go_enter Tryd.func52, Tryd.ntmps52
  go_upto_region 1 with fail
  rw [HW1.out]
  go_upto_region 2 with fail
  obtain ⟨w3, hw3, hsz3, g3, hb3⟩ := one1 w1 (.cells #[.int .i64 v, .int .i64 0] 24)
  rw [hw3]
  have hx2 : Below w.heap.size w w3 := btr HB1.out hb3
  obtain ⟨x0, x1, x2, x3⟩ := row4 ((hb3.block _ (Array.getElem?_eq_some_iff.1 G1.out).1).trans G1.out)
  obtain ⟨b0, b1, z0, z1⟩ := row2 ((hb3.block _ (Array.getElem?_eq_some_iff.1 G2.out).1).trans G2.out)
  rw [hszz] at g3
  obtain ⟨y0, y1, f0, f1⟩ := row2 g3
  have HX2 := Lib.hid hx2
  clear hw3 g3 hb3 hsz3 hx2
  go_wp2_with fail
  refine bodyPost_ret (v := .agg #[.int .i64 v, .int .i64 (0)]) ?_ rfl ⟨rfl, ?_⟩
  · rw [results_cell1 rfl]
    go_simp
  · (repeat' (first | exact HX2.out | omega | refine setCell_below ?_ _ _ _ ?_))
theorem entry_any (F : Nat → Prop) (a : Option Addr) (n c l q : Nat) (ar : Bool) (L : List (List Int)) (v s : Int) (w : World) (h : RdL F w a n c L) (hv : s < 0 → v < (n : Int)) :
    Calls Tryd.prog 52 #[askL a n c l q ar, .int .i64 v, .int .i64 s] w fun e w' => e = .returned (.agg #[.int .i64 v, .int .i64 (entC L s v)]) ∧ Below w.heap.size w w' := by
  by_cases hs : s < 0
  · by_cases h0 : v < 0
    · have : entC L s v = 0 := by unfold entC; rw [if_neg (by omega)]
      rw [this]
      exact entry_low a n c l q ar v s w hs h0
    · obtain ⟨i, rfl⟩ : ∃ i : Nat, v = (i : Int) := ⟨v.toNat, by omega⟩
      have hi : i < L.length := by rw [h.len]; have := hv hs; omega
      have : entC L s (i : Int) = ((lnL L i).length : Int) - 1 := by unfold entC; rw [if_pos (by omega), Int.toNat_natCast]
      rw [this]
      exact entry_in F a n c l q ar L (lnL L i) i s w h (by unfold lnL; rw [List.getD_eq_getElem?_getD, List.getElem?_eq_getElem hi]; rfl) hs _ rfl
  · have : entC L s v = 0 := by unfold entC; rw [if_neg (by omega)]
    rw [this]
    exact entry_high a n c l q ar v s w hs
end Go.Proofs.YthlhgkeodaifcaaDoor.U
